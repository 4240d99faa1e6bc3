import Derived.Test.YtbgaglcgennhiaaGreatDoorQ37
import Derived.Test.YtbgaglcgennhiaaGreatDoorQ39
set_option maxHeartbeats 2000000
namespace Go.Proofs.YtbgaglcgennhiaaGreatDoor
section
open Sy
theorem qC {s:List (List UInt8)} (h:Up Jd.lessL s):(Lib.compact s).Pairwise (fun x y=>Jd.lessL x y=true)/\∀ x,x∈Lib.compact s↔x∈s:=by
 have hle:∀ i j,i<=j->j<s.length->Jd.lessL s.toArray[j]! s.toArray[i]! = false:=fun i j hij hj=>by
  have hi:i<s.length:=by omega
  rw[getElem!_pos _ i (by simpa using hi),getElem!_pos _ j (by simpa using hj)];rcases Nat.lt_or_eq_of_le hij with h2|h2
  ·have:=List.pairwise_iff_getElem.1 h i j hi hj h2;simpa using this
  ·subst h2;exact lessL_weak.irr _
 constructor
 ·unfold Lib.compact Lib.compactUpTo;rw[List.pairwise_map];have hr:((List.range s.length).filter (Lib.keeps s.toArray)).Pairwise (fun i j=>i<j/\Lib.keeps s.toArray j=true/\j<s.length):=(by refine List.Pairwise.imp_of_mem (R:=fun i j=>i<j) (fun {i j} hi hj hlt=>?_) (List.Pairwise.filter _ List.pairwise_lt_range);obtain⟨k1,k2⟩:=List.mem_filter.1 hj;exact⟨hlt,k2,List.mem_range.1 k1⟩);refine hr.imp (fun {i j} hij=>?_);obtain⟨hlt,hk,hj⟩:=hij;rcases dJ s.toArray[i]! s.toArray[j]! with h2|h2|h2
  ·exact h2.1
  ·have:=hle i j (by omega) hj;rw[h2.2.1] at this;cases this
  ·exfalso;unfold Lib.keeps at hk;rcases of_decide_eq_true hk with k|k
   ·omega
   ·apply k;have a1:=hle i (j-1) (by omega) (by omega);have a2:=hle (j-1) j (by omega) hj;rw[h2.2.2] at a1;rcases dJ s.toArray[j]! s.toArray[j-1]! with g|g|g
    ·rw[g.1] at a2;cases a2
    ·rw[g.2.1] at a1;cases a1
    ·exact g.2.2
 ·intro x;unfold Lib.compact Lib.compactUpTo;rw[List.mem_map];constructor
  ·rintro ⟨i,hi,rfl⟩;have:=List.mem_range.1 (List.mem_filter.1 hi).1;rw[getElem!_pos _ i (by simpa using this)];simp
  ·intro hx;obtain⟨j,hj,rfl⟩:=List.getElem_of_mem hx;have key:∀ j,j<s.length->∃ k,k<s.length/\Lib.keeps s.toArray k=true/\s.toArray[k]! = s.toArray[j]!:=by
    intro j
    induction j with
    |zero=>exact fun hj=>⟨0,hj,bq (.inl rfl),rfl⟩
    | succ j ih=>
      intro hj;by_cases hk:Lib.keeps s.toArray (j+1)=true
      ·exact⟨j+1,hj,hk,rfl⟩
      ·obtain⟨k,k1,k2,k3⟩:=ih (by omega);refine⟨k,k1,k2,k3.trans ?_⟩;unfold Lib.keeps at hk;have h2:=of_decide_eq_false (Bool.eq_false_iff.2 hk);have h3:¬ s.toArray[j+1]!≠s.toArray[j+1-1]!:=(fun e=>h2 (.inr e));exact(Decidable.not_not.1 h3).symm
   obtain⟨k,k1,k2,k3⟩:=key j hj;refine⟨k,List.mem_filter.2 ⟨List.mem_range.2 k1,k2⟩,k3.trans ?_⟩;rw[getElem!_pos _ j (by simpa using hj)];simp
theorem iL {l:List (List UInt8)} (h:l.Pairwise (fun x y=>Jd.lessL x y=true)):l.Nodup:=h.imp fun {a b} hab e=>by subst e;rw[lessL_weak.irr] at hab;cases hab
theorem jK {a b:List (List UInt8)} (ha:a.Pairwise (fun x y=>Jd.lessL x y=true)) (hb:b.Pairwise (fun x y=>Jd.lessL x y=true)) (h:∀ x,x∈a↔x∈b):a=b:=List.Perm.eq_of_pairwise (fun x y _ _ h1 h2=>by rw[lessL_weak.asym h1] at h2;cases h2) ha hb ((List.perm_ext_iff_of_nodup (iL ha) (iL hb)).2 h)
theorem jQ (l:List (List UInt8)):∀ out:List (List UInt8),out.Nodup->(l.foldl (fun out x=>if x∈out then out else aT Jd.lessL x out) out).Nodup:=by
 induction l with
 |nil=>exact fun out h=>h
 | cons x l ih=>
   intro out h;rw[List.foldl_cons];refine ih _ ?_;by_cases hx:x∈out
   ·rw[if_pos hx];exact h
   ·rw[if_neg hx];exact(kT x out).symm.nodup (List.nodup_cons.2 ⟨hx,h⟩)
theorem fK (l:List (List UInt8)):(aD l).Pairwise (fun x y=>Jd.lessL x y=true):=by
 have h1:=nt l;have h2:(aD l).Nodup:=jQ l [] List.Pairwise.nil;refine(h1.and h2).imp fun {a b} hab=>?_
 rcases dJ a b with g|g|g
 ·exact g.1
 ·rw[g.2.1] at hab;exact absurd hab.1 (by decide)
 ·exact absurd g.2.2 hab.2
theorem xE (l:List (List UInt8)):Lib.compact (af Jd.lessL l)=aD l:=by obtain⟨h1,h2⟩:=qC (cm lessL_weak l);exact jK h1 (fK l) fun x=>by rw[h2,eZ];exact(bQ l).mem_iff
end
section
open Go.RowKit Tx Ct
theorem pR (s:List UInt8) (w:World) (hO:Okw w) (hs:s.length<=100000000):
 Calls Tryz.prog 66 #[.string (ae s)] w fun e w'=>e=.returned (.bool (jL s))/\Below w.heap.size w w':=by
 have HB:=aa (kF (ae s) w hO (by rw[bS];show s.length<=_;omega));unfold bY at HB;rw[show (ae s).data.toList=s from rfl] at HB;have hb:jL s=decide (Jd.domL s=(s,0)):=rfl;obtain⟨r,hr⟩:=ac (Jd.domL s);rw[hr] at HB hb;have en:=dE r.1 s;obtain⟨X,hX⟩:=ac (ae s);obtain⟨Y,hY⟩:=ac (⟨r.1.toArray⟩:ByteArray);rw[hX] at HB en ⊢;rw[hY] at HB;rw[show ae r.1=Y from hY] at en;clear hr hX hY hO;by_cases h0:r.2=0
 ·have hb2:Hid (jL s=decide (r.1=s)):=by
   unfold Hid;rw[hb];by_cases h1:r.1=s
   ·rw[bq h1,bq (by rw[<-h1,<-h0])]
   ·rw[bF h1,bF (fun e=>h1 (congrArg Prod.fst e))]
  rw[h0] at HB;obtain⟨c,hc⟩:=ac (decide (r.1=s));rw[hc] at en hb2;clear hb h0 hc;go_enter Tryz.func66,Tryz.ntmps66;(go_wp2_with fail);refine HB.out.mono ?_;rintro e w1 ⟨rfl,b1⟩;(go_wp2_with fail);go_ret;exact⟨by rw[hb2.out];rfl,b1⟩
 ·have hb2:Hid (jL s=false):=(by unfold Hid;rw[hb];exact bF (fun e=>h0 (congrArg Prod.snd e)));have hz:((r.2:Int)==0)=false:=(by simpa using h0);clear hb en;go_enter Tryz.func66,Tryz.ntmps66;(go_wp2_with fail);refine HB.out.mono ?_;rintro e w1 ⟨rfl,b1⟩;(go_wp2_with fail);go_ret;exact⟨by rw[hb2.out];rfl,b1⟩
theorem uG (s:List UInt8) (w:World) (hO:Okw w) (hs:s.length<=100000000):
 Calls Tryz.prog 84 #[.string (ae s)] w fun e w'=>e=.returned (.bool (bR s))/\Below w.heap.size w w':=by
 have HB:=aa (oo (ae s) w hO (by rw[bS];show s.length<=_;omega));unfold bY at HB;rw[show (ae s).data.toList=s from rfl] at HB;have hb:bR s=decide (Jd.bareL s=(s,0)):=rfl;obtain⟨r,hr⟩:=ac (Jd.bareL s);rw[hr] at HB hb;have en:=dE r.1 s;obtain⟨X,hX⟩:=ac (ae s);obtain⟨Y,hY⟩:=ac (⟨r.1.toArray⟩:ByteArray);rw[hX] at HB en ⊢;rw[hY] at HB;rw[show ae r.1=Y from hY] at en;clear hr hX hY hO;by_cases h0:r.2=0
 ·have hb2:Hid (bR s=decide (r.1=s)):=by
   unfold Hid;rw[hb];by_cases h1:r.1=s
   ·rw[bq h1,bq (by rw[<-h1,<-h0])]
   ·rw[bF h1,bF (fun e=>h1 (congrArg Prod.fst e))]
  rw[h0] at HB;obtain⟨c,hc⟩:=ac (decide (r.1=s));rw[hc] at en hb2;clear hb h0 hc;go_enter Tryz.func84,Tryz.ntmps84;(go_wp2_with fail);refine HB.out.mono ?_;rintro e w1 ⟨rfl,b1⟩;(go_wp2_with fail);go_ret;exact⟨by rw[hb2.out];rfl,b1⟩
 ·have hb2:Hid (bR s=false):=(by unfold Hid;rw[hb];exact bF (fun e=>h0 (congrArg Prod.snd e)));have hz:((r.2:Int)==0)=false:=(by simpa using h0);clear hb en;go_enter Tryz.func84,Tryz.ntmps84;(go_wp2_with fail);refine HB.out.mono ?_;rintro e w1 ⟨rfl,b1⟩;(go_wp2_with fail);go_ret;exact⟨by rw[hb2.out];rfl,b1⟩
theorem r6 (s:List UInt8) (w:World) (hT:Tabs w) (hs:s.length<=100000000):
 Calls Tryz.prog 122 #[.string (ae s)] w fun e w'=>e=.returned (.bool (dW s))/\Below w.heap.size w w':=by
 have HB:=aa (pk (ae s) w hT (by rw[bS];show s.length<=_;omega));rw[gr] at HB;unfold bY at HB;rw[show (ae s).data.toList=s from rfl] at HB;have hb:dW s=(decide (Pr.prepL 1 s=(s,0))&&!decide (s=[])&&decide (s.length<=64)):=rfl;obtain⟨r,hr⟩:=ac (Pr.prepL 1 s);rw[hr] at HB hb;have en:=dE r.1 s;have hz:(ae s).size=s.length:=by rw[bS]
 have he:((ae s).toList=([]:List UInt8))↔s=[]:=by rw[ct]
 obtain⟨X,hX⟩:=ac (ae s);obtain⟨Y,hY⟩:=ac (⟨r.1.toArray⟩:ByteArray);rw[hX] at HB en hz he ⊢;rw[hY] at HB;rw[show ae r.1=Y from hY] at en;clear hr hX hY hT;by_cases h0:r.2=0
 ·rw[h0] at HB;by_cases h1:r.1=s
  ·rw[bq h1] at en;rw[bq (by rw[<-h1,<-h0]:r=(s,0)),Bool.true_and] at hb;by_cases h2:s=[]
   ·have e0:X.toList=[]:=he.2 h2;have e1:(X.toList != ([]:List UInt8))=false:=(by rw[e0];rfl);have e2:(X.toList==([]:List UInt8))=true:=(by rw[e0];rfl);have e3:Y.toList.isEmpty=true:=(by rw[e0] at en;simpa using en);have hb2:Hid (dW s=false):=(by unfold Hid;rw[hb,bq h2];rfl);clear hb he hz h0 h1 h2;go_enter Tryz.func122,Tryz.ntmps122;(go_wp2_with fail);refine HB.out.mono ?_;rintro e w1 ⟨rfl,b1⟩;(go_wp2_with fail);go_ret;exact⟨by rw[hb2.out];rfl,b1⟩
   ·have e0:¬ X.toList=[]:=(fun h=>h2 (he.1 h));have e1:(X.toList != ([]:List UInt8))=true:=(by simpa using e0);have e2:(X.toList==([]:List UInt8))=false:=(by simpa using e0);rw[bF h2] at hb;have hb2:Hid (dW s=decide (s.length<=64)):=(by unfold Hid;rw[hb];rfl);have hle:decide ((X.size:Int)<=64)=decide (s.length<=64):=(by rw[hz];exact decide_eq_decide.2 (by omega));obtain⟨c,hc⟩:=ac (decide (s.length<=64));rw[hc] at hle hb2;have hXs:X.size<=100000000:=(by omega);cases c with
    | true=>have hz1:(X.size:Int)<=64:=of_decide_eq_true hle;have hz2:X.size<=64:=(by omega);clear hb he hz h0 h1 h2 hc;go_enter Tryz.func122,Tryz.ntmps122;(go_wp2_with fail);refine HB.out.mono ?_;rintro e w1 ⟨rfl,b1⟩;(go_wp2_with fail);go_ret;exact⟨by rw[hb2.out];rfl,b1⟩
    | false=>have hz1:¬ (X.size:Int)<=64:=of_decide_eq_false hle;have hz2:¬ X.size<=64:=(by omega);clear hb he hz h0 h1 h2 hc;go_enter Tryz.func122,Tryz.ntmps122;(go_wp2_with fail);refine HB.out.mono ?_;rintro e w1 ⟨rfl,b1⟩;(go_wp2_with fail);go_ret;exact⟨by rw[hb2.out];rfl,b1⟩
  ·rw[bF h1] at en;have hb2:Hid (dW s=false):=(by unfold Hid;rw[hb,bF (fun e=>h1 (congrArg Prod.fst e):¬ r=(s,0))];rfl);clear hb he hz h0 h1;go_enter Tryz.func122,Tryz.ntmps122;(go_wp2_with fail);refine HB.out.mono ?_;rintro e w1 ⟨rfl,b1⟩;(go_wp2_with fail);go_ret;exact⟨by rw[hb2.out];rfl,b1⟩
 ·have hz1:((r.2:Int)==0)=false:=(by simpa using h0);have hb2:Hid (dW s=false):=(by unfold Hid;rw[hb,bF (fun e=>h0 (congrArg Prod.snd e):¬ r=(s,0))];rfl);clear hb he hz en;go_enter Tryz.func122,Tryz.ntmps122;(go_wp2_with fail);refine HB.out.mono ?_;rintro e w1 ⟨rfl,b1⟩;(go_wp2_with fail);go_ret;exact⟨by rw[hb2.out];rfl,b1⟩
theorem sL (x y:aN) (w:World):Calls Tryz.prog 64 #[.agg (aw x).toArray,.agg (aw y).toArray] w fun e w'=>e=.returned (.bool (yF x y))/\Below w.heap.size w w':=by
 obtain⟨xj,xus,xA,xn,xc⟩:=x;obtain⟨yj,yus,yA,yn,yc⟩:=y;have hx:(aw ⟨xj,xus,xA,xn,xc⟩).toArray=#[.string (ae xj),.slice xA xn xc]:=rfl;have hy:(aw ⟨yj,yus,yA,yn,yc⟩).toArray=#[.string (ae yj),.slice yA yn yc]:=rfl;have hlt:yF ⟨xj,xus,xA,xn,xc⟩ ⟨yj,yus,yA,yn,yc⟩=Jd.ltL xj yj:=rfl;rw[hx,hy,hlt];obtain⟨W1,hW1⟩:=ac (w.alloc (.cells #[.string (ae xj),.slice xA xn xc] 47));obtain⟨p,hp⟩:=ac w.heap.size;have k1:Bk W1 p 47 #[.string (ae xj),.slice xA xn xc]:=by rw[<-hW1,<-hp];exact Bk.new _ _ _
 have b1:Below w.heap.size w W1:=by rw[<-hW1];exact bp _ _
 obtain⟨W2,hW2⟩:∃ W1',W1.alloc (.cells #[.string (ae yj),.slice yA yn yc] 47)=W1':=⟨_,rfl⟩;obtain⟨q,hq⟩:=ac W1.heap.size;have k2:Bk W2 q 47 #[.string (ae yj),.slice yA yn yc]:=by rw[<-hW2,<-hq];exact Bk.new _ _ _
 have b2:Below W1.heap.size W1 W2:=by rw[<-hW2];exact bp _ _
 have B2:Hid (Below w.heap.size w W2):=b1.trans (b2.mono b1.size);have c0:W2.cell? ⟨p,0,none⟩=some (.string (ae xj)):=(k1.below b2 k1.lt).cell 0;have d0:W2.cell? ⟨q,0,none⟩=some (.string (ae yj)):=k2.cell 0;have hle:Op.bytesLess (ae xj).toList (ae yj).toList=Jd.ltL xj yj:=fk _ _;obtain⟨X,hX⟩:=ac (ae xj);obtain⟨Y,hY⟩:=ac (ae yj);obtain⟨b,hb⟩:=ac (Jd.ltL xj yj);rw[hX] at hW1 c0 hle;rw[hY] at hW2 d0 hle;rw[hb] at hle;rw[hX,hY,hb];clear hx hy hlt k1 k2 b1 b2 hX hY hb;go_enter Tryz.func64,Tryz.ntmps64;go_wp2_with fail
 go_ret;exact⟨rfl,by first|exact B2.out|(rw[<-hp];exact B2.out)⟩
theorem sM (x y:bk) (w:World):Calls Tryz.prog 95 #[.agg (ao x).toArray,.agg (ao y).toArray] w fun e w'=>e=.returned (.bool (yG x y))/\Below w.heap.size w w':=by
 obtain⟨xj,xm,xis,⟨xA,xn,xc⟩,xps,⟨xD,xe,xf⟩⟩:=x;obtain⟨yj,ym,yis,⟨yA,yn,yc⟩,yps,⟨yD,ye,yf⟩⟩:=y;have hx:(ao ⟨xj,xm,xis,⟨xA,xn,xc⟩,xps,⟨xD,xe,xf⟩⟩).toArray=#[.string (ae xj),.string (ae xm),.slice xA xn xc,.slice xD xe xf]:=rfl;have hy:(ao ⟨yj,ym,yis,⟨yA,yn,yc⟩,yps,⟨yD,ye,yf⟩⟩).toArray=#[.string (ae yj),.string (ae ym),.slice yA yn yc,.slice yD ye yf]:=rfl;have hlt:yG ⟨xj,xm,xis,⟨xA,xn,xc⟩,xps,⟨xD,xe,xf⟩⟩ ⟨yj,ym,yis,⟨yA,yn,yc⟩,yps,⟨yD,ye,yf⟩⟩=Jd.ltL xj yj:=rfl;rw[hx,hy,hlt];obtain⟨W1,hW1⟩:=ac (w.alloc (.cells #[.string (ae xj),.string (ae xm),.slice xA xn xc,.slice xD xe xf] 28));obtain⟨p,hp⟩:=ac w.heap.size;have k1:Bk W1 p 28 #[.string (ae xj),.string (ae xm),.slice xA xn xc,.slice xD xe xf]:=by rw[<-hW1,<-hp];exact Bk.new _ _ _
 have b1:Below w.heap.size w W1:=by rw[<-hW1];exact bp _ _
 obtain⟨W2,hW2⟩:∃ W1',W1.alloc (.cells #[.string (ae yj),.string (ae ym),.slice yA yn yc,.slice yD ye yf] 28)=W1':=⟨_,rfl⟩;obtain⟨q,hq⟩:=ac W1.heap.size;have k2:Bk W2 q 28 #[.string (ae yj),.string (ae ym),.slice yA yn yc,.slice yD ye yf]:=by rw[<-hW2,<-hq];exact Bk.new _ _ _
 have b2:Below W1.heap.size W1 W2:=by rw[<-hW2];exact bp _ _
 have B2:Hid (Below w.heap.size w W2):=b1.trans (b2.mono b1.size);have c0:W2.cell? ⟨p,0,none⟩=some (.string (ae xj)):=(k1.below b2 k1.lt).cell 0;have d0:W2.cell? ⟨q,0,none⟩=some (.string (ae yj)):=k2.cell 0;have hle:Op.bytesLess (ae xj).toList (ae yj).toList=Jd.ltL xj yj:=fk _ _;obtain⟨X,hX⟩:=ac (ae xj);obtain⟨Y,hY⟩:=ac (ae yj);obtain⟨b,hb⟩:=ac (Jd.ltL xj yj);rw[hX] at hW1 c0 hle;rw[hY] at hW2 d0 hle;rw[hb] at hle;rw[hX,hY,hb];clear hx hy hlt k1 k2 b1 b2 hX hY hb;go_enter Tryz.func95,Tryz.ntmps95;go_wp2_with fail
 go_ret;exact⟨rfl,by first|exact B2.out|(rw[<-hp];exact B2.out)⟩
theorem xh (x y:bj × bB) (w:World) (hO:Okw w) (hx:x.1.jid.length<=1000000000) (hy:y.1.jid.length<=1000000000):Calls Tryz.prog 167 #[.agg (az x).toArray,.agg (az y).toArray] w fun e w'=>e=.returned (.bool (k9 x y))/\Below w.heap.size w w':=by
 obtain⟨⟨xj,xm,xg,xs,xk,xa⟩,xA,xn,xc⟩:=x;obtain⟨⟨yj,ym,yg,ys,yk,ya⟩,yA,yn,yc⟩:=y;have ex:(az ⟨⟨xj,xm,xg,xs,xk,xa⟩,xA,xn,xc⟩).toArray=#[.string (ae xj),.string (ae xm),.slice xA xn xc,.int .i64 xs,.bool xk,.bool xa]:=rfl;have ey:(az ⟨⟨yj,ym,yg,ys,yk,ya⟩,yA,yn,yc⟩).toArray=#[.string (ae yj),.string (ae ym),.slice yA yn yc,.int .i64 ys,.bool yk,.bool ya]:=rfl;have hlt:k9 ⟨⟨xj,xm,xg,xs,xk,xa⟩,xA,xn,xc⟩ ⟨⟨yj,ym,yg,ys,yk,ya⟩,yA,yn,yc⟩=Jd.lessL xj yj:=rfl;rw[ex,ey,hlt];have hx2:xj.length<=1000000000:=hx;have hy2:yj.length<=1000000000:=hy;obtain⟨W1,hW1⟩:=ac (w.alloc (.cells #[.string (ae xj),.string (ae xm),.slice xA xn xc,.int .i64 xs,.bool xk,.bool xa] 53));obtain⟨p,hp⟩:=ac w.heap.size;have k1:Bk W1 p 53 #[.string (ae xj),.string (ae xm),.slice xA xn xc,.int .i64 xs,.bool xk,.bool xa]:=by rw[<-hW1,<-hp];exact Bk.new _ _ _
 have b1:Below w.heap.size w W1:=by rw[<-hW1];exact bp _ _
 obtain⟨W2,hW2⟩:∃ W1',W1.alloc (.cells #[.string (ae yj),.string (ae ym),.slice yA yn yc,.int .i64 ys,.bool yk,.bool ya] 53)=W1':=⟨_,rfl⟩;obtain⟨q,hq⟩:=ac W1.heap.size;have k2:Bk W2 q 53 #[.string (ae yj),.string (ae ym),.slice yA yn yc,.int .i64 ys,.bool yk,.bool ya]:=by rw[<-hW2,<-hq];exact Bk.new _ _ _
 have b2:Below W1.heap.size W1 W2:=by rw[<-hW2];exact bp _ _
 have B2:Hid (Below w.heap.size w W2):=b1.trans (b2.mono b1.size);have HL:Hid (Calls Tryz.prog 83 #[.string (ae xj),.string (ae yj)] W2 fun e w'=>e=.returned (.bool (Jd.lessL xj yj))/\Below W2.heap.size W2 w'):=i6 (ae xj) (ae yj) W2 (hO.below B2.out) (by rw[bS];exact hx2) (by rw[bS];exact hy2);have c0:W2.cell? ⟨p,0,none⟩=some (.string (ae xj)):=(k1.below b2 k1.lt).cell 0;have d0:W2.cell? ⟨q,0,none⟩=some (.string (ae yj)):=k2.cell 0;obtain⟨X,hX⟩:=ac (ae xj);obtain⟨Y,hY⟩:=ac (ae yj);obtain⟨b,hb⟩:=ac (Jd.lessL xj yj);rw[hX,hY,hb] at HL;rw[hX] at hW1 c0;rw[hY] at hW2 d0;rw[hX,hY,hb];clear ex ey hlt k1 k2 b1 b2 hX hY hb hO hx hy hx2 hy2;go_enter Tryz.func167,Tryz.ntmps167;go_wp2_with fail
 refine HL.out.mono ?_;rintro e w3 ⟨rfl,b3⟩;go_wp2_with fail
 go_ret;exact⟨rfl,by first|exact B2.out.trans (b3.mono B2.out.size)|(rw[<-hp];exact B2.out.trans (b3.mono B2.out.size))⟩
theorem x7 (X M:ByteArray) (A:Option Addr) (n c:Nat) (s:Int) (k a:Bool) (w:World):
 Calls Tryz.prog 129 #[.agg #[.string X,.string M,.slice A n c,.int .i64 s,.bool k,.bool a]] w fun e w'=>e=.returned (.bool (decide (s=2)||decide (s=3)||a))/\Below w.heap.size w w':=by
 obtain⟨W1,hW1⟩:=ac (w.alloc (.cells #[.string X,.string M,.slice A n c,.int .i64 s,.bool k,.bool a] 53));obtain⟨p,hp⟩:=ac w.heap.size;have k1:Bk W1 p 53 #[.string X,.string M,.slice A n c,.int .i64 s,.bool k,.bool a]:=by rw[<-hW1,<-hp];exact Bk.new _ _ _
 have B1:Hid (Below w.heap.size w W1):=by rw[<-hW1];exact bp _ _
 have c3:W1.cell? ⟨p,3,none⟩=some (.int .i64 s):=k1.cell 3;have c5:W1.cell? ⟨p,5,none⟩=some (.bool a):=k1.cell 5;have HW1:=aa hW1;have HP:=aa hp;clear hW1 hp k1;by_cases h2:s=2
 ·subst h2;go_enter Tryz.func129,Tryz.ntmps129;(go_upto_region 1 with fail);(try rw[HW1.out]);(try rw[HP.out]);(go_wp2_with fail);go_ret;exact⟨by simp,B1.out⟩
 ·have e2:(s==2)=false:=(by simpa using h2);by_cases h3:s=3
  ·subst h3;go_enter Tryz.func129,Tryz.ntmps129;(go_upto_region 1 with fail);(try rw[HW1.out]);(try rw[HP.out]);(go_wp2_with fail);go_ret;exact⟨by simp,B1.out⟩
  ·have e3:(s==3)=false:=(by simpa using h3);have HR:Hid ((decide (s=2)||decide (s=3)||a)=a):=(by unfold Hid;rw[bF h2,bF h3];rfl);go_enter Tryz.func129,Tryz.ntmps129;(go_upto_region 1 with fail);(try rw[HW1.out]);(try rw[HP.out]);(go_wp2_with fail);go_ret;exact⟨by rw[HR.out];rfl,B1.out⟩
theorem l9 (v:Value) (l:List (List UInt8)) (x:List UInt8) (w:World) (hR:ReadT w.heap.size w v (al l)) (hl:l.length<=1000000):
 Calls Tryz.prog 130 #[v,.string (ae x)] w fun e w'=>e=.returned (.bool (decide (x∈l)))/\Below w.heap.size w w':=by
 have hll:(al l).length=l.length:=cr _;by_cases h0:0<l.length
 ·obtain⟨b,off,cap,rfl,hb,hc⟩:=hR.flat (by omega);refine(pX b off (al l).length cap (al l) (ae x) w (aq _) (by omega) hc).mono ?_;rintro e w' ⟨rfl,rfl⟩;refine⟨?_,aE _ _⟩;have e:Lib.containsS ((al l).take (al l).length) (ae x)=decide (x∈l):=(by rw[List.take_length,Bool.eq_iff_iff,Lib.containsS_iff,decide_eq_true_eq];refine⟨fun h=>?_,fun h=>List.mem_map.2 ⟨x,h,rfl⟩⟩;obtain⟨y,hy,e⟩:=List.mem_map.1 h;have:x=y:=(by have:=congrArg (fun b:ByteArray=>b.data.toList) e;simpa using this.symm);rw[this];exact hy);rw[e]
 ·obtain rfl:l=[]:=eB (by omega);obtain⟨A,cap,rfl,_⟩:=hR;refine(iH A cap (ae x) w).mono ?_;rintro e w' ⟨rfl,rfl⟩;exact⟨by simp,aE _ _⟩
theorem vp (u:bk) (ub:Nat) (x:bj × bB) (w:World) (hU:Bk w ub 28 (ao u).toArray) (hP:ReadT w.heap.size w (sl u.pv) (al u.pend)) (hl:u.pend.length<=1000000):
 Calls Tryz.prog 128 #[.agg (az x).toArray,.pointer (some ⟨ub,0,none⟩)] w fun e w'=>e=.returned (.bool (fz u x))/\Below w.heap.size w w':=by
 obtain⟨⟨xj,xm,xg,xs,xk,xa⟩,xA,xn,xc⟩:=x;obtain⟨uj,um,uis,⟨uA,un,uc⟩,ups,⟨uD,ue,uf⟩⟩:=u;have ex:(az ⟨⟨xj,xm,xg,xs,xk,xa⟩,xA,xn,xc⟩).toArray=#[.string (ae xj),.string (ae xm),.slice xA xn xc,.int .i64 xs,.bool xk,.bool xa]:=rfl;have hwb:fz ⟨uj,um,uis,⟨uA,un,uc⟩,ups,⟨uD,ue,uf⟩⟩ ⟨⟨xj,xm,xg,xs,xk,xa⟩,xA,xn,xc⟩=((decide (xs=2)||decide (xs=3)||xa)&&decide (xj∈ups)):=rfl;rw[ex,hwb];obtain⟨W1,hW1⟩:=ac (w.alloc (.cells #[.string (ae xj),.string (ae xm),.slice xA xn xc,.int .i64 xs,.bool xk,.bool xa] 53));obtain⟨p,hp⟩:=ac w.heap.size;have k1:Bk W1 p 53 #[.string (ae xj),.string (ae xm),.slice xA xn xc,.int .i64 xs,.bool xk,.bool xa]:=by rw[<-hW1,<-hp];exact Bk.new _ _ _
 have b1:Below w.heap.size w W1:=by rw[<-hW1];exact bp _ _
 have HL:=aa (x7 (ae xj) (ae xm) xA xn xc xs xk xa W1);have HC:Hid (∀ W,Below W1.heap.size W1 W->Calls Tryz.prog 130 #[.slice uD ue uf,.string (ae xj)] W fun e w'=>e=.returned (.bool (decide (xj∈ups)))/\Below W.heap.size W w'):=fun W hW=>l9 (.slice uD ue uf) ups xj W (hP.upon (b1.trans (hW.mono b1.size))) hl
 have K1:=aa k1;have HU:Hid (∀ W,Below W1.heap.size W1 W->W.cell? ⟨ub,3,none⟩=some (.slice uD ue uf)):=fun W hW=>(hU.below (b1.trans (hW.mono b1.size)) hU.lt).cell 3
 have B1:=aa b1;have HW1:=aa hW1;have HP:=aa hp;obtain⟨X,hX⟩:=ac (ae xj);obtain⟨M,hM⟩:=ac (ae xm);obtain⟨r,hr⟩:=ac ((decide (xs=2)||decide (xs=3)||xa));obtain⟨t,ht⟩:=ac (decide (xj∈ups));rw[hX,hM] at HW1 K1;rw[hX,hM,hr] at HL;rw[hX,ht] at HC;rw[hX,hM,hr,ht];clear hW1 hp k1 b1 ex hwb hU hP hl hX hM hr ht;go_enter Tryz.func128,Tryz.ntmps128;go_upto_region 1 with fail
 (try rw[HW1.out]);(try rw[HP.out]);have c0:W1.cell? ⟨p,0,none⟩=some (.string X):=K1.out.cell 0;have c1:W1.cell? ⟨p,1,none⟩=some (.string M):=K1.out.cell 1;have c2:W1.cell? ⟨p,2,none⟩=some (.slice xA xn xc):=K1.out.cell 2;have c3:W1.cell? ⟨p,3,none⟩=some (.int .i64 xs):=K1.out.cell 3;have c4:W1.cell? ⟨p,4,none⟩=some (.bool xk):=K1.out.cell 4;have c5:W1.cell? ⟨p,5,none⟩=some (.bool xa):=K1.out.cell 5;go_wp2_with fail
 refine HL.out.mono ?_;rintro e w2 ⟨rfl,b2⟩;have B2:=aa (B1.out.trans (b2.mono B1.out.size));have HC2:=aa (HC.out w2 b2);have d0:w2.cell? ⟨p,0,none⟩=some (.string X):=(K1.out.below b2 K1.out.lt).cell 0;have d3:=HU.out w2 b2;clear c0 c1 c2 c3 c4 c5 b2;cases r with
 | false=>(go_wp2_with fail);go_ret;exact⟨rfl,B2.out⟩
 | true=>(go_wp2_with fail);refine HC2.out.mono ?_;rintro e w3 ⟨rfl,b3⟩;have B3:=aa (B2.out.trans (b3.mono B2.out.size));clear b3;(go_wp2_with fail);go_ret;exact⟨by simp,B3.out⟩
theorem ty {α:Type} [Inhabited α] (p:α->Bool) (l:List α):decide (Lib.idxBy (fun _ y=>p y) l default≥0)=l.any p:=by
 have hidx:Lib.idxBy (fun (_:α) y=>p y) l default=Lib.idxByFrom (fun (_:α) y=>p y) default l 0:=rfl;rw[hidx];rcases idxByFrom_spec (fun (_:α) y=>p y) default l 0 with ⟨hm,hno⟩|⟨k,hk,hm,hyes,_⟩
 ·rw[hm];have e:l.any p=false:=(List.any_eq_false.2 fun x hx=>by obtain⟨i,hi,rfl⟩:=List.getElem_of_mem hx;have:=hno i hi;rw[getElem!_pos l i hi] at this;rw[this];decide);rw[e];decide
 ·rw[hm];have e:l.any p=true:=List.any_eq_true.2 ⟨l[k]!,by rw[getElem!_pos l k hk];exact List.getElem_mem hk,hyes⟩;rw[e];exact bq (by omega)
theorem xW (v:Value) (l:List (bj × bB)) (u:bk) (ub:Nat) (w:World) (hR:RowV az 6 w.heap.size w v l) (hl:l.length<=1000000) (hU:Bk w ub 28 (ao u).toArray) (hP:ReadT w.heap.size w (sl u.pv) (al u.pend)) (hp:u.pend.length<=1000000):
 Calls Tryz.prog 127 #[v,.func (.func 128) #[] #[.pointer (some ⟨ub,0,none⟩)]] w fun e w'=>e=.returned (.bool (l.any (fz u)))/\Below w.heap.size w w':=by
 obtain⟨A,cap,rfl,hA⟩:=hR;have HI:Hid (∃ z:Int,decide (z≥0)=l.any (fz u)/\Calls Tryz.prog 169 #[.slice A l.length cap,.func (.func 128) #[] #[.pointer (some ⟨ub,0,none⟩)]] w fun e w'=>e=.returned (.int .i64 z)/\Below w.heap.size w w'):=by
  by_cases h0:0<l.length
  ·obtain⟨b,off,rfl,hb,hc⟩:=hA h0;have hI:=AnyQ.slices_IndexFunc Tryz.idxItem 6 Tryz.isAgg53 Tryz.sizeOf53 az (fun _=>rfl) (fz u) 128 #[.pointer (some ⟨ub,0,none⟩)] (enters_of Tryz.func128 (by kernel_rfl) rfl) b off l.length cap l w
    (fun W p hb2=>(vp u ub p W (hU.below hb2 hU.lt) (hP.upon hb2) hp).mono fun _ _ ⟨he,hw⟩=>⟨he,hb2.trans (hw.mono hb2.size)⟩) (aq _) (by omega) hb
    (fun i hi c u hu=>hc i _ (by rw[getElem!_pos l i hi];exact aQ hi) c u hu)
   rw[List.take_length] at hI;exact⟨_,ty _ _,hI⟩
  ·obtain rfl:l=[]:=eB (by omega);refine⟨-1,by simp,(oQ A cap _ w).mono ?_⟩;rintro e w' ⟨rfl,rfl⟩;exact⟨rfl,aE _ _⟩
 obtain⟨z,hz,hI⟩:=HI.out;have H:=aa hI;obtain⟨r,hr⟩:=ac (l.any (fz u));rw[hr] at hz ⊢;obtain⟨N,hN⟩:=ac l.length;rw[hN] at H ⊢;clear hA hl hU hP hp HI hI hr hN;go_enter Tryz.func127,Tryz.ntmps127;go_wp2_with fail
 refine H.out.mono ?_;rintro e w1 ⟨rfl,b1⟩;go_wp2_with fail
 go_ret;exact⟨by rw[<-hz];rfl,b1⟩
abbrev gK (w:World) (g:Nat) (a b c:Value):World:=((w.setCell ⟨g,0,none⟩ a).setCell ⟨g,1,none⟩ b).setCell ⟨g,2,none⟩ c
theorem gd {w:World} {g:Nat} {t:TypeId} {x0 x1 x2:Value} (h:Bk w g t #[x0,x1,x2]) (a b c:Value):Bk (gK w g a b c) g t #[a,b,c]:=by have:=((h.put 0 a).put 1 b).put 2 c;simpa [gK] using this
theorem dZ {w0 w:World} {B g:Nat} (h:Below B w0 w) (hg:B<=g) (a b c:Value):Below B w0 (gK w g a b c):=((h.setCell (p:=⟨g,0,none⟩) hg _).setCell (p:=⟨g,1,none⟩) hg _).setCell (p:=⟨g,2,none⟩) hg _
theorem lw (w:World):Calls Tryz.prog 35 #[] w fun e w'=>e=.returned (.agg #[.int .i64 5,.func (.func 64) #[] #[],.func (.func 65) #[] #[]])/\Below w.heap.size w w':=by
 obtain⟨W1,hW1⟩:=ac (w.alloc (.cells #[.int .i64 0,.nilFunc,.nilFunc] 68));obtain⟨p,hp⟩:=ac w.heap.size;have K1:Hid (Bk W1 p 68 #[.int .i64 0,.nilFunc,.nilFunc]):=by rw[<-hW1,<-hp];exact Bk.new _ _ _
 have B1:Below w.heap.size w W1:=by rw[<-hW1];exact bp _ _
 have HPW:Hid (w.heap.size<=p):=by rw[<-hp];exact aq _
 have K2:=aa (gd K1.out (.int .i64 5) (.func (.func 64) #[] #[]) (.func (.func 65) #[] #[]));have B2:=aa (dZ B1 HPW.out (.int .i64 5) (.func (.func 64) #[] #[]) (.func (.func 65) #[] #[]));obtain⟨w2,hw2⟩:=ac (gK W1 p (.int .i64 5) (.func (.func 64) #[] #[]) (.func (.func 65) #[] #[]));rw[hw2] at K2 B2;have q0:W1.cell? ⟨p,0,none⟩=some (.int .i64 0):=K1.out.cell 0;have f0:W1.frozen? ⟨p,0,none⟩=false:=K1.out.free 0;have q1:W1.cell? ⟨p,1,none⟩=some (.nilFunc):=K1.out.cell 1;have f1:W1.frozen? ⟨p,1,none⟩=false:=K1.out.free 1;have q2:W1.cell? ⟨p,2,none⟩=some (.nilFunc):=K1.out.cell 2;have f2:W1.frozen? ⟨p,2,none⟩=false:=K1.out.free 2;have HW1:=aa hW1;have HP:=aa hp;clear hW1 hp;go_enter Tryz.func35,Tryz.ntmps35;go_upto_region 1 with fail
 (try rw[HW1.out]);(try rw[HP.out]);go_wp2_with fail
 (try rw[hw2]);have j0:w2.cell? ⟨p,0,none⟩=some (.int .i64 5):=K2.out.cell 0;have j1:w2.cell? ⟨p,1,none⟩=some (.func (.func 64) #[] #[]):=K2.out.cell 1;have j2:w2.cell? ⟨p,2,none⟩=some (.func (.func 65) #[] #[]):=K2.out.cell 2;refine bodyPost_ret (v:=.agg #[.int .i64 5,.func (.func 64) #[] #[],.func (.func 65) #[] #[]]) (by simp[results,Tryz.results35,go_sem,j0,j1,j2]) rfl ?_;exact⟨rfl,B2.out⟩
theorem lO (w:World):Calls Tryz.prog 67 #[] w fun e w'=>e=.returned (.agg #[.int .i64 20,.func (.func 95) #[] #[],.func (.func 96) #[] #[]])/\Below w.heap.size w w':=by
 obtain⟨W1,hW1⟩:=ac (w.alloc (.cells #[.int .i64 0,.nilFunc,.nilFunc] 95));obtain⟨p,hp⟩:=ac w.heap.size;have K1:Hid (Bk W1 p 95 #[.int .i64 0,.nilFunc,.nilFunc]):=by rw[<-hW1,<-hp];exact Bk.new _ _ _
 have B1:Below w.heap.size w W1:=by rw[<-hW1];exact bp _ _
 have HPW:Hid (w.heap.size<=p):=by rw[<-hp];exact aq _
 have K2:=aa (gd K1.out (.int .i64 20) (.func (.func 95) #[] #[]) (.func (.func 96) #[] #[]));have B2:=aa (dZ B1 HPW.out (.int .i64 20) (.func (.func 95) #[] #[]) (.func (.func 96) #[] #[]));obtain⟨w2,hw2⟩:=ac (gK W1 p (.int .i64 20) (.func (.func 95) #[] #[]) (.func (.func 96) #[] #[]));rw[hw2] at K2 B2;have q0:W1.cell? ⟨p,0,none⟩=some (.int .i64 0):=K1.out.cell 0;have f0:W1.frozen? ⟨p,0,none⟩=false:=K1.out.free 0;have q1:W1.cell? ⟨p,1,none⟩=some (.nilFunc):=K1.out.cell 1;have f1:W1.frozen? ⟨p,1,none⟩=false:=K1.out.free 1;have q2:W1.cell? ⟨p,2,none⟩=some (.nilFunc):=K1.out.cell 2;have f2:W1.frozen? ⟨p,2,none⟩=false:=K1.out.free 2;have HW1:=aa hW1;have HP:=aa hp;clear hW1 hp;go_enter Tryz.func67,Tryz.ntmps67;go_upto_region 1 with fail
 (try rw[HW1.out]);(try rw[HP.out]);go_wp2_with fail
 (try rw[hw2]);have j0:w2.cell? ⟨p,0,none⟩=some (.int .i64 20):=K2.out.cell 0;have j1:w2.cell? ⟨p,1,none⟩=some (.func (.func 95) #[] #[]):=K2.out.cell 1;have j2:w2.cell? ⟨p,2,none⟩=some (.func (.func 96) #[] #[]):=K2.out.cell 2;refine bodyPost_ret (v:=.agg #[.int .i64 20,.func (.func 95) #[] #[],.func (.func 96) #[] #[]]) (by simp[results,Tryz.results67,go_sem,j0,j1,j2]) rfl ?_;exact⟨rfl,B2.out⟩
theorem rX (w:World):Calls Tryz.prog 124 #[] w fun e w'=>e=.returned (.agg #[.int .i64 60,.func (.func 167) #[] #[],.func (.func 168) #[] #[]])/\Below w.heap.size w w':=by
 obtain⟨W1,hW1⟩:=ac (w.alloc (.cells #[.int .i64 0,.nilFunc,.nilFunc] 141));obtain⟨p,hp⟩:=ac w.heap.size;have K1:Hid (Bk W1 p 141 #[.int .i64 0,.nilFunc,.nilFunc]):=by rw[<-hW1,<-hp];exact Bk.new _ _ _
 have B1:Below w.heap.size w W1:=by rw[<-hW1];exact bp _ _
 have HPW:Hid (w.heap.size<=p):=by rw[<-hp];exact aq _
 have K2:=aa (gd K1.out (.int .i64 60) (.func (.func 167) #[] #[]) (.func (.func 168) #[] #[]));have B2:=aa (dZ B1 HPW.out (.int .i64 60) (.func (.func 167) #[] #[]) (.func (.func 168) #[] #[]));obtain⟨w2,hw2⟩:=ac (gK W1 p (.int .i64 60) (.func (.func 167) #[] #[]) (.func (.func 168) #[] #[]));rw[hw2] at K2 B2;have q0:W1.cell? ⟨p,0,none⟩=some (.int .i64 0):=K1.out.cell 0;have f0:W1.frozen? ⟨p,0,none⟩=false:=K1.out.free 0;have q1:W1.cell? ⟨p,1,none⟩=some (.nilFunc):=K1.out.cell 1;have f1:W1.frozen? ⟨p,1,none⟩=false:=K1.out.free 1;have q2:W1.cell? ⟨p,2,none⟩=some (.nilFunc):=K1.out.cell 2;have f2:W1.frozen? ⟨p,2,none⟩=false:=K1.out.free 2;have HW1:=aa hW1;have HP:=aa hp;clear hW1 hp;go_enter Tryz.func124,Tryz.ntmps124;go_upto_region 1 with fail
 (try rw[HW1.out]);(try rw[HP.out]);go_wp2_with fail
 (try rw[hw2]);have j0:w2.cell? ⟨p,0,none⟩=some (.int .i64 60):=K2.out.cell 0;have j1:w2.cell? ⟨p,1,none⟩=some (.func (.func 167) #[] #[]):=K2.out.cell 1;have j2:w2.cell? ⟨p,2,none⟩=some (.func (.func 168) #[] #[]):=K2.out.cell 2;refine bodyPost_ret (v:=.agg #[.int .i64 60,.func (.func 167) #[] #[],.func (.func 168) #[] #[]]) (by simp[results,Tryz.results124,go_sem,j0,j1,j2]) rfl ?_;exact⟨rfl,B2.out⟩
theorem iO (w:World):Calls Tryz.prog 50 #[] w fun e w'=>e=.returned (.agg #[.int .i64 60,.func (.func 83) #[] #[],.func (.func 84) #[] #[]])/\Below w.heap.size w w':=by
 obtain⟨W1,hW1⟩:=ac (w.alloc (.cells #[.int .i64 0,.nilFunc,.nilFunc] 83));obtain⟨p,hp⟩:=ac w.heap.size;have K1:Hid (Bk W1 p 83 #[.int .i64 0,.nilFunc,.nilFunc]):=by rw[<-hW1,<-hp];exact Bk.new _ _ _
 have B1:Below w.heap.size w W1:=by rw[<-hW1];exact bp _ _
 have HPW:Hid (w.heap.size<=p):=by rw[<-hp];exact aq _
 have K2:=aa (gd K1.out (.int .i64 60) (.func (.func 83) #[] #[]) (.func (.func 84) #[] #[]));have B2:=aa (dZ B1 HPW.out (.int .i64 60) (.func (.func 83) #[] #[]) (.func (.func 84) #[] #[]));obtain⟨w2,hw2⟩:=ac (gK W1 p (.int .i64 60) (.func (.func 83) #[] #[]) (.func (.func 84) #[] #[]));rw[hw2] at K2 B2;have q0:W1.cell? ⟨p,0,none⟩=some (.int .i64 0):=K1.out.cell 0;have f0:W1.frozen? ⟨p,0,none⟩=false:=K1.out.free 0;have q1:W1.cell? ⟨p,1,none⟩=some (.nilFunc):=K1.out.cell 1;have f1:W1.frozen? ⟨p,1,none⟩=false:=K1.out.free 1;have q2:W1.cell? ⟨p,2,none⟩=some (.nilFunc):=K1.out.cell 2;have f2:W1.frozen? ⟨p,2,none⟩=false:=K1.out.free 2;have HW1:=aa hW1;have HP:=aa hp;clear hW1 hp;go_enter Tryz.func50,Tryz.ntmps50;go_upto_region 1 with fail
 (try rw[HW1.out]);(try rw[HP.out]);go_wp2_with fail
 (try rw[hw2]);have j0:w2.cell? ⟨p,0,none⟩=some (.int .i64 60):=K2.out.cell 0;have j1:w2.cell? ⟨p,1,none⟩=some (.func (.func 83) #[] #[]):=K2.out.cell 1;have j2:w2.cell? ⟨p,2,none⟩=some (.func (.func 84) #[] #[]):=K2.out.cell 2;refine bodyPost_ret (v:=.agg #[.int .i64 60,.func (.func 83) #[] #[],.func (.func 84) #[] #[]]) (by simp[results,Tryz.results50,go_sem,j0,j1,j2]) rfl ?_;exact⟨rfl,B2.out⟩
end
section
open Go.RowKit Go.Lib Go.Sort Sy Tx Ct
def rk (x y:dv):Bool:=Jd.lessL x.1 y.1
theorem tF:Weak rk:=⟨fun h=>lessL_weak.asym h,fun h y=>lessL_weak.neg h y.1⟩
theorem rh (x y:dv) (w:World) (hO:Okw w):Calls Tryz.prog 83 #[.string (ae x.1),.string (ae y.1)] w fun e w'=>e=.returned (.bool (rk x y))/\Below w.heap.size w w':=i6 (ae x.1) (ae y.1) w hO (by have:=x.2;rw[bS];exact this) (by have:=y.2;rw[bS];exact this)
theorem yY {W:World} {b:Nat} {L:List dv} (h:HoldsK cU 1 W b 0 L.toArray):Go.Sort.Holds encStr W b 0 (L.map (·.1)).toArray:=fun j hj=>by
 have hj2:j<L.length:=by simpa using hj
 have:=HoldsK.cell h (i:=j) (c:=0) (by simpa using hj2) (by decide);have e1:L.toArray[j]! = L[j]:=by rw[getElem!_pos L.toArray j (by simpa using hj2)];simp
 have e2:(L.map (·.1)).toArray[j]! = L[j].1:=by rw[getElem!_pos _ j hj];simp
 rw[e2];rw[e1,Nat.mul_one,Nat.add_zero] at this;exact this
theorem nR (v:Value) (l:List (List UInt8)) (w:World) (hO:Okw w) (hR:ReadT w.heap.size w v (al l)) (hl:l.length<=1000000) (hs:∀ t∈l,t.length<=1000000000):
 Calls Tryz.prog 24 #[v] w fun e w'=>∃ A n c,e=.returned (.slice A n c)/\LiveT w.heap.size w'.heap.size w' (.slice A n c) (aD l)/\Below w.heap.size w w':=by
 obtain⟨L,hL⟩:∃ L:List dv,L.map (·.1)=l:=⟨l.pmap (fun x h=>⟨x,h⟩) hs,by rw[List.map_pmap];simp⟩;have hLl:L.length=l.length:=by rw[<-hL,cr]
 have hpw:Lib.compact ((af rk L).map (·.1))=aD l:=by
  rw[<-xE,<-hL]
  congr 1
  exact(dP (fun x:dv=>x.1) (fun _ _=>rfl) L).symm
 have HSO:=aa (fun (W:World) (hW:Below w.heap.size w W)=>nM rk tF 60 83 84 (enters_of Tryz.func83 (by kernel_rfl) rfl) v L W (by rw[hL];exact hR.upon hW) (by omega)
  (fun W' hW' x y=>rh x y W' ((hO.below hW).below hW')))
 have HWA:=aa (iO w);obtain⟨va,vn,vc,rfl⟩:∃ a n c,v=.slice a n c:=by obtain⟨A,cap,hv,_⟩:=hR;exact⟨A,_,cap,hv⟩
 have hSl:(af rk L).length=l.length:=by rw[aI,hLl]
 have hbl:(af rk L).length<=1000000:=by omega
 obtain⟨S,hS⟩:=ac (af rk L);unfold vL at HSO;rw[hS] at HSO hpw hbl;have HPW:=aa hpw;clear hpw hL hLl hSl hS hO hR hs hl;go_enter Tryz.func24,Tryz.ntmps24;go_wp2_with fail
 refine HWA.out.mono ?_;rintro e w1 ⟨rfl,b1⟩;have B1:=aa b1;have HS1:=aa (HSO.out w1 b1);clear b1 HSO HWA;go_wp2_with fail
 refine HS1.out.mono ?_;rintro e w2 ⟨v2,rfl,r2,b2⟩;obtain⟨A,cap,rfl,hc⟩:=r2;have B2:Hid (Below w.heap.size w w2):=B1.out.trans (b2.mono B1.out.size);have HB12:Hid (w.heap.size<=w1.heap.size):=B1.out.size;by_cases h0:0<S.length
 ·obtain⟨g,rfl,hg1,hg2,hcp,hH⟩:=hc h0;obtain⟨M,hM⟩:=ac (S.map (·.1));have hMl:M.length=S.length:=(by rw[<-hM,cr]);have hH1:=yY hH;rw[hM] at hH1 HPW;have H2:=Tryz.slices_Compact_string g 0 cap M w2 hH1 (by omega) (by omega);rw[hMl] at H2;have HC:=aa H2;have HH:=aa hH1;have HG:Hid (w.heap.size<=g/\g<w2.heap.size/\M.length=S.length):=⟨co HB12.out hg1,hg2,hMl⟩;clear H2 hH hH1 hM hMl hc b2 hg1 hg2 hcp;(go_wp2_with fail);refine HC.out.mono ?_;rintro e w3 ⟨rfl,q3,hw3⟩;obtain⟨Z,hZ⟩:=ac (Lib.compact M);have hZl:Z.length<=S.length:=(by rw[<-hZ,<-HG.out.2.2];exact fE M);rw[hZ] at hw3 HPW ⊢;have hH3:Go.Sort.Holds encStr w3 g 0 (Z++List.replicate (S.length-Z.length) []).toArray:=(by rw[hw3];exact holds_putRow encStr (Sort.ahead w2 q3) g 0 M.toArray _ HH.out (by have:=HG.out.2.2;simp;omega));have B3:Hid (Below w.heap.size w w3):=(by rw[hw3];exact iT B2.out q3 g HG.out.1 _);have hs3:w2.heap.size=w3.heap.size:=(by rw[hw3,size_putRow];rfl);have HR:=aa (holds_reads (cap:=cap) (iY hH3) (by rw[<-hs3];exact HG.out.2.1));have HGL:Hid (w.heap.size<=g/\g<w3.heap.size):=⟨HG.out.1,by rw[<-hs3];exact HG.out.2.1⟩;clear hw3 hH3 hs3 hZ;(go_wp2_with fail);go_ret;refine⟨_,_,_,rfl,?_,B3.out⟩;rw[<-HPW.out];have hll:(al Z).length=Z.length:=cr _;obtain⟨AA,c2,hv,hcl⟩:=HR.out;refine⟨some ⟨g,0,none⟩,cap,rfl,fun h1=>⟨⟨g,0,none⟩,rfl,HGL.out.1,HGL.out.2,fun i x hi=>?_⟩⟩;obtain⟨ad,ha,_,h3⟩:=hcl (by omega);injection hv with e1 _ _;rw[<-e1] at ha;injection ha with ha;rw[ha];exact h3 i _ (by unfold al;rw[List.getElem?_map,hi];rfl)
 ·have hn0:S=[]:=eB (by omega);subst hn0;have H2:=aa (Tryz.slices_Compact_string_empty A cap w2);have HP0:Hid (aD l=[]):=(by rw[<-HPW.out];rfl);clear hc b2 HPW;(go_wp2_with fail);refine H2.out.mono ?_;rintro e w3 ⟨rfl,rfl⟩;(go_wp2_with fail);go_ret;refine⟨_,_,_,rfl,?_,B2.out⟩;rw[HP0.out];exact⟨A,cap,rfl,fun h=>absurd h (by simp)⟩
end
end Go.Proofs.YtbgaglcgennhiaaGreatDoor

