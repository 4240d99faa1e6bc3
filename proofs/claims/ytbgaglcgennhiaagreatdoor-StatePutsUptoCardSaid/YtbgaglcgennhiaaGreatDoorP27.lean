import Derived.Test.YtbgaglcgennhiaaGreatDoorP26
import Derived.Shelf.SlicesQ.IndexFunc
import Derived.Shelf.SlicesE.DeleteFunc
import Derived.Test.YtbgaglcgennhiaaGreatDoorP04
import Derived.BigRegion
import Derived.Test.YtbgaglcgennhiaaGreatDoorP18
import Derived.Lib.IndexBytes
import Derived.Shelf.Strings.Search2
import Derived.BigQuiet
import Derived.Deep.DeepCutAuto
import Derived.Test.YtbgaglcgennhiaaGreatDoorP24
import Derived.Shelf.SlicesE.Clone
section
namespace Go.Proofs.YtbgaglcgennhiaaGreatDoor
open Go.RowKit Tx Ct
abbrev cF (w:World) (g:Nat) (a b c d e f:Value):World:=(((((w.setCell ⟨g,0,none⟩ a).setCell ⟨g,1,none⟩ b).setCell ⟨g,2,none⟩ c).setCell ⟨g,3,none⟩ d).setCell ⟨g,4,none⟩ e).setCell ⟨g,5,none⟩ f
theorem bo {w:World} {g:Nat} {t:TypeId} {x0 x1 x2 x3 x4 x5:Value} (h:Bk w g t #[x0,x1,x2,x3,x4,x5]) (a b c d e f:Value):Bk (cF w g a b c d e f) g t #[a,b,c,d,e,f]:=by
 have:=(((((h.put 0 a).put 1 b).put 2 c).put 3 d).put 4 e).put 5 f
 simpa [cF] using this
theorem aE {w0 w:World} {B g:Nat} (h:Below B w0 w) (hg:B≤g) (a b c d e f:Value):Below B w0 (cF w g a b c d e f) :=
 (((((h.setCell (p:=⟨g,0,none⟩) hg _).setCell (p:=⟨g,1,none⟩) hg _).setCell (p:=⟨g,2,none⟩) hg _).setCell (p:=⟨g,3,none⟩) hg _).setCell (p:=⟨g,4,none⟩) hg _).setCell (p:=⟨g,5,none⟩) hg _
theorem OwnT.less {B C:Nat} {w:World} {v:Value} {x:List ByteArray} (h:OwnT B w v x) (hC:C≤B):OwnT C w v x:=by
 refine⟨h.1,?_⟩
 rcases h.2 with h2 | ⟨g,cap,cur,hv,hg,h3⟩
 · exact .inl h2
 · exact .inr ⟨g,cap,cur,hv,Nat.le_trans hC hg,h3⟩
theorem jx (v:Value) (l:List (List UInt8)) (w:World) (B:Nat) (hR:ReadT B w v (ac l)) (hl:l.length≤8000000000000) :
 Calls Tryz.prog 61 #[v] w fun e w'=>∃ A cap,e=.returned (.slice A l.length cap)∧OwnT w.heap.size w' (.slice A l.length cap) (ac l)∧Below w.heap.size w w':=by
 have hll:(ac l).length=l.length:=List.length_map _;have own_reads:∀ (v':Value) (w2:World),w2.ownsRow w.heap.size 9 1 v' l.length ((ac l).map Value.string)→v'≠.slice none 0 0→∃ A cap,v'=.slice A l.length cap∧OwnT w.heap.size w2 v' (ac l):=fun v' w2 ho hne=>by
  have ho2:OwnT w.heap.size w2 v' (ac l):=by
   unfold OwnT cS;rw[hll];exact ho
  obtain⟨A,cap,hA⟩:=ho2.slice
  rw[hll] at hA
  exact⟨A,cap,hA,ho2⟩
 by_cases h0:0 < l.length
 · obtain⟨b,off,cap,hv,hb,hc⟩:=hR.flat (by omega)
   rw[hv]
   refine(Tryz.slices_Clone_string b off (ac l).length cap (ac l) w (Nat.le_refl _) (by omega) hc).mono ?_
   rintro e w2 ⟨v',rfl,ho,hne,hbl⟩;rw[List.take_length,hll] at ho
   obtain⟨A,cap2,rfl,hr⟩:=own_reads v' w2 ho hne
   exact⟨A,cap2,rfl,hr,hbl⟩
 · have hl0:l=[]:=List.length_eq_zero_iff.1 (by omega)
   subst hl0
   obtain⟨A,cap,hv,_⟩:=hR
   rw[hv];cases A with
   | none =>
     refine(Tryz.slices_Clone_string_nil 0 cap w).mono ?_
     rintro e w2 ⟨rfl,rfl⟩
     exact⟨none,0,rfl,OwnT.nil _ _,Below.refl _ _⟩
   | some a =>
     refine(Tryz.slices_Clone_string_zero a cap w).mono ?_
     rintro e w2 ⟨v',rfl,ho,hne,hbl⟩
     obtain⟨A,cap2,rfl,hr⟩:=own_reads v' w2 ho hne
     exact⟨A,cap2,rfl,hr,hbl⟩
end Go.Proofs.YtbgaglcgennhiaaGreatDoor
end
section
namespace Go.Proofs.YtbgaglcgennhiaaGreatDoor
open Go.RowKit Tx Ct
abbrev bm:=Option Addr × Nat × Nat
def sl (q:bm):Value:=.slice q.1 q.2.1 q.2.2
def ReadI (B:Nat) (w:World) (v:Value) (l:List (aZ × bm)):Prop :=
 ∃ A cap,v=.slice A l.length cap∧(0 < l.length→∃ b off,A=some ⟨b,off,none⟩∧b < B∧∀ i p,l[i]?=some p→∀ c u,(gK p.1 (sl p.2))[c]?=some u→w.cell? ⟨b,off+i*6+c,none⟩=some u)∧∀ p∈l,ReadT B w (sl p.2) (ac p.1.groups)
def vB:Value:=.agg #[.string ⟨#[]⟩,.string ⟨#[]⟩,.slice none 0 0,.int .i64 0,.bool false,.bool false]
instance:Inhabited aZ:=⟨⟨[],[],[],0,false,false⟩⟩
end Go.Proofs.YtbgaglcgennhiaaGreatDoor
end
section
namespace Go.Proofs.YtbgaglcgennhiaaGreatDoor
open Go.RowKit Go.Sort Sy Tx Ct
abbrev bq:={p:aZ × bm // p.1.jid.length≤140737488355328}
instance:Inhabited bq:=⟨⟨(⟨[],[],[],0,false,false⟩,none,0,0),Nat.zero_le _⟩⟩
def dO (p:bq):List Value:=gK p.1.1 (sl p.1.2)
theorem encIt_enc:Enc dO 6:=⟨fun _=>rfl,fun x v hv=>by
 unfold dO gK at hv;simp only[List.mem_cons,List.not_mem_nil,or_false] at hv;rcases hv with rfl | rfl | rfl | rfl | rfl | rfl<;>rfl⟩
end Go.Proofs.YtbgaglcgennhiaaGreatDoor
end
section
namespace Go.Proofs.YtbgaglcgennhiaaGreatDoor
open Go.RowKit Pr
set_option maxHeartbeats 2000000 in
theorem sa (c:UInt8) (C:Int) (hC:C=(c.toNat:Int)) (s:ByteArray) (w:World) (hs:s.size≤140737488355328) :
 Calls Tryz.prog 113 #[.string s,.int .u8 C] w fun e w'=>e=.returned (l5 (Jd.cutB c s.data.toList))∧Below w.heap.size w w':=by
 have hsz:=Lib.size_eq s;have HN:=Lib.hid (fun (h:∀ j (h:j < s.size),(s[j]'h)≠c)=>Jd.cutB_none (c:=c) (l:=s.data.toList) (fun hm=>by
  obtain⟨j,hj,hx⟩:=List.getElem_of_mem hm
  exact h j (by omega) hx))
 have HH:=Lib.hid (fun (k:Nat) (hk:k < s.size) (h:∀ j (h:j < k),(s[j]'(Nat.lt_trans h hk))≠c) (h2:s[k]=c)=>iN (c:=c) (l:=s.data.toList) (k:=k) (by omega) (fun j hj=>h j hj) h2);have HCC:=Lib.hid hC;have HSZ:=Lib.hid hsz;clear hsz hC;go_enter Tryz.func113,Tryz.ntmps113
 go_wp2_with fail
 go_loop [7] (fun i=>∃ (k:Nat),k≤s.size∧i=.int .i64 k∧Hid (∀ j (h:j < k) (h2:j < s.size),(s[j]'h2)≠c)) (fun i=>s.size - (intOf i).toNat)
 case atStart=>exact⟨0,Nat.zero_le _,rfl,Lib.hid (fun j h=>absurd h (Nat.not_lt_zero _))⟩
 case round =>
  obtain⟨k,hk,rfl,hno⟩:=hrel
  by_cases hlt:k < s.size
  · by_cases he:s[k]=c
    · have hf:=Lib.hid (HH.out k hlt (fun j hj=>hno.out j hj (by omega)) he)
      have hb:((s[k].toNat:Int)==C)=true:=by rw[HCC.out,he];simp
      have HF:Hid (l5 (Jd.cutB c s.data.toList)=.tuple #[.string (s.extract 0 k),.string (s.extract (k+1) s.size),.bool true]):=by
       have e1:s.extract 0 k=aR (s.data.toList.take k):=aW (by rw[ea];simp);have e2:s.extract (k+1) s.size=aR (s.data.toList.drop (k+1)):=aW (Lib.extract_to_end s (k+1));unfold Hid;rw[hf.out,cM,e1,e2]
      clear hf he
      go_wp2_with fail
      go_region
      all_goals
       go_wp2_with fail
       go_ret3
       exact⟨by rw[HF.out];rfl,(Below.refl _ _).drew⟩
    · have hb:((s[k].toNat:Int)==C)=false:=by
       rw[HCC.out];simp only[beq_eq_false_iff_ne,ne_eq];intro e;exact he (UInt8.toNat_inj.1 (by omega))
      have hno2:Hid (∀ j (h:j < k+1) (h2:j < s.size),(s[j]'h2)≠c):=Lib.hid (fun j hj h2=>by
       rcases Nat.lt_or_ge j k with h | h
       · exact hno.out j h h2
       · obtain rfl:j=k:=by omega
         exact he)
      clear he
      go_wp2_with fail
      go_round
      case rel=>exact⟨k+1,by omega,by go_num,hno2⟩
      case measure=>simp[intOf];omega
  · have hke:k=s.size:=by omega
    have hf:=Lib.hid (HN.out (fun j hj=>hno.out j (by omega) hj));clear hke
    go_wp2_with fail
    go_ret3
    exact⟨by rw[hf.out];rfl,Below.refl _ _⟩
set_option maxHeartbeats 1000000 in
theorem fw (s:ByteArray) (w:World) (hs:s.size≤140737488355328) :
 Calls Tryz.prog 86 #[.string s] w fun e w'=>e=.returned (.string (aR (Jd.dmL s.data.toList)))∧Below w.heap.size w w':=by
 have HC:=Lib.hid (sa 64 64 rfl s w hs);rcases Jd.cutB_cases 64 s.data.toList with ⟨h1,h2⟩ | ⟨p,r,h1,h2,h3⟩
 · have e:Jd.dmL s.data.toList=s.data.toList:=by unfold Jd.dmL;rw[Jd.half_none h2]
   rw[e];rw[h1,cM] at HC;simp only at HC;rw[su] at HC ⊢;clear h1 h2 e;go_enter Tryz.func86,Tryz.ntmps86
   go_wp2_with fail
   refine HC.out.mono ?_;rintro e w1 ⟨rfl,b1⟩
   go_wp2_with fail
   go_ret
   exact⟨rfl,b1⟩
 · have e:Jd.dmL s.data.toList=r:=by unfold Jd.dmL;rw[h1,Jd.half_some h2]
   rw[e];rw[h3,cM] at HC;simp only at HC
   obtain⟨P,hP⟩:∃ P:ByteArray,aR p=P:=⟨_,rfl⟩
   obtain⟨R,hR⟩:∃ R:ByteArray,aR r=R:=⟨_,rfl⟩
   rw[hP,hR] at HC;rw[hR];clear h1 h2 h3 e hP hR;go_enter Tryz.func86,Tryz.ntmps86
   go_wp2_with fail
   refine HC.out.mono ?_;rintro e w1 ⟨rfl,b1⟩
   go_wp2_with fail
   go_ret
   exact⟨rfl,b1⟩
set_option maxHeartbeats 4000000 in
theorem oD (a b:ByteArray) (w:World) (ha:a.size≤140737488355328) (hb:b.size≤140737488355328) :
 Calls Tryz.prog 53 #[.string a,.string b] w fun e w'=>e=.returned (.bool (Jd.lessL a.data.toList b.data.toList))∧Below w.heap.size w w':=by
 have H1:=Lib.hid (fw a w ha);have H2:=Lib.hid (fun W=>fw b W hb);have hl:=Jd.lessL.eq_1 a.data.toList b.data.toList
 obtain⟨x,hx⟩:∃ x,aR (Jd.dmL a.data.toList)=x:=⟨_,rfl⟩
 obtain⟨y,hy⟩:∃ y,aR (Jd.dmL b.data.toList)=y:=⟨_,rfl⟩
 have ex:Jd.dmL a.data.toList=x.data.toList:=by rw[← hx]
 have ey:Jd.dmL b.data.toList=y.data.toList:=by rw[← hy]
 rw[ex,ey] at hl;rw[hx] at H1;rw[hy] at H2;rw[hl];have q1:=d7 x y;have q2:(x.toList==y.toList)=(x.data.toList==y.data.toList):=by rw[br,br]
 have q3:=d7 a b;clear hl hx hy ex ey
 obtain⟨v1,hv1⟩:∃ v,Jd.ltL x.data.toList y.data.toList=v:=⟨_,rfl⟩
 obtain⟨v2,hv2⟩:∃ v,(x.data.toList==y.data.toList)=v:=⟨_,rfl⟩
 obtain⟨v3,hv3⟩:∃ v,Jd.ltL a.data.toList b.data.toList=v:=⟨_,rfl⟩
 rw[hv1] at q1;rw[hv2] at q2;rw[hv3] at q3;rw[hv1,hv2,hv3];clear hv1 hv2 hv3;cases v1<;>cases v2<;>cases v3
 all_goals
  go_enter Tryz.func53,Tryz.ntmps53
  go_wp2_with fail
  refine H1.out.mono ?_;rintro e w1 ⟨rfl,b1⟩;have B1:=Lib.hid b1;clear b1
  go_wp2_with fail
  refine(H2.out w1).mono ?_
  rintro e w2 ⟨rfl,b2⟩;have B2:=Lib.hid (B1.out.trans (b2.mono B1.out.size));clear b2
  go_wp2_with fail
  go_ret
  exact⟨rfl,B2.out⟩
end Go.Proofs.YtbgaglcgennhiaaGreatDoor
end
section
namespace Go.Proofs.YtbgaglcgennhiaaGreatDoor
open Go.RowKit Go.Sort Sy Tx Ct
theorem fc (a b:List UInt8):(Jd.lessL a b=true∧Jd.lessL b a=false∧a≠b)∨(Jd.lessL a b=false∧Jd.lessL b a=true∧a≠b)∨(Jd.lessL a b=false∧Jd.lessL b a=false∧a=b):=by
 unfold Jd.lessL;rcases Jd.lt_tri (Jd.dmL a) (Jd.dmL b) with ⟨h1,h2,h3⟩ | ⟨h1,h2,h3⟩ | ⟨h1,h2,h3⟩
 · have hn:a≠b:=fun e=>h3 (by rw[e])
   have h4:(Jd.dmL b==Jd.dmL a)=false:=by simpa using Ne.symm h3
   left;rw[h1,h2,h4]
   exact⟨rfl,rfl,hn⟩
 · have hn:a≠b:=fun e=>h3 (by rw[e])
   have h4:(Jd.dmL a==Jd.dmL b)=false:=by simpa using h3
   right;left;rw[h1,h2,h4]
   exact⟨rfl,rfl,hn⟩
 · rw[h1,h2,h3]
   simpa using Jd.lt_tri a b
theorem nz {a b c:List UInt8} (h1:Jd.lessL a b=true) (h2:Jd.lessL b c=true):Jd.lessL a c=true:=by
 unfold Jd.lessL at h1 h2 ⊢;simp only[Bool.or_eq_true,Bool.and_eq_true,beq_iff_eq] at h1 h2 ⊢;rcases h1 with h1 | ⟨e1,h1⟩
 · rcases h2 with h2 | ⟨e2,h2⟩
   · exact .inl (Jd.lt_trans _ _ _ h1 h2)
   · exact .inl (by rw[← e2];exact h1)
 · rcases h2 with h2 | ⟨e2,h2⟩
   · exact .inl (by rw[e1];exact h2)
   · exact .inr ⟨e1.trans e2,Jd.lt_trans _ _ _ h1 h2⟩
theorem lessL_weak:Weak Jd.lessL:=by
 refine⟨fun {x y} h=>?_,fun {x z} h y=>?_⟩
 · rcases fc x y with ⟨_,k,_⟩ | ⟨k,_,_⟩ | ⟨k,_,_⟩
   · exact k
   · rw[h] at k;cases k
   · rw[h] at k;cases k
 · rcases fc x y with ⟨k,_,_⟩ | ⟨_,k,_⟩ | ⟨_,_,k⟩
   · exact .inl k
   · exact .inr (nz k h)
   · exact .inr (k ▸ h)
def fq (x y:bq):Bool:=Jd.lessL x.1.1.jid y.1.1.jid
theorem ltI_weak:Weak fq:=⟨fun h=>lessL_weak.asym h,fun h y=>lessL_weak.neg h y.1.1.jid⟩
theorem vr:(Tryz.prog.info? 53).map (fun i=>(i.zero,i.size,i.bytes))=some (some (.agg #[.string ⟨#[]⟩,.string ⟨#[]⟩,.slice none 0 0,.int .i64 0,.bool false,.bool false]),6,72):=by kernel_rfl
def bF (L:List bq):List Value:=L.flatMap dO
theorem fo (x:bq):(dO x).length=6:=rfl
theorem fl:∀ L:List bq,(bF L).length=L.length*6
 | []=>rfl
 | x::L=>by
   have e:bF (x::L)=dO x++bF L:=rfl;rw[e,List.length_append,fo,fl L,List.length_cons];omega
theorem ny:∀ (L:List bq) (i c:Nat),i < L.length→c < 6→(bF L)[i*6+c]?=(dO (L.toArray[i]!))[c]?
 | x::L,0,c,_,hc=>by
   have e:bF (x::L)=dO x++bF L:=rfl;rw[e,Nat.zero_mul,Nat.zero_add,List.getElem?_append_left (by rw[fo];exact hc)];rfl
 | x::L,i+1,c,hi,hc=>by
   have e:bF (x::L)=dO x++bF L:=rfl;rw[e,List.getElem?_append_right (by rw[fo];omega),fo,show (i+1)*6+c - 6=i*6+c by omega,ny L i c (by simpa using hi) hc];have h1:i < L.length:=by simpa using hi
   rw[getElem!_pos _ _ (by simpa using h1),getElem!_pos _ _ (by simpa using hi)]
   simp
theorem ql (L:List bq):∀ u∈bF L,u.oneCell'=true:=fun u hu=>by
 obtain⟨x,_,hx⟩:=List.mem_flatMap.1 hu
 exact encIt_enc.h1 x u hx
def sB (l:List (aZ × bm)) (h:∀ p∈l,p.1.jid.length≤140737488355328):List bq:=l.pmap Subtype.mk h
theorem uP (l:List (aZ × bm)) (h:∀ p∈l,p.1.jid.length≤140737488355328):(sB l h).length=l.length:=List.length_pmap
theorem lE (l:List (aZ × bm)) (h:∀ p∈l,p.1.jid.length≤140737488355328):(sB l h).map (·.1)=l:=by
 unfold sB;rw[List.map_pmap]
 exact(List.pmap_eq_map _).trans (List.map_id _)
end Go.Proofs.YtbgaglcgennhiaaGreatDoor
end
section
namespace Go.Proofs.YtbgaglcgennhiaaGreatDoor
open Go.RowKit Tx Ct
set_option maxHeartbeats 400000 in
theorem nB (A:Option Addr) (cap:Nat) (fv:Value) (w:World):Calls Tryz.prog 169 #[.slice A 0 cap,fv] w fun e w'=>e=.returned (.int .i64 (-1))∧w'=w:=by
 go_enter Tryz.func169,Tryz.ntmps169
 go_wp2_with fail
 refine wp_loop_rounds 1 ?_;rw[rounds_succ]
 go_wp2_with fail
 go_ret
 exact⟨rfl,rfl⟩
def wk (l:List (aZ × bm)) (j:List UInt8) (w:World) (e:Ending) (w':World):Prop :=
 Below w.heap.size w w'∧((l.find? (fun p=>decide (p.1.jid=j))=none∧e=.returned (.tuple #[vB,.bool false])) ∨
  ∃ p,l.find? (fun p=>decide (p.1.jid=j))=some p∧e=.returned (.tuple #[fp p.1 (sl p.2),.bool true]))
theorem p9:∀ {l:List (aZ × bm)} {j:List UInt8} {k:Nat} {p:aZ × bm},l[k]?=some p→p.1.jid=j→(∀ (i:Nat) (q:aZ × bm),i < k→l[i]?=some q→q.1.jid≠j)→l.find? (fun p=>decide (p.1.jid=j))=some p
 | a::l,j,0,p,h,hj,_=>by
   obtain rfl:a=p:=by simpa using h
   rw[List.find?_cons_of_pos (by simpa using hj)]
 | a::l,j,k+1,p,h,hj,hn=>by
   rw[List.find?_cons_of_neg (by simpa using hn 0 a (Nat.succ_pos k) rfl)];exact p9 (k:=k) (by simpa using h) hj (fun i q hi hq=>hn (i+1) q (by omega) (by simpa using hq))
set_option linter.unusedSimpArgs false in
set_option maxHeartbeats 4000000 in
set_option maxRecDepth 100000 in
theorem jI (v:Value) (l:List (aZ × bm)) (j:List UInt8) (w:World) (hR:ReadI w.heap.size w v l) (hl:l.length≤1000000) :
 Calls Tryz.prog 90 #[v,.string (aa j)] w fun e w'=>wk l j w e w':=by
 obtain⟨A,cap,rfl,hA,_⟩:=hR
 obtain⟨W1,hW1⟩:∃ W1,w.alloc (.cells #[.string ⟨#[]⟩,.string ⟨#[]⟩,.slice none 0 0,.int .i64 0,.bool false,.bool false] 53)=W1:=⟨_,rfl⟩
 obtain⟨R,hRR⟩:∃ r,w.heap.size=r:=⟨_,rfl⟩
 have K1:Hid (Bk W1 R 53 #[.string ⟨#[]⟩,.string ⟨#[]⟩,.slice none 0 0,.int .i64 0,.bool false,.bool false]):=by rw[← hW1,← hRR];exact Bk.new _ _ _
 have B1:Hid (Below w.heap.size w W1):=by rw[← hW1];exact(Below.refl _ _).alloc (Nat.le_refl _) _
 have HWR:Hid (w.heap.size≤R):=by rw[← hRR];exact Nat.le_refl _
 obtain⟨n,hn⟩:∃ n,l.length=n:=⟨_,rfl⟩
 have HN:=Lib.hid hn;rw[hn] at hA hl ⊢;have HA:Hid (0 < n→∃ b off,A=some ⟨b,off,none⟩∧∀ i p,l[i]?=some p→∀ c u,(gK p.1 (sl p.2))[c]?=some u→W1.cell? ⟨b,off+i*6+c,none⟩=some u):=fun h0=>by
  obtain⟨b,off,ha,hb,hc⟩:=hA h0
  exact⟨b,off,ha,fun i p hp c u hu=>by rw[B1.out.cell (p:=⟨b,off+i*6+c,none⟩) hb];exact hc i p hp c u hu⟩
 have HJE:Hid (∀ x:aZ,((aa x.jid).toList==(aa j).toList)=decide (x.jid=j)):=fun x=>by
  by_cases h:x.jid=j
  · rw[h,decide_eq_true rfl];simp
  · rw[decide_eq_false h]
    have hne:(aa x.jid).toList≠(aa j).toList:=fun e=>h (by
     have e2:(aa x.jid).data.toList=(aa j).data.toList:=by rw[← ByteArray.toList_eq,← ByteArray.toList_eq,e]
     exact e2)
    simpa using hne
 have HFN:Hid (∀ k p,l[k]?=some p→p.1.jid=j→(∀ (i:Nat) (q:aZ × bm),i < k→l[i]?=some q→q.1.jid≠j)→l.find? (fun p=>decide (p.1.jid=j))=some p):=fun k p=>p9
 have HNO:Hid ((∀ (i:Nat) (q:aZ × bm),i < n→l[i]?=some q→q.1.jid≠j)→l.find? (fun p=>decide (p.1.jid=j))=none):=fun h=>List.find?_eq_none.2 fun p hp=>by
  obtain⟨i,hi,rfl⟩:=List.getElem_of_mem hp
  simpa using h i _ (by omega) (List.getElem?_eq_getElem hi)
 obtain⟨Y,hY⟩:∃ J,aa j=J:=⟨_,rfl⟩
 rw[hY] at HJE ⊢;have HW1:=Lib.hid hW1;have HRR:=Lib.hid hRR;clear hA hn hY hW1 hRR;go_enter Tryz.func90,Tryz.ntmps90
 go_upto_region 1 with fail
 (try rw[HW1.out]);(try rw[HRR.out])
 go_wp2_with fail
 go_loopw [6] (fun iv wr=>∃ k:Nat,k≤n∧iv=.int .i64 k∧Hid (∀ (i:Nat) (q:aZ × bm),i < k→l[i]?=some q→q.1.jid≠j)∧Hid (W1=wr)) (fun iv _=>n - (intOf iv).toNat)
 case atStart=>exact⟨0,Nat.zero_le _,rfl,fun i q hi=>absurd hi (Nat.not_lt_zero _),by first | exact trivial | exact rfl⟩
 case round =>
  obtain⟨k,hk,rfl,HB,HWW⟩:=hrel
  have hww:=HWW.out;clear HWW;subst hww
  by_cases hkn:k < n
  · have hkz:(k:Int) < (n:Int):=by omega
    have hk0:(0:Int)≤(k:Int):=by omega
    obtain⟨b,off,rfl,hc⟩:=HA.out (by omega)
    obtain⟨⟨x,g⟩,hx⟩:∃ p,l[k]?=some p:=⟨_,List.getElem?_eq_getElem (by rw[HN.out];exact hkn)⟩
    obtain⟨P,hP⟩:∃ P,off+k*6=P:=⟨_,rfl⟩
    have hcc:=fun c u hu=>hc k _ hx c u hu
    rw[hP] at hcc;have hje:=HJE.out x;have HX:=Lib.hid hx
    obtain⟨xj,xm,xg,xs,xk,xa⟩:=x
    obtain⟨gA,gn,gc⟩:=g
    have p0:W1.cell? ⟨b,P,none⟩=some (.string (aa xj)):=hcc 0 _ rfl;have p1:W1.cell? ⟨b,P+1,none⟩=some (.string (aa xm)):=hcc 1 _ rfl;have p2:W1.cell? ⟨b,P+2,none⟩=some (.slice gA gn gc):=hcc 2 _ rfl;have p3:W1.cell? ⟨b,P+3,none⟩=some (.int .i64 xs):=hcc 3 _ rfl;have p4:W1.cell? ⟨b,P+4,none⟩=some (.bool xk):=hcc 4 _ rfl;have p5:W1.cell? ⟨b,P+5,none⟩=some (.bool xa):=hcc 5 _ rfl;have HAG:Hid (fp ⟨xj,xm,xg,xs,xk,xa⟩ (sl (gA,gn,gc))=.agg #[.string (aa xj),.string (aa xm),.slice gA gn gc,.int .i64 xs,.bool xk,.bool xa]):=rfl
    obtain⟨X,hX⟩:∃ J,aa xj=J:=⟨_,rfl⟩
    obtain⟨M,hM⟩:∃ J,aa xm=J:=⟨_,rfl⟩
    have hje2:(X.toList==Y.toList)=decide (xj=j):=by rw[← hX];exact hje
    rw[hX] at p0;rw[hM] at p1;rw[hX,hM] at HAG;clear hc hcc hx hje hX hM
    by_cases hq:xj=j
    · rw[decide_eq_true hq] at hje2
      have HF:=Lib.hid (HFN.out k _ HX.out hq HB.out);have r0:∃ u,W1.cell? ⟨R,0,none⟩=some u:=⟨_,K1.out.cell 0⟩;have K5:=Lib.hid (bo K1.out (.string X) (.string M) (.slice gA gn gc) (.int .i64 xs) (.bool xk) (.bool xa));have B5:=Lib.hid (aE B1.out HWR.out (.string X) (.string M) (.slice gA gn gc) (.int .i64 xs) (.bool xk) (.bool xa))
      obtain⟨w5,hw5⟩:∃ z,cF W1 R (.string X) (.string M) (.slice gA gn gc) (.int .i64 xs) (.bool xk) (.bool xa)=z:=⟨_,rfl⟩
      rw[hw5] at K5 B5;clear r0 hq
      obtain⟨u0,r0⟩:∃ u,W1.cell? ⟨R,0,none⟩=some u:=⟨_,K1.out.cell 0⟩
      have g0:W1.frozen? ⟨R,0,none⟩=false:=K1.out.free 0
      obtain⟨u1,r1⟩:∃ u,W1.cell? ⟨R,1,none⟩=some u:=⟨_,K1.out.cell 1⟩
      have g1:W1.frozen? ⟨R,1,none⟩=false:=K1.out.free 1
      obtain⟨u2,r2⟩:∃ u,W1.cell? ⟨R,2,none⟩=some u:=⟨_,K1.out.cell 2⟩
      have g2:W1.frozen? ⟨R,2,none⟩=false:=K1.out.free 2
      obtain⟨u3,r3⟩:∃ u,W1.cell? ⟨R,3,none⟩=some u:=⟨_,K1.out.cell 3⟩
      have g3:W1.frozen? ⟨R,3,none⟩=false:=K1.out.free 3
      obtain⟨u4,r4⟩:∃ u,W1.cell? ⟨R,4,none⟩=some u:=⟨_,K1.out.cell 4⟩
      have g4:W1.frozen? ⟨R,4,none⟩=false:=K1.out.free 4
      obtain⟨u5,r5⟩:∃ u,W1.cell? ⟨R,5,none⟩=some u:=⟨_,K1.out.cell 5⟩
      have g5:W1.frozen? ⟨R,5,none⟩=false:=K1.out.free 5
      go_wp2_with fail
      (try rw[hw5]);have j0:w5.cell? ⟨R,0,none⟩=some (.string X):=K5.out.cell 0;have j1:w5.cell? ⟨R,1,none⟩=some (.string M):=K5.out.cell 1;have j2:w5.cell? ⟨R,2,none⟩=some (.slice gA gn gc):=K5.out.cell 2;have j3:w5.cell? ⟨R,3,none⟩=some (.int .i64 xs):=K5.out.cell 3;have j4:w5.cell? ⟨R,4,none⟩=some (.bool xk):=K5.out.cell 4;have j5:w5.cell? ⟨R,5,none⟩=some (.bool xa):=K5.out.cell 5;refine bodyPost_ret (v:=.tuple #[.agg #[.string X,.string M,.slice gA gn gc,.int .i64 xs,.bool xk,.bool xa],.bool true]) (by simp[results,Tryz.results90,go_sem,j0,j1,j2,j3,j4,j5]) rfl ?_
      exact⟨B5.out,.inr ⟨_,HF.out,by rw[HAG.out]⟩⟩
    · rw[decide_eq_false hq] at hje2
      have HB2:Hid (∀ (i:Nat) (q:aZ × bm),i < k+1→l[i]?=some q→q.1.jid≠j):=fun i q hi h=>by
       rcases Nat.lt_or_ge i k with h1 | h1
       · exact HB.out i q h1 h
       · obtain rfl:i=k:=by omega
         rw[HX.out] at h;obtain rfl:=Option.some.inj h;exact hq
      clear hq
      go_wp2_with fail
      go_roundw
      case rel=>exact⟨k+1,by omega,by go_num,HB2,by first | exact trivial | exact rfl⟩
      case measure=>simp[intOf];omega
  · have hkz:¬ (k:Int) < (n:Int):=by omega
    have HF:=Lib.hid (HNO.out (fun i q hi h=>HB.out i q (by omega) h));have r0:W1.cell? ⟨R,0,none⟩=some (.string ⟨#[]⟩):=K1.out.cell 0;have g0:W1.frozen? ⟨R,0,none⟩=false:=K1.out.free 0;have r1:W1.cell? ⟨R,1,none⟩=some (.string ⟨#[]⟩):=K1.out.cell 1;have g1:W1.frozen? ⟨R,1,none⟩=false:=K1.out.free 1;have r2:W1.cell? ⟨R,2,none⟩=some (.slice none 0 0):=K1.out.cell 2;have g2:W1.frozen? ⟨R,2,none⟩=false:=K1.out.free 2;have r3:W1.cell? ⟨R,3,none⟩=some (.int .i64 0):=K1.out.cell 3;have g3:W1.frozen? ⟨R,3,none⟩=false:=K1.out.free 3;have r4:W1.cell? ⟨R,4,none⟩=some (.bool false):=K1.out.cell 4;have g4:W1.frozen? ⟨R,4,none⟩=false:=K1.out.free 4;have r5:W1.cell? ⟨R,5,none⟩=some (.bool false):=K1.out.cell 5;have g5:W1.frozen? ⟨R,5,none⟩=false:=K1.out.free 5;have R5:=Lib.hid (bo K1.out (.string ⟨#[]⟩) (.string ⟨#[]⟩) (.slice none 0 0) (.int .i64 0) (.bool false) (.bool false));have B5:=Lib.hid (aE B1.out HWR.out (.string ⟨#[]⟩) (.string ⟨#[]⟩) (.slice none 0 0) (.int .i64 0) (.bool false) (.bool false))
    obtain⟨w5,hw5⟩:∃ z,cF W1 R (.string ⟨#[]⟩) (.string ⟨#[]⟩) (.slice none 0 0) (.int .i64 0) (.bool false) (.bool false)=z:=⟨_,rfl⟩
    rw[hw5] at R5 B5
    go_wp2_with fail
    have j0:w5.cell? ⟨R,0,none⟩=some (.string ⟨#[]⟩):=R5.out.cell 0;have j1:w5.cell? ⟨R,1,none⟩=some (.string ⟨#[]⟩):=R5.out.cell 1;have j2:w5.cell? ⟨R,2,none⟩=some (.slice none 0 0):=R5.out.cell 2;have j3:w5.cell? ⟨R,3,none⟩=some (.int .i64 0):=R5.out.cell 3;have j4:w5.cell? ⟨R,4,none⟩=some (.bool false):=R5.out.cell 4;have j5:w5.cell? ⟨R,5,none⟩=some (.bool false):=R5.out.cell 5;refine bodyPost_ret (v:=.tuple #[.agg #[.string ⟨#[]⟩,.string ⟨#[]⟩,.slice none 0 0,.int .i64 0,.bool false,.bool false],.bool false]) (by simp[results,Tryz.results90,go_sem,j0,j1,j2,j3,j4,j5]) rfl ?_
    exact⟨B5.out,.inl ⟨HF.out,rfl⟩⟩
end Go.Proofs.YtbgaglcgennhiaaGreatDoor
end
