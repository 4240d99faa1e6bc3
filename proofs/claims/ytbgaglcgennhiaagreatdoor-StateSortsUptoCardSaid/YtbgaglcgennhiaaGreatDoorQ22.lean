import Derived.Sort.KeysCollected
import Derived.Sort.Walk0
import Derived.Lib.SlicesCompact
import Derived.Shelf.Strings.SlTrimAscii
import Derived.Lib.Case
import Derived.Laws.StructEq
import Derived.Deep.Cut
import Derived.Sort.Grow
import Derived.Test.YtbgaglcgennhiaaGreatDoorQ07
import Derived.Shelf.SlicesE.DeleteFunc
import Derived.IntWalk
import Derived.Lib.ConvBytes
import Derived.Lib.AtoiErrMem
import Derived.Test.YtbgaglcgennhiaaGreatDoorQ17
import Derived.Shelf.SlicesQ.IndexFunc
import Derived.Deep.Upon
import Derived.Deep.MidRow
import Derived.Shelf.SlicesE.Clone
import Derived.Lib.SliceRun
import Derived.Test.YtbgaglcgennhiaaGreatDoorQ21
set_option maxHeartbeats 2000000
namespace Go.Proofs.YtbgaglcgennhiaaGreatDoor
section
open Go.RowKit
abbrev Att:=List UInt8 × List UInt8
abbrev ae (l:List UInt8):ByteArray:=⟨l.toArray⟩
end
section
open Go.RowKit Ct
theorem ReadT.upon {w w':World} {v:Value} {x:List ByteArray} (h:ReadT w.heap.size w v x) (hb:Below w.heap.size w w'):ReadT w'.heap.size w' v x:=(h.below hb).more hb.size
end
namespace Ct
open Go.Proofs.YtbgaglcgennhiaaGreatDoor Tx
theorem jH:∀ {a b:List (List UInt8)},cd a=true->cd b=true->(∀ g,g∈a↔g∈b)->a=b
 |[],[],_,_,_=>rfl
 |[],y::t,_,_,h=>by have:=(h y).2 List.mem_cons_self;cases this
 |x::s,[],_,_,h=>by have:=(h x).1 List.mem_cons_self;cases this
 | x::s,y::t,h1,h2,h=>by
   have hx:=(h x).1 List.mem_cons_self;have hy:=(h y).2 List.mem_cons_self;have e:x=y:=by
    rcases List.mem_cons.1 hx with hx|hx
    ·exact hx
    rcases List.mem_cons.1 hy with hy|hy
    ·exact hy.symm
    have k1:=dO h2 x hx;have k2:=dO h1 y hy;have:=Jd.lt_trans _ _ _ k1 k2;rw[Jd.lt_irr] at this;cases this
   subst e
   congr 1
   refine(jH (eH h1) (eH h2) fun g=>?_);have hg:=h g;constructor
   ·intro k;rcases List.mem_cons.1 (hg.1 (List.mem_cons_of_mem _ k)) with k2|k2
    ·subst k2;have:=dO h1 _ k;rw[Jd.lt_irr] at this;cases this
    ·exact k2
   ·intro k;rcases List.mem_cons.1 (hg.2 (List.mem_cons_of_mem _ k)) with k2|k2
    ·subst k2;have:=dO h2 _ k;rw[Jd.lt_irr] at this;cases this
    ·exact k2
theorem tn {l m:List (List UInt8)} (h1:cd m=true) (h2:∀ g,g∈m↔(g∈l/\g≠[])):m=an l:=by obtain⟨k1,k2⟩:=eL l;exact jH h1 k1 fun g=>(h2 g).trans (k2 g).symm
end Ct
section
open Go.RowKit Tx
def slv (g cap:Nat) (x:Nat × Nat):Value:=.slice (some ⟨g,x.1,none⟩) (x.2-x.1) (cap-x.1)
def Ba (g cap:Nat) (l:List (Nat × Nat)):List Value:=l.map (slv g cap)
attribute [irreducible] Ba
end
section
open Go.RowKit Ct
theorem zY {l:List UInt8}:(ae l).toList.isEmpty=decide (l=[]):=by rw[ByteArray.toList_mk];cases l<;>rfl
end
namespace Ct
open Go.Proofs.YtbgaglcgennhiaaGreatDoor Tx
theorem xq (x y:List UInt8):Jd.ltL x y=true↔x<y:=by unfold Jd.ltL;rw[Go.Proofs.bytesLess_eq,decide_eq_true_eq]
theorem jG:∀ {l:List (List UInt8)},l.Pairwise (fun x y=>Jd.ltL x y=true)->cd l=true
 |[],_=>rfl
 |[_],_=>rfl
 | x::y::t,h=>by obtain⟨h1,h2⟩:=List.pairwise_cons.1 h;show (Jd.ltL x y&&cd (y::t))=true;rw[h1 y List.mem_cons_self,jG h2];rfl
theorem mA {zs:List (List UInt8)}:(zs.mergeSort fun x y=>decide (x<=y)).Pairwise (fun x y=>x<=y):=by
 have tr:∀ a b c:List UInt8,decide (a<=b)=true->decide (b<=c)=true->decide (a<=c)=true:=fun a b c h1 h2=>by simp only[decide_eq_true_eq] at *;exact List.le_trans h1 h2
 have tot:∀ a b:List UInt8,(decide (a<=b)||decide (b<=a))=true:=fun a b=>by simp only[Bool.or_eq_true,decide_eq_true_eq];exact List.le_total a b
 exact(List.pairwise_mergeSort tr tot zs).imp (fun h=>of_decide_eq_true h)
theorem kz {s:List (List UInt8)} (h:s.Pairwise (fun x y=>x<=y)):(Lib.compact s).Pairwise (fun x y=>Jd.ltL x y=true)/\∀ x,x∈Lib.compact s↔x∈s:=by
 have hle:∀ i j,i<=j->j<s.length->s.toArray[i]!<=s.toArray[j]!:=fun i j hij hj=>by
  have hi:i<s.length:=by omega
  rw[getElem!_pos _ i (by simpa using hi),getElem!_pos _ j (by simpa using hj)];rcases Nat.lt_or_eq_of_le hij with h2|h2
  ·have:=List.pairwise_iff_getElem.1 h i j hi hj h2;simpa using this
  ·subst h2;exact List.le_refl _
 constructor
 ·unfold Lib.compact Lib.compactUpTo;rw[List.pairwise_map];have hr:((List.range s.length).filter (Lib.keeps s.toArray)).Pairwise (fun i j=>i<j/\Lib.keeps s.toArray j=true/\j<s.length):=(by refine List.Pairwise.imp_of_mem (R:=fun i j=>i<j) (fun {i j} hi hj hlt=>?_) (List.Pairwise.filter _ List.pairwise_lt_range);obtain⟨k1,k2⟩:=List.mem_filter.1 hj;exact⟨hlt,k2,List.mem_range.1 k1⟩);refine hr.imp (fun {i j} hij=>?_);obtain⟨hlt,hk,hj⟩:=hij;rw[xq];have h1:=hle i j (by omega) hj;rcases List.le_iff_lt_or_eq.1 h1 with h2|h2
  ·exact h2
  ·exfalso;unfold Lib.keeps at hk;rcases of_decide_eq_true hk with k|k
   ·omega
   ·apply k;have a1:=hle i (j-1) (by omega) (by omega);have a2:=hle (j-1) j (by omega) hj;rw[h2] at a1;exact List.le_antisymm a1 a2
 ·intro x;unfold Lib.compact Lib.compactUpTo;rw[List.mem_map];constructor
  ·rintro ⟨i,hi,rfl⟩;have:=List.mem_range.1 (List.mem_filter.1 hi).1;rw[getElem!_pos _ i (by simpa using this)];simp
  ·intro hx;obtain⟨j,hj,rfl⟩:=List.getElem_of_mem hx;have key:∀ j,j<s.length->∃ k,k<s.length/\Lib.keeps s.toArray k=true/\s.toArray[k]! = s.toArray[j]!:=by
    intro j
    induction j with
    |zero=>exact fun hj=>⟨0,hj,bq (.inl rfl),rfl⟩
    | succ j ih=>
      intro hj;by_cases hk:Lib.keeps s.toArray (j+1)=true
      ·exact⟨j+1,hj,hk,rfl⟩
      ·obtain⟨k,k1,k2,k3⟩:=ih (by omega);refine⟨k,k1,k2,k3.trans ?_⟩;unfold Lib.keeps at hk;have h2:=of_decide_eq_false (Bool.eq_false_iff.2 hk);have h3:¬ s.toArray[j+1]!≠s.toArray[j+1-1]!:=(fun e=>h2 (.inr e));exact(Decidable.not_not.1 h3).symm
   obtain⟨k,k1,k2,k3⟩:=key j hj;refine⟨k,List.mem_filter.2 ⟨List.mem_range.2 k1,k2⟩,k3.trans ?_⟩;rw[getElem!_pos _ j (by simpa using hj)];simp
theorem gI (zs:List (List UInt8)):(Lib.compact (zs.mergeSort fun x y=>decide (x<=y))).filter (fun x=>decide (x≠[]))=an zs:=by
 obtain⟨h1,h2⟩:=kz (mA (zs:=zs));refine tn (jG (h1.filter _)) fun g=>?_
 rw[List.mem_filter,h2,List.mem_mergeSort,decide_eq_true_eq]
end Ct
section
open Go.RowKit
theorem OwnT.kept {B:Nat} {w w':World} {v:Value} {x:List ByteArray} (h:OwnT B w v x) (hb:∀ g,v.ownBlock=Option.some g->w'.heap[g]?=w.heap[g]?):OwnT B w' v x:=⟨h.1,h.2.imp id fun ⟨g,cap,cur,k1,k2,k3,k4⟩=>⟨g,cap,cur,k1,k2,(hb g (by rw[k1];rfl)).trans k3,k4⟩⟩
theorem qf (a b:List ByteArray):cX (a++b)=cX a++cX b:=by unfold cX;rw[List.map_append]
theorem aB (a b:List (List UInt8)):al (a++b)=al a++al b:=by unfold al;rw[List.map_append]
end
section
open Go.RowKit Ct
structure But (S:Nat->Prop) (w w':World):Prop where
 os:w'.os=w.os
 tape:w'.tape=w.tape
 output:w'.output=w.output
 size:w.heap.size<=w'.heap.size
 block:∀ k,k<w.heap.size->¬ S k->w'.heap[k]?=w.heap[k]?
theorem But.trans {S:Nat->Prop} {a b c:World} (h:But S a b) (k:But S b c):But S a c:=⟨k.os.trans h.os,k.tape.trans h.tape,k.output.trans h.output,co h.size k.size,fun i hi hs=>(k.block i (Nat.lt_of_lt_of_le hi h.size) hs).trans (h.block i hi hs)⟩
theorem qB (l:List (List UInt8)):(Lib.compact l).length<=l.length:=by unfold Lib.compact Lib.compactUpTo;rw[cr];exact co (List.length_filter_le _ _) (by simp)
theorem OwnT.set {B g o:Nat} {w:World} {v u:Value} {x:List ByteArray} (h:OwnT B w v x) (hg:g<B):OwnT B (w.setCell ⟨g,o,none⟩ u) v x:=h.kept fun j hj=>Below.heap_setCell _ _ _ _ (by have:=(h.low hj).1;show j≠g;omega)
end
section
open Go.RowKit Go.Sort Sy Tx Ct
def sK (x y:ByteArray):Bool:=Jd.ltL x.data.toList y.data.toList
theorem ltL_weak:Weak Jd.ltL:=by
 refine⟨fun {x y} h=>?_,fun {x z} h y=>?_⟩
 ·rcases Jd.lt_tri x y with ⟨_,k,_⟩|⟨k,_,_⟩|⟨k,_,_⟩
  ·exact k
  ·rw[h] at k;cases k
  ·rw[h] at k;cases k
 ·rcases Jd.lt_tri x y with ⟨k,_,_⟩|⟨_,k,_⟩|⟨_,_,k⟩
  ·exact .inl k
  ·exact .inr (Jd.lt_trans y x z k h)
  ·exact .inr (k ▸ h)
theorem wZ:Weak sK:=⟨fun h=>ltL_weak.asym h,fun h y=>ltL_weak.neg h y.data.toList⟩
def Ay (x y:ByteArray):Int:=if sK x y then -1 else if sK y x then 1 else 0
theorem zR (x y:ByteArray):sK x y=decide (Ay x y<0):=by
 unfold Ay;cases sK x y with
 |true=>rfl
 |false=>cases sK y x<;>rfl
theorem ra (x:ByteArray) (w:World):Calls Tryz.prog 276 #[.string x] w fun e w'=>e=.returned (.bool false)/\w'=w:=by
 have hx:(x.toList != x.toList)=false:=by simp
 go_enter Tryz.func276,Tryz.ntmps276;go_wp2_with fail
 go_ret;exact⟨by simp,rfl⟩
theorem ms (x y:ByteArray) (w:World):Calls Tryz.prog 257 #[.string x,.string y] w fun e w'=>e=.returned (.bool (sK x y))/\w'=w:=by
 have H1:=aa (ra x w);have HL:Hid (Op.bytesLess x.toList y.toList=sK x y):=fk x y;go_enter Tryz.func257,Tryz.ntmps257;go_wp2_with (go_at_call 276;refine H1.out.mono ?_;rintro e w' ⟨rfl,rfl⟩)
 go_ret;exact⟨by rw[<-HL.out];rfl,rfl⟩
theorem tU (x y:ByteArray) (w:World) (bx:Nat) (hb:w.cell? ⟨bx,0,none⟩=some (.func (.func 257) #[] #[])):
 Calls Tryz.prog 275 #[.string x,.string y,.pointer (some ⟨bx,0,none⟩)] w fun e w'=>e=.returned (.int .i64 (Ay x y))/\w'=w:=by
 have H1:=aa (ms x y w);have H2:=aa (ms y x w);have hc:Ay x y=if sK x y then -1 else if sK y x then 1 else 0:=rfl;obtain⟨a,ha⟩:=ac (sK x y);obtain⟨b,hb2⟩:=ac (sK y x);rw[ha] at H1 hc;rw[hb2] at H2 hc;have HCC:=aa hc;clear ha hb2 hc;cases a with
 | true=>go_enter Tryz.func275,Tryz.ntmps275;(go_wp2_with (go_at_call 257;refine H1.out.mono ?_;rintro e w' ⟨rfl,rfl⟩));go_ret;exact⟨by rw[HCC.out];rfl,rfl⟩
 | false=>
   cases b with
   | true=>go_enter Tryz.func275,Tryz.ntmps275;(go_wp2_with fail);refine H1.out.mono ?_;rintro e w' ⟨rfl,rfl⟩;(go_wp2_with fail);refine H2.out.mono ?_;rintro e w' ⟨rfl,rfl⟩;(go_wp2_with fail);go_ret;exact⟨by rw[HCC.out];rfl,rfl⟩
   | false=>go_enter Tryz.func275,Tryz.ntmps275;(go_wp2_with fail);refine H1.out.mono ?_;rintro e w' ⟨rfl,rfl⟩;(go_wp2_with fail);refine H2.out.mono ?_;rintro e w' ⟨rfl,rfl⟩;(go_wp2_with fail);go_ret;exact⟨by rw[HCC.out];rfl,rfl⟩
theorem jP (A:Option Addr) (cap:Nat) (fv:Value) (w:World):Calls Tryz.prog 285 #[.slice A 0 cap,.int .i64 0,.int .i64 0,fv] w fun e w'=>e=.returned (.tuple #[])/\w'=w:=by
 go_enter Tryz.func285,Tryz.ntmps285;go_wp2_with fail
 refine wp_loop_rounds 1 ?_;rw[rounds_succ];go_wp2_with fail
 go_end0;exact⟨rfl,rfl⟩
theorem nU (A:Option Addr) (cap:Nat) (fv:Value) (w:World):Calls Tryz.prog 283 #[.slice A 0 cap,.int .i64 0,fv] w fun e w'=>e=.returned (.tuple #[])/\w'=w:=by
 have H:=aa (jP A cap fv w);go_enter Tryz.func283,Tryz.ntmps283;go_wp2_with fail
 refine wp_loop_rounds 1 ?_;rw[rounds_succ];go_wp2_with (go_at_call 285;refine H.out.mono ?_;rintro e w' ⟨rfl,rfl⟩)
 refine wp_loop_rounds 1 ?_;rw[rounds_succ];go_wp2_with fail
 go_end0;exact⟨rfl,rfl⟩
theorem jo (A:Option Addr) (cap:Nat) (fv:Value) (w:World):Calls Tryz.prog 274 #[.slice A 0 cap,fv] w fun e w'=>e=.returned (.tuple #[])/\w'=w:=by
 have H:=aa (nU A cap fv w);go_enter Tryz.func274,Tryz.ntmps274;go_wp2_with fail
 refine H.out.mono ?_;rintro e w' ⟨rfl,rfl⟩;go_wp2_with fail
 go_end0;exact⟨rfl,rfl⟩
theorem oT {α β:Type} (f:α->β) {lt:α->α->Bool} {lt':β->β->Bool} (h:∀ x y,lt' (f x) (f y)=lt x y) (x:α):∀ l:List α,aT lt' (f x) (l.map f)=(aT lt x l).map f
 |[]=>rfl
 | y::l=>by
   simp only[List.map_cons,aT,h];split
   ·rfl
   ·rw[oT f h x l];rfl
theorem dP {α β:Type} (f:α->β) {lt:α->α->Bool} {lt':β->β->Bool} (h:∀ x y,lt' (f x) (f y)=lt x y) (l:List α):af lt' (l.map f)=(af lt l).map f:=by
 suffices g:∀ (l acc:List α),(l.map f).foldl (fun acc x=>aT lt' x acc) (acc.map f)=(l.foldl (fun acc x=>aT lt x acc) acc).map f from g l []
 intro l
 induction l with
 |nil=>intro acc;rfl
 | cons x l ih=>intro acc;simp only[List.map_cons,List.foldl_cons];rw[oT f h x acc];exact ih _
theorem uT (l:List (List UInt8)):af sK (al l)=al (af Jd.ltL l):=dP ae (fun _ _=>rfl) l
theorem pZ (l:List (List UInt8)):af Jd.ltL l=l.mergeSort fun x y=>decide (x<=y):=by have h1:(af Jd.ltL l).Pairwise (fun x y=>x<=y):=(cm ltL_weak l).imp (fun {x y} h=>by rw[<-List.not_lt];intro k;rw[(xq y x).2 k] at h;cases h);have h2:=mA (zs:=l);have hp:(af Jd.ltL l).Perm (l.mergeSort fun x y=>decide (x<=y)):=(bQ l).trans (List.mergeSort_perm l _).symm;exact List.Perm.eq_of_pairwise (fun a b _ _ h1 h2=>List.le_antisymm h1 h2) h1 h2 hp
theorem ReadT.flat {B:Nat} {w:World} {v:Value} {x:List ByteArray} (h:ReadT B w v x) (h0:0<x.length):
 ∃ b off cap,v=.slice (some ⟨b,off,none⟩) x.length cap/\b<B/\∀ j,j<x.length->w.cell? ⟨b,off+j,none⟩=some (.string (x.getD j ByteArray.empty)):=by
 obtain⟨A,cap,rfl,h2⟩:=h;obtain⟨⟨b,off,sp⟩,rfl,hb,hc⟩:=h2 h0;cases sp with
 | none=>refine⟨b,off,cap,rfl,hb,fun j hj=>?_⟩;have:=hc j _ (aQ hj);rw[aS] at this;rw[this,List.getD_eq_getElem?_getD,aQ hj];rfl
 | some s=>
   exfalso;have:=hc 0 _ (aQ h0);unfold World.cell? at this;split at this
   ·have e:((⟨b,off,some s⟩:Addr).add 0).spot.isSome=true:=(by unfold Addr.add;split<;>simp_all);rw[e] at this;simp at this
   ·cases this
def AC (l:List (List UInt8)) (w:World) (e:Ending) (w':World):Prop:=∃ A cap,e=.returned (.slice A l.length cap)/\Below w.heap.size w w'/\(0<l.length->∃ h,A=some ⟨h,0,none⟩/\l.length<=cap/\w.heap.size<=h/\h<w'.heap.size/\Holds encStr w' h 0 (l.mergeSort fun x y=>decide (x<=y)).toArray)
theorem ns (v:Value) (l:List (List UInt8)) (w:World) (hR:ReadT w.heap.size w v (al l)) (hl:l.length<=1000000):
 Calls Tryz.prog 256 #[v,.func (.func 257) #[] #[]] w fun e w'=>AC l w e w':=by
 obtain⟨W1,hW1⟩:=ac (w.alloc (.cells #[.func (.func 257) #[] #[]] 81));obtain⟨bx,hbx⟩:=ac w.heap.size;have K1:Hid (Bk W1 bx 81 #[.func (.func 257) #[] #[]]):=by rw[<-hW1,<-hbx];exact Bk.new _ _ _
 have B1:Hid (Below bx w W1):=by rw[<-hW1,<-hbx];exact bp _ _
 have HW1:=aa hW1;have HBX:=aa hbx;have hbx2:=hbx;have hsz:bx<=W1.heap.size:=by have:=K1.out.lt;omega
 have hll:(al l).length=l.length:=cr _;obtain⟨n,hn⟩:=ac l.length;have HLN:=aa hn;have hR1:ReadT bx W1 v (al l):=(hbx ▸ hR).below B1.out
 -- the copy
 have HC:Hid (Calls Tryz.prog 61 #[v] W1 fun e w2=>∃ A cap,e=.returned (.slice A n cap)/\Below W1.heap.size W1 w2/\(0<n->∃ h,A=some ⟨h,0,none⟩/\n<=cap/\W1.heap.size<=h/\h<w2.heap.size/\St bL 1 w2 h (al l).toArray w2)):=by
  by_cases h0:0<n
  ·obtain⟨b,off,cap,hv,hb,hc⟩:=hR1.flat (by omega);rw[hv];refine(Tryz.slices_Clone_string b off (al l).length cap (al l) W1 (aq _) (by omega) hc).mono ?_;rintro e w2 ⟨v',rfl,ho,hne,hbl⟩;rcases ho.2 with ⟨rfl,_⟩|⟨h,cap2,cur,rfl,hge,hh,hnc,_,hcs,htk⟩
   ·exact absurd rfl hne
   ·refine⟨some ⟨h,0,none⟩,cap2,by rw[hll,hn],hbl,fun _=>⟨h,rfl,by omega,hge,lt_of_block hh,?_⟩⟩;refine⟨⟨rfl,rfl,rfl,aq _,fun _ _ _=>rfl⟩,?_,lt_of_block hh⟩;rw[Nat.mul_one,hll,hn] at htk;have hK:Bk w2 h 9 cur:=hh;intro j hj;have hj2:j<n:=(by rw[size_flatK,Nat.mul_one,List.size_toArray,hll,hn] at hj;exact hj);have hjl:j<(al l).length:=(by omega);have e1:cur[j]?=some (.string (al l)[j]):=(by have h3:(cur.toList.take n)[j]?=some (.string (al l)[j]):=(by rw[htk,List.take_of_length_le (by omega),List.getElem?_map,aQ hjl];rfl);rw[List.getElem?_take,if_pos hj2,Array.getElem?_toList] at h3;exact h3);rw[Nat.zero_add,hK.cell,e1,get_flatK _ _ _ _ (by rw[Nat.mul_one,List.size_toArray];exact hjl),Nat.div_one,Nat.mod_one,getElem!_pos _ j (by simpa using hjl)];exact⟨by simp[bL],hK.free j⟩
  ·have hn0:n=0:=(by omega);obtain⟨A,cap,hv,_⟩:=hR1;rw[hll,hn,hn0] at hv;rw[hv,hn0];cases A with
   | none=>refine(Tryz.slices_Clone_string_nil 0 cap W1).mono ?_;rintro e w2 ⟨rfl,rfl⟩;exact⟨none,0,rfl,aE _ _,fun h=>absurd h (Nat.lt_irrefl _)⟩
   | some a=>
     refine(Tryz.slices_Clone_string_zero a cap W1).mono ?_;rintro e w2 ⟨v',rfl,ho,hne,hbl⟩;rcases ho.2 with ⟨rfl,_⟩|⟨h,cap2,cur,rfl,_⟩
     ·exact absurd rfl hne
     ·exact⟨_,cap2,rfl,hbl,fun h=>absurd h (Nat.lt_irrefl _)⟩
 clear hR hR1 hW1 hbx;unfold AC;rw[hn,hbx2];clear hn;go_enter Tryz.func256,Tryz.ntmps256;go_upto_region 1 with fail
 (try rw[HW1.out]);(try rw[HBX.out]);go_wp2_with fail
 refine HC.out.mono ?_;rintro e w2 ⟨A,cap,rfl,b2,h2⟩;have B2:Hid (Below bx w w2):=B1.out.trans (b2.mono hsz);have H2:=aa h2;have K2:Hid (Bk w2 bx 81 #[.func (.func 257) #[] #[]]):=K1.out.below b2 K1.out.lt;clear b2 h2;by_cases h0:0<n
 ·obtain⟨h,rfl,hnc,hge,hlt,hS⟩:=H2.out h0;have hcmp:od 275 #[.pointer (some ⟨bx,0,none⟩)] Ay w2 h:=(fun D W' S' x y=>by refine((tU x y W' bx ?_).mono fun e w' ⟨he,hw⟩=>⟨he,by rw[hw];exact aE _ _⟩);have hk:=K2.out;have e3:=S'.grown.block bx hk.lt (by intro k;injection k with k;have:=K1.out.lt;omega);have e4:Bk W' bx 81 #[.func (.func 257) #[] #[]]:=e3.trans hk;exact e4.cell 0);have HQ:=aa (jT sK wZ Ay zR 275 #[.pointer (some ⟨bx,0,none⟩)] (enters_of Tryz.func275 (by kernel_rfl) rfl) (al l) n cap w2 w2 h hcmp (by rw[hll,HLN.out]) (by have:=HLN.out;omega) hS);have HG:Hid (W1.heap.size<=h/\h<w2.heap.size/\n<=cap):=⟨hge,hlt,hnc⟩;clear hcmp hS hge hlt hnc H2 HC;(go_wp2_with fail);refine HQ.out.mono ?_;rintro e w3 ⟨rfl,S3⟩;have hB3:Below bx w w3:=B2.out.trans ⟨S3.grown.os,S3.grown.tape,S3.grown.output,S3.grown.size,fun k hk=>S3.grown.block k (Nat.lt_of_lt_of_le hk (co hsz (by have:=HG.out;omega))) (by intro e;injection e with e;have:=HG.out;have:=K1.out.lt;omega)⟩;have HB3:=aa hB3;have HS3:=aa S3;clear S3 hB3;(go_wp2_with fail);go_ret;refine⟨_,cap,rfl,HB3.out,fun _=>⟨h,rfl,HG.out.2.2,by have:=HG.out;omega,HS3.out.ltW,?_⟩⟩;have h4:=HS3.out;rw[uT,pZ] at h4;intro j hj;have hj2:j<(l.mergeSort fun x y=>decide (x<=y)).length:=(by simpa using hj);have h5:=h4.cell j (by rw[List.size_toArray];unfold al;rw[cr];exact hj2);rw[Nat.zero_add];refine⟨h5.1.trans ?_,h5.2⟩;rw[getElem!_pos _ j (by rw[List.size_toArray];unfold al;rw[cr];exact hj2),getElem!_pos _ j hj];simp[encStr,al]
 ·have hn0:n=0:=(by omega);subst hn0;have HQ:=aa (jo A cap (.func (.func 275) #[] #[.pointer (some ⟨bx,0,none⟩)]) w2);clear H2 HC;(go_wp2_with fail);refine HQ.out.mono ?_;rintro e w3 ⟨rfl,rfl⟩;(go_wp2_with fail);go_ret;exact⟨A,cap,rfl,B2.out,fun h=>absurd h (Nat.lt_irrefl _)⟩
theorem iY {w:World} {h:Nat} {x y:List (List UInt8)} (H:Holds encStr w h 0 (x++y).toArray):Holds encStr w h 0 x.toArray:=by
 intro j hj;have hj2:j<x.length:=by simpa using hj
 have h1:=H j (by simp;omega);rw[getElem!_pos _ j (by simp;omega)] at h1;rw[getElem!_pos _ j hj];simpa [List.getElem_append_left hj2] using h1
theorem holds_reads {w:World} {h cap:Nat} {x:List (List UInt8)} (H:Holds encStr w h 0 x.toArray) (hh:h<w.heap.size):ReadT w.heap.size w (.slice (some ⟨h,0,none⟩) x.length cap) (al x):=by
 have hl:(al x).length=x.length:=cr _;refine⟨_,cap,by rw[hl],fun _=>⟨_,rfl,hh,fun i b hi=>?_⟩⟩;obtain⟨y,hy,rfl⟩:∃ y,x[i]?=some y/\b=ae y:=by
  unfold al at hi;rw[List.getElem?_map] at hi;cases e:x[i]? with
  |none=>rw[e] at hi;cases hi
  |some y=>rw[e] at hi;exact⟨y,rfl,(Option.some.inj hi).symm⟩
 have hi2:i<x.length:=(cD hy).1;have h1:=(H i (by simpa using hi2)).1;rw[getElem!_pos _ i (by simpa using hi2)] at h1;rw[aS,h1,<-(cD hy).2];simp[encStr]
theorem iT {B:Nat} {w W:World} (hb:Below B w W) (q h:Nat) (hh:B<=h) (d:Array (List UInt8)):Below B w (putRow encStr (Sort.ahead W q) h 0 d):=by refine⟨hb.os,hb.tape,hb.output,co hb.size (by rw[size_putRow];exact aq _),fun k hk=>(Eq.trans ?_ (hb.block k hk))⟩;unfold putRow mapBlock;show ((Sort.ahead W q).heap.modify h _)[k]?=_;rw[Array.getElem?_modify,if_neg (by omega)];rfl
theorem jy (x:ByteArray) (w:World):Calls Tryz.prog 259 #[.string x] w fun e w'=>e=.returned (.bool (decide (x.data.toList=[])))/\w'=w:=by
 go_enter Tryz.func259,Tryz.ntmps259;go_wp2_with fail
 go_ret;have e:x.toList.isEmpty=decide (x.data.toList=[]):=by rw[ct];cases x.data.toList<;>rfl
 exact⟨by rw[<-e];rfl,rfl⟩
theorem kQ (A:Option Addr) (cap:Nat) (fv:Value) (w:World):Calls Tryz.prog 160 #[.slice A 0 cap,fv] w fun e w'=>e=.returned (.int .i64 (-1))/\w'=w:=by
 go_enter Tryz.func160,Tryz.ntmps160;go_wp2_with fail
 refine wp_loop_rounds 1 ?_;rw[rounds_succ];go_wp2_with fail
 go_ret;exact⟨rfl,rfl⟩
theorem oE (A:Option Addr) (cap:Nat) (fv:Value) (w:World):Calls Tryz.prog 258 #[.slice A 0 cap,fv] w fun e w'=>e=.returned (.slice A 0 cap)/\w'=w:=by
 have H:=aa (kQ A cap fv w);go_enter Tryz.func258,Tryz.ntmps258;go_wp2_with fail
 refine H.out.mono ?_;rintro e w' ⟨rfl,rfl⟩;go_wp2_with fail
 go_ret;exact⟨rfl,rfl⟩
theorem qH:OneCell encStr:=fun _=>rfl
theorem fE (l:List (List UInt8)):(Lib.compact l).length<=l.length:=by unfold Lib.compact Lib.compactUpTo;rw[cr];exact co (List.length_filter_le _ _) (by simp)
theorem oP (v:Value) (l:List (List UInt8)) (w:World) (hR:ReadT w.heap.size w v (al l)) (hl:l.length<=1000000):
 Calls Tryz.prog 234 #[v] w fun e w'=>∃ v',e=.returned v'/\ReadT w'.heap.size w' v' (al (an l))/\Below w.heap.size w w':=by
 have HO:=aa (ns v l w hR hl);have HG:=aa (gI l);obtain⟨n,hn⟩:=ac l.length;have HN:=aa hn;clear hR;go_enter Tryz.func234,Tryz.ntmps234;go_wp2_with fail
 refine HO.out.mono ?_;rintro e w1 ⟨A,cap,rfl,b1,h1⟩;rw[hn] at h1 ⊢;have B1:=aa b1;by_cases h0:0<n
 ·obtain⟨h,rfl,hnc,hge,hlt,hH⟩:=h1 h0;obtain⟨M,hM⟩:∃ M,(l.mergeSort fun x y=>decide (x<=y))=M:=⟨_,rfl⟩;have hMl:M.length=n:=(by rw[<-hM,List.length_mergeSort,hn]);rw[hM] at hH HG;have H2:=Tryz.slices_Compact_string h 0 cap M w1 hH (by omega) (by omega);rw[hMl] at H2;have HC:=aa H2;have HB:Hid (w.heap.size<=h/\h<w1.heap.size/\n<=cap/\M.length=n):=⟨hge,hlt,hnc,hMl⟩;have HH:=aa hH;clear h1 b1 hnc hge hlt hH hM H2 hMl hn HO;(go_wp2_with fail);refine HC.out.mono ?_;rintro e w2 ⟨rfl,q2,hw2⟩;obtain⟨Z,hZ⟩:=ac (Lib.compact M);have hZl:Z.length<=n:=(by rw[<-hZ,<-HB.out.2.2.2];exact fE M);rw[hZ] at hw2 HG ⊢;have hH2:Holds encStr w2 h 0 (Z++List.replicate (n-Z.length) []).toArray:=(by rw[hw2];exact holds_putRow encStr (Sort.ahead w1 q2) h 0 M.toArray _ HH.out (by have:=HB.out.2.2.2;simp;omega));have B2:Hid (Below w.heap.size w w2):=(by rw[hw2];exact iT B1.out q2 h HB.out.1 _);have hs2:w1.heap.size=w2.heap.size:=(by rw[hw2,size_putRow];rfl);have hH3:=aa (iY hH2);have hdel:=AnyE.slices_DeleteFunc Tryz.delStr encStr qH (fun x=>decide (x=[])) 259 #[] (enters_of Tryz.func259 (by kernel_rfl) rfl) [] Tryz.zeroValue9 h 0 cap Z.toArray w2
   (fun W x _=>(jy (ae x) W).mono fun e w' ⟨he,hw⟩=>⟨he,0,hw⟩) (fun m os dk x _=>(jy (ae x) _).mono fun e w' ⟨he,hw⟩=>⟨he,0,hw⟩) hH3.out (by have:=HN.out;simp;omega) (by have:=HB.out;simp;omega)
  have hfl:(Z.filter fun x=>!decide (x=[]))=an l:=by
   rw[<-HG.out]
   congr 1
   funext x
   simp
  simp only[List.size_toArray] at hdel;rw[hfl] at hdel;have HD:=aa hdel;have HS2:Hid (h<w2.heap.size):=(by unfold Hid;rw[<-hs2];exact HB.out.2.1);have HFL:Hid ((an l).length<=Z.length):=(by unfold Hid;rw[<-hfl];exact List.length_filter_le _ _);clear hw2 hZ hH2 hdel hfl hs2 hZl;(go_wp2_with fail);refine HD.out.mono ?_;rintro e w3 ⟨rfl,q3,hw3⟩;have hH4:Holds encStr w3 h 0 (an l++List.replicate (Z.length-(an l).length) []).toArray:=(by rw[hw3];exact holds_putRow encStr (Sort.ahead w2 q3) h 0 Z.toArray _ hH3.out (by have:=HFL.out;simp;omega));have B3:Hid (Below w.heap.size w w3):=(by rw[hw3];exact iT B2.out q3 h HB.out.1 _);have hs3:w2.heap.size=w3.heap.size:=(by rw[hw3,size_putRow];rfl);have HR:=aa (holds_reads (cap:=cap) (iY hH4) (by rw[<-hs3];exact HS2.out));clear hw3 hH4 hs3;(go_wp2_with fail);go_ret;exact⟨_,rfl,HR.out,B3.out⟩
 ·have hn0:n=0:=(by omega);subst hn0;have hl0:l=[]:=eB HN.out;have H2:=aa (Tryz.slices_Compact_string_empty A cap w1);have H3:=aa (oE A cap (.func (.func 259) #[] #[]) w1);clear h1 b1 hn HO;(go_wp2_with fail);refine H2.out.mono ?_;rintro e w2 ⟨rfl,rfl⟩;(go_wp2_with fail);refine H3.out.mono ?_;rintro e w3 ⟨rfl,rfl⟩;(go_wp2_with fail);go_ret;refine⟨_,rfl,?_,B1.out⟩;rw[hl0];exact⟨A,cap,rfl,fun h=>absurd h (by simp[an,al])⟩
end
section
open Go.RowKit Tx
theorem pf (s:ByteArray) (most:Int) (w:World) (hT:Tabs w) (hs:s.size<=140737488355328):
 Calls Tryz.prog 123 #[.string s,.int .i64 most] w fun e w'=>e=.returned (.bool (line s.data.toList most))/\Below w.heap.size w w':=by
 have HW:=aa (mF s w hT hs);cases hch:ch s.data.toList with
 | none=>have HS:=aa (fS hch);rw[i9 hch];clear hch;go_enter Tryz.func123,Tryz.ntmps123;(go_wp2_with (go_at_call 165;refine HW.out.mono ?_;rintro e w1 ⟨rfl,hb⟩;rw[HS.out]));go_ret;exact⟨rfl,hb.alloc hb.size _⟩
 | some x=>
   have HS:=aa (fT hch);rw[dK hch];clear hch;obtain⟨a,ha⟩:=ac x.length;obtain⟨b,hb0⟩:=ac (low x);rw[ha,hb0] at HS;rw[ha,hb0];clear ha hb0;by_cases h0:b=0
   ·subst h0;go_enter Tryz.func123,Tryz.ntmps123;(go_wp2_with (go_at_call 165;refine HW.out.mono ?_;rintro e w1 ⟨rfl,hb⟩;rw[HS.out]));go_ret;exact⟨rfl,hb.alloc hb.size _⟩
   ·have g0:((b:Int)==0)=false:=(by simpa using h0);have g1:(b==0)=false:=(by simpa using h0);go_enter Tryz.func123,Tryz.ntmps123;(go_wp2_with (go_at_call 165;refine HW.out.mono ?_;rintro e w1 ⟨rfl,hb⟩;rw[HS.out]));go_ret;exact⟨by simp[g1],hb.alloc hb.size _⟩
end
section
open Go.RowKit Ct
theorem dE (a b:List UInt8):((ae a).toList==(ae b).toList)=decide (a=b):=by
 rw[ByteArray.toList_mk,ByteArray.toList_mk];by_cases h:a=b
 ·simp[h]
 ·simp[h]
end
namespace Ct
open Go.Proofs.YtbgaglcgennhiaaGreatDoor Tx
theorem tE {t:List UInt8} {n m:Int} (h:line t n=true) (hm:n<=m):line t m=true:=by obtain⟨cs,h1,_,_⟩:=fj h;rw[dK h1] at h ⊢;obtain⟨h2,h3⟩:=Bool.and_eq_true_iff.1 h;have h3:=of_decide_eq_true h3;exact Bool.and_eq_true_iff.2 ⟨h2,bq (by omega)⟩
theorem tp {l:List (List UInt8)} {n:Int} (hl:l.length<=8) (h:∀ g∈l,line g n=true) (hn:n<=100):lo (an l)=true:=by obtain⟨h1,h2⟩:=eL l;unfold lo;simp only[Bool.and_eq_true,decide_eq_true_eq,List.all_eq_true];exact⟨⟨co (kM l) hl,fun g hg=>⟨((h2 g).1 hg).2,tE (h g ((h2 g).1 hg).1) hn⟩⟩,h1⟩
end Ct
section
open Rg Tx
namespace Jd
def nk (l:List UInt8):List Nat:=l.map (·.toNat)
def zc (l:List UInt8):Bool:=l.all fun b=>decide (32<=b.toNat)&&decide (b.toNat<128)
theorem iW:∀ {l:List UInt8},(∀ b∈l,b.toNat<128)->flat (nk l)=l
 |[],_=>cH
 | b::l,h=>by have hb:=h b (List.mem_cons_self ..);have ih:=iW (l:=l) (fun c hc=>h c (List.mem_cons_of_mem _ hc));unfold nk at ih ⊢;rw[List.map_cons,flat_cons,ih,ij (.inl (by omega))];unfold qG;rw[if_pos hb];simp
theorem sI {l:List UInt8} (h:zc l=true):∀ b∈l,32<=b.toNat/\b.toNat<128:=by intro b hb;have:=List.all_eq_true.1 h b hb;simpa using this
theorem Ad {l:List UInt8} (h:zc l=true):ch l=some (nk l):=by have h1:=sI h;have h2:=Pr.ch_fine (l:=nk l) (fun c hc=>by obtain⟨b,hb,rfl⟩:=List.mem_map.1 hc;have:=h1 b hb;exact⟨.inl (by omega),Pr.okc_of (by omega) (by omega)⟩);rw[iW (fun b hb=>(h1 b hb).2)] at h2;exact h2
theorem wW {k:Nat} {l r:List UInt8} (h:zc l=true) (hm:Pr.mapL (k != 3) (nk l)=nk r) (hr:zc r=true) (hw:(nk r).any (Pr.wrong k)=false) (hy:Pr.wayB (nk r)=true):Pr.prepL k l=(r,0):=by rw[Pr.prepL_ch (Ad h),hm,Pr.prepC_kept hw hy,iW (fun b hb=>(sI hr b hb).2)]
def fitB (k:Nat) (b:UInt8):Bool:=decide (32<=b.toNat)&&decide (b.toNat<128)&&(Pr.one (k != 3) b.toNat==[b.toNat])&&!(Pr.wrong k b.toNat)&&!(Pr.rl b.toNat)
theorem kG {k:Nat} {b:UInt8} (h:fitB k b=true):32<=b.toNat/\b.toNat<128/\Pr.one (k != 3) b.toNat=[b.toNat]/\Pr.wrong k b.toNat=false/\Pr.rl b.toNat=false:=by unfold fitB at h;simp only[Bool.and_eq_true,decide_eq_true_eq,beq_iff_eq,Bool.not_eq_true'] at h;exact⟨h.1.1.1.1,h.1.1.1.2,h.1.1.2,h.1.2,h.2⟩
theorem fit_prep {k:Nat} {l:List UInt8} (h:∀ b∈l,fitB k b=true):Pr.prepL k l=(l,0):=by
 refine wW (r:=l) ?_ ?_ ?_ ?_ ?_
 ·exact List.all_eq_true.2 fun b hb=>by have:=kG (h b hb);simp;omega
 ·refine(Pr.mapL_stays fun c hc=>?_);obtain⟨b,hb,rfl⟩:=List.mem_map.1 hc;exact(kG (h b hb)).2.2.1
 ·exact List.all_eq_true.2 fun b hb=>by have:=kG (h b hb);simp;omega
 ·refine(List.any_eq_false.2 fun c hc=>?_);obtain⟨b,hb,rfl⟩:=List.mem_map.1 hc;rw[(kG (h b hb)).2.2.2.1];simp
 ·have:(nk l).any Pr.rl=false:=(List.any_eq_false.2 fun c hc=>by obtain⟨b,hb,rfl⟩:=List.mem_map.1 hc;rw[(kG (h b hb)).2.2.2.2];simp);unfold Pr.wayB;rw[this];rfl
theorem parse_eq {s:List UInt8} {c d:List UInt8 × List UInt8 × Bool} (hc:cutB 47 s=c) (hd:halfL c.1=d):parseL s=three (domL d.2.1) (part d.2.2 1 d.1) (part c.2.2 3 c.2.1):=by subst hc;subst hd;rfl
theorem node_a:part true 1 [97]=([97],0):=by show sizedL 64 (Pr.prepL 1 [97])=_;rw[fit_prep (by decide)];decide
end Jd
end
namespace Ct
open Go.Proofs.YtbgaglcgennhiaaGreatDoor Tx
theorem wl:Jd.domL [104]=([104],0):=Jd.dom_of (Jd.fit_prep (by decide)) (by decide) (by decide) (by decide)
theorem yP:Jd.bareL [97,64,104]=([97,64,104],0):=by
 have h:Jd.parseL [97,64,104]=(([97],[104],[]),0):=by rw[Jd.parse_eq (s:=[97,64,104]) (c:=([97,64,104],[],false)) (d:=([97],[104],true)) (by decide) (by decide)];simp only;rw[wl,Jd.node_a];rfl
 rw[Jd.bare_ok h rfl];rfl
end Ct
section
open Go.RowKit Ct
theorem OwnT.weakT {B B':Nat} {w:World} {v:Value} {x:List ByteArray} (h:OwnT B w v x) (hB:B'<=B):OwnT B' w v x:=⟨h.1,h.2.imp id fun ⟨g,cap,cur,k1,k2,k3⟩=>⟨g,cap,cur,k1,co hB k2,k3⟩⟩
end
namespace Ct
open Go.Proofs.YtbgaglcgennhiaaGreatDoor Tx
theorem oM (l:List (List UInt8)):(an l).length<=l.length:=by rw[<-gI];refine co (List.length_filter_le _ _) (co (qB _) ?_);rw[List.length_mergeSort];exact aq _
end Ct
section
open Go.RowKit Ct

theorem xF (k:Nat) (hk:k<=1000000000) (w:World):Calls Tryz.prog 115 #[.int .i64 k,.int .i64 5] w fun e w'=>e=.returned (.int .i64 ((k % 5:Nat):Int))/\w'=w:=by
 go_enter Tryz.func115,Tryz.ntmps115;go_wp2_with fail
 go_ret;refine⟨?_,rfl⟩;show Ending.returned (.int .i64 ((k:Int) % 5))=_;rw[show ((k % 5:Nat):Int)=(k:Int) % 5 by omega]
def fiveJ:List (List UInt8):=[[97,64,104],[98,64,104],[99,64,104],[100,64,120,46,121],[104]]
def oZ (s:List UInt8) (k:Nat):List UInt8:=if (Jd.bareL s).2=0 then (Jd.bareL s).1 else fiveJ.getD (k % 5) []
theorem py (s:List UInt8) (k:Nat) (hk:k<=1000000000) (w:World) (hs:s.length<=1000000):
 Calls Tryz.prog 89 #[.string (ae s),.int .i64 k] w fun e w'=>e=.returned (.string (ae (oZ s k)))/\Below w.heap.size w w':=by
 have HB:=aa (uk (ae s) w (by rw[bS];show s.length<=_;omega));unfold bY at HB;rw[show (ae s).data.toList=s from rfl] at HB;have HMOD:=aa (fun W=>xF k hk W);have hj:oZ s k=if (Jd.bareL s).2=0 then (Jd.bareL s).1 else fiveJ.getD (k % 5) []:=rfl;obtain⟨r,hr⟩:=ac (Jd.bareL s);rw[hr] at HB hj;obtain⟨j,hjk⟩:=ac (k % 5);have hj5:j<5:=by omega
 rw[hjk] at HMOD hj;obtain⟨X,hX⟩:=ac (ae s);rw[hX] at HB ⊢;by_cases h0:r.2=0
 ·rw[if_pos h0] at hj;rw[h0] at HB;obtain⟨Y,hY⟩:=ac (⟨r.1.toArray⟩:ByteArray);have hyy:ae (oZ s k)=Y:=(by rw[hj];exact hY);rw[hY] at HB;rw[hyy];clear hj hr hX hY hyy h0 hjk hj5;go_enter Tryz.func89,Tryz.ntmps89;(go_wp2_with fail);refine HB.out.mono ?_;rintro e w1 ⟨rfl,b1⟩;(go_wp2_with fail);go_ret;exact⟨rfl,b1⟩
 ·rw[if_neg h0] at hj;have hz:(((r.2:Nat):Int)==0)=false:=(by simpa using h0);obtain⟨Y,hY⟩:=ac (⟨r.1.toArray⟩:ByteArray);rw[hY] at HB;obtain⟨Z,hZ⟩:=ac (ae (oZ s k));have HZ:Hid (ae (fiveJ.getD j [])=Z):=(by unfold Hid;rw[<-hj];exact hZ);rw[hZ];clear hj hr hX hY hZ h0 hjk;go_enter Tryz.func89,Tryz.ntmps89;(go_wp2_with fail);refine HB.out.mono ?_;rintro e w1 ⟨rfl,b1⟩;obtain⟨h,hh⟩:=ac w1.heap.size;obtain⟨W1,hW1⟩:=ac (w1.alloc (.cells #[.string ⟨#[97,64,104]⟩,.string ⟨#[98,64,104]⟩,.string ⟨#[99,64,104]⟩,.string ⟨#[100,64,120,46,121]⟩,.string ⟨#[104]⟩] 9));have k1:Bk W1 h 9 #[.string ⟨#[97,64,104]⟩,.string ⟨#[98,64,104]⟩,.string ⟨#[99,64,104]⟩,.string ⟨#[100,64,120,46,121]⟩,.string ⟨#[104]⟩]:=(by rw[<-hW1,<-hh];exact Bk.new _ _ _);have c1:W1.cell? ⟨h,j,none⟩=some (.string Z):=by
   rw[k1.cell,<-HZ.out]
   match j,hj5 with
   |0,_=>rfl
   |1,_=>rfl
   |2,_=>rfl
   |3,_=>rfl
   |4,_=>rfl
  have BF:Hid (Below w.heap.size w W1):=(by unfold Hid;rw[<-hW1];exact b1.alloc b1.size _);clear k1 b1;(go_wp2_with fail);refine(HMOD.out _).mono ?_;rintro e w2 ⟨rfl,rfl⟩;(go_wp2_with fail);go_ret;exact⟨rfl,BF.out⟩
def aR (l:List (List UInt8)):Nat:=(l.map (fun x=>1+x.length)).sum
theorem qS {l:List (List UInt8)} {k:Nat} {x:List UInt8} (h:l[k]?=some x):aR (l.take (k+1))=aR (l.take k)+1+x.length:=by unfold aR;rw[List.take_add_one,h];simp;omega
theorem oN:∀ (l:List (List UInt8)) (k:Nat),aR (l.take k)<=aR l
 |[],k=>by simp
 |x::t,0=>bI _
 | x::t,k+1=>by have:=oN t k;unfold aR at this ⊢;simp only[List.take_succ_cons,List.map_cons,List.sum_cons];omega
theorem lh (v:Value) (l:List (List UInt8)) (w:World) (hR:ReadT w.heap.size w v (al l)) (hl:l.length<=1000000000) (hs:aR l<=1000000000000):
 Calls Tryz.prog 10 #[v] w fun e w'=>e=.returned (.int .i64 (aR l:Nat))/\w'=w:=by
 obtain⟨A,cap,rfl,hcell⟩:=hR;have hsl:(al l).length=l.length:=by unfold al;rw[cr]
 rw[hsl] at hcell ⊢;obtain⟨n,hn⟩:=ac l.length;have HN:=aa hn;rw[hn] at hcell hl ⊢;have HC:=aa hcell;have HLE:=aa (oN l);have HST:=aa (fun k x (h:l[k]?=some x)=>qS h);have HSS:=aa hs;have h0:Hid (aR (l.take 0)=0):=rfl;clear hcell hn hsl hs;go_enter Tryz.func10,Tryz.ntmps10;go_wp2_with fail
 go_loopw [3,4] (fun sv iv wr=>∃ (k m:Nat),sv=.int .i64 m/\iv=.int .i64 k/\k<=n/\Hid (m=aR (l.take k))/\wr=w) (fun _ iv _=>n-(intOf iv).toNat)
 case atStart=>exact⟨0,0,rfl,rfl,bI _,h0.out.symm,rfl⟩
 case round=>
  obtain⟨k,m,rfl,rfl,hk,HM,rfl⟩:=hrel;have hmb:m<=1000000000000:=by have:=HLE.out k;have:=HSS.out;have:=HM.out;omega
  by_cases hlt:k<n
  ·obtain⟨ad,rfl,hlb,hcell⟩:=HC.out (by omega);obtain⟨x,hx⟩:∃ p,l[k]?=some p:=⟨_,aQ (by rw[HN.out];exact hlt)⟩;have c0:=hcell k (ae x) (by unfold al;rw[List.getElem?_map,hx];rfl);have hnx:=HST.out k x hx;rw[<-HM.out] at hnx;have hle:=HLE.out (k+1);rw[hnx] at hle;have hsz:(ae x).size=x.length:=(by rw[bS]);obtain⟨X,hX⟩:=ac (ae x);rw[hX] at hsz c0;rw[<-hsz] at hnx hle;have hbx:m+1+X.size<=1000000000000:=co hle HSS.out;have HNX:Hid (m+1+X.size=aR (l.take (k+1))):=hnx.symm;clear hcell hx hlb hnx hle hsz hX;(go_wp2_with fail);go_roundw;case rel=>exact⟨k+1,m+1+X.size,by go_num,by go_num,by omega,HNX,trivial⟩
   case measure=>simp[intOf];omega
  ·have hkn:l.take k=l:=List.take_of_length_le (by rw[HN.out];omega);have HE:=HM.out;rw[hkn] at HE;have HEE:=aa HE;clear HE hkn;(go_wp2_with fail);go_ret;exact⟨by rw[<-HEE.out];rfl,rfl⟩
end
end Go.Proofs.YtbgaglcgennhiaaGreatDoor

