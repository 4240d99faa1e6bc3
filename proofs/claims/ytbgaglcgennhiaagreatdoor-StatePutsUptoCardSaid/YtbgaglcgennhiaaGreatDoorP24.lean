import Derived.Test.YtbgaglcgennhiaaGreatDoorP18
import Derived.Sort.Grow
import Derived.Lib.Strings
import Derived.Test.YtbgaglcgennhiaaGreatDoorP06
import Derived.Test.YtbgaglcgennhiaaGreatDoorShelf
import Derived.Shelf.SlicesE.DeleteFunc
import Derived.Test.YtbgaglcgennhiaaGreatDoorP13
import Derived.Test.YtbgaglcgennhiaaGreatDoorP14
import Derived.Lib.Hide
import Derived.Laws.StructEq
import Derived.Lib.SlicesS
import Derived.Deep.RegionWith
import Derived.Deep.Cut
import Derived.Deep.DeepCutAuto
import Derived.IntWalk
import Derived.Deep.QuietTactic
import Derived.BigQuiet
import Derived.Lib.ConvBytes
import Derived.Lib.AtoiErrMem
import Derived.Test.YtbgaglcgennhiaaGreatDoorP19
import Derived.Shelf.SlicesQ.IndexFunc
import Derived.Deep.RegionLaw
import Derived.Deep.Upon
import Derived.Deep.MidRow
import Derived.Shelf.SlicesE.Clone
import Derived.Lib.SliceRun
import Derived.Test.YtbgaglcgennhiaaGreatDoorP23
section
namespace Go.Proofs.YtbgaglcgennhiaaGreatDoor
open Go.RowKit Ct
structure But (S:Nat→Prop) (w w':World):Prop where
 os:w'.os=w.os
 tape:w'.tape=w.tape
 output:w'.output=w.output
 size:w.heap.size≤w'.heap.size
 block:∀ k,k < w.heap.size→¬ S k→w'.heap[k]?=w.heap[k]?
theorem But.trans {S:Nat→Prop} {a b c:World} (h:But S a b) (k:But S b c):But S a c :=
 ⟨k.os.trans h.os,k.tape.trans h.tape,k.output.trans h.output,Nat.le_trans h.size k.size,fun i hi hs=>(k.block i (Nat.lt_of_lt_of_le hi h.size) hs).trans (h.block i hi hs)⟩
theorem pf (l:List (List UInt8)):(Lib.compact l).length≤l.length:=by
 unfold Lib.compact Lib.compactUpTo;rw[List.length_map];exact Nat.le_trans (List.length_filter_le _ _) (by simp)
theorem OwnT.set {B g o:Nat} {w:World} {v u:Value} {x:List ByteArray} (h:OwnT B w v x) (hg:g < B):OwnT B (w.setCell ⟨g,o,none⟩ u) v x :=
 h.kept fun j hj=>Below.heap_setCell _ _ _ _ (by have:=(h.low hj).1;show j≠g;omega)
end Go.Proofs.YtbgaglcgennhiaaGreatDoor
end
section
namespace Go.Proofs.YtbgaglcgennhiaaGreatDoor
open Go.RowKit Go.Sort Sy Tx Ct
def pO (x y:ByteArray):Bool:=Jd.ltL x.data.toList y.data.toList
theorem ltL_weak:Weak Jd.ltL:=by
 refine⟨fun {x y} h=>?_,fun {x z} h y=>?_⟩
 · rcases Jd.lt_tri x y with ⟨_,k,_⟩ | ⟨k,_,_⟩ | ⟨k,_,_⟩
   · exact k
   · rw[h] at k;cases k
   · rw[h] at k;cases k
 · rcases Jd.lt_tri x y with ⟨k,_,_⟩ | ⟨_,k,_⟩ | ⟨_,_,k⟩
   · exact .inl k
   · exact .inr (Jd.lt_trans y x z k h)
   · exact .inr (k ▸ h)
theorem si:Weak pO:=⟨fun h=>ltL_weak.asym h,fun h y=>ltL_weak.neg h y.data.toList⟩
def wE (x y:ByteArray):Int:=if pO x y then -1 else if pO y x then 1 else 0
theorem vT (x y:ByteArray):pO x y=decide (wE x y < 0):=by
 unfold wE;cases pO x y with
 | true=>rfl
 | false=>cases pO y x<;>rfl
theorem pk (x:ByteArray) (w:World):Calls Tryz.prog 276 #[.string x] w fun e w'=>e=.returned (.bool false)∧w'=w:=by
 have hx:(x.toList != x.toList)=false:=by simp
 go_enter Tryz.func276,Tryz.ntmps276
 go_wp2_with fail
 go_ret
 exact⟨by simp,rfl⟩
set_option maxHeartbeats 1000000 in
theorem kE (x y:ByteArray) (w:World):Calls Tryz.prog 257 #[.string x,.string y] w fun e w'=>e=.returned (.bool (pO x y))∧w'=w:=by
 have H1:=Lib.hid (pk x w);have HL:Hid (Op.bytesLess x.toList y.toList=pO x y):=d7 x y;go_enter Tryz.func257,Tryz.ntmps257
 go_wp2_with (go_at_call 276;refine H1.out.mono ?_;rintro e w' ⟨rfl,rfl⟩)
 go_ret
 exact⟨by rw[← HL.out];rfl,rfl⟩
set_option maxHeartbeats 1000000 in
theorem r8 (x y:ByteArray) (w:World) (bx:Nat) (hb:w.cell? ⟨bx,0,none⟩=some (.func (.func 257) #[] #[])) :
 Calls Tryz.prog 275 #[.string x,.string y,.pointer (some ⟨bx,0,none⟩)] w fun e w'=>e=.returned (.int .i64 (wE x y))∧w'=w:=by
 have H1:=Lib.hid (kE x y w);have H2:=Lib.hid (kE y x w);have hc:wE x y=if pO x y then -1 else if pO y x then 1 else 0:=rfl
 obtain⟨a,ha⟩:∃ a,pO x y=a:=⟨_,rfl⟩
 obtain⟨b,hb2⟩:∃ a,pO y x=a:=⟨_,rfl⟩
 rw[ha] at H1 hc;rw[hb2] at H2 hc;have HCC:=Lib.hid hc;clear ha hb2 hc;cases a with
 | true =>
   go_enter Tryz.func275,Tryz.ntmps275
   go_wp2_with (go_at_call 257;refine H1.out.mono ?_;rintro e w' ⟨rfl,rfl⟩)
   go_ret
   exact⟨by rw[HCC.out];rfl,rfl⟩
 | false =>
   cases b with
   | true =>
     go_enter Tryz.func275,Tryz.ntmps275
     go_wp2_with fail
     refine H1.out.mono ?_;rintro e w' ⟨rfl,rfl⟩
     go_wp2_with fail
     refine H2.out.mono ?_;rintro e w' ⟨rfl,rfl⟩
     go_wp2_with fail
     go_ret
     exact⟨by rw[HCC.out];rfl,rfl⟩
   | false =>
     go_enter Tryz.func275,Tryz.ntmps275
     go_wp2_with fail
     refine H1.out.mono ?_;rintro e w' ⟨rfl,rfl⟩
     go_wp2_with fail
     refine H2.out.mono ?_;rintro e w' ⟨rfl,rfl⟩
     go_wp2_with fail
     go_ret
     exact⟨by rw[HCC.out];rfl,rfl⟩
set_option maxHeartbeats 1000000 in
theorem ir (A:Option Addr) (cap:Nat) (fv:Value) (w:World):Calls Tryz.prog 285 #[.slice A 0 cap,.int .i64 0,.int .i64 0,fv] w fun e w'=>e=.returned (.tuple #[])∧w'=w:=by
 go_enter Tryz.func285,Tryz.ntmps285
 go_wp2_with fail
 refine wp_loop_rounds 1 ?_;rw[rounds_succ]
 go_wp2_with fail
 go_end0
 exact⟨rfl,rfl⟩
set_option maxHeartbeats 1000000 in
theorem lP (A:Option Addr) (cap:Nat) (fv:Value) (w:World):Calls Tryz.prog 283 #[.slice A 0 cap,.int .i64 0,fv] w fun e w'=>e=.returned (.tuple #[])∧w'=w:=by
 have H:=Lib.hid (ir A cap fv w);go_enter Tryz.func283,Tryz.ntmps283
 go_wp2_with fail
 refine wp_loop_rounds 1 ?_;rw[rounds_succ]
 go_wp2_with (go_at_call 285;refine H.out.mono ?_;rintro e w' ⟨rfl,rfl⟩)
 refine wp_loop_rounds 1 ?_;rw[rounds_succ]
 go_wp2_with fail
 go_end0
 exact⟨rfl,rfl⟩
set_option maxHeartbeats 1000000 in
theorem gQ (A:Option Addr) (cap:Nat) (fv:Value) (w:World):Calls Tryz.prog 274 #[.slice A 0 cap,fv] w fun e w'=>e=.returned (.tuple #[])∧w'=w:=by
 have H:=Lib.hid (lP A cap fv w);go_enter Tryz.func274,Tryz.ntmps274
 go_wp2_with fail
 refine H.out.mono ?_;rintro e w' ⟨rfl,rfl⟩
 go_wp2_with fail
 go_end0
 exact⟨rfl,rfl⟩
theorem nD {α β:Type} (f:α→β) {lt:α→α→Bool} {lt':β→β→Bool} (h:∀ x y,lt' (f x) (f y)=lt x y) (x:α):∀ l:List α,aS lt' (f x) (l.map f)=(aS lt x l).map f
 | []=>rfl
 | y::l=>by
   simp only[List.map_cons,aS,h]
   split
   · rfl
   · rw[nD f h x l];rfl
theorem kB {α β:Type} (f:α→β) {lt:α→α→Bool} {lt':β→β→Bool} (h:∀ x y,lt' (f x) (f y)=lt x y) (l:List α):an lt' (l.map f)=(an lt l).map f:=by
 suffices g:∀ (l acc:List α),(l.map f).foldl (fun acc x=>aS lt' x acc) (acc.map f)=(l.foldl (fun acc x=>aS lt x acc) acc).map f from g l []
 intro l
 induction l with
 | nil=>intro acc;rfl
 | cons x l ih =>
   intro acc;simp only[List.map_cons,List.foldl_cons];rw[nD f h x acc];exact ih _
theorem rY (l:List (List UInt8)):an pO (ac l)=ac (an Jd.ltL l):=kB aa (fun _ _=>rfl) l
theorem ng (l:List (List UInt8)):an Jd.ltL l=l.mergeSort fun x y=>decide (x≤y):=by
 have h1:(an Jd.ltL l).Pairwise (fun x y=>x≤y):=(cY ltL_weak l).imp (fun {x y} h=>by
  rw[← List.not_lt];intro k;rw[(tT y x).2 k] at h;cases h)
 have h2:=kK (zs:=l);have hp:(an Jd.ltL l).Perm (l.mergeSort fun x y=>decide (x≤y)):=(fD l).trans (List.mergeSort_perm l _).symm;exact List.Perm.eq_of_pairwise (fun a b _ _ h1 h2=>List.le_antisymm h1 h2) h1 h2 hp
theorem ReadT.flat {B:Nat} {w:World} {v:Value} {x:List ByteArray} (h:ReadT B w v x) (h0:0 < x.length) :
 ∃ b off cap,v=.slice (some ⟨b,off,none⟩) x.length cap∧b < B∧∀ j,j < x.length→w.cell? ⟨b,off+j,none⟩=some (.string (x.getD j ByteArray.empty)):=by
 obtain⟨A,cap,rfl,h2⟩:=h
 obtain⟨⟨b,off,sp⟩,rfl,hb,hc⟩:=h2 h0
 cases sp with
 | none =>
   refine⟨b,off,cap,rfl,hb,fun j hj=>?_⟩
   have:=hc j _ (List.getElem?_eq_getElem hj)
   rw[aJ] at this;rw[this,List.getD_eq_getElem?_getD,List.getElem?_eq_getElem hj];rfl
 | some s =>
   exfalso
   have:=hc 0 _ (List.getElem?_eq_getElem h0)
   unfold World.cell? at this
   split at this
   · have e:((⟨b,off,some s⟩:Addr).add 0).spot.isSome=true:=by unfold Addr.add;split<;>simp_all
     rw[e] at this;simp at this
   · cases this
def wG (l:List (List UInt8)) (w:World) (e:Ending) (w':World):Prop :=
 ∃ A cap,e=.returned (.slice A l.length cap)∧Below w.heap.size w w'∧(0 < l.length→∃ h,A=some ⟨h,0,none⟩∧l.length≤cap∧w.heap.size≤h∧h < w'.heap.size∧Holds encStr w' h 0 (l.mergeSort fun x y=>decide (x≤y)).toArray)
set_option maxHeartbeats 2000000 in
theorem lR (v:Value) (l:List (List UInt8)) (w:World) (hR:ReadT w.heap.size w v (ac l)) (hl:l.length≤1000000) :
 Calls Tryz.prog 256 #[v,.func (.func 257) #[] #[]] w fun e w'=>wG l w e w':=by
 obtain⟨W1,hW1⟩:∃ W1,w.alloc (.cells #[.func (.func 257) #[] #[]] 81)=W1:=⟨_,rfl⟩
 obtain⟨bx,hbx⟩:∃ bx,w.heap.size=bx:=⟨_,rfl⟩
 have K1:Hid (Bk W1 bx 81 #[.func (.func 257) #[] #[]]):=by rw[← hW1,← hbx];exact Bk.new _ _ _
 have B1:Hid (Below bx w W1):=by rw[← hW1,← hbx];exact(Below.refl _ _).alloc (Nat.le_refl _) _
 have HW1:=Lib.hid hW1;have HBX:=Lib.hid hbx;have hbx2:=hbx;have hsz:bx≤W1.heap.size:=by have:=K1.out.lt;omega
 have hll:(ac l).length=l.length:=List.length_map _
 obtain⟨n,hn⟩:∃ n,l.length=n:=⟨_,rfl⟩
 have HLN:=Lib.hid hn;have hR1:ReadT bx W1 v (ac l):=(hbx ▸ hR).below B1.out
 -- the copy
 have HC:Hid (Calls Tryz.prog 61 #[v] W1 fun e w2=>∃ A cap,e=.returned (.slice A n cap)∧Below W1.heap.size W1 w2∧(0 < n→∃ h,A=some ⟨h,0,none⟩∧n≤cap∧W1.heap.size≤h∧h < w2.heap.size∧St bB 1 w2 h (ac l).toArray w2)):=by
  by_cases h0:0 < n
  · obtain⟨b,off,cap,hv,hb,hc⟩:=hR1.flat (by omega)
    rw[hv]
    refine(Tryz.slices_Clone_string b off (ac l).length cap (ac l) W1 (Nat.le_refl _) (by omega) hc).mono ?_
    rintro e w2 ⟨v',rfl,ho,hne,hbl⟩;rcases ho.2 with ⟨rfl,_⟩ | ⟨h,cap2,cur,rfl,hge,hh,hnc,_,hcs,htk⟩
    · exact absurd rfl hne
    · refine⟨some ⟨h,0,none⟩,cap2,by rw[hll,hn],hbl,fun _=>⟨h,rfl,by omega,hge,lt_of_block hh,?_⟩⟩
      refine⟨⟨rfl,rfl,rfl,Nat.le_refl _,fun _ _ _=>rfl⟩,?_,lt_of_block hh⟩
      rw[Nat.mul_one,hll,hn] at htk;have hK:Bk w2 h 9 cur:=hh;intro j hj;have hj2:j < n:=by rw[size_flatK,Nat.mul_one,List.size_toArray,hll,hn] at hj;exact hj
      have hjl:j < (ac l).length:=by omega
      have e1:cur[j]?=some (.string (ac l)[j]):=by
       have h3:(cur.toList.take n)[j]?=some (.string (ac l)[j]):=by
        rw[htk,List.take_of_length_le (by omega),List.getElem?_map,List.getElem?_eq_getElem hjl];rfl
       rw[List.getElem?_take,if_pos hj2,Array.getElem?_toList] at h3;exact h3
      rw[Nat.zero_add,hK.cell,e1,get_flatK _ _ _ _ (by rw[Nat.mul_one,List.size_toArray];exact hjl),Nat.div_one,Nat.mod_one,getElem!_pos _ j (by simpa using hjl)]
      exact⟨by simp[bB],hK.free j⟩
  · have hn0:n=0:=by omega
    obtain⟨A,cap,hv,_⟩:=hR1
    rw[hll,hn,hn0] at hv;rw[hv,hn0];cases A with
    | none =>
      refine(Tryz.slices_Clone_string_nil 0 cap W1).mono ?_
      rintro e w2 ⟨rfl,rfl⟩
      exact⟨none,0,rfl,Below.refl _ _,fun h=>absurd h (Nat.lt_irrefl _)⟩
    | some a =>
      refine(Tryz.slices_Clone_string_zero a cap W1).mono ?_
      rintro e w2 ⟨v',rfl,ho,hne,hbl⟩;rcases ho.2 with ⟨rfl,_⟩ | ⟨h,cap2,cur,rfl,_⟩
      · exact absurd rfl hne
      · exact⟨_,cap2,rfl,hbl,fun h=>absurd h (Nat.lt_irrefl _)⟩
 clear hR hR1 hW1 hbx;unfold wG;rw[hn,hbx2];clear hn;go_enter Tryz.func256,Tryz.ntmps256
 go_upto_region 1 with fail
 (try rw[HW1.out]);(try rw[HBX.out])
 go_wp2_with fail
 refine HC.out.mono ?_;rintro e w2 ⟨A,cap,rfl,b2,h2⟩;have B2:Hid (Below bx w w2):=B1.out.trans (b2.mono hsz);have H2:=Lib.hid h2;have K2:Hid (Bk w2 bx 81 #[.func (.func 257) #[] #[]]):=K1.out.below b2 K1.out.lt;clear b2 h2
 by_cases h0:0 < n
 · obtain⟨h,rfl,hnc,hge,hlt,hS⟩:=H2.out h0
   have hcmp:mW 275 #[.pointer (some ⟨bx,0,none⟩)] wE w2 h:=fun D W' S' x y=>by
    refine(r8 x y W' bx ?_).mono fun e w' ⟨he,hw⟩=>⟨he,by rw[hw];exact Below.refl _ _⟩
    have hk:=K2.out;have e3:=S'.grown.block bx hk.lt (by intro k;injection k with k;have:=K1.out.lt;omega);have e4:Bk W' bx 81 #[.func (.func 257) #[] #[]]:=e3.trans hk;exact e4.cell 0
   have HQ:=Lib.hid (iq pO si wE vT 275 #[.pointer (some ⟨bx,0,none⟩)] (Go.Proofs.enters_of Tryz.func275 (by kernel_rfl) rfl) (ac l) n cap w2 w2 h hcmp (by rw[hll,HLN.out]) (by have:=HLN.out;omega) hS);have HG:Hid (W1.heap.size≤h∧h < w2.heap.size∧n≤cap):=⟨hge,hlt,hnc⟩;clear hcmp hS hge hlt hnc H2 HC
   go_wp2_with fail
   refine HQ.out.mono ?_;rintro e w3 ⟨rfl,S3⟩;have hB3:Below bx w w3:=B2.out.trans ⟨S3.grown.os,S3.grown.tape,S3.grown.output,S3.grown.size,fun k hk=>S3.grown.block k (Nat.lt_of_lt_of_le hk (Nat.le_trans hsz (by have:=HG.out;omega))) (by intro e;injection e with e;have:=HG.out;have:=K1.out.lt;omega)⟩;have HB3:=Lib.hid hB3;have HS3:=Lib.hid S3;clear S3 hB3
   go_wp2_with fail
   go_ret
   refine⟨_,cap,rfl,HB3.out,fun _=>⟨h,rfl,HG.out.2.2,by have:=HG.out;omega,HS3.out.ltW,?_⟩⟩
   have h4:=HS3.out;rw[rY,ng] at h4;intro j hj;have hj2:j < (l.mergeSort fun x y=>decide (x≤y)).length:=by simpa using hj
   have h5:=h4.cell j (by rw[List.size_toArray];unfold ac;rw[List.length_map];exact hj2);rw[Nat.zero_add]
   refine⟨h5.1.trans ?_,h5.2⟩
   rw[getElem!_pos _ j (by rw[List.size_toArray];unfold ac;rw[List.length_map];exact hj2),getElem!_pos _ j hj]
   simp[encStr,ac]
 · have hn0:n=0:=by omega
   subst hn0;have HQ:=Lib.hid (gQ A cap (.func (.func 275) #[] #[.pointer (some ⟨bx,0,none⟩)]) w2);clear H2 HC
   go_wp2_with fail
   refine HQ.out.mono ?_;rintro e w3 ⟨rfl,rfl⟩
   go_wp2_with fail
   go_ret
   exact⟨A,cap,rfl,B2.out,fun h=>absurd h (Nat.lt_irrefl _)⟩
end Go.Proofs.YtbgaglcgennhiaaGreatDoor
end
section
namespace Go.Proofs.YtbgaglcgennhiaaGreatDoor
open Go.RowKit Go.Sort Sy Tx Ct
theorem kM {w:World} {h:Nat} {x y:List (List UInt8)} (H:Holds encStr w h 0 (x++y).toArray):Holds encStr w h 0 x.toArray:=by
 intro j hj;have hj2:j < x.length:=by simpa using hj
 have h1:=H j (by simp;omega);rw[getElem!_pos _ j (by simp;omega)] at h1;rw[getElem!_pos _ j hj];simpa [List.getElem_append_left hj2] using h1
theorem holds_reads {w:World} {h cap:Nat} {x:List (List UInt8)} (H:Holds encStr w h 0 x.toArray) (hh:h < w.heap.size):ReadT w.heap.size w (.slice (some ⟨h,0,none⟩) x.length cap) (ac x):=by
 have hl:(ac x).length=x.length:=List.length_map _
 refine⟨_,cap,by rw[hl],fun _=>⟨_,rfl,hh,fun i b hi=>?_⟩⟩
 obtain⟨y,hy,rfl⟩:∃ y,x[i]?=some y∧b=aa y:=by
  unfold ac at hi;rw[List.getElem?_map] at hi;cases e:x[i]? with
  | none=>rw[e] at hi;cases hi
  | some y=>rw[e] at hi;exact⟨y,rfl,(Option.some.inj hi).symm⟩
 have hi2:i < x.length:=(List.getElem?_eq_some_iff.1 hy).1;have h1:=(H i (by simpa using hi2)).1;rw[getElem!_pos _ i (by simpa using hi2)] at h1;rw[aJ,h1,← (List.getElem?_eq_some_iff.1 hy).2]
 simp[encStr]
theorem kS {B:Nat} {w W:World} (hb:Below B w W) (q h:Nat) (hh:B≤h) (d:Array (List UInt8)):Below B w (putRow encStr (Sort.ahead W q) h 0 d):=by
 refine⟨hb.os,hb.tape,hb.output,Nat.le_trans hb.size (by rw[size_putRow];exact Nat.le_refl _),fun k hk=>(Eq.trans ?_ (hb.block k hk))⟩
 unfold putRow mapBlock;show ((Sort.ahead W q).heap.modify h _)[k]?=_;rw[Array.getElem?_modify,if_neg (by omega)];rfl
theorem ik (x:ByteArray) (w:World):Calls Tryz.prog 259 #[.string x] w fun e w'=>e=.returned (.bool (decide (x.data.toList=[])))∧w'=w:=by
 go_enter Tryz.func259,Tryz.ntmps259
 go_wp2_with fail
 go_ret;have e:x.toList.isEmpty=decide (x.data.toList=[]):=by rw[br];cases x.data.toList<;>rfl
 exact⟨by rw[← e];rfl,rfl⟩
set_option maxHeartbeats 1000000 in
theorem ju (A:Option Addr) (cap:Nat) (fv:Value) (w:World):Calls Tryz.prog 160 #[.slice A 0 cap,fv] w fun e w'=>e=.returned (.int .i64 (-1))∧w'=w:=by
 go_enter Tryz.func160,Tryz.ntmps160
 go_wp2_with fail
 refine wp_loop_rounds 1 ?_;rw[rounds_succ]
 go_wp2_with fail
 go_ret
 exact⟨rfl,rfl⟩
set_option maxHeartbeats 1000000 in
theorem nG (A:Option Addr) (cap:Nat) (fv:Value) (w:World):Calls Tryz.prog 258 #[.slice A 0 cap,fv] w fun e w'=>e=.returned (.slice A 0 cap)∧w'=w:=by
 have H:=Lib.hid (ju A cap fv w);go_enter Tryz.func258,Tryz.ntmps258
 go_wp2_with fail
 refine H.out.mono ?_;rintro e w' ⟨rfl,rfl⟩
 go_wp2_with fail
 go_ret
 exact⟨rfl,rfl⟩
theorem oV:OneCell encStr:=fun _=>rfl
theorem ii (l:List (List UInt8)):(Lib.compact l).length≤l.length:=by
 unfold Lib.compact Lib.compactUpTo;rw[List.length_map];exact Nat.le_trans (List.length_filter_le _ _) (by simp)
set_option maxHeartbeats 2000000 in
theorem mQ (v:Value) (l:List (List UInt8)) (w:World) (hR:ReadT w.heap.size w v (ac l)) (hl:l.length≤1000000) :
 Calls Tryz.prog 234 #[v] w fun e w'=>∃ v',e=.returned v'∧ReadT w'.heap.size w' v' (ac (ag l))∧Below w.heap.size w w':=by
 have HO:=Lib.hid (lR v l w hR hl);have HG:=Lib.hid (fC l)
 obtain⟨n,hn⟩:∃ n,l.length=n:=⟨_,rfl⟩
 have HN:=Lib.hid hn;clear hR;go_enter Tryz.func234,Tryz.ntmps234
 go_wp2_with fail
 refine HO.out.mono ?_;rintro e w1 ⟨A,cap,rfl,b1,h1⟩;rw[hn] at h1 ⊢;have B1:=Lib.hid b1
 by_cases h0:0 < n
 · obtain⟨h,rfl,hnc,hge,hlt,hH⟩:=h1 h0
   obtain⟨M,hM⟩:∃ M,(l.mergeSort fun x y=>decide (x≤y))=M:=⟨_,rfl⟩
   have hMl:M.length=n:=by rw[← hM,List.length_mergeSort,hn]
   rw[hM] at hH HG;have H2:=Tryz.slices_Compact_string h 0 cap M w1 hH (by omega) (by omega);rw[hMl] at H2;have HC:=Lib.hid H2;have HB:Hid (w.heap.size≤h∧h < w1.heap.size∧n≤cap∧M.length=n):=⟨hge,hlt,hnc,hMl⟩;have HH:=Lib.hid hH;clear h1 b1 hnc hge hlt hH hM H2 hMl hn HO
   go_wp2_with fail
   refine HC.out.mono ?_;rintro e w2 ⟨rfl,q2,hw2⟩
   obtain⟨Z,hZ⟩:∃ Z,Lib.compact M=Z:=⟨_,rfl⟩
   have hZl:Z.length≤n:=by rw[← hZ,← HB.out.2.2.2];exact ii M
   rw[hZ] at hw2 HG ⊢;have hH2:Holds encStr w2 h 0 (Z++List.replicate (n - Z.length) []).toArray:=by
    rw[hw2];exact holds_putRow encStr (Sort.ahead w1 q2) h 0 M.toArray _ HH.out (by have:=HB.out.2.2.2;simp;omega)
   have B2:Hid (Below w.heap.size w w2):=by rw[hw2];exact kS B1.out q2 h HB.out.1 _
   have hs2:w1.heap.size=w2.heap.size:=by rw[hw2,size_putRow];rfl
   have hH3:=Lib.hid (kM hH2);have hdel:=AnyE.slices_DeleteFunc Tryz.delStr encStr oV (fun x=>decide (x=[])) 259 #[] (Go.Proofs.enters_of Tryz.func259 (by kernel_rfl) rfl) [] Tryz.zeroValue9 h 0 cap Z.toArray w2
    (fun W x _=>(ik (aa x) W).mono fun e w' ⟨he,hw⟩=>⟨he,0,hw⟩) (fun m os dk x _=>(ik (aa x) _).mono fun e w' ⟨he,hw⟩=>⟨he,0,hw⟩) hH3.out (by have:=HN.out;simp;omega) (by have:=HB.out;simp;omega)
   have hfl:(Z.filter fun x=>!decide (x=[]))=ag l:=by
    rw[← HG.out]
    congr 1
    funext x
    simp
   simp only[List.size_toArray] at hdel;rw[hfl] at hdel;have HD:=Lib.hid hdel;have HS2:Hid (h < w2.heap.size):=by unfold Hid;rw[← hs2];exact HB.out.2.1
   have HFL:Hid ((ag l).length≤Z.length):=by unfold Hid;rw[← hfl];exact List.length_filter_le _ _
   clear hw2 hZ hH2 hdel hfl hs2 hZl
   go_wp2_with fail
   refine HD.out.mono ?_;rintro e w3 ⟨rfl,q3,hw3⟩;have hH4:Holds encStr w3 h 0 (ag l++List.replicate (Z.length - (ag l).length) []).toArray:=by
    rw[hw3];exact holds_putRow encStr (Sort.ahead w2 q3) h 0 Z.toArray _ hH3.out (by have:=HFL.out;simp;omega)
   have B3:Hid (Below w.heap.size w w3):=by rw[hw3];exact kS B2.out q3 h HB.out.1 _
   have hs3:w2.heap.size=w3.heap.size:=by rw[hw3,size_putRow];rfl
   have HR:=Lib.hid (holds_reads (cap:=cap) (kM hH4) (by rw[← hs3];exact HS2.out));clear hw3 hH4 hs3
   go_wp2_with fail
   go_ret
   exact⟨_,rfl,HR.out,B3.out⟩
 · have hn0:n=0:=by omega
   subst hn0;have hl0:l=[]:=List.length_eq_zero_iff.1 HN.out;have H2:=Lib.hid (Tryz.slices_Compact_string_empty A cap w1);have H3:=Lib.hid (nG A cap (.func (.func 259) #[] #[]) w1);clear h1 b1 hn HO
   go_wp2_with fail
   refine H2.out.mono ?_;rintro e w2 ⟨rfl,rfl⟩
   go_wp2_with fail
   refine H3.out.mono ?_;rintro e w3 ⟨rfl,rfl⟩
   go_wp2_with fail
   go_ret
   refine⟨_,rfl,?_,B1.out⟩
   rw[hl0]
   exact⟨A,cap,rfl,fun h=>absurd h (by simp[ag,ac])⟩
end Go.Proofs.YtbgaglcgennhiaaGreatDoor
end
section
namespace Go.Proofs.YtbgaglcgennhiaaGreatDoor
open Go.RowKit Tx
set_option maxHeartbeats 400000 in
theorem nk (s:ByteArray) (most:Int) (w:World) (hT:Tabs w) (hs:s.size≤140737488355328) :
 Calls Tryz.prog 123 #[.string s,.int .i64 most] w fun e w'=>e=.returned (.bool (line s.data.toList most))∧Below w.heap.size w w':=by
 have HW:=Lib.hid (ks s w hT hs);cases hch:ch s.data.toList with
 | none =>
   have HS:=Lib.hid (ev hch);rw[gV hch];clear hch;go_enter Tryz.func123,Tryz.ntmps123
   go_wp2_with (go_at_call 165;refine HW.out.mono ?_;rintro e w1 ⟨rfl,hb⟩;rw[HS.out])
   go_ret
   exact⟨rfl,hb.alloc hb.size _⟩
 | some x =>
   have HS:=Lib.hid (eH hch);rw[dP hch];clear hch
   obtain⟨a,ha⟩:∃ a,x.length=a:=⟨_,rfl⟩
   obtain⟨b,hb0⟩:∃ b,low x=b:=⟨_,rfl⟩
   rw[ha,hb0] at HS;rw[ha,hb0];clear ha hb0
   by_cases h0:b=0
   · subst h0
     go_enter Tryz.func123,Tryz.ntmps123
     go_wp2_with (go_at_call 165;refine HW.out.mono ?_;rintro e w1 ⟨rfl,hb⟩;rw[HS.out])
     go_ret
     exact⟨rfl,hb.alloc hb.size _⟩
   · have g0:((b:Int)==0)=false:=by simpa using h0
     have g1:(b==0)=false:=by simpa using h0
     go_enter Tryz.func123,Tryz.ntmps123
     go_wp2_with (go_at_call 165;refine HW.out.mono ?_;rintro e w1 ⟨rfl,hb⟩;rw[HS.out])
     go_ret
     exact⟨by simp[g1],hb.alloc hb.size _⟩
end Go.Proofs.YtbgaglcgennhiaaGreatDoor
end
section
namespace Go.Proofs.YtbgaglcgennhiaaGreatDoor
open Go.RowKit Ct
theorem cP (a b:List UInt8):((aa a).toList==(aa b).toList)=decide (a=b):=by
 rw[ByteArray.toList_mk,ByteArray.toList_mk]
 by_cases h:a=b
 · simp[h]
 · simp[h]
end Go.Proofs.YtbgaglcgennhiaaGreatDoor
end
section
namespace Go.Proofs.YtbgaglcgennhiaaGreatDoor
open Go.RowKit Ct
theorem OwnT.weakT {B B':Nat} {w:World} {v:Value} {x:List ByteArray} (h:OwnT B w v x) (hB:B'≤B):OwnT B' w v x :=
 ⟨h.1,h.2.imp id fun ⟨g,cap,cur,k1,k2,k3⟩=>⟨g,cap,cur,k1,Nat.le_trans hB k2,k3⟩⟩
end Go.Proofs.YtbgaglcgennhiaaGreatDoor
end
section
namespace Go.Proofs.YtbgaglcgennhiaaGreatDoor.Ct
open Go.Proofs.YtbgaglcgennhiaaGreatDoor Tx
theorem nF (l:List (List UInt8)):(ag l).length≤l.length:=by
 rw[← fC];refine Nat.le_trans (List.length_filter_le _ _) (Nat.le_trans (pf _) ?_);rw[List.length_mergeSort];exact Nat.le_refl _
end Go.Proofs.YtbgaglcgennhiaaGreatDoor.Ct
namespace Go.Proofs.YtbgaglcgennhiaaGreatDoor
open Go.RowKit Ct
end Go.Proofs.YtbgaglcgennhiaaGreatDoor
end
section
namespace Go.Proofs.YtbgaglcgennhiaaGreatDoor
open Go.RowKit Ct
set_option maxHeartbeats 1000000 in
theorem sD (k:Nat) (hk:k≤1000000000) (w:World):Calls Tryz.prog 115 #[.int .i64 k,.int .i64 5] w fun e w'=>e=.returned (.int .i64 ((k % 5:Nat):Int))∧w'=w:=by
 go_enter Tryz.func115,Tryz.ntmps115
 go_wp2_with fail
 go_ret
 refine⟨?_,rfl⟩
 show Ending.returned (.int .i64 ((k:Int) % 5))=_;rw[show ((k % 5:Nat):Int)=(k:Int) % 5 by omega]
def fiveJ:List (List UInt8):=[[97,64,104],[98,64,104],[99,64,104],[100,64,120,46,121],[104]]
def mL (s:List UInt8) (k:Nat):List UInt8:=if (Jd.bareL s).2=0 then (Jd.bareL s).1 else fiveJ.getD (k % 5) []
set_option maxHeartbeats 2000000 in
theorem mM (s:List UInt8) (k:Nat) (hk:k≤1000000000) (w:World) (hs:s.length≤1000000) :
 Calls Tryz.prog 89 #[.string (aa s),.int .i64 k] w fun e w'=>e=.returned (.string (aa (mL s k)))∧Below w.heap.size w w':=by
 have HB:=Lib.hid (rD (aa s) w (by rw[Lib.size_eq];show s.length≤_;omega));unfold bM at HB;rw[show (aa s).data.toList=s from rfl] at HB;have HMOD:=Lib.hid (fun W=>sD k hk W);have hj:mL s k=if (Jd.bareL s).2=0 then (Jd.bareL s).1 else fiveJ.getD (k % 5) []:=rfl
 obtain⟨r,hr⟩:∃ r,Jd.bareL s=r:=⟨_,rfl⟩
 rw[hr] at HB hj
 obtain⟨j,hjk⟩:∃ j,k % 5=j:=⟨_,rfl⟩
 have hj5:j < 5:=by omega
 rw[hjk] at HMOD hj
 obtain⟨X,hX⟩:∃ X,aa s=X:=⟨_,rfl⟩
 rw[hX] at HB ⊢
 by_cases h0:r.2=0
 · rw[if_pos h0] at hj
   rw[h0] at HB
   obtain⟨Y,hY⟩:∃ X,(⟨r.1.toArray⟩:ByteArray)=X:=⟨_,rfl⟩
   have hyy:aa (mL s k)=Y:=by rw[hj];exact hY
   rw[hY] at HB;rw[hyy];clear hj hr hX hY hyy h0 hjk hj5;go_enter Tryz.func89,Tryz.ntmps89
   go_wp2_with fail
   refine HB.out.mono ?_;rintro e w1 ⟨rfl,b1⟩
   go_wp2_with fail
   go_ret
   exact⟨rfl,b1⟩
 · rw[if_neg h0] at hj
   have hz:(((r.2:Nat):Int)==0)=false:=by simpa using h0
   obtain⟨Y,hY⟩:∃ X,(⟨r.1.toArray⟩:ByteArray)=X:=⟨_,rfl⟩
   rw[hY] at HB
   obtain⟨Z,hZ⟩:∃ X,aa (mL s k)=X:=⟨_,rfl⟩
   have HZ:Hid (aa (fiveJ.getD j [])=Z):=by unfold Hid;rw[← hj];exact hZ
   rw[hZ];clear hj hr hX hY hZ h0 hjk;go_enter Tryz.func89,Tryz.ntmps89
   go_wp2_with fail
   refine HB.out.mono ?_;rintro e w1 ⟨rfl,b1⟩
   obtain⟨h,hh⟩:∃ h,w1.heap.size=h:=⟨_,rfl⟩
   obtain⟨W1,hW1⟩:∃ W1,w1.alloc (.cells #[.string ⟨#[97,64,104]⟩,.string ⟨#[98,64,104]⟩,.string ⟨#[99,64,104]⟩,.string ⟨#[100,64,120,46,121]⟩,.string ⟨#[104]⟩] 9)=W1:=⟨_,rfl⟩
   have k1:Bk W1 h 9 #[.string ⟨#[97,64,104]⟩,.string ⟨#[98,64,104]⟩,.string ⟨#[99,64,104]⟩,.string ⟨#[100,64,120,46,121]⟩,.string ⟨#[104]⟩]:=by rw[← hW1,← hh];exact Bk.new _ _ _
   have c1:W1.cell? ⟨h,j,none⟩=some (.string Z):=by
    rw[k1.cell,← HZ.out]
    match j,hj5 with
    | 0,_=>rfl
    | 1,_=>rfl
    | 2,_=>rfl
    | 3,_=>rfl
    | 4,_=>rfl
   have BF:Hid (Below w.heap.size w W1):=by unfold Hid;rw[← hW1];exact b1.alloc b1.size _
   clear k1 b1
   go_wp2_with fail
   refine(HMOD.out _).mono ?_
   rintro e w2 ⟨rfl,rfl⟩
   go_wp2_with fail
   go_ret
   exact⟨rfl,BF.out⟩
end Go.Proofs.YtbgaglcgennhiaaGreatDoor
end
section
namespace Go.Proofs.YtbgaglcgennhiaaGreatDoor
open Go.RowKit Ct
def ax (l:List (List UInt8)):Nat:=(l.map (fun x=>1+x.length)).sum
theorem pg {l:List (List UInt8)} {k:Nat} {x:List UInt8} (h:l[k]?=some x):ax (l.take (k+1))=ax (l.take k)+1+x.length:=by
 unfold ax;rw[List.take_add_one,h]
 simp
 omega
theorem mp:∀ (l:List (List UInt8)) (k:Nat),ax (l.take k)≤ax l
 | [],k=>by simp
 | x::t,0=>Nat.zero_le _
 | x::t,k+1=>by
   have:=mp t k
   unfold ax at this ⊢;simp only[List.take_succ_cons,List.map_cons,List.sum_cons];omega
set_option maxHeartbeats 2000000 in
theorem fN (v:Value) (l:List (List UInt8)) (w:World) (hR:ReadT w.heap.size w v (ac l)) (hl:l.length≤1000000000) (hs:ax l≤1000000000000) :
 Calls Tryz.prog 10 #[v] w fun e w'=>e=.returned (.int .i64 (ax l:Nat))∧w'=w:=by
 obtain⟨A,cap,rfl,hcell⟩:=hR
 have hsl:(ac l).length=l.length:=by unfold ac;rw[List.length_map]
 rw[hsl] at hcell ⊢
 obtain⟨n,hn⟩:∃ n,l.length=n:=⟨_,rfl⟩
 have HN:=Lib.hid hn;rw[hn] at hcell hl ⊢;have HC:=Lib.hid hcell;have HLE:=Lib.hid (mp l);have HST:=Lib.hid (fun k x (h:l[k]?=some x)=>pg h);have HSS:=Lib.hid hs;have h0:Hid (ax (l.take 0)=0):=rfl;clear hcell hn hsl hs;go_enter Tryz.func10,Tryz.ntmps10
 go_wp2_with fail
 go_loopw [3,4] (fun sv iv wr=>∃ (k m:Nat),sv=.int .i64 m∧iv=.int .i64 k∧k≤n∧Hid (m=ax (l.take k))∧wr=w) (fun _ iv _=>n - (intOf iv).toNat)
 case atStart=>exact⟨0,0,rfl,rfl,Nat.zero_le _,h0.out.symm,rfl⟩
 case round =>
  obtain⟨k,m,rfl,rfl,hk,HM,rfl⟩:=hrel
  have hmb:m≤1000000000000:=by have:=HLE.out k;have:=HSS.out;have:=HM.out;omega
  by_cases hlt:k < n
  · obtain⟨ad,rfl,hlb,hcell⟩:=HC.out (by omega)
    obtain⟨x,hx⟩:∃ p,l[k]?=some p:=⟨_,List.getElem?_eq_getElem (by rw[HN.out];exact hlt)⟩
    have c0:=hcell k (aa x) (by unfold ac;rw[List.getElem?_map,hx];rfl);have hnx:=HST.out k x hx;rw[← HM.out] at hnx;have hle:=HLE.out (k+1);rw[hnx] at hle;have hsz:(aa x).size=x.length:=by rw[Lib.size_eq]
    obtain⟨X,hX⟩:∃ X,aa x=X:=⟨_,rfl⟩
    rw[hX] at hsz c0;rw[← hsz] at hnx hle;have hbx:m+1+X.size≤1000000000000:=Nat.le_trans hle HSS.out;have HNX:Hid (m+1+X.size=ax (l.take (k+1))):=hnx.symm;clear hcell hx hlb hnx hle hsz hX
    go_wp2_with fail
    go_roundw
    case rel=>exact⟨k+1,m+1+X.size,by go_num,by go_num,by omega,HNX,trivial⟩
    case measure=>simp[intOf];omega
  · have hkn:l.take k=l:=List.take_of_length_le (by rw[HN.out];omega)
    have HE:=HM.out;rw[hkn] at HE;have HEE:=Lib.hid HE;clear HE hkn
    go_wp2_with fail
    go_ret
    exact⟨by rw[← HEE.out];rfl,rfl⟩
end Go.Proofs.YtbgaglcgennhiaaGreatDoor
end
