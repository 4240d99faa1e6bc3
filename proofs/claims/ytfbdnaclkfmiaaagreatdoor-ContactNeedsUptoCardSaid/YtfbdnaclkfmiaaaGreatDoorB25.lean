import Derived.Test.YtfbdnaclkfmiaaaGreatDoorB04
import Derived.Lib.IndexBytes
import Derived.Test.YtfbdnaclkfmiaaaGreatDoorB21
import Derived.Deep.QuietTactic
import Derived.BigQuiet
namespace Go.Proofs.YtfbdnaclkfmiaaaGreatDoor
open Go.RowKit Tx
def Asc (C:ByteArray):Prop:=∀ i (h:i < C.size),(C[i]'h).toNat < 128
theorem Asc.all {C:ByteArray} (h:Asc C):∀ b∈C.data.toList,b.toNat < 128:=fun b hb=>by
  obtain⟨i,hi,e⟩:=List.mem_iff_getElem.1 hb
  have hi2:i < C.size:=by rw[Lib.size_eq];exact hi
  have h2:=Lib.data_getElem? C i hi2
  rw[List.getElem?_eq_getElem hi,e] at h2
  have:=h i hi2
  rwa [← Option.some.inj h2] at this
theorem Asc.of {C:ByteArray} (h:C.data.toList.all (fun b=>decide (b.toNat < 128))=true):Asc C:=fun i hi=>of_decide_eq_true (List.all_eq_true.1 h _ (List.mem_of_getElem? (Lib.data_getElem? C i hi)))
theorem asc_ne {C:ByteArray} (h:2≤C.size):C.toList.isEmpty=false:=by
  have e:C.toList=C.data.toList:=by
    conv=>lhs;rw[show C=⟨C.data.toList.toArray⟩ from rfl,ByteArray.toList_mk]
  rw[e]
  have h2:=Lib.size_eq C
  cases hl:C.data.toList with
  | nil=>rw[hl,List.length_nil] at h2;omega
  | cons a t=>rfl
theorem enc_lasts {c:Nat} (h:sane c) (h1:128≤c):∃ (E:ByteArray) (n:Nat),Utf8.encode (c:Int)=E∧E.size=n∧(n=2∨n=3∨n=4)∧∀ k (h:k < E.size),128≤(E[k]'h).toNat:=by
  have hm:=enc_model c
  obtain⟨E,hE⟩:∃ E,Utf8.encode (c:Int)=E:=⟨_,rfl⟩
  refine⟨E,?_⟩
  rw[hE] at hm
  have hsz:=Lib.size_eq E
  have hget:∀ k (h:k < E.size),E[k]'h∈E.data.toList:=fun k h=>List.mem_of_getElem? (Lib.data_getElem? E k h)
  have h0:=h
  unfold sane at h
  have hall:∀ b∈enc c,128≤b.toNat:=by
    intro b hb
    rcases enc_cases (n:=c) h0 with ⟨a,e⟩ | ⟨a,b',e⟩ | ⟨a,b',e⟩ | ⟨a,b',e⟩
    · omega
    · rw[e] at hb
      simp only[List.mem_cons,List.not_mem_nil,or_false] at hb
      rcases hb with rfl | rfl<;>(rw[toNat_of _ (by omega)];omega)
    · rw[e] at hb
      simp only[List.mem_cons,List.not_mem_nil,or_false] at hb
      rcases hb with rfl | rfl | rfl<;>(rw[toNat_of _ (by omega)];omega)
    · rw[e] at hb
      simp only[List.mem_cons,List.not_mem_nil,or_false] at hb
      rcases hb with rfl | rfl | rfl | rfl<;>(rw[toNat_of _ (by omega)];omega)
  refine⟨(enc c).length,hE,by rw[hsz,hm],?_,fun k hk=>hall _ (by rw[← hm];exact hget k hk)⟩
  rcases enc_cases (n:=c) h0 with ⟨a,e⟩ | ⟨a,b',e⟩ | ⟨a,b',e⟩ | ⟨a,b',e⟩
  · omega
  · rw[e];exact .inl rfl
  · rw[e];exact .inr (.inl rfl)
  · rw[e];exact .inr (.inr rfl)
theorem byte_none {l:List UInt8} {y:Int} (h:128≤y) (hy:y < 256) (hl:∀ b∈l,b.toNat < 128):Lib.indexByte l y.toNat.toUInt8=-1:=by
  induction l with
  | nil=>rfl
  | cons b t ih =>
    have hb:=hl b (by simp)
    have hne:b≠y.toNat.toUInt8:=by
      intro e
      rw[e] at hb
      have:y.toNat.toUInt8.toNat=y.toNat:=by simp;omega
      omega
    unfold Lib.indexByte
    rw[ih (fun c hc=>hl c (by simp[hc]))]
    simp[hne]
theorem noAny_manyG {C l:List UInt8} {i n:Nat} (hC:∀ b∈C,b.toNat < 128) (h:Lib.NoAny l C i) (hb:∀ j,j < n→128≤bt (l.drop i) j):Lib.NoAny l C (i+n):=by
  intro j b hj hjb
  rcases Nat.lt_or_ge j i with h1 | h1
  · exact h j b h1 hjb
  · have:=hb (j - i) (by omega)
    rw[bt_def,List.getD_eq_getElem?_getD,List.getElem?_drop,show i+(j - i)=j by omega,hjb] at this
    have hb2:128≤b.toNat:=this
    cases hin:C.contains b with
    | false=>rfl
    | true=>have:=hC b (by simpa using hin);omega
theorem below_drewQ {B:Nat} {w w':World} (h:Below B w w') (n:Nat):Below B w (w'.drewN n):=⟨h.os,h.tape,h.output,h.size,h.block⟩
set_option maxHeartbeats 2000000 in
set_option maxRecDepth 100000 in
theorem irune_badG (C:ByteArray) (hC:Asc C) (w:World):Calls Tryz.prog 255 #[.string C,.int .i32 65533] w fun e w'=>e=.returned (.int .i64 (-1))∧Below w.heap.size w w':=by
  have HC:=Lib.hid hC
  clear hC
  go_enter Tryz.func255,Tryz.ntmps255
  go_wp2_with fail
  obtain⟨N,hN⟩:∃ N,C.size=N:=⟨_,rfl⟩
  go_loopg [5,6] N (fun g _ _ wx=>∃ i:Nat,i+g=N∧wx=w.iter C i)
  case atStart=>exact⟨0,by omega,rfl⟩
  case round =>
    obtain⟨i,hig,rfl⟩:=hrel
    cases gk with
    | zero =>
      obtain rfl:i=N:=by omega
      have hnx:=fun ty=>run_next_end (P:=Tryz.prog) w C i ty (by omega)
      go_wp2_with fail
      go_ret
      exact⟨rfl,(Below.refl _ _).alloc (Nat.le_refl _) _⟩
    | succ g =>
      have hi:i < C.size:=by omega
      have hc:=HC.out i hi
      obtain⟨y,hy⟩:∃ y:Int,((C[i]'hi).toNat:Int)=y:=⟨_,rfl⟩
      have hnx:=fun ty=>run_next_ascii (P:=Tryz.prog) w C i ty hi hc
      have hne:(y==65533)=false:=by simp;omega
      rw[hy] at hnx
      clear hy hc
      go_wp2_with fail
      go_roundg g
      case measure=>omega
      case rel=>exact⟨i+1,by omega,rfl⟩
set_option maxHeartbeats 2000000 in
set_option maxRecDepth 100000 in
theorem irune_highG (C:ByteArray) (hC:Asc C) (hn8:C.size≤100) (c:Nat) (w:World) (h1:128≤c) (hs:sane c):Calls Tryz.prog 255 #[.string C,.int .i32 c] w fun e w'=>e=.returned (.int .i64 (-1))∧Below w.heap.size w w':=by
  by_cases hbad:c=65533
  · subst hbad;exact irune_badG C hC w
  have HC:=Lib.hid hC
  have HA:=Lib.hid hC.all
  clear hC
  obtain⟨E,n,hE,hn,hn2,hlast⟩:=enc_lasts hs h1
  obtain⟨z,hz⟩:∃ z:Int,(c:Int)=z:=⟨_,rfl⟩
  have hvr:Lib.validRune z=true:=by
    unfold Lib.validRune
    unfold sane at hs
    exact decide_eq_true (by omega)
  have z0:128≤z:=by omega
  have f1:(z==65533)=false:=by simp;omega
  rw[hz] at hE ⊢
  have HV:=Lib.hid (fun (W:World)=>Tryz.utf8_ValidRune z W)
  rw[hvr] at HV
  have HL:=Lib.hid hlast
  clear hs hz h1 hbad hvr hlast
  rcases hn2 with rfl | rfl | rfl
  · obtain⟨y,hy⟩:∃ y:Int,((E[1]'(by omega)).toNat:Int)=y:=⟨_,rfl⟩
    have y0:128≤y:=by have:=HL.out 1 (by omega);omega
    have y1:y < 256:=by have:=UInt8.toNat_lt (E[1]'(by omega));omega
    have HI:Hid (∀ W:World,Calls Tryz.prog 275 #[.string (C.extract 2 C.size),.int .u8 y] W fun e w'=>e=.returned (.int .i64 (-1))∧w'=W):=fun W=>by
      have h:=Tryz.strings_IndexByte (C.extract 2 C.size) y W
      rw[byte_none y0 y1 (fun b hb=>HA.out b (by rw[Lib.extract_to_end] at hb;exact List.mem_of_mem_drop hb))] at h
      exact h
    clear HA
    by_cases hlt:1 < C.size
    · have hlti:(2:Int)≤(C.size:Int):=by omega
      have hltn:2≤C.size:=hlt
      have x0:=HC.out 1 hlt
      obtain⟨x,hx⟩:∃ x:Int,((C[1]'hlt).toNat:Int)=x:=⟨_,rfl⟩
      have fne:(x != y)=true:=by simp;omega
      clear x0
      go_enter Tryz.func255,Tryz.ntmps255
      go_wp2_with (go_at_call 276;refine(HV.out _).mono ?_;rintro e w1 ⟨rfl,rfl⟩)
      refine wp_scope_straight ?_
      go_wp2_with fail
      go_loopw [9,10] (fun i f wr=>i=.int .i64 1∧f=.int .i64 0∧Below w1.heap.size w1 wr) (fun _ _ _=>0)
      case atStart=>exact⟨rfl,rfl,Below.refl _ _⟩
      case round =>
        obtain⟨rfl,rfl,hb⟩:=hrel
        go_wp2_with fail
        refine wp_scope_straight ?_
        go_wp2_with fail
        go_quiet (fail)
        go_wp2_with fail
        go_quiet ((go_at_call 275;exact(HI.out _).mono (fun _ _ h=>⟨h.1,_,h.2⟩)))
        go_wp2_with fail
        simp(config:={ zetaDelta:=true }) only[Exit.noGoto,Exit.inBlock,Exit.then]
        go_ret
        exact⟨rfl,below_drewQ hb _⟩
    · clear HI
      go_enter Tryz.func255,Tryz.ntmps255
      go_wp2_with (go_at_call 276;refine(HV.out _).mono ?_;rintro e w1 ⟨rfl,rfl⟩)
      refine wp_scope_straight ?_
      go_wp2_with fail
      go_loop [9,10] (fun i f=>i=.int .i64 1∧f=.int .i64 0) (fun _ _=>0)
      case atStart=>exact⟨rfl,rfl⟩
      case round =>
        obtain⟨rfl,rfl⟩:=hrel
        go_wp2_with fail
        go_ret
        exact⟨rfl,Below.refl _ _⟩
  · obtain⟨y,hy⟩:∃ y:Int,((E[2]'(by omega)).toNat:Int)=y:=⟨_,rfl⟩
    have y0:128≤y:=by have:=HL.out 2 (by omega);omega
    have y1:y < 256:=by have:=UInt8.toNat_lt (E[2]'(by omega));omega
    have HI:Hid (∀ W:World,Calls Tryz.prog 275 #[.string (C.extract 3 C.size),.int .u8 y] W fun e w'=>e=.returned (.int .i64 (-1))∧w'=W):=fun W=>by
      have h:=Tryz.strings_IndexByte (C.extract 3 C.size) y W
      rw[byte_none y0 y1 (fun b hb=>HA.out b (by rw[Lib.extract_to_end] at hb;exact List.mem_of_mem_drop hb))] at h
      exact h
    clear HA
    by_cases hlt:2 < C.size
    · have hlti:(3:Int)≤(C.size:Int):=by omega
      have hltn:3≤C.size:=hlt
      have x0:=HC.out 2 hlt
      obtain⟨x,hx⟩:∃ x:Int,((C[2]'hlt).toNat:Int)=x:=⟨_,rfl⟩
      have fne:(x != y)=true:=by simp;omega
      clear x0
      go_enter Tryz.func255,Tryz.ntmps255
      go_wp2_with (go_at_call 276;refine(HV.out _).mono ?_;rintro e w1 ⟨rfl,rfl⟩)
      refine wp_scope_straight ?_
      go_wp2_with fail
      go_loopw [9,10] (fun i f wr=>i=.int .i64 2∧f=.int .i64 0∧Below w1.heap.size w1 wr) (fun _ _ _=>0)
      case atStart=>exact⟨rfl,rfl,Below.refl _ _⟩
      case round =>
        obtain⟨rfl,rfl,hb⟩:=hrel
        go_wp2_with fail
        refine wp_scope_straight ?_
        go_wp2_with fail
        go_quiet (fail)
        go_wp2_with fail
        go_quiet ((go_at_call 275;exact(HI.out _).mono (fun _ _ h=>⟨h.1,_,h.2⟩)))
        go_wp2_with fail
        simp(config:={ zetaDelta:=true }) only[Exit.noGoto,Exit.inBlock,Exit.then]
        go_ret
        exact⟨rfl,below_drewQ hb _⟩
    · clear HI
      go_enter Tryz.func255,Tryz.ntmps255
      go_wp2_with (go_at_call 276;refine(HV.out _).mono ?_;rintro e w1 ⟨rfl,rfl⟩)
      refine wp_scope_straight ?_
      go_wp2_with fail
      go_loop [9,10] (fun i f=>i=.int .i64 2∧f=.int .i64 0) (fun _ _=>0)
      case atStart=>exact⟨rfl,rfl⟩
      case round =>
        obtain⟨rfl,rfl⟩:=hrel
        go_wp2_with fail
        go_ret
        exact⟨rfl,Below.refl _ _⟩
  · obtain⟨y,hy⟩:∃ y:Int,((E[3]'(by omega)).toNat:Int)=y:=⟨_,rfl⟩
    have y0:128≤y:=by have:=HL.out 3 (by omega);omega
    have y1:y < 256:=by have:=UInt8.toNat_lt (E[3]'(by omega));omega
    have HI:Hid (∀ W:World,Calls Tryz.prog 275 #[.string (C.extract 4 C.size),.int .u8 y] W fun e w'=>e=.returned (.int .i64 (-1))∧w'=W):=fun W=>by
      have h:=Tryz.strings_IndexByte (C.extract 4 C.size) y W
      rw[byte_none y0 y1 (fun b hb=>HA.out b (by rw[Lib.extract_to_end] at hb;exact List.mem_of_mem_drop hb))] at h
      exact h
    clear HA
    by_cases hlt:3 < C.size
    · have hlti:(4:Int)≤(C.size:Int):=by omega
      have hltn:4≤C.size:=hlt
      have x0:=HC.out 3 hlt
      obtain⟨x,hx⟩:∃ x:Int,((C[3]'hlt).toNat:Int)=x:=⟨_,rfl⟩
      have fne:(x != y)=true:=by simp;omega
      clear x0
      go_enter Tryz.func255,Tryz.ntmps255
      go_wp2_with (go_at_call 276;refine(HV.out _).mono ?_;rintro e w1 ⟨rfl,rfl⟩)
      refine wp_scope_straight ?_
      go_wp2_with fail
      go_loopw [9,10] (fun i f wr=>i=.int .i64 3∧f=.int .i64 0∧Below w1.heap.size w1 wr) (fun _ _ _=>0)
      case atStart=>exact⟨rfl,rfl,Below.refl _ _⟩
      case round =>
        obtain⟨rfl,rfl,hb⟩:=hrel
        go_wp2_with fail
        refine wp_scope_straight ?_
        go_wp2_with fail
        go_quiet (fail)
        go_wp2_with fail
        go_quiet ((go_at_call 275;exact(HI.out _).mono (fun _ _ h=>⟨h.1,_,h.2⟩)))
        go_wp2_with fail
        simp(config:={ zetaDelta:=true }) only[Exit.noGoto,Exit.inBlock,Exit.then]
        go_ret
        exact⟨rfl,below_drewQ hb _⟩
    · clear HI
      go_enter Tryz.func255,Tryz.ntmps255
      go_wp2_with (go_at_call 276;refine(HV.out _).mono ?_;rintro e w1 ⟨rfl,rfl⟩)
      refine wp_scope_straight ?_
      go_wp2_with fail
      go_loop [9,10] (fun i f=>i=.int .i64 3∧f=.int .i64 0) (fun _ _=>0)
      case atStart=>exact⟨rfl,rfl⟩
      case round =>
        obtain⟨rfl,rfl⟩:=hrel
        go_wp2_with fail
        go_ret
        exact⟨rfl,Below.refl _ _⟩
set_option maxHeartbeats 4000000 in
set_option maxRecDepth 100000 in
theorem anyOf_short (C s:ByteArray) (w:World) (hC:Asc C) (hC2:2≤C.size) (hC8:C.size≤8) (h8:s.size≤8) :
    Calls Tryz.prog 222 #[.string s,.string C] w fun e w'=>e=.returned (.int .i64 (Lib.indexAny s.data.toList C.data.toList))∧Below w.heap.size w w':=by
  have h8z:decide ((8:Int) < (s.size:Int))=false:=decide_eq_false (by omega)
  have gE:C.toList.isEmpty=false:=asc_ne hC2
  have g1:((C.size:Int)==1)=false:=by simp;omega
  have HS:=Lib.hid (fun (W:World)=>Tryz.strings_shouldUseASCIISet s.size W)
  rw[h8z] at HS
  have hsz:=Lib.hid (Lib.size_eq s)
  have HC:=Lib.hid hC
  clear h8z
  go_enter Tryz.func222,Tryz.ntmps222
  go_wp2_with (go_at_call 256;refine(HS.out _).mono ?_;rintro e w1 ⟨rfl,rfl⟩)
  go_loopw [9,10] (fun _ _ wr=>∃ i:Nat,i≤s.size∧wr.heap[w1.heap.size]?=some (.stringIter s i)∧Hid (Lib.NoAny s.data.toList C.data.toList i)∧Below w1.heap.size w1 wr) (fun _ _ wr=>s.size - wr.iterPos w1.heap.size)
  case atStart=>exact⟨0,Nat.zero_le _,World.iter_heap _ _ _,Lib.NoAny.zero _ _,(Below.refl _ _).alloc (Nat.le_refl _) _⟩
  case round =>
    obtain⟨i,hi,hit,hno,hb⟩:=hrel
    have hsw:=hb.size
    by_cases hlt:i < s.size
    · have hlt':i < s.data.toList.length:=by rw[← hsz.out];exact hlt
      have hne:=drop_ne hlt'
      have hk0:w1.heap.size < wr.heap.size:=(Array.getElem?_eq_some_iff.1 hit).1
      have hpos:=Lib.hid (iterPos_of hit)
      have hd:=udec s i
      have hbt0:bt (s.data.toList.drop i) 0=(s[i]'hlt).toNat:=by
        rw[bt_def,getD_drop',List.getD_eq_getElem?_getD,Nat.add_zero,Lib.data_getElem? s i hlt];rfl
      rcases dc_step hne with ⟨a1,a2⟩ | ⟨a1,a2,a3⟩
      · have hnx:=fun ty=>Lib.run_next_ascii_at (P:=Tryz.prog) wr w1.heap.size s i ty hit hlt (by rw[← hbt0];exact a1)
        have hxl:=Lib.hid (Lib.data_getElem? s i hlt)
        obtain⟨x,hx⟩:∃ x:UInt8,s[i]'hlt=x:=⟨_,rfl⟩
        rw[hx] at hnx hxl
        have hx128:x.toNat < 128:=by rw[← hx,← hbt0];exact a1
        have hcon:=Lib.contains_iff_indexByte C.data.toList x
        obtain⟨z,hz⟩:∃ z:Int,((x.toNat:Nat):Int)=z:=⟨_,rfl⟩
        have hir:=fun (W:World)=>Tryz.strings_IndexRune_ascii C (x.toNat:Int) W (by omega) (by omega)
        rw[show ((x.toNat:Int)).toNat.toUInt8=x by simp] at hir
        obtain⟨r,hr⟩:∃ r,Lib.indexByte C.data.toList x=r:=⟨_,rfl⟩
        have hir2:∀ W:World,Calls Tryz.prog 255 #[.string C,.int .i32 (x.toNat:Int)] W fun e w'=>e=.returned (.int .i64 (Lib.indexByte C.data.toList x))∧w'=W:=hir
        rw[hr] at hir2 hcon
        rw[hz] at hir2 hnx
        obtain⟨W2,hW2⟩:∃ W2,wr.iterAt w1.heap.size s (i+1)=W2:=⟨_,rfl⟩
        have hit2:=Lib.hid (Lib.iterAt_heap wr w1.heap.size s i (i+1) hit)
        have hb2:=Lib.hid (Lib.below_iterAt hb (Nat.le_refl _) s (i+1))
        rw[hW2] at hnx hit2 hb2
        have HI:=Lib.hid hir2
        clear hd hbt0 a1 a2 hx hir hir2 hr hz hW2
        cases hin:C.data.toList.contains x
        · rw[hin] at hcon
          have hlt0:r < 0:=by have:=of_decide_eq_false hcon.symm;omega
          have hno2:=Lib.hid (hno.out.succ hxl.out hin)
          clear hcon hin hit
          go_wp2_with (go_at_call 255;refine(HI.out _).mono ?_;rintro e w2 ⟨rfl,rfl⟩)
          go_roundw
          case rel=>exact⟨i+1,by omega,hit2.out,hno2.out,hb2.out⟩
          case measure=>rw[hpos.out,iterPos_of hit2.out];omega
        · rw[hin] at hcon
          have hge:0≤r:=of_decide_eq_true hcon.symm
          have hfin:=Lib.hid (Lib.indexAny_hit hno.out hxl.out hin)
          clear hcon hin hit
          go_wp2_with (go_at_call 255;refine(HI.out _).mono ?_;rintro e w2 ⟨rfl,rfl⟩)
          go_ret
          exact⟨by rw[hfin.out];rfl,hb2.out⟩
      · have hnx:=fun ty=>Lib.run_next_any_at (P:=Tryz.prog) wr w1.heap.size s i ty hit hlt
        rw[hd] at hnx
        obtain⟨c,hc⟩:∃ c,(dc (s.data.toList.drop i)).1=c:=⟨_,rfl⟩
        obtain⟨m,hm⟩:∃ m,(dc (s.data.toList.drop i)).2=m:=⟨_,rfl⟩
        have hge:=dc_ge1 (s.data.toList.drop i)
        have hle:=dc_le hne
        rw[List.length_drop,← hsz.out] at hle
        rw[hc] at hnx a1 a2
        rw[hm] at hnx a3 hge hle
        have hno2:=Lib.hid (noAny_manyG hC.all hno.out a3)
        have hir:=fun (W:World)=>irune_highG C hC (by omega) c W a1 a2
        obtain⟨z,hz⟩:∃ z:Int,(c:Int)=z:=⟨_,rfl⟩
        rw[hz] at hir hnx
        obtain⟨W2,hW2⟩:∃ W2,wr.iterAt w1.heap.size s (i+m)=W2:=⟨_,rfl⟩
        have hit2:=Lib.hid (Lib.iterAt_heap wr w1.heap.size s i (i+m) hit)
        have hb2:=Lib.hid (Lib.below_iterAt hb (Nat.le_refl _) s (i+m))
        have hs2:=Lib.iterAt_size wr w1.heap.size s (i+m)
        rw[hW2] at hnx hit2 hb2 hs2
        have HI:=Lib.hid hir
        have HS2:=Lib.hid hs2
        clear hd hbt0 a1 a2 a3 hc hm hir hz hW2 hit hs2
        go_wp2_with (go_at_call 255;refine(HI.out _).mono ?_;rintro e w2 ⟨rfl,b2⟩)
        have hit3:w2.heap[w1.heap.size]?=some (.stringIter s (i+m)):=by rw[b2.block _ (by rw[HS2.out];exact hk0)];exact hit2.out
        go_roundw
        case rel=>exact⟨i+m,by omega,hit3,hno2.out,hb2.out.trans (b2.mono (by rw[HS2.out];omega))⟩
        case measure=>rw[hpos.out,iterPos_of hit3];omega
    · obtain rfl:i=s.size:=by omega
      have hnx:=fun ty=>Lib.run_next_end_at (P:=Tryz.prog) wr w1.heap.size s s.size ty hit (by omega)
      have hfin:Hid (Lib.indexAny s.data.toList C.data.toList=-1):=Lib.indexAny_none (by rw[← hsz.out];exact hno.out)
      clear hit
      go_wp2_with fail
      go_ret
      exact⟨by rw[hfin.out];rfl,hb⟩
theorem anyOf_any (C s:ByteArray) (w:World) (hC:Asc C) (hC2:2≤C.size) (hC8:C.size≤8) (hs:s.size < 4294967281) :
    Calls Tryz.prog 222 #[.string s,.string C] w fun e w'=>e=.returned (.int .i64 (Lib.indexAny s.data.toList C.data.toList))∧Below w.heap.size w w':=by
  by_cases h8:s.size≤8
  · exact anyOf_short C s w hC hC2 hC8 h8
  · refine(Tryz.strings_IndexAny_long (zero_of_info (show (Tryz.prog.info? 245).map (fun i=>(i.zero,i.size))=some (some (.agg (Array.replicate 256 (.bool false))),256) by kernel_rfl)).1 s C w hC2 (by omega) hs (by omega) (fun j b hj=>hC.all b (List.mem_of_getElem? hj))).mono ?_
    · rintro e w' ⟨h1,rfl⟩
      exact⟨h1,((Below.refl _ _).alloc (Nat.le_refl _) _).alloc (by simp) _⟩
theorem index_anyB (C:List UInt8):∀ l:List UInt8,(Lib.indexAny l C=-1∧l.any (C.contains ·)=false)∨(0≤Lib.indexAny l C∧l.any (C.contains ·)=true)
  | []=>.inl ⟨rfl,rfl⟩
  | c::l=>by
    have ih:=index_anyB C l
    unfold Lib.indexAny
    cases hc:C.contains c with
    | true=>exact .inr ⟨by simp,by simp only[List.any_cons,hc,Bool.true_or]⟩
    | false =>
      rcases ih with ⟨h1,h2⟩ | ⟨h1,h2⟩
      · exact .inl ⟨by simp[h1],by simp only[List.any_cons,hc,h2,Bool.false_or]⟩
      · have:(Lib.indexAny l C==-1)=false:=by rw[beq_eq_false_iff_ne];omega
        exact .inr ⟨by rw[this];simp;omega,by simp only[List.any_cons,h2,Bool.or_true]⟩
set_option maxHeartbeats 1000000 in
theorem hasAny_any (C s:ByteArray) (w:World) (hC:Asc C) (hC2:2≤C.size) (hC8:C.size≤8) (hs:s.size < 4294967281) :
    Calls Tryz.prog 184 #[.string s,.string C] w fun e w'=>e=.returned (.bool (s.data.toList.any (C.data.toList.contains ·)))∧Below w.heap.size w w':=by
  have H:=anyOf_any C s w hC hC2 hC8 hs
  have hc:=index_anyB C.data.toList s.data.toList
  obtain⟨i,hi⟩:∃ i,Lib.indexAny s.data.toList C.data.toList=i:=⟨_,rfl⟩
  rw[hi] at H hc
  have HO:=Lib.hid H
  have hd:s.data.toList.any (C.data.toList.contains ·)=decide (0≤i):=by
    rcases hc with ⟨h1,h2⟩ | ⟨h1,h2⟩
    · rw[h2,decide_eq_false (by omega)]
    · rw[h2,decide_eq_true h1]
  rw[hd]
  clear H hi hc hd
  go_enter Tryz.func184,Tryz.ntmps184
  go_wp2_with (go_at_call 222;refine HO.out.mono ?_;rintro e w1 ⟨rfl,b1⟩)
  go_ret
  exact⟨ret_bool rfl,b1⟩
end Go.Proofs.YtfbdnaclkfmiaaaGreatDoor