import Derived.Test.YtfbdnaclkfmiaaaGreatDoorB01
import Derived.Test.YtfbdnaclkfmiaaaGreatDoorB03
import Derived.Lib.OthersKept
import Derived.Scope
import Derived.Deep.RegionWith
section
namespace Go.Proofs.YtfbdnaclkfmiaaaGreatDoor.Tx
open Go.Lib
def good (v:Nat):Bool:=decide (sane v)&&okc v
def keep (o:Option Nat):Option Nat:=match o with
  | some v=>if good v then some v else none
  | none=>none
theorem bt_take (l:List UInt8) (k j:Nat) (h:j < k):bt (l.take k) j=bt l j:=by
  rw[bt_def,bt_def,List.getD_eq_getElem?_getD,List.getD_eq_getElem?_getD,List.getElem?_take_of_lt h]
theorem rdc_dc {l:List UInt8} (h:dc l≠(65533,1)):rdc l=dc l:=by unfold rdc;rw[if_neg h]
theorem rdc_take {l:List UInt8} (hl:l≠[]) (h:dc l≠(65533,1)) :
    rdc (l.take (dc l).2)=rdc l∧(((dc l).2=1∧bt l 0 < 128∧(dc l).1=bt l 0)∨∀ j,j < (dc l).2→128≤bt l j):=by
  have e:=rdc_dc h
  have h1:=dc_ge1 l
  have hle:=dc_le hl
  have hlen:∀ k,k≤l.length→(l.take k).length=k:=fun k hk=>by rw[List.length_take];omega
  rw[← e] at h1 hle ⊢
  rcases Nat.lt_or_ge (bt l 0) 128 with a | a
  · rw[rdc_A a] at hle ⊢
    refine⟨?_,.inl ⟨rfl,a,rfl⟩⟩
    rw[rdc_A (by rw[bt_take _ _ _ (by simp)];exact a),bt_take _ _ _ (by simp)]
  rcases Nat.lt_or_ge (bt l 0) 192 with b | b
  · rw[rdc_B a (.inl b)] at h1;simp at h1
  rcases Nat.lt_or_ge (bt l 0) 224 with c | c
  · have q:=rdc_C b c
    by_cases k:2≤l.length∧bt l 1 / 64=2∧128≤acc l 32 1
    · rw[if_pos k] at q
      rw[q]
      have z:∀ j,j < 2→bt (l.take 2) j=bt l j:=fun j hj=>bt_take _ _ _ hj
      have ea:acc (l.take 2) 32 1=acc l 32 1:=by rw[acc_next,acc_next,acc_zero,acc_zero,z 0 (by omega),z 1 (by omega)]
      refine⟨?_,.inr ?_⟩
      · show rdc (l.take 2)=_
        rw[rdc_C (by rw[z 0 (by omega)];exact b) (by rw[z 0 (by omega)];exact c),ea,z 1 (by omega),hlen 2 k.1,if_pos ⟨Nat.le_refl _,k.2⟩]
      · intro j hj
        have hj:j < 2:=hj
        obtain rfl | rfl:j=0∨j=1:=by omega
        all_goals omega
    · rw[if_neg k] at q;rw[q] at h1;simp at h1
  rcases Nat.lt_or_ge (bt l 0) 240 with d | d
  · have q:=rdc_D c d
    by_cases k:3≤l.length∧bt l 1 / 64=2∧bt l 2 / 64=2∧2048≤acc l 16 2∧(acc l 16 2 < 55296∨57343 < acc l 16 2)
    · rw[if_pos k] at q
      rw[q]
      have z:∀ j,j < 3→bt (l.take 3) j=bt l j:=fun j hj=>bt_take _ _ _ hj
      have ea:acc (l.take 3) 16 2=acc l 16 2:=by rw[acc_next,acc_next,acc_next,acc_next,acc_zero,acc_zero,z 0 (by omega),z 1 (by omega),z 2 (by omega)]
      refine⟨?_,.inr ?_⟩
      · show rdc (l.take 3)=_
        rw[rdc_D (by rw[z 0 (by omega)];exact c) (by rw[z 0 (by omega)];exact d),ea,z 1 (by omega),z 2 (by omega),hlen 3 k.1,if_pos ⟨Nat.le_refl _,k.2⟩]
      · intro j hj
        have hj:j < 3:=hj
        obtain rfl | rfl | rfl:j=0∨j=1∨j=2:=by omega
        all_goals omega
    · rw[if_neg k] at q;rw[q] at h1;simp at h1
  rcases Nat.lt_or_ge (bt l 0) 248 with f | f
  · have q:=rdc_E d f
    by_cases k:4≤l.length∧bt l 1 / 64=2∧bt l 2 / 64=2∧bt l 3 / 64=2∧65536≤acc l 8 3∧acc l 8 3≤1114111
    · rw[if_pos k] at q
      rw[q]
      have z:∀ j,j < 4→bt (l.take 4) j=bt l j:=fun j hj=>bt_take _ _ _ hj
      have ea:acc (l.take 4) 8 3=acc l 8 3:=by rw[acc_next,acc_next,acc_next,acc_next,acc_next,acc_next,acc_zero,acc_zero,z 0 (by omega),z 1 (by omega),z 2 (by omega),z 3 (by omega)]
      refine⟨?_,.inr ?_⟩
      · show rdc (l.take 4)=_
        rw[rdc_E (by rw[z 0 (by omega)];exact d) (by rw[z 0 (by omega)];exact f),ea,z 1 (by omega),z 2 (by omega),z 3 (by omega),hlen 4 k.1,if_pos ⟨Nat.le_refl _,k.2⟩]
      · intro j hj
        have hj:j < 4:=hj
        obtain rfl | rfl | rfl | rfl:j=0∨j=1∨j=2∨j=3:=by omega
        all_goals omega
    · rw[if_neg k] at q;rw[q] at h1;simp at h1
  · rw[rdc_B a (.inr f)] at h1;simp at h1
end Go.Proofs.YtfbdnaclkfmiaaaGreatDoor.Tx
end
section
namespace Go.Proofs.YtfbdnaclkfmiaaaGreatDoor
open Go.RowKit Tx
theorem enc_last {c:Nat} (h:sane c) (h1:128≤c):∃ (E:ByteArray) (n:Nat),Utf8.encode (c:Int)=E∧E.size=n∧(n=2∨n=3∨n=4)∧∀ h:1 < E.size,128≤(E[1]'h).toNat:=by
  have hm:=enc_model c
  obtain⟨E,hE⟩:∃ E,Utf8.encode (c:Int)=E:=⟨_,rfl⟩
  refine⟨E,?_⟩
  rw[hE] at hm
  have hsz:=Lib.size_eq E
  have hget:∀ h:1 < E.size,(E.data.toList[1]?)=some (E[1]'h):=fun h=>Lib.data_getElem? E 1 h
  have h0:=h
  unfold sane at h
  rcases enc_cases (n:=c) h0 with ⟨a,e⟩ | ⟨a,b,e⟩ | ⟨a,b,e⟩ | ⟨a,b,e⟩
  · omega
  · rw[hm,e] at hsz hget
    refine⟨2,hE,hsz,.inl rfl,fun h=>?_⟩
    have:=hget h
    simp only[List.getElem?_cons_succ,List.getElem?_cons_zero,Option.some.injEq] at this
    rw[← this,toNat_of _ (by omega)]
    omega
  · rw[hm,e] at hsz hget
    refine⟨3,hE,hsz,.inr (.inl rfl),fun h=>?_⟩
    have:=hget h
    simp only[List.getElem?_cons_succ,List.getElem?_cons_zero,Option.some.injEq] at this
    rw[← this,toNat_of _ (by omega)]
    omega
  · rw[hm,e] at hsz hget
    refine⟨4,hE,hsz,.inr (.inr rfl),fun h=>?_⟩
    have:=hget h
    simp only[List.getElem?_cons_succ,List.getElem?_cons_zero,Option.some.injEq] at this
    rw[← this,toNat_of _ (by omega)]
    omega
set_option maxHeartbeats 2000000 in
set_option maxRecDepth 100000 in
theorem irune_bad (w:World):Calls Tryz.prog 255 #[.string ⟨#[13,10]⟩,.int .i32 65533] w fun e w'=>e=.returned (.int .i64 (-1))∧Below w.heap.size w w':=by
  go_enter Tryz.func255,Tryz.ntmps255
  go_wp2_with fail
  go_loopg [5,6] 2 (fun g _ _ wx=>∃ i:Nat,i+g=2∧wx=w.iter ⟨#[13,10]⟩ i)
  case atStart=>exact⟨0,by omega,rfl⟩
  case round =>
    obtain⟨i,hig,rfl⟩:=hrel
    cases gk with
    | zero =>
      obtain rfl:i=2:=by omega
      have hnx:=run_next_end (P:=Tryz.prog) w ⟨#[13,10]⟩ 2
      go_wp2_with fail
      go_ret
      exact⟨rfl,(Below.refl _ _).alloc (Nat.le_refl _) _⟩
    | succ g =>
      rcases(show (i=0∧g=1)∨(i=1∧g=0) by omega) with ⟨rfl,rfl⟩ | ⟨rfl,rfl⟩
      · have hnx:=fun ty=>run_next_ascii (P:=Tryz.prog) w ⟨#[13,10]⟩ 0 ty (by decide) (by decide)
        go_wp2_with fail
        go_roundg 1
        case measure=>omega
        case rel=>exact⟨1,by omega,rfl⟩
      · have hnx:=fun ty=>run_next_ascii (P:=Tryz.prog) w ⟨#[13,10]⟩ 1 ty (by decide) (by decide)
        go_wp2_with fail
        go_roundg 0
        case measure=>omega
        case rel=>exact⟨2,by omega,rfl⟩
set_option maxHeartbeats 2000000 in
set_option maxRecDepth 100000 in
theorem irune_high (c:Nat) (w:World) (h1:128≤c) (hs:sane c):Calls Tryz.prog 255 #[.string ⟨#[13,10]⟩,.int .i32 c] w fun e w'=>e=.returned (.int .i64 (-1))∧Below w.heap.size w w':=by
  by_cases hbad:c=65533
  · subst hbad;exact irune_bad w
  obtain⟨E,n,hE,hn,hn2,hlast⟩:=enc_last hs h1
  obtain⟨z,hz⟩:∃ z:Int,(c:Int)=z:=⟨_,rfl⟩
  have hvr:Lib.validRune z=true:=by
    unfold Lib.validRune
    unfold sane at hs
    exact decide_eq_true (by omega)
  have z0:128≤z:=by omega
  have f1:(z==65533)=false:=by simp;omega
  rw[hz] at hE ⊢
  have HV:=Lib.hid (fun (W:World)=>Tryz.utf8_ValidRune z W)
  rw[hvr] at HV
  have HL:=Lib.hid hlast
  clear hs hz h1 hbad hvr hlast
  rcases hn2 with rfl | rfl | rfl
  · obtain⟨y,hy⟩:∃ y:Int,((E[1]'(by omega)).toNat:Int)=y:=⟨_,rfl⟩
    have HI:Hid (∀ W:World,Calls Tryz.prog 275 #[.string ⟨#[]⟩,.int .u8 y] W fun e w'=>e=.returned (.int .i64 (-1))∧w'=W):=fun W=>Tryz.strings_IndexByte ⟨#[]⟩ y W
    have y0:128≤y:=by have:=HL.out (by omega);omega
    go_enter Tryz.func255,Tryz.ntmps255
    go_wp2_with (go_at_call 276;refine(HV.out _).mono ?_;rintro e w1 ⟨rfl,rfl⟩)
    refine wp_scope_straight ?_
    go_wp2_with fail
    go_loopw [9,10] (fun i f wr=>i=.int .i64 1∧f=.int .i64 0∧Below w1.heap.size w1 wr) (fun _ _ _=>0)
    case atStart=>exact⟨rfl,rfl,Below.refl _ _⟩
    case round =>
      obtain⟨rfl,rfl,hb⟩:=hrel
      have fne:((10:Int) != y)=true:=by simp;omega
      go_wp2_with fail
      refine wp_scope_straight ?_
      have fidx:(((⟨#[13,10]⟩:ByteArray)[1]'(by decide)).toNat:Int)=10:=rfl
      go_wp2_with fail
      go_region
      all_goals
        go_wp2_with fail
        go_region_with ((go_at_call 275;refine(HI.out _).mono ?_;rintro e w2 ⟨rfl,rfl⟩))
        all_goals
          go_wp2_with fail
          simp(config:={ zetaDelta:=true }) only[Exit.noGoto,Exit.inBlock,Exit.then]
          go_ret
          exact⟨rfl,hb.drew.drew⟩
  · go_enter Tryz.func255,Tryz.ntmps255
    go_wp2_with (go_at_call 276;refine(HV.out _).mono ?_;rintro e w1 ⟨rfl,rfl⟩)
    refine wp_scope_straight ?_
    go_wp2_with fail
    go_loop [9,10] (fun i f=>i=.int .i64 2∧f=.int .i64 0) (fun _ _=>0)
    case atStart=>exact⟨rfl,rfl⟩
    case round =>
      obtain⟨rfl,rfl⟩:=hrel
      go_wp2_with fail
      go_ret
      exact⟨rfl,Below.refl _ _⟩
  · go_enter Tryz.func255,Tryz.ntmps255
    go_wp2_with (go_at_call 276;refine(HV.out _).mono ?_;rintro e w1 ⟨rfl,rfl⟩)
    refine wp_scope_straight ?_
    go_wp2_with fail
    go_loop [9,10] (fun i f=>i=.int .i64 3∧f=.int .i64 0) (fun _ _=>0)
    case atStart=>exact⟨rfl,rfl⟩
    case round =>
      obtain⟨rfl,rfl⟩:=hrel
      go_wp2_with fail
      go_ret
      exact⟨rfl,Below.refl _ _⟩
end Go.Proofs.YtfbdnaclkfmiaaaGreatDoor
end
section
namespace Go.Proofs.YtfbdnaclkfmiaaaGreatDoor
open Go.RowKit Tx
theorem get_getD (s:ByteArray) (i:Nat):s.get! i=s.data.toList.getD i 0:=by
  cases s with
  | mk d =>
    show d[i]! = d.toList.getD i 0
    by_cases h:i < d.size
    · rw[getElem!_pos d i h];simp[List.getD,h]
    · rw[getElem!_neg d i h];simp[List.getD,h];rfl
theorem udec (s:ByteArray) (i:Nat):Utf8.decode s i=dc (s.data.toList.drop i):=by
  have g:∀ j,(s.data.toList.drop i).getD j 0=s.get! (i+j):=fun j=>by
    rw[get_getD];simp[List.getD_eq_getElem?_getD,List.getElem?_drop]
  rw[Lib.decode_at,dc_eq,g,g,g,g,List.length_drop,Lib.size_eq]
  rfl
theorem dc_step {l:List UInt8} (hl:l≠[]):(bt l 0 < 128∧dc l=(bt l 0,1))∨(128≤(dc l).1∧sane (dc l).1∧∀ j,j < (dc l).2→128≤bt l j):=by
  by_cases h:dc l=(65533,1)
  · right
    refine⟨by rw[h];decide,by rw[h];unfold sane;omega,fun j hj=>?_⟩
    rw[h] at hj
    obtain rfl:j=0:=by simp only at hj;omega
    rcases Nat.lt_or_ge (bt l 0) 128 with h2 | h2
    · have:=rdc_A h2
      unfold rdc at this
      rw[if_pos h] at this
      simp at this
    · exact h2
  · obtain⟨h1,h2⟩:=rdc_take hl h
    rcases h2 with ⟨k1,k2,k3⟩ | h2
    · exact .inl ⟨k2,Prod.ext k3 k1⟩
    · right
      have hv:=dc_valid l
      have hr:=dc_rune l
      refine⟨?_,by unfold sane;omega,h2⟩
      have h0:=h2 0 (by have:=dc_ge1 l;omega)
      rcases Nat.lt_or_ge (dc l).1 128 with h3 | h3
      · exfalso
        have hx:=rdc_dc h
        have hlen:=dc_ge1 l
        rcases Nat.lt_or_ge (bt l 0) 192 with b | b
        · rw[rdc_B h0 (.inl b)] at hx;rw[← hx] at hlen;simp at hlen
        rcases Nat.lt_or_ge (bt l 0) 224 with c | c
        · rw[rdc_C b c] at hx
          split at hx
          · rw[← hx] at h3;simp only at h3;omega
          · rw[← hx] at hlen;simp at hlen
        rcases Nat.lt_or_ge (bt l 0) 240 with d | d
        · rw[rdc_D c d] at hx
          split at hx
          · rw[← hx] at h3;simp only at h3;omega
          · rw[← hx] at hlen;simp at hlen
        rcases Nat.lt_or_ge (bt l 0) 248 with f | f
        · rw[rdc_E d f] at hx
          split at hx
          · rw[← hx] at h3;simp only at h3;omega
          · rw[← hx] at hlen;simp at hlen
        · rw[rdc_B h0 (.inr f)] at hx;rw[← hx] at hlen;simp at hlen
      · exact h3
theorem noAny_many {l:List UInt8} {i n:Nat} (h:Lib.NoAny l [13,10] i) (hb:∀ j,j < n→128≤bt (l.drop i) j):Lib.NoAny l [13,10] (i+n):=by
  intro j b hj hjb
  rcases Nat.lt_or_ge j i with h1 | h1
  · exact h j b h1 hjb
  · have:=hb (j - i) (by omega)
    rw[bt_def,List.getD_eq_getElem?_getD,List.getElem?_drop,show i+(j - i)=j by omega,hjb] at this
    have hb2:128≤b.toNat:=this
    have h13:b≠13:=fun e=>by rw[e] at hb2;exact absurd hb2 (by decide)
    have h10:b≠10:=fun e=>by rw[e] at hb2;exact absurd hb2 (by decide)
    simp[h13,h10]
theorem getD_drop' (l:List UInt8) (i j:Nat):(l.drop i).getD j 0=l.getD (i+j) 0:=by simp[List.getD_eq_getElem?_getD,List.getElem?_drop]
theorem iterPos_of {w:World} {k p:Nat} {s:ByteArray} (h:w.heap[k]?=some (.stringIter s p)):w.iterPos k=p:=by unfold World.iterPos;rw[h]
set_option maxHeartbeats 4000000 in
set_option maxRecDepth 100000 in
theorem sindex_short (s:ByteArray) (w:World) (h8:s.size≤8) :
    Calls Tryz.prog 222 #[.string s,.string ⟨#[13,10]⟩] w fun e w'=>e=.returned (.int .i64 (Lib.indexAny s.data.toList [13,10]))∧Below w.heap.size w w':=by
  have h8z:decide ((8:Int) < (s.size:Int))=false:=decide_eq_false (by omega)
  have HS:=Lib.hid (fun (W:World)=>Tryz.strings_shouldUseASCIISet s.size W)
  rw[h8z] at HS
  have hsz:=Lib.hid (Lib.size_eq s)
  clear h8z
  go_enter Tryz.func222,Tryz.ntmps222
  go_wp2_with (go_at_call 256;refine(HS.out _).mono ?_;rintro e w1 ⟨rfl,rfl⟩)
  go_loopw [9,10] (fun _ _ wr=>∃ i:Nat,i≤s.size∧wr.heap[w1.heap.size]?=some (.stringIter s i)∧Hid (Lib.NoAny s.data.toList [13,10] i)∧Below w1.heap.size w1 wr) (fun _ _ wr=>s.size - wr.iterPos w1.heap.size)
  case atStart=>exact⟨0,Nat.zero_le _,World.iter_heap _ _ _,Lib.NoAny.zero _ _,(Below.refl _ _).alloc (Nat.le_refl _) _⟩
  case round =>
    obtain⟨i,hi,hit,hno,hb⟩:=hrel
    have hsw:=hb.size
    by_cases hlt:i < s.size
    · have hlt':i < s.data.toList.length:=by rw[← hsz.out];exact hlt
      have hne:=drop_ne hlt'
      have hk0:w1.heap.size < wr.heap.size:=(Array.getElem?_eq_some_iff.1 hit).1
      have hpos:=Lib.hid (iterPos_of hit)
      have hd:=udec s i
      have hbt0:bt (s.data.toList.drop i) 0=(s[i]'hlt).toNat:=by
        rw[bt_def,getD_drop',List.getD_eq_getElem?_getD,Nat.add_zero,Lib.data_getElem? s i hlt];rfl
      rcases dc_step hne with ⟨a1,a2⟩ | ⟨a1,a2,a3⟩
      · have hnx:=fun ty=>Lib.run_next_ascii_at (P:=Tryz.prog) wr w1.heap.size s i ty hit hlt (by rw[← hbt0];exact a1)
        have hxl:=Lib.hid (Lib.data_getElem? s i hlt)
        obtain⟨x,hx⟩:∃ x:UInt8,s[i]'hlt=x:=⟨_,rfl⟩
        rw[hx] at hnx hxl
        have hx128:x.toNat < 128:=by rw[← hx,← hbt0];exact a1
        have hcon:=Lib.contains_iff_indexByte [13,10] x
        obtain⟨z,hz⟩:∃ z:Int,((x.toNat:Nat):Int)=z:=⟨_,rfl⟩
        have hir:=fun (W:World)=>Tryz.strings_IndexRune_ascii ⟨#[13,10]⟩ (x.toNat:Int) W (by omega) (by omega)
        rw[show ((x.toNat:Int)).toNat.toUInt8=x by simp] at hir
        obtain⟨r,hr⟩:∃ r,Lib.indexByte [13,10] x=r:=⟨_,rfl⟩
        have hir2:∀ W:World,Calls Tryz.prog 255 #[.string ⟨#[13,10]⟩,.int .i32 (x.toNat:Int)] W fun e w'=>e=.returned (.int .i64 (Lib.indexByte [13,10] x))∧w'=W:=hir
        rw[hr] at hir2 hcon
        rw[hz] at hir2 hnx
        obtain⟨W2,hW2⟩:∃ W2,wr.iterAt w1.heap.size s (i+1)=W2:=⟨_,rfl⟩
        have hit2:=Lib.hid (Lib.iterAt_heap wr w1.heap.size s i (i+1) hit)
        have hb2:=Lib.hid (Lib.below_iterAt hb (Nat.le_refl _) s (i+1))
        rw[hW2] at hnx hit2 hb2
        have HI:=Lib.hid hir2
        clear hd hbt0 a1 a2 hx hir hir2 hr hz hW2
        cases hin:[13,10].contains x
        · rw[hin] at hcon
          have hlt0:r < 0:=by have:=of_decide_eq_false hcon.symm;omega
          have hno2:=Lib.hid (hno.out.succ hxl.out hin)
          clear hcon hin hit
          go_wp2_with (go_at_call 255;refine(HI.out _).mono ?_;rintro e w2 ⟨rfl,rfl⟩)
          go_roundw
          case rel=>exact⟨i+1,by omega,hit2.out,hno2.out,hb2.out⟩
          case measure=>rw[hpos.out,iterPos_of hit2.out];omega
        · rw[hin] at hcon
          have hge:0≤r:=of_decide_eq_true hcon.symm
          have hfin:=Lib.hid (Lib.indexAny_hit hno.out hxl.out hin)
          clear hcon hin hit
          go_wp2_with (go_at_call 255;refine(HI.out _).mono ?_;rintro e w2 ⟨rfl,rfl⟩)
          go_ret
          exact⟨by rw[hfin.out];rfl,hb2.out⟩
      · have hnx:=fun ty=>Lib.run_next_any_at (P:=Tryz.prog) wr w1.heap.size s i ty hit hlt
        rw[hd] at hnx
        obtain⟨c,hc⟩:∃ c,(dc (s.data.toList.drop i)).1=c:=⟨_,rfl⟩
        obtain⟨m,hm⟩:∃ m,(dc (s.data.toList.drop i)).2=m:=⟨_,rfl⟩
        have hge:=dc_ge1 (s.data.toList.drop i)
        have hle:=dc_le hne
        rw[List.length_drop,← hsz.out] at hle
        rw[hc] at hnx a1 a2
        rw[hm] at hnx a3 hge hle
        have hno2:=Lib.hid (noAny_many hno.out a3)
        have hir:=fun (W:World)=>irune_high c W a1 a2
        obtain⟨z,hz⟩:∃ z:Int,(c:Int)=z:=⟨_,rfl⟩
        rw[hz] at hir hnx
        obtain⟨W2,hW2⟩:∃ W2,wr.iterAt w1.heap.size s (i+m)=W2:=⟨_,rfl⟩
        have hit2:=Lib.hid (Lib.iterAt_heap wr w1.heap.size s i (i+m) hit)
        have hb2:=Lib.hid (Lib.below_iterAt hb (Nat.le_refl _) s (i+m))
        have hs2:=Lib.iterAt_size wr w1.heap.size s (i+m)
        rw[hW2] at hnx hit2 hb2 hs2
        have HI:=Lib.hid hir
        have HS2:=Lib.hid hs2
        clear hd hbt0 a1 a2 a3 hc hm hir hz hW2 hit hs2
        go_wp2_with (go_at_call 255;refine(HI.out _).mono ?_;rintro e w2 ⟨rfl,b2⟩)
        have hit3:w2.heap[w1.heap.size]?=some (.stringIter s (i+m)):=by rw[b2.block _ (by rw[HS2.out];exact hk0)];exact hit2.out
        go_roundw
        case rel=>exact⟨i+m,by omega,hit3,hno2.out,hb2.out.trans (b2.mono (by rw[HS2.out];omega))⟩
        case measure=>rw[hpos.out,iterPos_of hit3];omega
    · obtain rfl:i=s.size:=by omega
      have hnx:=fun ty=>Lib.run_next_end_at (P:=Tryz.prog) wr w1.heap.size s s.size ty hit (by omega)
      have hfin:Hid (Lib.indexAny s.data.toList [13,10]=-1):=Lib.indexAny_none (by rw[← hsz.out];exact hno.out)
      clear hit
      go_wp2_with fail
      go_ret
      exact⟨by rw[hfin.out];rfl,hb⟩
theorem sindex_any (s:ByteArray) (w:World) (hs:s.size < 4294967281) :
    Calls Tryz.prog 222 #[.string s,.string ⟨#[13,10]⟩] w fun e w'=>e=.returned (.int .i64 (Lib.indexAny s.data.toList [13,10]))∧Below w.heap.size w w':=by
  by_cases h8:s.size≤8
  · exact sindex_short s w h8
  · refine(Tryz.strings_IndexAny_long (zero_of_info (show (Tryz.prog.info? 245).map (fun i=>(i.zero,i.size))=some (some (.agg (Array.replicate 256 (.bool false))),256) by kernel_rfl)).1 s ⟨#[13,10]⟩ w (by decide) (by omega) hs (by decide) ?_).mono ?_
    · intro j b hj
      match j,hj with
      | 0,hj=>cases hj;decide
      | 1,hj=>cases hj;decide
      | j+2,hj=>simp at hj
    · rintro e w' ⟨h1,rfl⟩
      exact⟨h1,((Below.refl _ _).alloc (Nat.le_refl _) _).alloc (by simp) _⟩
end Go.Proofs.YtfbdnaclkfmiaaaGreatDoor
end