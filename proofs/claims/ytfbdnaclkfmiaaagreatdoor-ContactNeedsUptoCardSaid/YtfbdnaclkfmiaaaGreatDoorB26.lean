import Derived.Test.YtfbdnaclkfmiaaaGreatDoorB09
import Derived.Test.YtfbdnaclkfmiaaaGreatDoorB21
import Derived.Test.YtfbdnaclkfmiaaaGreatDoorB04
import Derived.Test.YtfbdnaclkfmiaaaGreatDoorB14
import Derived.Test.YtfbdnaclkfmiaaaGreatDoorShelf
import Derived.ScopeJumps
import Derived.WalkMore
import Derived.Lib.Fold
import Derived.Deep.LoopGhost
import Derived.Laws.RangeString
import Derived.Test.YtfbdnaclkfmiaaaGreatDoorB25
import Derived.Test.YtfbdnaclkfmiaaaGreatDoorB11
import Derived.Shelf.Strings.SlTrimAscii
import Derived.Lib.Case
section
namespace Go.Proofs.YtfbdnaclkfmiaaaGreatDoor
open Go.RowKit Tx
def foldN (x:Nat):Nat:=if 65≤x∧x≤90 then x+32 else if x=107 then 8490 else if x=115 then 383 else if 97≤x∧x≤122 then x - 32 else x
def Folds (w:World):Prop:=∀ i:Nat,i < 128→w.cell? ⟨3,i,none⟩=some (.int .u16 (foldN i:Nat))
theorem Folds.below {w w':World} (h:Folds w) (hb:Below w.heap.size w w'):Folds w':=fun i hi=>by
  rw[hb.cell (p:=⟨3,i,none⟩) (World.block_lt_of_cell? _ _ (h i hi))]
  exact h i hi
def Plainly (M:ByteArray):Prop:=∀ i (h:i < M.size),(M[i]'h).toNat < 128∧(foldN (M[i]'h).toNat=(M[i]'h).toNat∨foldN (M[i]'h).toNat < 128∧foldN (foldN (M[i]'h).toNat)=(M[i]'h).toNat∧foldN (M[i]'h).toNat≠(M[i]'h).toNat)
theorem Plainly.of {M:ByteArray} (h:M.data.toList.all (fun b=>decide (b.toNat < 128∧(foldN b.toNat=b.toNat∨foldN b.toNat < 128∧foldN (foldN b.toNat)=b.toNat∧foldN b.toNat≠b.toNat)))=true):Plainly M:=fun i hi=>of_decide_eq_true (List.all_eq_true.1 h _ (List.mem_of_getElem? (Lib.data_getElem? M i hi)))
set_option maxHeartbeats 1000000 in
theorem simpleFold_any (x:Nat) (w:World) (hF:Folds w) (hx:x < 128):Calls Tryz.prog 259 #[.int .i32 x] w fun e w'=>e=.returned (.int .i32 (foldN x:Nat))∧w'=w:=by
  have hc:=hF x hx
  have hb:foldN x≤8490:=by unfold foldN;split;omega;split;omega;split;omega;split<;>omega
  obtain⟨y,hy⟩:∃ y:Int,((foldN x:Nat):Int)=y:=⟨_,rfl⟩
  obtain⟨z,hz⟩:∃ z:Int,(x:Int)=z:=⟨_,rfl⟩
  have y0:0≤y:=by omega
  have y1:y≤8490:=by omega
  have z0:0≤z:=by omega
  have z1:z < 128:=by omega
  have hcz:w.cell? ⟨3,z.toNat,none⟩=some (.int .u16 y):=by rw[← hz,← hy,Int.toNat_natCast];exact hc
  rw[hy,hz]
  clear hF hy hc hb hz hx
  go_enter Tryz.func259,Tryz.ntmps259
  go_wp2_with fail
  go_ret
  exact⟨rfl,rfl⟩
theorem fl_seqR {a b r:Code} {l:Nat} (h1:findLabel a l=none) (h2:findLabel b l=some r):findLabel (.seq a b) l=some r:=by simp only[findLabel,h1];exact h2
theorem fl_seqL {a b r:Code} {l:Nat} (h1:findLabel a l=some r):findLabel (.seq a b) l=some (.seq r b):=by simp only[findLabel,h1]
theorem fl_lab (l:Nat):findLabel (.label l) l=some .skip:=by simp[findLabel]
def JumpE (s M:ByteArray) (w:World) (a':Act) (w':World):Prop:=∃ (i:Nat) (u:Nat→Value),a'={ tmps:=#[.string s,.string M,u 2,u 3,u 4,.int .i64 (i:Nat),u 6,u 7,u 8,u 9,u 10,u 11,u 12,u 13,u 14,u 15,u 16,u 17,u 18,u 19,u 20,u 21,u 22,u 23,u 24,u 25,u 26,u 27,u 28,u 29,u 30,u 31,u 32,u 33,u 34,u 35,u 36,u 37,u 38,u 39,u 40,u 41,u 42,u 43,u 44,u 45,u 46,u 47,u 48,u 49,u 50,u 51,u 52,u 53,u 54,u 55,u 56,u 57,u 58,u 59,u 60,u 61,u 62,u 63,u 64,u 65,u 66,u 67,u 68,u 69,u 70,u 71,u 72,u 73,u 74,u 75,u 76,u 77,u 78,u 79,u 80,u 81,u 82,u 83,u 84,u 85,u 86,u 87,u 88,u 89,u 90,u 91,u 92,u 93,u 94,u 95,u 96,u 97,u 98,u 99,u 100,u 101,u 102,u 103,u 104,u 105,u 106,u 107,u 108,u 109,u 110,u 111,u 112,u 113,u 114,u 115,u 116,u 117,u 118,u 119,u 120,u 121,u 122],defers:=[] }∧w'=w∧i < s.size∧i < M.size∧Hid (∃ x:UInt8,s.data.toList[i]?=some x∧128≤x.toNat)
theorem JumpE.mk {s M:ByteArray} {w:World} {a':Act} {w':World} (i:Nat) (h:a'={ tmps:=#[.string s,.string M,a'.tmps.getD 2 undef,a'.tmps.getD 3 undef,a'.tmps.getD 4 undef,.int .i64 (i:Nat),a'.tmps.getD 6 undef,a'.tmps.getD 7 undef,a'.tmps.getD 8 undef,a'.tmps.getD 9 undef,a'.tmps.getD 10 undef,a'.tmps.getD 11 undef,a'.tmps.getD 12 undef,a'.tmps.getD 13 undef,a'.tmps.getD 14 undef,a'.tmps.getD 15 undef,a'.tmps.getD 16 undef,a'.tmps.getD 17 undef,a'.tmps.getD 18 undef,a'.tmps.getD 19 undef,a'.tmps.getD 20 undef,a'.tmps.getD 21 undef,a'.tmps.getD 22 undef,a'.tmps.getD 23 undef,a'.tmps.getD 24 undef,a'.tmps.getD 25 undef,a'.tmps.getD 26 undef,a'.tmps.getD 27 undef,a'.tmps.getD 28 undef,a'.tmps.getD 29 undef,a'.tmps.getD 30 undef,a'.tmps.getD 31 undef,a'.tmps.getD 32 undef,a'.tmps.getD 33 undef,a'.tmps.getD 34 undef,a'.tmps.getD 35 undef,a'.tmps.getD 36 undef,a'.tmps.getD 37 undef,a'.tmps.getD 38 undef,a'.tmps.getD 39 undef,a'.tmps.getD 40 undef,a'.tmps.getD 41 undef,a'.tmps.getD 42 undef,a'.tmps.getD 43 undef,a'.tmps.getD 44 undef,a'.tmps.getD 45 undef,a'.tmps.getD 46 undef,a'.tmps.getD 47 undef,a'.tmps.getD 48 undef,a'.tmps.getD 49 undef,a'.tmps.getD 50 undef,a'.tmps.getD 51 undef,a'.tmps.getD 52 undef,a'.tmps.getD 53 undef,a'.tmps.getD 54 undef,a'.tmps.getD 55 undef,a'.tmps.getD 56 undef,a'.tmps.getD 57 undef,a'.tmps.getD 58 undef,a'.tmps.getD 59 undef,a'.tmps.getD 60 undef,a'.tmps.getD 61 undef,a'.tmps.getD 62 undef,a'.tmps.getD 63 undef,a'.tmps.getD 64 undef,a'.tmps.getD 65 undef,a'.tmps.getD 66 undef,a'.tmps.getD 67 undef,a'.tmps.getD 68 undef,a'.tmps.getD 69 undef,a'.tmps.getD 70 undef,a'.tmps.getD 71 undef,a'.tmps.getD 72 undef,a'.tmps.getD 73 undef,a'.tmps.getD 74 undef,a'.tmps.getD 75 undef,a'.tmps.getD 76 undef,a'.tmps.getD 77 undef,a'.tmps.getD 78 undef,a'.tmps.getD 79 undef,a'.tmps.getD 80 undef,a'.tmps.getD 81 undef,a'.tmps.getD 82 undef,a'.tmps.getD 83 undef,a'.tmps.getD 84 undef,a'.tmps.getD 85 undef,a'.tmps.getD 86 undef,a'.tmps.getD 87 undef,a'.tmps.getD 88 undef,a'.tmps.getD 89 undef,a'.tmps.getD 90 undef,a'.tmps.getD 91 undef,a'.tmps.getD 92 undef,a'.tmps.getD 93 undef,a'.tmps.getD 94 undef,a'.tmps.getD 95 undef,a'.tmps.getD 96 undef,a'.tmps.getD 97 undef,a'.tmps.getD 98 undef,a'.tmps.getD 99 undef,a'.tmps.getD 100 undef,a'.tmps.getD 101 undef,a'.tmps.getD 102 undef,a'.tmps.getD 103 undef,a'.tmps.getD 104 undef,a'.tmps.getD 105 undef,a'.tmps.getD 106 undef,a'.tmps.getD 107 undef,a'.tmps.getD 108 undef,a'.tmps.getD 109 undef,a'.tmps.getD 110 undef,a'.tmps.getD 111 undef,a'.tmps.getD 112 undef,a'.tmps.getD 113 undef,a'.tmps.getD 114 undef,a'.tmps.getD 115 undef,a'.tmps.getD 116 undef,a'.tmps.getD 117 undef,a'.tmps.getD 118 undef,a'.tmps.getD 119 undef,a'.tmps.getD 120 undef,a'.tmps.getD 121 undef,a'.tmps.getD 122 undef],defers:=[] }) (h1:w'=w) (h2:i < s.size) (h3:i < M.size) (h4:Hid (∃ x:UInt8,s.data.toList[i]?=some x∧128≤x.toNat)):JumpE s M w a' w':=⟨i,fun n=>a'.tmps.getD n undef,h,h1,h2,h3,h4⟩
theorem eqf_high {a b:List UInt8}:∀ {i:Nat} {x:UInt8},a[i]?=some x→128≤x.toNat→(∃ y:UInt8,b[i]?=some y∧y.toNat < 128)→Lib.equalFold a b=false:=by
  induction a generalizing b with
  | nil=>intro i x h;simp at h
  | cons u a ih =>
    intro i x h1 h2 ⟨y,h3,h4⟩
    cases b with
    | nil=>simp at h3
    | cons v b =>
      cases i with
      | zero =>
        obtain rfl:u=x:=by simpa using h1
        obtain rfl:v=y:=by simpa using h3
        exact Lib.equalFold_no _ _ _ _ (decide_eq_false (by omega))
      | succ i =>
        unfold Lib.equalFold
        rw[ih (by simpa using h1) h2 ⟨y,by simpa using h3,h4⟩,Bool.and_false]
theorem eqf_pre {s M:ByteArray} {i:Nat} (w':World) (his:i < s.size) (hiM:i < M.size) (hx:∃ x:UInt8,s.data.toList[i]?=some x∧128≤x.toNat) (hM:Plainly M) :
    ∃ (S1 M1:ByteArray) (y:Nat) (cz:Int) (W2:World),s.extract i s.size=S1∧M.extract i M.size=M1∧y < 128∧(foldN y=y∨foldN y < 128∧foldN (foldN y)=y∧foldN y≠y)∧128≤cz∧cz≤1114111∧1≤M1.size ∧
      (∀ ty,(Instr.next (.pointer (some ⟨w'.heap.size,0,none⟩)) true ty).run Tryz.prog (w'.iter S1 0)=.ok (.tuple #[.bool true,.int .i64 (0:Nat),.int .i32 cz]) W2)∧Below w'.heap.size w' W2∧M1.data.toList≠[]∧dc M1.data.toList=(y,1):=by
  obtain⟨x,hxl,hx128⟩:=hx
  obtain⟨hy1,hy2⟩:=hM i hiM
  obtain⟨S1,hS1⟩:∃ S1,s.extract i s.size=S1:=⟨_,rfl⟩
  obtain⟨M1,hM1⟩:∃ M1,M.extract i M.size=M1:=⟨_,rfl⟩
  have hSl:S1.data.toList=s.data.toList.drop i:=by rw[← hS1];exact Lib.extract_to_end s i
  have hMl:M1.data.toList=M.data.toList.drop i:=by rw[← hM1];exact Lib.extract_to_end M i
  have hSn:S1.size=s.size - i:=by rw[Lib.size_eq,hSl,List.length_drop,← Lib.size_eq]
  have hMn:M1.size=M.size - i:=by rw[Lib.size_eq,hMl,List.length_drop,← Lib.size_eq]
  have hSne:s.data.toList.drop i≠[]:=drop_ne (by rw[← Lib.size_eq];exact his)
  have hMne:M.data.toList.drop i≠[]:=drop_ne (by rw[← Lib.size_eq];exact hiM)
  obtain⟨y,hy⟩:∃ y:Nat,(M[i]'hiM).toNat=y:=⟨_,rfl⟩
  rw[hy] at hy1 hy2
  have hb0:bt (s.data.toList.drop i) 0=x.toNat:=by rw[bt_def,getD_drop',List.getD_eq_getElem?_getD,Nat.add_zero,hxl];rfl
  have hm0:bt (M.data.toList.drop i) 0=y:=by rw[bt_def,getD_drop',List.getD_eq_getElem?_getD,Nat.add_zero,Lib.data_getElem? M i hiM,← hy];rfl
  have hdm:dc (M.data.toList.drop i)=(y,1):=by
    rcases dc_step hMne with ⟨_,a2⟩ | ⟨a1,a2,a3⟩
    · rw[a2,hm0]
    · have:=dc_ge1 (M.data.toList.drop i)
      have:=a3 0 (by omega)
      rw[hm0] at this
      omega
  rcases dc_step hSne with ⟨a1,_⟩ | ⟨a1,a2,_⟩
  · rw[hb0] at a1;omega
  obtain⟨c,hc⟩:∃ c,(dc (s.data.toList.drop i)).1=c:=⟨_,rfl⟩
  obtain⟨m,hm⟩:∃ m,(dc (s.data.toList.drop i)).2=m:=⟨_,rfl⟩
  rw[hc] at a1 a2
  have hcm:c≤1114111:=by unfold sane at a2;omega
  refine⟨S1,M1,y,(c:Int),(w'.iter S1 0).iterAt w'.heap.size S1 (0+m),hS1,hM1,hy1,hy2,by omega,by omega,by omega,fun ty=>?_,Lib.below_iterAt ((Below.refl w'.heap.size w').alloc (Nat.le_refl _) (.stringIter S1 0)) (Nat.le_refl _) S1 (0+m),by rw[hMl];exact hMne,by rw[hMl];exact hdm⟩
  have h:=Lib.run_next_any_at (P:=Tryz.prog) (w'.iter S1 0) w'.heap.size S1 0 ty (World.iter_heap _ _ _) (by omega)
  rw[udec,List.drop_zero,hSl,hc,hm] at h
  exact h
def intOfE:Value→Int | .int _ q=>q | _=>0
set_option maxHeartbeats 800000 in
set_option maxRecDepth 1000000 in
theorem eqf_any (s M:ByteArray) (w:World) (hM:Plainly M) (hT:Tabs w) (hF:Folds w) (hs:s.size < 4294967281) :
    Calls Tryz.prog 223 #[.string s,.string M] w fun e w'=>e=.returned (.bool (Lib.equalFold s.data.toList M.data.toList))∧Below w.heap.size w w':=by
  have HM:=Lib.hid hM
  have HT:=Lib.hid hT
  have HF:=Lib.hid hF
  clear hM hT hF
  obtain⟨N,hN⟩:∃ N:Nat,min (s.size:Int) (M.size:Int)=(N:Int):=⟨min s.size M.size,by omega⟩
  have hNs:N≤s.size:=by omega
  have hNM:N≤M.size:=by omega
  have hNe:N=s.size∨N=M.size:=by omega
  go_enter Tryz.func223,Tryz.ntmps223
  go_wp2_with fail
  apply wp_scope_jumps 0 (JumpE s M w) (fun _ _=>0)
  case hf=>repeat (first | exact fl_lab 0 | (apply fl_seqR;rfl) | apply fl_seqL)
  case first =>
      have HN0:Hid (Lib.equalFold (s.data.toList.drop 0) (M.data.toList.drop 0)=Lib.equalFold s.data.toList M.data.toList):=rfl
      go_wp2_with fail
      go_loopg [5] N (fun g s5 wx=>w=wx∧∃ i:Nat,i+g=N∧s5=.int .i64 i∧Hid (Lib.equalFold (s.data.toList.drop i) (M.data.toList.drop i)=Lib.equalFold s.data.toList M.data.toList))
      case atStart=>exact⟨rfl,0,by omega,rfl,HN0⟩
      case round =>
        obtain⟨rfl,i,hig,rfl,HI⟩:=hrel
        clear hN HN0
        cases gk with
        | zero =>
          have hiM:¬ ((i:Int) < (N:Int)):=by omega
          obtain rfl:i=N:=by omega
          have hE:Lib.equalFold s.data.toList M.data.toList=decide (s.size=M.size):=by
            rw[← HI.out,Lib.equalFold_end _ _ (by
              rcases hNe with h | h
              · exact Or.inl (List.drop_eq_nil_of_le (by rw[← Lib.size_eq];omega))
              · exact Or.inr (List.drop_eq_nil_of_le (by rw[← Lib.size_eq];omega))),List.length_drop,List.length_drop,← Lib.size_eq,← Lib.size_eq]
            exact decide_eq_decide.2 (by omega)
          by_cases hst:s.size=M.size
          · have hb:((s.size:Int)==(M.size:Int))=true:=beq_iff_eq.2 (by omega)
            have hR:Hid (Lib.equalFold s.data.toList M.data.toList=true):=by unfold Hid;rw[hE];exact decide_eq_true hst
            clear hE hst
            go_wp2_with fail
            simp(config:={ zetaDelta:=true }) only[Exit.jump]
            go_ret
            exact⟨by rw[hR.out];rfl,Below.refl _ _⟩
          · have hb:((s.size:Int)==(M.size:Int))=false:=beq_eq_false_iff_ne.2 (by omega)
            have hR:Hid (Lib.equalFold s.data.toList M.data.toList=false):=by unfold Hid;rw[hE];exact decide_eq_false hst
            clear hE hst
            go_wp2_with fail
            simp(config:={ zetaDelta:=true }) only[Exit.jump]
            go_ret
            exact⟨by rw[hR.out];rfl,Below.refl _ _⟩
        | succ g =>
          have hiM:(i:Int) < (N:Int):=by omega
          have hisz:(i:Int) < (s.size:Int):=by omega
          have hitz:(i:Int) < (M.size:Int):=by omega
          obtain⟨x,hx⟩:∃ x:UInt8,s[i]'(by omega)=x:=⟨_,rfl⟩
          obtain⟨y,hy⟩:∃ y:UInt8,M[i]'(by omega)=y:=⟨_,rfl⟩
          have hxl:s.data.toList[i]?=some x:=by rw[← hx];exact Lib.data_getElem? s i (by omega)
          have hyl:M.data.toList[i]?=some y:=by rw[← hy];exact Lib.data_getElem? M i (by omega)
          have hy128:y.toNat < 128:=by rw[← hy];exact(HM.out i (by omega)).1
          have hx256:=UInt8.toNat_lt x
          have Hx:Hid (s.data.toList[i]?=some x∧M.data.toList[i]?=some y):=⟨hxl,hyl⟩
          clear hxl hyl
          by_cases hx128:x.toNat < 128
          · have hor:bits .or .u8 (x.toNat:Int) (y.toNat:Int)=((x.toNat ||| y.toNat:Nat):Int):=u8_or_nat _ _ (by omega) (by omega)
            have hor128:¬ ((128:Int)≤((x.toNat ||| y.toNat:Nat):Int)):=by have:=Nat.or_lt_two_pow (n:=7) hx128 hy128;omega
            go_wp2
            all_goals (try simp only[beq_iff_eq,beq_eq_false_iff_ne,ne_eq] at *)
            all_goals first
              | (go_roundg g
                 case measure=>omega
                 case rel=>exact⟨rfl,i+1,by omega,by first | rfl | simp,by unfold Hid;rw[← HI.out,Lib.drop_at Hx.out.1,Lib.drop_at Hx.out.2,Lib.equalFold_yes _ _ _ _ (decide_eq_true (by omega))]⟩)
              | (simp(config:={ zetaDelta:=true }) only[Exit.jump]
                 go_ret
                 refine⟨?_,Below.refl _ _⟩
                 rw[← HI.out,Lib.drop_at Hx.out.1,Lib.drop_at Hx.out.2,Lib.equalFold_no _ _ _ _ (decide_eq_false (by omega))];rfl)
          · have hor:bits .or .u8 (x.toNat:Int) (y.toNat:Int)=((x.toNat ||| y.toNat:Nat):Int):=u8_or_nat _ _ (by omega) (by omega)
            have hor128:(128:Int)≤((x.toNat ||| y.toNat:Nat):Int):=by have:=Nat.left_le_or (n:=x.toNat) (m:=y.toNat);omega
            have HJ:Hid (∃ x:UInt8,s.data.toList[i]?=some x∧128≤x.toNat):=⟨x,Hx.out.1,by omega⟩
            go_wp2
            go_step3
            exact⟨rfl,JumpE.mk i rfl rfl (by omega) (by omega) HJ⟩
  case pass =>
    rintro a' w' ⟨i,u,rfl,rfl,his,hiM,hx⟩
    have hfin:Hid (Lib.equalFold s.data.toList M.data.toList=false):=by
      obtain⟨x,h1,h2⟩:=hx.out
      exact eqf_high h1 h2 ⟨_,Lib.data_getElem? M i hiM,(HM.out i hiM).1⟩
    obtain⟨S1,M1,y,cz,W2,hS1,hM1,hy1,hy2,cz0,cz1,hM1n,hnx,hb2,hMne,hdm⟩:=eqf_pre w' his hiM hx.out HM.out
    have HD:=Lib.hid (fun (W:World) (h:Below w'.heap.size w' W)=>dec_any M1 y 1 W hMne (Lib.hid hdm) (HT.out.below h))
    have HS:=Lib.hid (fun (q:Nat) (W:World) (h:Below w'.heap.size w' W) (hq:q < 128)=>simpleFold_any q W (HF.out.below h) hq)
    have HB2:=Lib.hid hb2
    have HY2:=Lib.hid hy2
    have hM1e:((M1.size:Int)==0)=false:=beq_eq_false_iff_ne.2 (by omega)
    obtain⟨yz,hyz⟩:∃ yz:Int,(y:Int)=yz:=⟨_,rfl⟩
    have g1:(yz==cz)=false:=beq_eq_false_iff_ne.2 (by omega)
    have g2:yz < cz:=by omega
    have HYZ:=Lib.hid hyz
    have HS2:Hid (∀ (q:Nat) (qz:Int) (W:World),(q:Int)=qz→q < 128→Below w'.heap.size w' W→Calls Tryz.prog 259 #[.int .i32 qz] W fun e w2=>e=.returned (.int .i32 (foldN q:Nat))∧w2=W):=fun q qz W e hq hb=>by
      subst e
      exact HS.out q W hb hq
    have hylt:Hid (y < 128):=hy1
    rw[hyz] at HD
    clear hb2 hMne hdm hx HM HT HF hy2 hN hNs hNM hNe N hyz hy1 HS
    go_wp2_with fail
    go_loopw [1] (fun t wr=>t=.string M1∧wr=w'.iter S1 0) (fun _ _=>0)
    case atStart=>exact⟨rfl,rfl⟩
    case round =>
      obtain⟨rfl,rfl⟩:=hrel
      go_wp2_with fail
      refine(HD.out W2 HB2.out).mono ?_
      rintro e w3 ⟨rfl,b3⟩
      have B3:Hid (Below w'.heap.size w' w3):=HB2.out.trans (b3.mono HB2.out.size)
      clear b3
      go_wp2_with fail
      refine(HS2.out y yz w3 HYZ.out hylt.out B3.out).mono ?_
      rintro e w4 ⟨rfl,rfl⟩
      rcases HY2.out with hf | ⟨hf1,hf2,hf3⟩
      · rw[hf,HYZ.out]
        go_wp2_with fail
        go_loop [13] (fun r=>r=.int .i32 yz) (fun _=>0)
        case atStart=>rfl
        case round =>
          obtain rfl:=hrel
          go_wp2_with fail
          simp(config:={ zetaDelta:=true }) only[Exit.jump]
          go_ret
          exact⟨by rw[hfin.out];rfl,B3.out⟩
      · obtain⟨fz,hfz⟩:∃ fz:Int,((foldN y:Nat):Int)=fz:=⟨_,rfl⟩
        have f1:(fz != yz)=true:=bne_iff_ne.2 (by have:=HYZ.out;omega)
        have f2:fz < cz:=by omega
        have HFZ:=Lib.hid hfz
        have HF1:=Lib.hid hf1
        have HF2:=Lib.hid hf2
        rw[hfz]
        clear hfz hf1 hf2 hf3
        go_wp2_with fail
        go_loop [13] (fun r=>r=.int .i32 yz∨r=.int .i32 fz) (fun r=>if intOfE r=yz then 0 else 1)
        case atStart=>exact .inr rfl
        case round =>
          rcases hrel with rfl | rfl
          · go_wp2_with fail
            simp(config:={ zetaDelta:=true }) only[Exit.jump]
            go_ret
            exact⟨by rw[hfin.out];rfl,B3.out⟩
          · go_wp2_with fail
            refine(HS2.out (foldN y) fz _ HFZ.out HF1.out B3.out).mono ?_
            rintro e w5 ⟨rfl,rfl⟩
            rw[HF2.out,HYZ.out]
            go_wp2_with fail
            go_round
            case rel=>exact .inl rfl
            case measure=>have h9:=bne_iff_ne.1 f1;simp[intOfE,h9]
theorem foldEq_up (x y:UInt8) (hy:y.toNat < 128):Lib.foldEq x y=decide (Vc.upC x=Vc.upC y):=by
  have key:∀ y:Fin 128,∀ x:Fin 256,Lib.foldEq (UInt8.ofNat x.val) (UInt8.ofNat y.val)=decide (Vc.upC (UInt8.ofNat x.val)=Vc.upC (UInt8.ofNat y.val)):=by decide +kernel
  have h:=key ⟨y.toNat,hy⟩ ⟨x.toNat,UInt8.toNat_lt x⟩
  simpa using h
theorem equalFold_up:∀ (l M:List UInt8),(∀ b∈M,b.toNat < 128)→Lib.equalFold l M=decide (Vc.up l=Vc.up M)
  | [],[],_=>rfl
  | [],_::_,_=>rfl
  | _::_,[],_=>rfl
  | x::l,y::M,h=>by
    have ih:=equalFold_up l M (fun b hb=>h b (List.mem_cons_of_mem _ hb))
    unfold Lib.equalFold
    rw[ih,foldEq_up x y (h y List.mem_cons_self),← Bool.decide_and]
    refine decide_eq_decide.2 ?_
    show _↔Vc.upC x::Vc.up l=Vc.upC y::Vc.up M
    rw[List.cons.injEq]
theorem Plainly.all {M:ByteArray} (h:Plainly M):∀ b∈M.data.toList,b.toNat < 128:=fun b hb=>by
  obtain⟨i,hi,e⟩:=List.mem_iff_getElem.1 hb
  have hi2:i < M.size:=by rw[Lib.size_eq];exact hi
  have h2:=Lib.data_getElem? M i hi2
  rw[List.getElem?_eq_getElem hi,e] at h2
  have:=(h i hi2).1
  rwa [← Option.some.inj h2] at this
set_option maxHeartbeats 1000000 in
theorem is_any (s M:ByteArray) (w:World) (hM:Plainly M) (hT:Tabs w) (hF:Folds w) (hs:s.size < 4294967281) :
    Calls Tryz.prog 185 #[.string s,.string M] w fun e w'=>e=.returned (.bool (decide (Vc.up s.data.toList=Vc.up M.data.toList)))∧Below w.heap.size w w':=by
  have H:=eqf_any s M w hM hT hF hs
  rw[equalFold_up _ _ hM.all] at H
  have HO:=Lib.hid H
  obtain⟨b,hb⟩:∃ b,decide (Vc.up s.data.toList=Vc.up M.data.toList)=b:=⟨_,rfl⟩
  rw[hb] at HO ⊢
  clear H hb hM hT hF
  go_enter Tryz.func185,Tryz.ntmps185
  go_wp2_with (go_at_call 223;refine HO.out.mono ?_;rintro e w1 ⟨rfl,b1⟩)
  go_ret
  exact⟨rfl,b1⟩
end Go.Proofs.YtfbdnaclkfmiaaaGreatDoor
end
section
namespace Go.Proofs.YtfbdnaclkfmiaaaGreatDoor
open Go.RowKit Vc
theorem bts_of {a:ByteArray} {l:List UInt8} (h:a.data.toList=l):a=bts l:=by subst h;rfl
theorem bts_size (l:List UInt8):(bts l).size=l.length:=Lib.size_eq _
theorem toNat_to (c:UInt8):(UInt8.ofNat c.toNat)=c:=by simp
def signsL:List UInt8:=[65,66,67,68,69,70,71,72,73,74,75,76,77,78,79,80,81,82,83,84,85,86,87,88,89,90,97,98,99,100,101,102,103,104,105,106,107,108,109,110,111,112,113,114,115,116,117,118,119,120,121,122,48,49,50,51,52,53,54,55,56,57,45]
theorem signs_wc (c:UInt8):signsL.contains c=wc c:=by
  have key:∀ x:Fin 256,signsL.contains (UInt8.ofNat x.val)=wc (UInt8.ofNat x.val):=by decide +kernel
  have:=key ⟨c.toNat,UInt8.toNat_lt c⟩
  rwa [toNat_to] at this
theorem free_set (c:UInt8):([34,59,58,44]:List UInt8).contains c=!free c:=by
  have key:∀ x:Fin 256,([34,59,58,44]:List UInt8).contains (UInt8.ofNat x.val)=!free (UInt8.ofNat x.val):=by decide +kernel
  have:=key ⟨c.toNat,UInt8.toNat_lt c⟩
  rwa [toNat_to] at this
theorem upper_up (l:List UInt8):Lib.toUpperA l=up l:=by
  unfold Lib.toUpperA up
  refine List.map_congr_left fun c _=>?_
  have key:∀ x:Fin 256,Lib.upperB (UInt8.ofNat x.val)=upC (UInt8.ofNat x.val):=by decide +kernel
  have:=key ⟨c.toNat,UInt8.toNat_lt c⟩
  rwa [toNat_to] at this
theorem extract_take (s:ByteArray) (n:Nat):s.extract 0 n=bts (s.data.toList.take n):=bts_of (by rw[mid_cut];simp)
theorem takeWhile_take_len (p:UInt8→Bool):∀ l:List UInt8,l.take (l.takeWhile p).length=l.takeWhile p
  | []=>rfl
  | c::t=>by
    rw[List.takeWhile_cons]
    cases p c with
    | true=>simp[takeWhile_take_len p t]
    | false=>rfl
theorem take_while_len (p:UInt8→Bool) (l:List UInt8):l.take (l.length - (l.dropWhile p).length)=l.takeWhile p:=by
  have h:=List.takeWhile_append_dropWhile (p:=p) (l:=l)
  have h2:l.length - (l.dropWhile p).length=(l.takeWhile p).length:=by
    have:=congrArg List.length h
    rw[List.length_append] at this
    omega
  rw[h2]
  exact takeWhile_take_len p l
set_option maxHeartbeats 1000000 in
theorem word_any (s:ByteArray) (w:World) (hs:s.size≤1000000000) :
    Calls Tryz.prog 279 #[.string s] w fun e w'=>e=.returned (.tuple #[.string (bts (s.data.toList.takeWhile wc)),.string (bts (s.data.toList.dropWhile wc))])∧Below w.heap.size w w':=by
  have H:=Any.strings_TrimLeft_laid Tryz.lays161 (show (Tryz.prog.info? 245).map (fun i=>(i.zero,i.size))=some (some (.agg (Array.replicate 256 (.bool false))),256) by kernel_rfl) s ⟨signsL.toArray⟩ w (by decide) (ascii_of_all (by decide +kernel))
  have e1:Lib.trimLeftS s.data.toList (⟨signsL.toArray⟩:ByteArray).data.toList=s.data.toList.dropWhile wc:=by
    unfold Lib.trimLeftS
    congr 1
    funext c
    exact signs_wc c
  rw[e1] at H
  obtain⟨R,hR⟩:∃ R,bts (s.data.toList.dropWhile wc)=R:=⟨_,rfl⟩
  have hRl:R.size=(s.data.toList.dropWhile wc).length:=by rw[← hR,bts_size]
  have hle:(s.data.toList.dropWhile wc).length≤s.size:=by rw[Lib.size_eq];exact(List.dropWhile_sublist wc).length_le
  have hT:=take_while_len wc s.data.toList
  rw[← Lib.size_eq,← hRl] at hT
  obtain⟨n,hn⟩:∃ n,s.size - R.size=n:=⟨_,rfl⟩
  have hni:(s.size:Int) - (R.size:Int)=(n:Int):=by omega
  have hns:n≤s.size:=by omega
  rw[hn] at hT
  have HE:Hid (s.extract 0 n=bts (s.data.toList.takeWhile wc)):=by unfold Hid;rw[extract_take,hT]
  rw[show (⟨(s.data.toList.dropWhile wc).toArray⟩:ByteArray)=R from hR] at H
  rw[hR]
  have HO:=Lib.hid H
  clear H e1 hRl hle hT hn hR
  go_enter Tryz.func279,Tryz.ntmps279
  go_wp2_with fail
  refine HO.out.mono ?_
  rintro e w1 ⟨rfl,b1⟩
  go_wp2_with fail
  go_ret2
  rw[HE.out]
  exact⟨rfl,b1⟩
theorem cutp1_yes (c:UInt8) (s:ByteArray) (t:List UInt8) (w:World) (h:s.data.toList=c::t) :
    Calls Tryz.prog 262 #[.string s,.string ⟨#[c]⟩] w fun e w'=>e=.returned (.tuple #[.string (bts t),.bool true])∧w'=w:=by
  have H:=Tryz.strings_CutPrefix s ⟨#[c]⟩ w
  rw[h,show (⟨#[c]⟩:ByteArray).data.toList=[c] from rfl] at H
  have e1:Lib.hasPrefix (c::t) [c]=true:=by simp[Lib.hasPrefix]
  have e2:Lib.trimPrefix (c::t) [c]=t:=by unfold Lib.trimPrefix;rw[if_pos e1];rfl
  rw[e1,e2] at H
  exact H
theorem cutp1_no (c:UInt8) (s:ByteArray) (w:World) (h:s.data.toList.head?≠some c) :
    Calls Tryz.prog 262 #[.string s,.string ⟨#[c]⟩] w fun e w'=>e=.returned (.tuple #[.string s,.bool false])∧w'=w:=by
  have H:=Tryz.strings_CutPrefix s ⟨#[c]⟩ w
  rw[show (⟨#[c]⟩:ByteArray).data.toList=[c] from rfl] at H
  have e1:Lib.hasPrefix s.data.toList [c]=false:=by
    cases hl:s.data.toList with
    | nil=>rfl
    | cons x t =>
      rw[hl] at h
      have hx:¬ x=c:=fun e=>h (by rw[e];rfl)
      have hx2:(c==x)=false:=beq_eq_false_iff_ne.2 (fun e=>hx e.symm)
      unfold Lib.hasPrefix
      rw[List.isPrefixOf,hx2,Bool.false_and]
  have e2:Lib.trimPrefix s.data.toList [c]=s.data.toList:=by unfold Lib.trimPrefix;rw[if_neg (by rw[e1];decide)]
  rw[e1,e2] at H
  exact H
theorem cut1_any (c:UInt8) (s:ByteArray) (w:World) (hM:MaxL w) (hs:s.size≤1000000000) :
    Calls Tryz.prog 113 #[.string s,.string ⟨#[c]⟩] w fun e w'=>(∃ p r,s.data.toList=p++c::r∧(∀ x∈p,x≠c)∧e=.returned (.tuple #[.string (bts p),.string (bts r),.bool true])∨(∀ x∈s.data.toList,x≠c)∧e=.returned (.tuple #[.string s,.string (bts []),.bool false]))∧Below w.heap.size w w':=by
  obtain⟨m,hm⟩:=hM
  refine(Tryz.strings_Cut s ⟨#[c]⟩ m w (by omega) hm).mono ?_
  rintro e w' ⟨rfl,n,rfl⟩
  refine⟨?_,below_drewNP w n⟩
  rw[show (⟨#[c]⟩:ByteArray).data.toList=[c] from rfl]
  rcases cut_one c s.data.toList with ⟨h1,h2⟩ | ⟨p,r,h1,h2,h3⟩
  · rw[h1]
    exact⟨[],[],.inr ⟨h2,rfl⟩⟩
  · rw[h3]
    exact⟨p,r,.inl ⟨h1,h2,rfl⟩⟩
end Go.Proofs.YtfbdnaclkfmiaaaGreatDoor
end
section
namespace Go.Proofs.YtfbdnaclkfmiaaaGreatDoor
open Go.RowKit Vc
theorem drop_le (p:UInt8→Bool) (l:List UInt8):(l.dropWhile p).length≤l.length:=(List.dropWhile_sublist p).length_le
theorem take_le (p:UInt8→Bool) (l:List UInt8):(l.takeWhile p).length≤l.length:=(List.takeWhile_sublist p).length_le
theorem pval_le {r v m:List UInt8} (h:pvalL r=some (v,m)):v.length≤r.length∧m.length≤r.length:=by
  unfold pvalL at h
  split at h
  · rename_i q
    split at h
    · cases h
    · rename_i m' hm
      injection h with h
      injection h with h1 h2
      have a:=take_le (· != 34) q
      have b:=drop_le (· != 34) q
      rw[hm] at b
      rw[← h1,← h2]
      simp only[List.length_cons] at b ⊢
      omega
  · injection h with h
    injection h with h1 h2
    rw[← h1,← h2]
    exact⟨take_le _ _,drop_le _ _⟩
theorem par_le {r m:List UInt8} {a:Par} (h:parL r=some (a,m)):m.length≤r.length∧a.1.length≤r.length∧a.2.length≤r.length:=by
  unfold parL at h
  split at h
  · cases h
  · split at h
    · rename_i q hq
      obtain⟨v,hv,e⟩:=Option.map_eq_some_iff.1 h
      obtain⟨h1,h2⟩:=pval_le (v:=v.1) (m:=v.2) hv
      injection e with e1 e2
      have a:=drop_le wc r
      have b:=take_le wc r
      rw[hq] at a
      subst e1 e2
      simp only[List.length_cons] at a
      refine⟨by omega,?_,by show v.1.length≤_;omega⟩
      show (up (r.takeWhile wc)).length≤_
      unfold up
      rw[List.length_map]
      exact b
    · cases h
theorem pars_fuel:∀ (f g:Nat) (t:List UInt8) (ps:List Par),t.length < f→t.length < g→parsF f ps t=parsF g ps t
  | 0,_,_,_,h,_=>by omega
  | _,0,_,_,_,h=>by omega
  | f + 1,g+1,t,ps,hf,hg=>by
    unfold parsF
    cases t with
    | nil=>rfl
    | cons c r =>
      by_cases hc:c=59
      · subst hc
        simp only
        cases hp:parL r with
        | none=>rfl
        | some p =>
          obtain⟨h1,-⟩:=par_le (a:=p.1) (m:=p.2) hp
          simp only[List.length_cons] at hf hg
          exact pars_fuel f g p.2 (ps++[p.1]) (by omega) (by omega)
      · split
        · rename_i e;injection e with e;exact absurd e hc
        · rfl
theorem pars_more (f:Nat) (ps:List Par) (r:List UInt8):parsF (f+1) ps (59::r)=match parL r with
    | some p=>parsF f (ps++[p.1]) p.2
    | none=>none:=rfl
def PStandV (l:List UInt8) (ps:List Par) (t:List UInt8):Prop:=t.length≤l.length∧parsF (l.length+1) [] l=parsF (t.length+1) ps t∧ps.length≤l.length - t.length
theorem PStandV.start (l:List UInt8):PStandV l [] l:=⟨Nat.le_refl _,rfl,Nat.zero_le _⟩
theorem PStandV.stop {l t:List UInt8} {ps:List Par} (h:PStandV l ps t) (ht:t.head?≠some 59):parsF (l.length+1) [] l=some (ps,t):=by
  rw[h.2.1]
  unfold parsF
  cases t with
  | nil=>rfl
  | cons c r =>
    split
    · rename_i e;injection e with e;exact absurd (by rw[e];rfl) ht
    · rfl
theorem PStandV.bad {l r:List UInt8} {ps:List Par} (h:PStandV l ps (59::r)) (hp:parL r=none):parsF (l.length+1) [] l=none:=by
  rw[h.2.1,List.length_cons,pars_more,hp]
theorem PStandV.on {l r m:List UInt8} {ps:List Par} {a:Par} (h:PStandV l ps (59::r)) (hp:parL r=some (a,m)):PStandV l (ps++[a]) m∧m.length < r.length+1:=by
  obtain⟨h1,h2,h3⟩:=h
  obtain⟨h4,-⟩:=par_le hp
  simp only[List.length_cons] at h1 h3
  refine⟨⟨by omega,?_,by simp only[List.length_append,List.length_cons,List.length_nil];omega⟩,by omega⟩
  rw[h2,List.length_cons,pars_more,hp]
  exact pars_fuel (r.length+1) (m.length+1) m _ (by omega) (by omega)
def namesL (l:List UInt8):List UInt8 × List UInt8 × List UInt8 :=
  match l.takeWhile wc,l.dropWhile wc with
  | c::w,46::m=>(c::w,m.takeWhile wc,m.dropWhile wc)
  | w,r=>([],w,r)
theorem names_none {l:List UInt8} (h:l.takeWhile wc=[]∨(l.dropWhile wc).head?≠some 46):namesL l=([],l.takeWhile wc,l.dropWhile wc):=by
  unfold namesL
  split
  · rename_i c w m h1 h2
    rw[h1,h2] at h
    rcases h with h | h
    · cases h
    · exact absurd rfl h
  · rfl
theorem names_some {l m:List UInt8} (h1:l.takeWhile wc≠[]) (h2:l.dropWhile wc=46::m):namesL l=(l.takeWhile wc,m.takeWhile wc,m.dropWhile wc):=by
  unfold namesL
  split
  · rename_i c w m' e1 e2
    rw[e2] at h2
    injection h2 with _ h2
    subst h2
    rw[e1]
  · rename_i hx
    cases ht:l.takeWhile wc with
    | nil=>exact absurd ht h1
    | cons c w=>exact absurd h2 (fun e=>hx c w m ht e)
theorem head_names (l:List UInt8):headL l=((namesL l).1,up (namesL l).2.1,(namesL l).2.2):=by
  by_cases h:l.takeWhile wc=[]∨(l.dropWhile wc).head?≠some 46
  · rw[names_none h]
    unfold headL
    split
    · rename_i c w m h1 h2
      rw[h1,h2] at h
      rcases h with h | h
      · cases h
      · exact absurd rfl h
    · rfl
  · obtain⟨h1,h2⟩:=not_or.1 h
    obtain⟨m,hm⟩:∃ m,l.dropWhile wc=46::m:=by
      cases hd:l.dropWhile wc with
      | nil=>rw[hd] at h2;exact absurd (by simp) h2
      | cons x m =>
        rw[hd] at h2
        have h3:x=46:=by
          by_cases hx:x=46
          · exact hx
          · exact absurd (by simpa using hx) h2
        exact⟨m,by rw[h3]⟩
    rw[names_some h1 hm]
    unfold headL
    split
    · rename_i c w m' e1 e2
      rw[e2] at hm
      injection hm with _ hm
      subst hm
      rw[e1]
    · rename_i hx
      cases ht:l.takeWhile wc with
      | nil=>exact absurd ht h1
      | cons c w=>exact absurd hm (fun e=>hx c w m ht e)
theorem names_le (l:List UInt8):(namesL l).1.length≤l.length∧(namesL l).2.1.length≤l.length∧(namesL l).2.2.length≤l.length:=by
  have h1:=take_le wc l
  have h2:=drop_le wc l
  unfold namesL
  split
  · rename_i c w m e1 e2
    rw[e1] at h1
    rw[e2] at h2
    have h3:=take_le wc m
    have h4:=drop_le wc m
    simp only[List.length_cons] at h2
    exact⟨h1,by show (m.takeWhile wc).length≤_;omega,by show (m.dropWhile wc).length≤_;omega⟩
  · exact⟨Nat.zero_le _,h1,h2⟩
theorem any_free:∀ l:List UInt8,(Lib.indexAny l [34,59,58,44]=-1∧l.takeWhile free=l∧l.dropWhile free=[])∨∃ i:Nat,Lib.indexAny l [34,59,58,44]=i∧i < l.length∧l.takeWhile free=l.take i∧l.dropWhile free=l.drop i
  | []=>.inl ⟨rfl,rfl,rfl⟩
  | c :: t=>by
    have hs:=free_set c
    unfold Lib.indexAny
    cases hc:free c with
    | false =>
      rw[hc] at hs
      rw[if_pos (by rw[hs];rfl)]
      exact .inr ⟨0,rfl,by simp,by rw[List.takeWhile_cons,hc];rfl,by rw[List.dropWhile_cons,hc];rfl⟩
    | true =>
      rw[hc] at hs
      rw[if_neg (by rw[hs];decide),List.takeWhile_cons,List.dropWhile_cons,hc,if_pos rfl,if_pos rfl]
      rcases any_free t with ⟨h1,h2,h3⟩ | ⟨i,h1,h2,h3,h4⟩
      · exact .inl ⟨by rw[h1];rfl,by rw[h2],h3⟩
      · refine .inr ⟨i+1,?_,by simp only[List.length_cons];omega,by rw[h3,List.take_succ_cons],by rw[h4,List.drop_succ_cons]⟩
        rw[h1]
        have:(((i:Nat):Int)==-1)=false:=beq_eq_false_iff_ne.2 (by omega)
        rw[this]
        simp
set_option maxHeartbeats 2000000 in
set_option maxRecDepth 100000 in
theorem firstValue_any (s:ByteArray) (w:World) (hM:MaxL w) (hs:s.size≤1000000000) :
    Calls Tryz.prog 288 #[.string s] w fun e w'=>(∃ v m,e=.returned (.tuple #[.string (bts v),.string (bts m),.bool (pvalL s.data.toList).isSome])∧(∀ x,pvalL s.data.toList=some x→x=(v,m)))∧Below w.heap.size w w':=by
  have hsz:=Lib.size_eq s
  by_cases hq:s.data.toList.head?=some 34
  · obtain⟨t,ht⟩:∃ t,s.data.toList=34::t:=by
      cases hl:s.data.toList with
      | nil=>rw[hl] at hq;cases hq
      | cons x t => rw[hl] at hq;obtain rfl:x=34:=by simpa using hq
                    exact⟨t,rfl⟩
    have HC:=Lib.hid (cutp1_yes 34 s t w ht)
    have HK:=Lib.hid (fun (W:World) (h:Below w.heap.size w W)=>cut1_any 34 (bts t) W (hM.below h) (by rw[bts_size];rw[ht] at hsz;simp only[List.length_cons] at hsz;omega))
    have HT:=Lib.hid ht
    clear hq ht hM
    go_enter Tryz.func288,Tryz.ntmps288
    go_wp2_with fail
    refine HC.out.mono ?_
    rintro e w1 ⟨rfl,rfl⟩
    go_wp2_with fail
    refine(HK.out _ (Below.refl _ _)).mono ?_
    rintro e w2 ⟨⟨p,r,hcase⟩,b2⟩
    rcases hcase with ⟨h1,h2,rfl⟩ | ⟨h2,rfl⟩
    · have HP:Hid (pvalL s.data.toList=some (p,r)):=by
        unfold Hid
        have h1':t=p++34::r:=h1
        rw[HT.out,h1']
        have hall:∀ c∈p,(c != 34)=true:=fun c hc=>bne_iff_ne.2 (h2 c hc)
        unfold pvalL
        simp only
        rw[List.dropWhile_append_of_pos hall,List.takeWhile_append_of_pos hall]
        simp
      clear h1 h2
      go_wp2_with fail
      go_ret3
      rw[HP.out]
      exact⟨⟨p,r,rfl,fun x hx=>(Option.some.inj hx).symm⟩,b2⟩
    · have HP:Hid (pvalL s.data.toList=none):=by
        unfold Hid
        rw[HT.out]
        unfold pvalL
        simp only
        have hall:t.dropWhile (· != 34)=[]:=by
          have h3:=(take_all (p:=(· != 34)) (w:=t) (r:=[]) (fun c hc=>bne_iff_ne.2 (h2 c hc)) (fun c u e=>by cases e)).2
          rwa [List.append_nil] at h3
        rw[hall]
      clear h2
      go_wp2_with fail
      go_ret3
      rw[HP.out]
      exact⟨⟨t,[],rfl,fun x hx=>by cases hx⟩,b2⟩
  · have HC:=Lib.hid (cutp1_no 34 s w hq)
    have HI:=Lib.hid (anyOf_any ⟨#[34,59,58,44]⟩ s w (Asc.of (by decide)) (by decide) (by decide) (by omega))
    have hp:pvalL s.data.toList=some (s.data.toList.takeWhile free,s.data.toList.dropWhile free):=by
      unfold pvalL
      split
      · rename_i e;rw[e] at hq;exact absurd rfl hq
      · rfl
    rw[hp]
    have HP:=Lib.hid hp
    clear hq hp hM
    rcases any_free s.data.toList with ⟨h1,h2,h3⟩ | ⟨i,h1,h2,h3,h4⟩
    · rw[show (⟨#[34,59,58,44]⟩:ByteArray).data.toList=[34,59,58,44] from rfl,h1] at HI
      rw[h2,h3]
      clear h1 h2 h3 hsz
      go_enter Tryz.func288,Tryz.ntmps288
      go_wp2_with fail
      refine HC.out.mono ?_
      rintro e w1 ⟨rfl,rfl⟩
      go_wp2_with fail
      refine HI.out.mono ?_
      rintro e w2 ⟨rfl,b2⟩
      go_wp2_with fail
      go_region
      all_goals
        go_wp2_with fail
        go_ret3
        exact⟨⟨s.data.toList,[],rfl,fun x hx=>(Option.some.inj hx).symm⟩,b2.drew⟩
    · rw[show (⟨#[34,59,58,44]⟩:ByteArray).data.toList=[34,59,58,44] from rfl,h1] at HI
      rw[h3,h4]
      have HE1:Hid (s.extract 0 i=bts (s.data.toList.take i)):=extract_take s i
      have HE2:Hid (s.extract i s.size=bts (s.data.toList.drop i)):=bts_of (Lib.extract_to_end s i)
      have hi2:i≤s.size:=by omega
      clear h1 h2 h3 h4 hsz
      go_enter Tryz.func288,Tryz.ntmps288
      go_wp2_with fail
      refine HC.out.mono ?_
      rintro e w1 ⟨rfl,rfl⟩
      go_wp2_with fail
      refine HI.out.mono ?_
      rintro e w2 ⟨rfl,b2⟩
      go_wp2_with fail
      go_region
      all_goals
        go_wp2_with fail
        go_ret3
        rw[HE1.out,HE2.out]
        exact⟨⟨_,_,rfl,fun x hx=>(Option.some.inj hx).symm⟩,b2.drew⟩
end Go.Proofs.YtfbdnaclkfmiaaaGreatDoor
end