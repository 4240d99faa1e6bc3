import Derived.Test.YtfbdnaclkfmiaaaGreatDoorB11
import Derived.Test.YtfbdnaclkfmiaaaGreatDoorB09
import Derived.Test.YtfbdnaclkfmiaaaGreatDoorB17
import Derived.Test.YtfbdnaclkfmiaaaGreatDoorB18
section
namespace Go.Proofs.YtfbdnaclkfmiaaaGreatDoor
open Go.RowKit Rg Tx
theorem wrong1_in (c:Nat):Pr.wrong 1 c=(inL bannedL c||([32,34,38,39,47,58,60,62,64]:List Nat).any fun d=>(d:Int)==(c:Int)):=by
  have h:inL Pr.besideBL c=([32,34,38,39,47,58,60,62,64]:List Nat).any fun d=>(d:Int)==(c:Int):=by
    rw[Bool.eq_iff_iff]
    simp[inL,Pr.besideBL]
    omega
  rw[← h]
  rfl
theorem wrong2_in (c:Nat):(!Pr.wrong 2 c)=(decide ((48:Int)≤c)&&decide ((c:Int)≤57)||(c:Int)==45||(c:Int)==46||inL lettersL c||inL rightLeftL c):=by
  have h:inL Pr.besideLL c=(decide ((48:Int)≤c)&&decide ((c:Int)≤57)||(c:Int)==45||(c:Int)==46):=by
    rw[Bool.eq_iff_iff]
    simp[inL,Pr.besideLL]
    omega
  rw[← h]
  show (!(!(inL lettersL c||inL rightLeftL c||inL Pr.besideLL c)))=_
  cases inL lettersL c<;>cases inL rightLeftL c<;>cases inL Pr.besideLL c<;>rfl
theorem nine:(ints [32,34,38,39,47,58,60,62,64]).toArray=#[.int .i64 32,.int .i64 34,.int .i64 38,.int .i64 39,.int .i64 47,.int .i64 58,.int .i64 60,.int .i64 62,.int .i64 64]:=by
  unfold ints
  rfl
set_option maxHeartbeats 4000000 in
theorem rallowed1_any (c:Nat) (w:World):Calls Tryz.prog 198 #[.int .i64 1,.int .i64 c] w fun e w'=>e=.returned (.bool (!Pr.wrong 1 c))∧Below w.heap.size w w':=by
  have HB:=Lib.hid refBanned_any
  have HI:=Lib.hid (fun (B:Nat) v W (h:OwnR B W v bannedL)=>refIn_any v bannedL c W h.reads (by simp[bannedL]))
  have hn:=nine
  obtain⟨x,hx⟩:∃ x:List Nat,x=[32,34,38,39,47,58,60,62,64]:=⟨_,rfl⟩
  have hxl:x.length=9:=by rw[hx];rfl
  have hw:=wrong1_in c
  rw[← hx] at hw hn
  have HH:=Lib.hid (fun (W:World)=>hin_any (.slice (some ⟨W.heap.size,0,none⟩) 9 9) x c (W.alloc (.cells (ints x).toArray 3)) ((Reads.made W 3 x _ 9 9 rfl hxl).more (by simp)) (by omega))
  rw[hn] at HH
  obtain⟨g1,h1⟩:∃ g,inL bannedL c=g:=⟨_,rfl⟩
  obtain⟨g2,h2⟩:∃ g,(x.any fun d=>(d:Int)==(c:Int))=g:=⟨_,rfl⟩
  rw[h1,h2] at hw
  rw[h1] at HI
  rw[h2] at HH
  rw[hw]
  obtain⟨z,hz⟩:∃ z:Int,(c:Int)=z:=⟨_,rfl⟩
  rw[hz] at HI HH ⊢
  clear hn hx hxl hw h1 h2 hz
  cases g1<;>cases g2
  all_goals
    go_enter Tryz.func198,Tryz.ntmps198
    go_wp2_with fail
    refine(HB.out w).mono ?_
    rintro e w1 ⟨v1,rfl,o1,b1⟩
    have O1:=Lib.hid o1
    obtain⟨A1,c1,rfl⟩:=o1.slice
    clear o1
    go_wp2_with fail
    refine(HI.out _ _ w1 O1.out).mono ?_
    rintro e w2 ⟨rfl,b2⟩
    have B2:=Lib.hid (b1.trans (b2.mono b1.size))
    have H2:=Lib.hid (HH.out w2)
    have B3:=Lib.hid (B2.out.alloc B2.out.size (.cells #[.int .i64 32,.int .i64 34,.int .i64 38,.int .i64 39,.int .i64 47,.int .i64 58,.int .i64 60,.int .i64 62,.int .i64 64] 3))
    clear b1 b2
    (go_wp2_with (go_at_call 230;refine H2.out.mono ?_;rintro e w4 ⟨rfl,rfl⟩))
    go_ret
    first | exact⟨rfl,B3.out⟩ | exact⟨rfl,B2.out⟩
set_option maxHeartbeats 4000000 in
theorem rallowed3_any (c:Nat) (w:World):Calls Tryz.prog 198 #[.int .i64 3,.int .i64 c] w fun e w'=>e=.returned (.bool (!Pr.wrong 3 c))∧Below w.heap.size w w':=by
  have HB:=Lib.hid refBanned_any
  have HI:=Lib.hid (fun (B:Nat) v W (h:OwnR B W v bannedL)=>refIn_any v bannedL c W h.reads (by simp[bannedL]))
  have hw:Pr.wrong 3 c=inL bannedL c:=rfl
  obtain⟨g1,h1⟩:∃ g,inL bannedL c=g:=⟨_,rfl⟩
  rw[h1] at hw HI
  rw[hw]
  obtain⟨z,hz⟩:∃ z:Int,(c:Int)=z:=⟨_,rfl⟩
  rw[hz] at HI ⊢
  clear hw h1 hz
  cases g1
  all_goals
    go_enter Tryz.func198,Tryz.ntmps198
    go_wp2_with fail
    refine(HB.out w).mono ?_
    rintro e w1 ⟨v1,rfl,o1,b1⟩
    have O1:=Lib.hid o1
    obtain⟨A1,c1,rfl⟩:=o1.slice
    clear o1
    go_wp2_with fail
    refine(HI.out _ _ w1 O1.out).mono ?_
    rintro e w2 ⟨rfl,b2⟩
    have B2:=Lib.hid (b1.trans (b2.mono b1.size))
    clear b1 b2
    go_wp2_with fail
    go_ret
    exact⟨rfl,B2.out⟩
set_option maxHeartbeats 8000000 in
theorem rallowed2_any (c:Nat) (w:World):Calls Tryz.prog 198 #[.int .i64 2,.int .i64 c] w fun e w'=>e=.returned (.bool (!Pr.wrong 2 c))∧Below w.heap.size w w':=by
  have HL:=Lib.hid refLetters_any
  have HR:=Lib.hid refRightLeft_any
  have HI:=Lib.hid (fun (B:Nat) v W (h:OwnR B W v lettersL)=>refIn_any v lettersL c W h.reads (by simp[lettersL]))
  have HJ:=Lib.hid (fun (B:Nat) v W (h:OwnR B W v rightLeftL)=>refIn_any v rightLeftL c W h.reads (by simp[rightLeftL]))
  have hw:=wrong2_in c
  obtain⟨g1,h1⟩:∃ g,inL lettersL c=g:=⟨_,rfl⟩
  obtain⟨g2,h2⟩:∃ g,inL rightLeftL c=g:=⟨_,rfl⟩
  rw[h1,h2] at hw
  rw[h1] at HI
  rw[h2] at HJ
  rw[hw]
  obtain⟨z,hz⟩:∃ z:Int,(c:Int)=z:=⟨_,rfl⟩
  rw[hz] at HI HJ ⊢
  clear hw h1 h2 hz
  obtain⟨d,hd⟩:∃ d,(decide ((48:Int)≤z)&&decide (z≤57)||z==45||z==46)=d:=⟨_,rfl⟩
  rw[hd]
  cases d with
  | true =>
    rcases(show (decide (48≤z)=true∧decide (z≤57)=true)∨(decide (48≤z)=false∧(z==45)=true)∨(decide (48≤z)=false∧(z==45)=false∧(z==46)=true) by
      simp only[Bool.or_eq_true,Bool.and_eq_true,decide_eq_true_eq,decide_eq_false_iff_not,beq_iff_eq,beq_eq_false_iff_ne] at hd ⊢;omega) with ⟨k1,k2⟩ | ⟨k1,k2⟩ | ⟨k1,k2,k3⟩
    all_goals
      clear hd
      go_enter Tryz.func198,Tryz.ntmps198
      go_wp2_with fail
      go_ret
      exact⟨rfl,Below.refl _ _⟩
  | false =>
    rcases(show (decide (48≤z)=true∧decide (z≤57)=false∧(z==45)=false∧(z==46)=false)∨(decide (48≤z)=false∧(z==45)=false∧(z==46)=false) by
      simp only[Bool.or_eq_false_iff,Bool.and_eq_false_iff,decide_eq_true_eq,decide_eq_false_iff_not,beq_eq_false_iff_ne] at hd ⊢;omega) with ⟨k1,k2,k3,k4⟩ | ⟨k1,k2,k3⟩
    all_goals
      clear hd
      cases g1 with
      | true =>
        go_enter Tryz.func198,Tryz.ntmps198
        go_wp2_with fail
        refine(HL.out w).mono ?_
        rintro e w1 ⟨v1,rfl,o1,b1⟩
        have O1:=Lib.hid o1
        obtain⟨A1,c1,rfl⟩:=o1.slice
        clear o1
        go_wp2_with fail
        refine(HI.out _ _ w1 O1.out).mono ?_
        rintro e w2 ⟨rfl,b2⟩
        have B2:=Lib.hid (b1.trans (b2.mono b1.size))
        clear b1 b2
        go_wp2_with fail
        go_ret
        exact⟨rfl,B2.out⟩
      | false =>
        cases g2
        all_goals
          go_enter Tryz.func198,Tryz.ntmps198
          go_wp2_with fail
          refine(HL.out w).mono ?_
          rintro e w1 ⟨v1,rfl,o1,b1⟩
          have O1:=Lib.hid o1
          obtain⟨A1,c1,rfl⟩:=o1.slice
          clear o1
          go_wp2_with fail
          refine(HI.out _ _ w1 O1.out).mono ?_
          rintro e w2 ⟨rfl,b2⟩
          have B2:=Lib.hid (b1.trans (b2.mono b1.size))
          clear b1 b2
          go_wp2_with fail
          refine(HR.out w2).mono ?_
          rintro e w3 ⟨v3,rfl,o3,b3⟩
          have B3:=Lib.hid (B2.out.trans (b3.mono B2.out.size))
          have O3:=Lib.hid o3
          obtain⟨A3,c3,rfl⟩:=o3.slice
          clear o3 b3
          go_wp2_with fail
          refine(HJ.out _ _ w3 O3.out).mono ?_
          rintro e w4 ⟨rfl,b4⟩
          have B4:=Lib.hid (B3.out.trans (b4.mono B3.out.size))
          clear b4
          go_wp2_with fail
          go_ret
          exact⟨rfl,B4.out⟩
theorem rallowed_any (k c:Nat) (w:World) (hk:k=1∨k=2∨k=3):Calls Tryz.prog 198 #[.int .i64 k,.int .i64 c] w fun e w'=>e=.returned (.bool (!Pr.wrong k c))∧Below w.heap.size w w':=by
  rcases hk with rfl | rfl | rfl
  · exact rallowed1_any c w
  · exact rallowed2_any c w
  · exact rallowed3_any c w
end Go.Proofs.YtfbdnaclkfmiaaaGreatDoor
end
section
namespace Go.Proofs.YtfbdnaclkfmiaaaGreatDoor
open Go.RowKit Rg Tx
set_option maxHeartbeats 8000000 in
theorem rprep_any (k:Nat) (K:Int) (hK:K=(k:Int)) (hk:k=1∨k=2∨k=3) (s:ByteArray) (w:World) (hs:s.size≤500000000) :
    Calls Tryz.prog 167 #[.string s,.int .i64 K] w fun e w'=>e=.returned (prepV k s.data.toList)∧Below w.heap.size w w':=by
  have HV:=Lib.hid (rvalid_any s w (by omega))
  have hsz:=Lib.size_eq s
  cases hch:ch s.data.toList with
  | none =>
    have HF:=Lib.hid (prepV_of (Pr.prepL_bad (k:=k) (valid_none hch)))
    rw[valid_none hch] at HV
    rw[HF.out]
    clear hch hsz hK hk
    go_enter Tryz.func167,Tryz.ntmps167
    go_wp2_with (go_at_call 48;refine HV.out.mono ?_;rintro e w1 ⟨rfl,rfl⟩)
    go_ret2
    exact⟨rfl,Below.refl _ _⟩
  | some x =>
    have hx0:=ch_good_all _ _ _ (Nat.le_refl _) hch
    have hxl:=ch_length _ _ _ (Nat.le_refl _) hch
    rw[← hsz] at hxl
    have hxm:∀ c∈x,c≤1114111:=fun c hc=>by have:=(hx0 c hc).1;unfold sane at this;omega
    have hone:∀ c,(Pr.one (k != 3) c).length≤2:=fun c=>by
      unfold Pr.one Pr.put Pr.small
      repeat' split
      all_goals simp
    have hyl:=flatMap_len hone x
    obtain⟨y,hy⟩:∃ y,x.flatMap (Pr.one (k != 3))=y:=⟨_,rfl⟩
    have hys:∀ c∈y,c≤1114111:=by
      rw[← hy]
      exact Pr.mapL_each (p:=fun c=>c≤1114111) fun c hc d hd=>by have:=(Pr.one_fine _ (hx0 c hc) d hd).1;unfold sane at this;omega
    have hpl:Pr.prepL k s.data.toList=Pr.prepC k y:=by rw[Pr.prepL_ch hch,← hy];rfl
    rw[hy] at hyl
    have hyb:y.length≤1000000000:=by omega
    have HM:=Lib.hid (fun v W (hv:Reads W.heap.size W v x)=>rmapped_any v x (k != 3) W hv (by omega) hxm)
    have HA:=Lib.hid (fun (c:Nat) W=>rallowed_any k c W hk)
    have HO:=Lib.hid (fun v W (hv:Reads W.heap.size W v y)=>rway_any v y W hv (by omega))
    have HB:=Lib.hid (fun v W (hv:Reads W.heap.size W v y)=>rtexts_any v y W hv (by omega) hys)
    rw[hy] at HM
    have hrx:runes s.data.toList=x:=runes_some hch
    have HR:=Lib.hid (fun W=>(rrunes_any s W (by omega)).mono (fun e w' (h:RRunes W.heap.size W s.data.toList e w')=>show ∃ v,e=.returned v∧Owned W.heap.size w' v x∧Below W.heap.size W w' from by obtain⟨v,h1,h2,h3⟩:=h;rw[hrx] at h2;exact⟨v,h1,h2,h3⟩))
    rw[valid_some hch] at HV
    obtain⟨r,hr⟩:∃ r,prepV k s.data.toList=r:=⟨_,rfl⟩
    have HE:=Lib.hid (fun a n (h:Pr.prepC k y=(a,n))=>hr.symm.trans (prepV_of (hpl.trans h)))
    have HC0:=Lib.hid (fun (h:y.any (Pr.wrong k)=true)=>HE.out _ _ (Pr.prepC_char h))
    have HC1:=Lib.hid (fun (h:y.any (Pr.wrong k)=false) (h2:Pr.wayB y=false)=>HE.out _ _ (Pr.prepC_ways h h2))
    have HC2:=Lib.hid (fun (h:y.any (Pr.wrong k)=false) (h2:Pr.wayB y=true)=>HE.out _ _ (Pr.prepC_kept h h2))
    have HH:=Lib.hid (fun (j:Nat) (h:j < y.length) (h2:Pr.wrong k (y.getD j 0)=true)=>any_hit h h2)
    have HN:=Lib.hid (fun (h:∀ j,j < y.length→Pr.wrong k (y.getD j 0)=false)=>any_miss h)
    have hbn:(K != 3)=(k != 3):=by
      rw[hK,Bool.eq_iff_iff]
      simp
      omega
    obtain⟨b,hb⟩:∃ b,(k != 3)=b:=⟨_,rfl⟩
    rw[hb] at hbn HM
    have hK2:=hK.symm
    simp only[hK2] at HA
    rw[hr]
    clear hch hsz hx0 hxl hxm hone hyl hy hys hpl hrx hr HE hb hK hK2 hk
    go_enter Tryz.func167,Tryz.ntmps167
    go_wp2_with (go_at_call 48;refine HV.out.mono ?_;rintro e w1 ⟨rfl,rfl⟩)
    refine(HR.out w).mono ?_
    rintro e w2 ⟨v2,rfl,o2,b2⟩
    have B2:=Lib.hid b2
    have O2:=Lib.hid o2
    have M2:=Lib.hid (HM.out _ w2 o2.reads)
    obtain⟨A2,c2,rfl⟩:=o2.slice
    clear o2 b2
    go_wp2_with fail
    refine M2.out.mono ?_
    rintro e w4 ⟨v4,rfl,o4,b4⟩
    have B4:=Lib.hid (B2.out.trans (b4.mono B2.out.size))
    have O4:=Lib.hid o4
    obtain⟨A4,c4,hv4⟩:=o4.slice
    subst hv4
    have R4:=Lib.hid o4.reads
    clear o4 b4 M2 HM
    go_wp2_with fail
    go_loopw [7] (fun i wr=>∃ (j:Nat),j≤y.length∧i=.int .i64 j∧Hid (∀ t,t < j→Pr.wrong k (y.getD t 0)=false)∧Below w4.heap.size w4 wr) (fun i _=>y.length - (intOf i).toNat)
    case atStart=>exact⟨0,Nat.zero_le _,rfl,Lib.hid (fun j h=>absurd h (Nat.not_lt_zero _)),Below.refl _ _⟩
    case round =>
      obtain⟨j,hj,rfl,hno,bw⟩:=hrel
      have hsw:=bw.size
      by_cases hlt:j < y.length
      · obtain⟨-,hx⟩:=R4.out.cells
        obtain⟨ad,rfl,hlb,hc⟩:=hx (by omega)
        have c0:=hc j hlt
        rw[← bw.cell (p:=ad.add j) (by rw[addBlock];omega)] at c0
        obtain⟨c,hcx⟩:∃ c,y.getD j 0=c:=⟨_,rfl⟩
        rw[hcx] at c0
        have HCX:=Lib.hid hcx
        have A5:=Lib.hid (HA.out c wr)
        obtain⟨z,hz⟩:∃ z:Int,(c:Int)=z:=⟨_,rfl⟩
        rw[hz] at A5 c0
        obtain⟨g,hg⟩:∃ g,Pr.wrong k c=g:=⟨_,rfl⟩
        rw[hg] at A5
        have HG:=Lib.hid hg
        clear hc hx hcx hz hg
        cases g with
        | true =>
          have HF:=Lib.hid (HC0.out (HH.out j hlt (by rw[HCX.out];exact HG.out)))
          go_wp2_with fail
          refine A5.out.mono ?_
          rintro e w5 ⟨rfl,b5⟩
          have B5:=Lib.hid (B4.out.trans ((bw.trans (b5.mono hsw)).mono B4.out.size))
          clear b5
          go_wp2_with fail
          go_ret2
          exact⟨by rw[HF.out];rfl,B5.out⟩
        | false =>
          have hno2:Hid (∀ t,t < j+1→Pr.wrong k (y.getD t 0)=false):=Lib.hid (fun t ht=>by
            rcases Nat.lt_or_ge t j with h | h
            · exact hno.out t h
            · obtain rfl:t=j:=by omega
              rw[HCX.out]
              exact HG.out)
          go_wp2_with fail
          refine A5.out.mono ?_
          rintro e w5 ⟨rfl,b5⟩
          have b6:=bw.trans (b5.mono hsw)
          clear b5
          go_wp2_with fail
          go_roundw
          case rel=>exact⟨j+1,by omega,by go_num,hno2,b6⟩
          case measure=>simp[intOf];omega
      · have hje:j=y.length:=by omega
        have HW:=Lib.hid (HN.out (fun t ht=>hno.out t (by omega)))
        have B5:=Lib.hid (B4.out.trans (bw.mono B4.out.size))
        have R5:=Lib.hid ((R4.out.below bw).more hsw)
        have W5:=Lib.hid (HO.out _ wr R5.out)
        obtain⟨t,ht⟩:∃ t,Pr.wayB y=t:=⟨_,rfl⟩
        rw[ht] at W5
        have HTT:=Lib.hid ht
        clear hje ht
        go_wp2_with fail
        refine W5.out.mono ?_
        rintro e w6 ⟨rfl,b6⟩
        have B6:=Lib.hid (B5.out.trans (b6.mono B5.out.size))
        have R6:=Lib.hid ((R5.out.below b6).more b6.size)
        clear b6
        cases t with
        | false =>
          have HF:=Lib.hid (HC1.out HW.out HTT.out)
          go_wp2_with fail
          go_ret2
          exact⟨by rw[HF.out];rfl,B6.out⟩
        | true =>
          have HF:=Lib.hid (HC2.out HW.out HTT.out)
          have Y6:=Lib.hid (HB.out _ w6 R6.out)
          obtain⟨q,hq⟩:∃ q:ByteArray,(⟨(flat y).toArray⟩:ByteArray)=q:=⟨_,rfl⟩
          rw[hq] at Y6 HF
          clear hq
          go_wp2_with fail
          refine Y6.out.mono ?_
          rintro e w7 ⟨rfl,b7⟩
          have B7:=Lib.hid (B6.out.trans (b7.mono B6.out.size))
          clear b7
          go_wp2_with fail
          go_ret2
          exact⟨by rw[HF.out];rfl,B7.out⟩
theorem prepV_parts (k:Nat) (l:List UInt8):∃ (a:ByteArray) (n:Int),prepV k l=.tuple #[.string a,.int .i64 n]:=⟨_,_,rfl⟩
set_option maxHeartbeats 1000000 in
theorem rnode_any (s:ByteArray) (w:World) (hs:s.size≤500000000) :
    Calls Tryz.prog 136 #[.string s] w fun e w'=>e=.returned (prepV 1 s.data.toList)∧Below w.heap.size w w':=by
  have HP:=Lib.hid (rprep_any 1 1 rfl (.inl rfl) s w hs)
  obtain⟨a,n,h⟩:=prepV_parts 1 s.data.toList
  rw[h] at HP ⊢
  clear h
  go_enter Tryz.func136,Tryz.ntmps136
  go_wp2_with fail
  refine HP.out.mono ?_
  rintro e w1 ⟨rfl,b1⟩
  go_wp2_with fail
  go_ret2
  exact⟨rfl,b1⟩
set_option maxHeartbeats 1000000 in
theorem rhost_any (s:ByteArray) (w:World) (hs:s.size≤500000000) :
    Calls Tryz.prog 166 #[.string s] w fun e w'=>e=.returned (prepV 2 s.data.toList)∧Below w.heap.size w w':=by
  have HP:=Lib.hid (rprep_any 2 2 rfl (.inr (.inl rfl)) s w hs)
  obtain⟨a,n,h⟩:=prepV_parts 2 s.data.toList
  rw[h] at HP ⊢
  clear h
  go_enter Tryz.func166,Tryz.ntmps166
  go_wp2_with fail
  refine HP.out.mono ?_
  rintro e w1 ⟨rfl,b1⟩
  go_wp2_with fail
  go_ret2
  exact⟨rfl,b1⟩
set_option maxHeartbeats 1000000 in
theorem rresource_any (s:ByteArray) (w:World) (hs:s.size≤500000000) :
    Calls Tryz.prog 137 #[.string s] w fun e w'=>e=.returned (prepV 3 s.data.toList)∧Below w.heap.size w w':=by
  have HP:=Lib.hid (rprep_any 3 3 rfl (.inr (.inr rfl)) s w hs)
  obtain⟨a,n,h⟩:=prepV_parts 3 s.data.toList
  rw[h] at HP ⊢
  clear h
  go_enter Tryz.func137,Tryz.ntmps137
  go_wp2_with fail
  refine HP.out.mono ?_
  rintro e w1 ⟨rfl,b1⟩
  go_wp2_with fail
  go_ret2
  exact⟨rfl,b1⟩
end Go.Proofs.YtfbdnaclkfmiaaaGreatDoor
end