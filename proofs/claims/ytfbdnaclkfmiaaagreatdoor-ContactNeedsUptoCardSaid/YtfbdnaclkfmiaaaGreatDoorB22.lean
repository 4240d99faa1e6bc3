import Derived.Test.YtfbdnaclkfmiaaaGreatDoorB09
import Derived.Test.YtfbdnaclkfmiaaaGreatDoorB10
import Derived.Test.YtfbdnaclkfmiaaaGreatDoorB21
import Derived.Test.YtfbdnaclkfmiaaaGreatDoorB07
import Derived.Test.YtfbdnaclkfmiaaaGreatDoorB11
section
namespace Go.Proofs.YtfbdnaclkfmiaaaGreatDoor
open Go.RowKit Rg Tx
set_option maxHeartbeats 1000000 in
theorem besideB_any:Makes 182 Pr.besideBL:=by
  intro w
  go_enter Tryz.func182,Tryz.ntmps182
  go_wp2_with fail
  go_ret
  exact⟨_,rfl,made_of (l:=Pr.besideBL) rfl (by unfold Pr.besideBL;simp only[prs_cons,prs_nil]) (by decide)⟩
set_option maxHeartbeats 1000000 in
theorem besideL_any:Makes 236 Pr.besideLL:=by
  intro w
  go_enter Tryz.func236,Tryz.ntmps236
  go_wp2_with fail
  go_ret
  exact⟨_,rfl,made_of (l:=Pr.besideLL) rfl (by unfold Pr.besideLL;simp only[prs_cons,prs_nil]) (by decide)⟩
theorem joinL_in {a b:List R} (ha:rightB a=true) (hb:rightB b=true) (c:Int):inL (joinL a b) c=(inL a c||inL b c):=by
  rcases joinL_is a b with ⟨_,_,_,h⟩ | ⟨h,_⟩
  · exact h c
  · exact absurd ⟨ha,hb⟩ h
theorem wrong1:(fun c:Nat=>inL (joinL bannedL Pr.besideBL) c)=Pr.wrong 1:=by
  funext c
  rw[joinL_in (by decide) (by decide)]
  rfl
theorem wrong2 (c:Nat):(!inL (joinL (joinL lettersL rightLeftL) Pr.besideLL) c)=Pr.wrong 2 c:=by
  rw[joinL_in (joinL_right _ _) (by decide),joinL_in (by decide) (by decide)]
  rfl
theorem fits_banned:Fits bannedL:=by unfold Fits Fit bannedL;simp
theorem fits_besideB:Fits Pr.besideBL:=by unfold Fits Fit Pr.besideBL;simp
theorem fits_letters:Fits lettersL:=by unfold Fits Fit lettersL;simp
theorem fits_rightLeft:Fits rightLeftL:=by unfold Fits Fit rightLeftL;simp
theorem fits_besideL:Fits Pr.besideLL:=by unfold Fits Fit Pr.besideLL;simp
theorem len_join (a b:List R) (h:a.length+b.length≤100):(joinL a b).length≤100:=Nat.le_trans (joinL_length a b) h
set_option maxHeartbeats 4000000 in
theorem node_any (s:ByteArray) (w:World) (hT:Tabs w) (hs:s.size≤1000000000) :
    Calls Tryz.prog 148 #[.string s] w fun e w'=>e=.returned (prepV 1 s.data.toList)∧Below w.heap.size w w':=by
  have H1:=Lib.hid (banned_any w)
  have H2:=Lib.hid besideB_any
  have HJ:=Lib.hid (fun (B C:Nat) v u W (h:OwnR B W v bannedL) (h2:OwnR C W u Pr.besideBL)=>join_any v u _ _ W h.reads h2.reads fits_banned fits_besideB (by simp[bannedL]) (by simp[Pr.besideBL]))
  have HW:=Lib.hid (fun (B:Nat) v W (h:OwnR B W v (joinL bannedL Pr.besideBL))=>within_any v _ W h.reads (Nat.le_trans (len_join bannedL Pr.besideBL (by decide)) (by decide)))
  rw[wrong1] at HW
  have HK:=Lib.hid (fun q W (h:Below w.heap.size w W) (hq:Asks W q (Pr.wrong 1))=>kept_any 1 s (.func (.func 178) #[] #[]) q W (hT.below h) hs (small_adds W) hq)
  obtain⟨r,hr⟩:∃ r,Pr.prepL 1 s.data.toList=r:=⟨_,rfl⟩
  have hv:=prepV_of (a:=r.1) (n:=r.2) hr
  obtain⟨a,ha⟩:∃ a,(⟨r.1.toArray⟩:ByteArray)=a:=⟨_,rfl⟩
  rw[ha] at hv
  obtain⟨n,hn⟩:∃ n:Int,((r.2:Nat):Int)=n:=⟨_,rfl⟩
  rw[hn] at hv
  rw[hv] at HK ⊢
  obtain⟨L,hL⟩:∃ L,joinL bannedL Pr.besideBL=L:=⟨_,rfl⟩
  rw[hL] at HJ HW
  clear hT hs hr hv ha hn hL
  go_enter Tryz.func148,Tryz.ntmps148
  go_wp2_with fail
  refine H1.out.mono ?_
  rintro e w1 ⟨v1,rfl,o1,b1⟩
  have B1:=Lib.hid b1
  have O1:=Lib.hid o1
  obtain⟨A1,c1,rfl⟩:=o1.slice
  clear o1 b1
  go_wp2_with fail
  refine(H2.out w1).mono ?_
  rintro e w2 ⟨v2,rfl,o2,b2⟩
  have B2:=Lib.hid (B1.out.trans (b2.mono B1.out.size))
  have P2:=Lib.hid (O1.out.below b2)
  have O2:=Lib.hid o2
  obtain⟨A2,c2,rfl⟩:=o2.slice
  clear o2 b2
  go_wp2_with fail
  refine(HJ.out _ _ _ _ w2 P2.out O2.out).mono ?_
  rintro e w3 ⟨v3,rfl,o3,b3⟩
  have B3:=Lib.hid (B2.out.trans (b3.mono B2.out.size))
  have O3:=Lib.hid o3
  obtain⟨A3,c3,rfl⟩:=o3.slice
  clear o3 b3
  go_wp2_with fail
  refine(HW.out _ _ w3 O3.out).mono ?_
  rintro e w4 ⟨v4,rfl,q4,b4⟩
  have B4:=Lib.hid (B3.out.trans (b4.mono B3.out.size))
  have K4:=Lib.hid (HK.out _ w4 B4.out q4)
  obtain⟨G,gb,rfl,-,-⟩:=q4
  clear b4
  go_wp2_with fail
  refine K4.out.mono ?_
  rintro e w5 ⟨rfl,b5⟩
  have B5:=Lib.hid (B4.out.trans (b5.mono B4.out.size))
  clear b5
  go_wp2_with fail
  go_ret2
  exact⟨rfl,B5.out⟩
set_option maxHeartbeats 4000000 in
theorem resource_any (s:ByteArray) (w:World) (hT:Tabs w) (hs:s.size≤1000000000) :
    Calls Tryz.prog 150 #[.string s] w fun e w'=>e=.returned (prepV 3 s.data.toList)∧Below w.heap.size w w':=by
  have H1:=Lib.hid (banned_any w)
  have HW:=Lib.hid (fun (B:Nat) v W (h:OwnR B W v bannedL)=>within_any v _ W h.reads (by simp[bannedL]))
  have HK:=Lib.hid (fun q W (h:Below w.heap.size w W) (hq:Asks W q (fun c:Nat=>inL bannedL c))=>kept_any 3 s (.func (.func 183) #[] #[]) q W (hT.below h) hs (same_adds W) hq)
  obtain⟨r,hr⟩:∃ r,Pr.prepL 3 s.data.toList=r:=⟨_,rfl⟩
  have hv:=prepV_of (a:=r.1) (n:=r.2) hr
  obtain⟨a,ha⟩:∃ a,(⟨r.1.toArray⟩:ByteArray)=a:=⟨_,rfl⟩
  rw[ha] at hv
  obtain⟨n,hn⟩:∃ n:Int,((r.2:Nat):Int)=n:=⟨_,rfl⟩
  rw[hn] at hv
  rw[hv] at HK ⊢
  clear hT hs hr hv ha hn
  go_enter Tryz.func150,Tryz.ntmps150
  go_wp2_with fail
  refine H1.out.mono ?_
  rintro e w1 ⟨v1,rfl,o1,b1⟩
  have B1:=Lib.hid b1
  have O1:=Lib.hid o1
  obtain⟨A1,c1,rfl⟩:=o1.slice
  clear o1 b1
  go_wp2_with fail
  refine(HW.out _ _ w1 O1.out).mono ?_
  rintro e w4 ⟨v4,rfl,q4,b4⟩
  have B4:=Lib.hid (B1.out.trans (b4.mono B1.out.size))
  have K4:=Lib.hid (HK.out _ w4 B4.out q4)
  obtain⟨G,gb,rfl,-,-⟩:=q4
  clear b4
  go_wp2_with fail
  refine K4.out.mono ?_
  rintro e w5 ⟨rfl,b5⟩
  have B5:=Lib.hid (B4.out.trans (b5.mono B4.out.size))
  clear b5
  go_wp2_with fail
  go_ret2
  exact⟨rfl,B5.out⟩
set_option maxHeartbeats 1000000 in
theorem host1_any (g:Nat) (vg:Value) (p:Nat→Bool) (w0:World) (hq:Asks w0 vg p) (c:Nat) (W:World) (hW:Below w0.heap.size w0 W) (hg:W.cell? ⟨g,0,none⟩=some vg) :
    Calls Tryz.prog 237 (#[.int .i64 c]++#[.pointer (some ⟨g,0,none⟩)]) W fun e w'=>e=.returned (.bool (!p c))∧Below W.heap.size W w':=by
  obtain⟨G,gb,rfl,eg,hq⟩:=hq
  have HQ:=Lib.hid (hq c W hW)
  clear hq
  obtain⟨b,hb⟩:∃ b,p c=b:=⟨_,rfl⟩
  rw[hb] at HQ ⊢
  clear hb
  cases b
  all_goals
    go_enter Tryz.func237,Tryz.ntmps237
    go_wp2_with fail
    refine HQ.out.mono ?_
    rintro e w2 ⟨rfl,b2⟩
    go_wp2_with fail
    go_ret
    exact⟨rfl,b2⟩
set_option maxHeartbeats 4000000 in
theorem host_any (s:ByteArray) (w:World) (hT:Tabs w) (hs:s.size≤1000000000) :
    Calls Tryz.prog 203 #[.string s] w fun e w'=>e=.returned (prepV 2 s.data.toList)∧Below w.heap.size w w':=by
  have H1:=Lib.hid (letters_any w)
  have H2:=Lib.hid rightLeft_any
  have H3:=Lib.hid besideL_any
  have HJ:=Lib.hid (fun (B C:Nat) v u W (h:OwnR B W v lettersL) (h2:OwnR C W u rightLeftL)=>join_any v u _ _ W h.reads h2.reads fits_letters fits_rightLeft (by simp[lettersL]) (by simp[rightLeftL]))
  have hJ2:=len_join lettersL rightLeftL (by decide)
  have HJ2:=Lib.hid (fun (B C:Nat) v u W (h:OwnR B W v (joinL lettersL rightLeftL)) (h2:OwnR C W u Pr.besideLL)=>join_any v u _ _ W h.reads h2.reads (joinL_fits fits_letters fits_rightLeft) fits_besideL (by omega) (by simp[Pr.besideLL]))
  have hJ3:=joinL_length (joinL lettersL rightLeftL) Pr.besideLL
  have hJ4:Pr.besideLL.length=2:=rfl
  have HW:=Lib.hid (fun (B:Nat) v W (h:OwnR B W v (joinL (joinL lettersL rightLeftL) Pr.besideLL))=>within_any v _ W h.reads (by omega))
  have HK:=Lib.hid (fun q W (h:Below w.heap.size w W) (hq:Asks W q (Pr.wrong 2))=>kept_any 2 s (.func (.func 178) #[] #[]) q W (hT.below h) hs (small_adds W) hq)
  have HWR:=Lib.hid wrong2
  have eg:Hid (∀ args W,(callFunc 237 args).run Tryz.prog W=.ok (.enter 237 args) W):=Go.Proofs.enters_of Tryz.func237 (by kernel_rfl) rfl
  obtain⟨r,hr⟩:∃ r,Pr.prepL 2 s.data.toList=r:=⟨_,rfl⟩
  have hv:=prepV_of (a:=r.1) (n:=r.2) hr
  obtain⟨a,ha⟩:∃ a,(⟨r.1.toArray⟩:ByteArray)=a:=⟨_,rfl⟩
  rw[ha] at hv
  obtain⟨n,hn⟩:∃ n:Int,((r.2:Nat):Int)=n:=⟨_,rfl⟩
  rw[hn] at hv
  rw[hv] at HK ⊢
  obtain⟨L,hL⟩:∃ L,joinL lettersL rightLeftL=L:=⟨_,rfl⟩
  rw[hL] at HJ HJ2 HW HWR
  obtain⟨M,hM⟩:∃ M,joinL L Pr.besideLL=M:=⟨_,rfl⟩
  rw[hM] at HJ2 HW HWR
  clear hT hs hr hv ha hn hL hM hJ2 hJ3 hJ4
  go_enter Tryz.func203,Tryz.ntmps203
  go_wp2_with fail
  refine H1.out.mono ?_
  rintro e w1 ⟨v1,rfl,o1,b1⟩
  have B1:=Lib.hid b1
  have O1:=Lib.hid o1
  obtain⟨A1,c1,rfl⟩:=o1.slice
  clear o1 b1
  go_wp2_with fail
  refine(H2.out w1).mono ?_
  rintro e w2 ⟨v2,rfl,o2,b2⟩
  have B2:=Lib.hid (B1.out.trans (b2.mono B1.out.size))
  have P2:=Lib.hid (O1.out.below b2)
  have O2:=Lib.hid o2
  obtain⟨A2,c2,rfl⟩:=o2.slice
  clear o2 b2
  go_wp2_with fail
  refine(HJ.out _ _ _ _ w2 P2.out O2.out).mono ?_
  rintro e w3 ⟨v3,rfl,o3,b3⟩
  have B3:=Lib.hid (B2.out.trans (b3.mono B2.out.size))
  have O3:=Lib.hid o3
  obtain⟨A3,c3,rfl⟩:=o3.slice
  clear o3 b3
  go_wp2_with fail
  refine(H3.out w3).mono ?_
  rintro e w4 ⟨v4,rfl,o4,b4⟩
  have B4:=Lib.hid (B3.out.trans (b4.mono B3.out.size))
  have P4:=Lib.hid (O3.out.below b4)
  have O4:=Lib.hid o4
  obtain⟨A4,c4,rfl⟩:=o4.slice
  clear o4 b4
  go_wp2_with fail
  refine(HJ2.out _ _ _ _ w4 P4.out O4.out).mono ?_
  rintro e w5 ⟨v5,rfl,o5,b5⟩
  have B5:=Lib.hid (B4.out.trans (b5.mono B4.out.size))
  have O5:=Lib.hid o5
  obtain⟨A5,c5,rfl⟩:=o5.slice
  clear o5 b5
  go_wp2_with fail
  refine(HW.out _ _ w5 O5.out).mono ?_
  rintro e w6 ⟨v6,rfl,q6,b6⟩
  have B6:=Lib.hid (B5.out.trans (b6.mono B5.out.size))
  have Q6:=Lib.hid q6
  obtain⟨G,gb,rfl,-,-⟩:=q6
  obtain⟨w7,hw7⟩:∃ w7,w6.alloc (.cells #[.func (.func G) #[] gb] 152)=w7:=⟨_,rfl⟩
  have hb7:Below w6.heap.size w6 w7:=by rw[← hw7];exact(Below.refl _ w6).alloc (Nat.le_refl _) _
  have hk7:Bk w7 w6.heap.size 152 #[.func (.func G) #[] gb]:=by rw[← hw7];exact Bk.new w6 _ _
  have hs7:w7.heap.size=w6.heap.size+1:=by rw[← hw7,World.size_alloc]
  have B7:=Lib.hid (B6.out.trans (hb7.mono B6.out.size))
  have Q7:Asks w7 (.func (.func 237) #[] #[.pointer (some ⟨w6.heap.size,0,none⟩)]) (Pr.wrong 2):=by
    refine⟨_,_,rfl,eg.out,fun c W hW=>?_⟩
    rw[← HWR.out]
    exact host1_any w6.heap.size _ (fun c:Nat=>inL M c) w7 (Q6.out.below hb7) c W hW ((hk7.below hW (by omega)).cell 0)
  have K7:=Lib.hid (HK.out _ w7 B7.out Q7)
  rw[← hw7] at K7 B7
  clear b6 hb7 hk7 hs7 Q7 hw7
  go_wp2_with fail
  refine K7.out.mono ?_
  rintro e w8 ⟨rfl,b8⟩
  have B8:=Lib.hid (B7.out.trans (b8.mono B7.out.size))
  clear b8
  go_wp2_with fail
  go_ret2
  exact⟨rfl,B8.out⟩
end Go.Proofs.YtfbdnaclkfmiaaaGreatDoor
end
section
namespace Go.Proofs.YtfbdnaclkfmiaaaGreatDoor
open Go.RowKit Rg Tx
structure Okw (w:World):Prop where
  tabs:Tabs w
  maxl:MaxL w
theorem Okw.below {w w':World} (h:Okw w) (hb:Below w.heap.size w w'):Okw w':=⟨h.tabs.below hb,h.maxl.below hb⟩
def twoV (r:List UInt8 × Nat):Value:=.tuple #[.string ⟨r.1.toArray⟩,.int .i64 (r.2:Nat)]
theorem twoV_prep (k:Nat) (l:List UInt8):prepV k l=twoV (Pr.prepL k l):=rfl
theorem twoV_of {r:List UInt8 × Nat} {a:List UInt8} {n:Nat} (h:r=(a,n)):twoV r=.tuple #[.string ⟨a.toArray⟩,.int .i64 (n:Nat)]:=by rw[h];rfl
theorem cut_lib (c:UInt8) (l:List UInt8):Lib.cut l [c]=Jd.cutB c l:=by
  rcases cut_one c l with ⟨h1,h2⟩ | ⟨p,r,h1,h2,h3⟩
  · rw[h1,Jd.cutB_none (fun e=>h2 c e rfl)]
  · rw[h3,h1,Jd.cutB_some (fun e=>h2 c e rfl)]
def cutV (c:List UInt8 × List UInt8 × Bool):Value:=.tuple #[.string ⟨c.1.toArray⟩,.string ⟨c.2.1.toArray⟩,.bool c.2.2]
theorem cutc_any (c:UInt8) (s:ByteArray) (w:World) (hM:MaxL w) (hs:s.size≤1000000000) :
    Calls Tryz.prog 113 #[.string s,.string ⟨#[c]⟩] w fun e w'=>e=.returned (cutV (Jd.cutB c s.data.toList))∧Below w.heap.size w w':=by
  obtain⟨m,hm⟩:=hM
  refine(Tryz.strings_Cut s ⟨#[c]⟩ m w (by omega) hm).mono ?_
  rintro e w' ⟨rfl,n,rfl⟩
  refine⟨?_,below_drewNP w n⟩
  rw[show (⟨#[c]⟩:ByteArray).data.toList=[c] from rfl,cut_lib]
  rfl
set_option maxHeartbeats 1000000 in
theorem halves_any (s:ByteArray) (w:World) (hM:MaxL w) (hs:s.size≤1000000000) :
    Calls Tryz.prog 143 #[.string s] w fun e w'=>e=.returned (cutV (Jd.halfL s.data.toList))∧Below w.heap.size w w':=by
  have HC:=Lib.hid (cutc_any 64 s w hM hs)
  rcases Jd.cutB_cases 64 s.data.toList with ⟨h1,h2⟩ | ⟨p,r,h1,h2,h3⟩
  · rw[Jd.half_none h2]
    rw[h1] at HC
    unfold cutV at HC ⊢
    simp only at HC ⊢
    have et:(⟨s.data.toList.toArray⟩:ByteArray)=s:=rfl
    rw[et] at HC ⊢
    clear h1 h2 et hM
    go_enter Tryz.func143,Tryz.ntmps143
    go_wp2_with fail
    refine HC.out.mono ?_
    rintro e w1 ⟨rfl,b1⟩
    go_wp2_with fail
    go_ret3
    exact⟨rfl,b1⟩
  · rw[h1,Jd.half_some h2]
    rw[h3] at HC
    unfold cutV at HC ⊢
    simp only at HC ⊢
    obtain⟨P,hP⟩:∃ P:ByteArray,⟨p.toArray⟩=P:=⟨_,rfl⟩
    obtain⟨R,hR⟩:∃ R:ByteArray,⟨r.toArray⟩=R:=⟨_,rfl⟩
    rw[hP,hR] at HC ⊢
    clear h1 h2 h3 hP hR hM
    go_enter Tryz.func143,Tryz.ntmps143
    go_wp2_with fail
    refine HC.out.mono ?_
    rintro e w1 ⟨rfl,b1⟩
    go_wp2_with fail
    go_ret3
    exact⟨rfl,b1⟩
theorem prefix_one (c:UInt8) (l:List UInt8):Lib.hasPrefix l [c]=(l.head?==some c):=by
  cases l with
  | nil=>rfl
  | cons a t =>
    unfold Lib.hasPrefix
    show (c==a&&true)=(some a==some c)
    by_cases h:c=a
    · subst h;simp
    · have h2:¬ a=c:=fun e=>h e.symm
      have h3:(c==a)=false:=by simpa using h
      rw[h3]
      simp[h2]
theorem suffix_one (c:UInt8) (l:List UInt8):Lib.hasSuffix l [c]=(l.getLast?==some c):=by
  unfold Lib.hasSuffix
  rw[Bool.eq_iff_iff,List.isSuffixOf_iff_suffix]
  constructor
  · rintro ⟨t,rfl⟩
    simp
  · intro h
    have h2:l.getLast?=some c:=by simpa using h
    rcases List.eq_nil_or_concat l with rfl | ⟨t,x,rfl⟩
    · simp at h2
    · simp at h2
      subst h2
      exact⟨t,by simp⟩
theorem trim_lib (l:List UInt8):Lib.trimSuffix l [46]=Jd.trimD l:=by
  unfold Lib.trimSuffix Jd.trimD
  rw[suffix_one]
  by_cases h:l.getLast?=some 46
  · rw[if_pos h,if_pos (by rw[h];rfl),List.dropLast_eq_take]
    rfl
  · rw[if_neg h,if_neg (by simpa using h)]
theorem bad_of (l:List UInt8):Jd.badB l=(l.isEmpty||Lib.hasPrefix l [45]||Lib.hasSuffix l [45]):=by
  unfold Jd.badB
  rw[prefix_one,suffix_one]
  cases l with
  | nil=>rfl
  | cons a t=>simp[List.getLast?_cons]
theorem isEmpty_size (s:ByteArray):s.toList.isEmpty=s.data.toList.isEmpty:=by
  have e:(⟨s.data⟩:ByteArray).toList=s.data.toList:=ByteArray.toList_mk _
  rw[← e]
set_option maxHeartbeats 1000000 in
theorem wrong_any (s:ByteArray) (w:World) (hs:s.size≤1000000000) :
    Calls Tryz.prog 175 #[.string s] w fun e w'=>e=.returned (.bool (Jd.badB s.data.toList))∧w'=w:=by
  have H1:=fun (W:World)=>Tryz.strings_HasPrefix s ⟨#[45]⟩ W
  have H2:=fun (W:World)=>Tryz.strings_HasSuffix s ⟨#[45]⟩ W (by omega)
  rw[show (⟨#[45]⟩:ByteArray).data.toList=[45] from rfl] at H1 H2
  rw[bad_of,← isEmpty_size]
  obtain⟨p,hp⟩:∃ p,Lib.hasPrefix s.data.toList [45]=p:=⟨_,rfl⟩
  obtain⟨q,hq⟩:∃ q,Lib.hasSuffix s.data.toList [45]=q:=⟨_,rfl⟩
  rw[hp] at H1 ⊢
  rw[hq] at H2 ⊢
  have HO1:=Lib.hid H1
  have HO2:=Lib.hid H2
  clear H1 H2 hp hq
  cases he:s.toList.isEmpty with
  | true =>
    go_enter Tryz.func175,Tryz.ntmps175
    go_wp2_with fail
    go_ret
    exact⟨rfl,rfl⟩
  | false =>
    cases p with
    | true =>
      go_enter Tryz.func175,Tryz.ntmps175
      go_wp2_with fail
      refine(HO1.out _).mono ?_
      rintro e w1 ⟨rfl,rfl⟩
      go_wp2_with fail
      go_ret
      exact⟨rfl,rfl⟩
    | false =>
      go_enter Tryz.func175,Tryz.ntmps175
      go_wp2_with fail
      refine(HO1.out _).mono ?_
      rintro e w1 ⟨rfl,rfl⟩
      go_wp2_with fail
      refine(HO2.out _).mono ?_
      rintro e w2 ⟨rfl,rfl⟩
      go_wp2_with fail
      go_ret
      exact⟨rfl,rfl⟩
def Keeps (w:World) (v:Value) (f:List UInt8→List UInt8 × Nat):Prop:=∃ (F:FuncId) (cb:Array Value),v=.func (.func F) #[] cb∧(∀ args W,(callFunc F args).run Tryz.prog W=.ok (.enter F args) W) ∧
  ∀ (s:ByteArray) W,Below w.heap.size w W→s.size≤100000000→Calls Tryz.prog F (#[.string s]++cb) W fun e w'=>e=.returned (twoV (f s.data.toList))∧Below W.heap.size W w'
theorem Keeps.below {w w':World} {v:Value} {f:List UInt8→List UInt8 × Nat} (h:Keeps w v f) (hb:Below w.heap.size w w'):Keeps w' v f:=by
  obtain⟨F,cb,rfl,eg,hp⟩:=h
  exact⟨F,cb,rfl,eg,fun s W hW=>hp s W (hb.trans (hW.mono hb.size))⟩
theorem keeps_of {w:World} (F:FuncId) (f:List UInt8→List UInt8 × Nat) (hO:Okw w) (eg:∀ args W,(callFunc F args).run Tryz.prog W=.ok (.enter F args) W)
    (h:∀ (s:ByteArray) W,Okw W→s.size≤100000000→Calls Tryz.prog F #[.string s] W fun e w'=>e=.returned (twoV (f s.data.toList))∧Below W.heap.size W w'):Keeps w (.func (.func F) #[] #[]) f :=
  ⟨F,#[],rfl,eg,fun s W hW hs=>h s W (hO.below hW) hs⟩
theorem node_keeps {w:World} (hO:Okw w):Keeps w (.func (.func 148) #[] #[]) (Pr.prepL 1) :=
  keeps_of _ _ hO (Go.Proofs.enters_of Tryz.func148 (by kernel_rfl) rfl) fun s W hW hs=>node_any s W hW.tabs (by omega)
theorem resource_keeps {w:World} (hO:Okw w):Keeps w (.func (.func 150) #[] #[]) (Pr.prepL 3) :=
  keeps_of _ _ hO (Go.Proofs.enters_of Tryz.func150 (by kernel_rfl) rfl) fun s W hW hs=>resource_any s W hW.tabs (by omega)
set_option maxHeartbeats 1000000 in
theorem jhost_any (s:ByteArray) (w:World) (hO:Okw w) (hs:s.size≤100000000) :
    Calls Tryz.prog 173 #[.string s] w fun e w'=>e=.returned (twoV (Jd.hostL s.data.toList))∧Below w.heap.size w w':=by
  have HH:=Lib.hid (host_any s w hO.tabs (by omega))
  have hl:=Pr.prepL_len 2 s.data.toList
  have hsz:=Lib.size_eq s
  obtain⟨r,hr⟩:∃ r,Pr.prepL 2 s.data.toList=r:=⟨_,rfl⟩
  have hV:Jd.hostL s.data.toList=(Jd.trimD r.1,r.2):=by unfold Jd.hostL;rw[hr]
  rw[twoV_prep,hr] at HH
  rw[hr] at hl
  rw[hV]
  obtain⟨a,ha⟩:∃ a:ByteArray,⟨r.1.toArray⟩=a:=⟨_,rfl⟩
  have hd:a.data.toList=r.1:=by rw[← ha]
  have hasz:a.size=r.1.length:=by rw[Lib.size_eq,hd]
  have HT:=fun (W:World)=>Tryz.strings_TrimSuffix a ⟨#[46]⟩ W (by omega)
  rw[show (⟨#[46]⟩:ByteArray).data.toList=[46] from rfl,hd,trim_lib] at HT
  obtain⟨b,hb⟩:∃ b:ByteArray,⟨(Jd.trimD r.1).toArray⟩=b:=⟨_,rfl⟩
  unfold twoV at HH ⊢
  simp only at HH ⊢
  rw[ha] at HH
  rw[hb] at HT ⊢
  obtain⟨n,hn⟩:∃ n:Int,((r.2:Nat):Int)=n:=⟨_,rfl⟩
  rw[hn] at HH ⊢
  have HO1:=Lib.hid HT
  clear HT hV hl hsz hr ha hd hasz hb hn hO
  go_enter Tryz.func173,Tryz.ntmps173
  go_wp2_with fail
  refine HH.out.mono ?_
  rintro e w1 ⟨rfl,b1⟩
  go_wp2_with fail
  refine(HO1.out _).mono ?_
  rintro e w2 ⟨rfl,rfl⟩
  go_wp2_with fail
  go_ret2
  exact⟨rfl,b1⟩
theorem host_keeps {w:World} (hO:Okw w):Keeps w (.func (.func 173) #[] #[]) Jd.hostL :=
  keeps_of _ _ hO (Go.Proofs.enters_of Tryz.func173 (by kernel_rfl) rfl) fun s W hW hs=>jhost_any s W hW hs
theorem empty_false {a:ByteArray} (h:a.data.toList≠[]):a.toList.isEmpty=false:=by
  rw[isEmpty_size]
  cases e:a.data.toList with
  | nil=>exact absurd e h
  | cons x t=>rfl
set_option maxHeartbeats 1000000 in
theorem sized1_any (b1 b2:Nat) (v:Value) (most:Nat) (M:Int) (hM:M=(most:Int)) (f:List UInt8→List UInt8 × Nat) (w0:World) (hq:Keeps w0 v f) (s:ByteArray) (W:World) (hW:Below w0.heap.size w0 W) (h1:W.cell? ⟨b1,0,none⟩=some v)
    (h2:∀ w',Below W.heap.size W w'→w'.cell? ⟨b2,0,none⟩=some (.int .i64 M)) (hs:s.size≤100000000) :
    Calls Tryz.prog 176 (#[.string s]++#[.pointer (some ⟨b1,0,none⟩),.pointer (some ⟨b2,0,none⟩)]) W fun e w'=>e=.returned (twoV (Jd.sizedL most (f s.data.toList)))∧Below W.heap.size W w':=by
  obtain⟨F,cb,rfl,eg,hq⟩:=hq
  have HQ:=Lib.hid (hq s W hW hs)
  clear hq
  obtain⟨r,hr⟩:∃ r,f s.data.toList=r:=⟨_,rfl⟩
  rw[hr] at HQ ⊢
  have H2:=Lib.hid h2
  clear hr h2
  by_cases h0:r.2=0
  · by_cases hc:r.1=[]
    · have e1:r=([],0):=Prod.ext hc h0
      have e2:Jd.sizedL most r=([],14):=by unfold Jd.sizedL;rw[if_pos h0,if_pos (.inl hc)]
      rw[twoV_of e1] at HQ
      rw[twoV_of e2]
      clear e1 e2 hc h0
      go_enter Tryz.func176,Tryz.ntmps176
      go_wp2_with fail
      refine HQ.out.mono ?_
      rintro e w1 ⟨rfl,bb⟩
      go_wp2_with fail
      go_ret2
      exact⟨rfl,bb⟩
    · have e1:r=(r.1,0):=Prod.ext rfl h0
      obtain⟨a,ha⟩:∃ a:ByteArray,⟨r.1.toArray⟩=a:=⟨_,rfl⟩
      have hd:a.data.toList=r.1:=by rw[← ha]
      have hasz:a.size=r.1.length:=by rw[Lib.size_eq,hd]
      have hne:a.toList.isEmpty=false:=empty_false (by rw[hd];exact hc)
      rw[twoV_of e1,ha] at HQ
      by_cases hm:most < r.1.length
      · have e2:Jd.sizedL most r=([],14):=by unfold Jd.sizedL;rw[if_pos h0,if_pos (.inr hm)]
        rw[twoV_of e2]
        have hlt:M < (a.size:Int):=by rw[hasz,hM];omega
        have hltB:decide (M < (a.size:Int))=true:=decide_eq_true hlt
        have hltG:decide ((a.size:Int) > M)=true:=decide_eq_true hlt
        clear e1 e2 hc h0 hm hd hasz ha hM
        go_enter Tryz.func176,Tryz.ntmps176
        go_wp2_with fail
        refine HQ.out.mono ?_
        rintro e w1 ⟨rfl,bb⟩
        have c2:=H2.out w1 bb
        go_wp2_with fail
        go_ret2
        exact⟨rfl,bb⟩
      · have e2:Jd.sizedL most r=(r.1,0):=by rw[Jd.sizedL,if_pos h0,if_neg (by rintro (h | h);exact hc h;exact hm h)];exact e1
        rw[twoV_of e2,ha]
        have hlt:¬ M < (a.size:Int):=by rw[hasz,hM];omega
        have hltB:decide (M < (a.size:Int))=false:=decide_eq_false hlt
        have hltG:decide ((a.size:Int) > M)=false:=decide_eq_false hlt
        clear e1 e2 hc h0 hm hd hasz ha hM
        go_enter Tryz.func176,Tryz.ntmps176
        go_wp2_with fail
        refine HQ.out.mono ?_
        rintro e w1 ⟨rfl,bb⟩
        have c2:=H2.out w1 bb
        go_wp2_with fail
        go_ret2
        exact⟨rfl,bb⟩
  · have e2:Jd.sizedL most r=([],r.2):=by unfold Jd.sizedL;rw[if_neg h0]
    rw[twoV_of e2]
    unfold twoV at HQ
    obtain⟨a,ha⟩:∃ a:ByteArray,⟨r.1.toArray⟩=a:=⟨_,rfl⟩
    obtain⟨n,hn⟩:∃ n:Int,((r.2:Nat):Int)=n:=⟨_,rfl⟩
    rw[ha,hn] at HQ
    rw[hn]
    have hn0:n≠0:=by omega
    have hnB:(n != 0)=true:=by simpa using hn0
    clear e2 h0 ha hn
    go_enter Tryz.func176,Tryz.ntmps176
    go_wp2_with fail
    refine HQ.out.mono ?_
    rintro e w1 ⟨rfl,bb⟩
    go_wp2_with fail
    go_ret2
    exact⟨rfl,bb⟩
set_option maxHeartbeats 1000000 in
theorem sized_any (v:Value) (most:Nat) (M:Int) (hM:M=(most:Int)) (f:List UInt8→List UInt8 × Nat) (w:World) (hq:Keeps w v f) :
    Calls Tryz.prog 147 #[v,.int .i64 M] w fun e w'=>∃ u,e=.returned u∧Keeps w' u (fun s=>Jd.sizedL most (f s))∧Below w.heap.size w w':=by
  have eg:∀ args w,(callFunc 176 args).run Tryz.prog w=.ok (.enter 176 args) w:=Go.Proofs.enters_of Tryz.func176 (by kernel_rfl) rfl
  obtain⟨w2,hw2⟩:∃ w2,(w.alloc (.cells #[v] 106)).alloc (.cells #[.int .i64 M] 3)=w2:=⟨_,rfl⟩
  have hb:Below w.heap.size w w2:=by rw[← hw2];exact((Below.refl _ w).alloc (Nat.le_refl _) _).alloc (by simp) _
  have hs2:w2.heap.size=w.heap.size+1+1:=by rw[← hw2];simp
  have k1:Bk w2 w.heap.size 106 #[v]:=by rw[← hw2];exact(Bk.new w _ _).alloc _
  have k2:Bk w2 (w.heap.size+1) 3 #[.int .i64 M]:=by rw[← hw2];exact Bk.new1 w _ _ _
  have HK:Hid (Keeps w2 (.func (.func 176) #[] #[.pointer (some ⟨w.heap.size,0,none⟩),.pointer (some ⟨w.heap.size+1,0,none⟩)]) (fun s=>Jd.sizedL most (f s))):=by
    refine⟨_,_,rfl,eg,fun s W hW hs=>?_⟩
    have hsW:=hW.size
    refine sized1_any w.heap.size (w.heap.size+1) v most M hM f w hq s W (hb.trans (hW.mono (by omega))) ((k1.below hW (by omega)).cell 0) ?_ hs
    intro w' hb'
    exact((k2.below hW (by omega)).below hb' (by omega)).cell 0
  have hB:=Lib.hid hb
  obtain⟨F,cb,rfl,-,-⟩:=hq
  rw[← hw2] at HK hB
  clear k1 k2 hs2 hb hw2 eg hM
  go_enter Tryz.func147,Tryz.ntmps147
  go_wp2_with fail
  go_ret
  exact⟨_,rfl,HK.out,hB.out⟩
end Go.Proofs.YtfbdnaclkfmiaaaGreatDoor
end