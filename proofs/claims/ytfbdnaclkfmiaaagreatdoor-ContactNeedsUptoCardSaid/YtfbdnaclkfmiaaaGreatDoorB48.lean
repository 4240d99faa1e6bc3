import Derived.Test.YtfbdnaclkfmiaaaGreatDoorB40
import Derived.Test.YtfbdnaclkfmiaaaGreatDoorB20
import Derived.Test.YtfbdnaclkfmiaaaGreatDoorB34
import Derived.Deep.QuietTactic
section
namespace Go.Proofs.YtfbdnaclkfmiaaaGreatDoor
open Go.RowKit Vc Ct
def heavyT (l:List (List UInt8)):Nat:=(l.map (fun x=>1+x.length)).sum
theorem heavy_take {l:List (List UInt8)} {k:Nat} {x:List UInt8} (h:l[k]?=some x):heavyT (l.take (k+1))=heavyT (l.take k)+1+x.length:=by
  unfold heavyT
  rw[List.take_add_one,h]
  simp
  omega
theorem heavy_le:∀ (l:List (List UInt8)) (k:Nat),heavyT (l.take k)≤heavyT l
  | [],k=>by simp
  | x::t,0=>Nat.zero_le _
  | x::t,k+1=>by
    have:=heavy_le t k
    unfold heavyT at this ⊢
    simp only[List.take_succ_cons,List.map_cons,List.sum_cons]
    omega
set_option maxHeartbeats 2000000 in
theorem ptexts_any (v:Value) (l:List (List UInt8)) (w:World) (hR:ReadT w.heap.size w v (sts l)) (hl:l.length≤1000000000) (hs:heavyT l≤1000000000000) :
    Calls Tryz.prog 27 #[v] w fun e w'=>e=.returned (.int .i64 (heavyT l:Nat))∧w'=w:=by
  obtain⟨A,cap,rfl,hcell⟩:=hR
  have hsl:(sts l).length=l.length:=by unfold sts;rw[List.length_map]
  rw[hsl] at hcell ⊢
  obtain⟨n,hn⟩:∃ n,l.length=n:=⟨_,rfl⟩
  have HN:=Lib.hid hn
  rw[hn] at hcell hl ⊢
  have HC:=Lib.hid hcell
  have HLE:=Lib.hid (heavy_le l)
  have HST:=Lib.hid (fun k x (h:l[k]?=some x)=>heavy_take h)
  have HSS:=Lib.hid hs
  have h0:Hid (heavyT (l.take 0)=0):=rfl
  clear hcell hn hsl hs
  go_enter Tryz.func27,Tryz.ntmps27
  go_wp2_with fail
  go_loopw [3,4] (fun sv iv wr=>∃ (k m:Nat),sv=.int .i64 m∧iv=.int .i64 k∧k≤n∧Hid (m=heavyT (l.take k))∧wr=w) (fun _ iv _=>n - (intOf iv).toNat)
  case atStart=>exact⟨0,0,rfl,rfl,Nat.zero_le _,h0.out.symm,rfl⟩
  case round =>
    obtain⟨k,m,rfl,rfl,hk,HM,rfl⟩:=hrel
    have hmb:m≤1000000000000:=by have:=HLE.out k;have:=HSS.out;have:=HM.out;omega
    by_cases hlt:k < n
    · obtain⟨ad,rfl,hlb,hcell⟩:=HC.out (by omega)
      obtain⟨x,hx⟩:∃ p,l[k]?=some p:=⟨_,List.getElem?_eq_getElem (by rw[HN.out];exact hlt)⟩
      have c0:=hcell k (bts x) (by unfold sts;rw[List.getElem?_map,hx];rfl)
      have hnx:=HST.out k x hx
      rw[← HM.out] at hnx
      have hle:=HLE.out (k+1)
      rw[hnx] at hle
      have hsz:(bts x).size=x.length:=by rw[Lib.size_eq]
      obtain⟨X,hX⟩:∃ X,bts x=X:=⟨_,rfl⟩
      rw[hX] at hsz c0
      rw[← hsz] at hnx hle
      have hbx:m+1+X.size≤1000000000000:=Nat.le_trans hle HSS.out
      have HNX:Hid (m+1+X.size=heavyT (l.take (k+1))):=hnx.symm
      clear hcell hx hlb hnx hle hsz hX
      go_wp2_with fail
      go_roundw
      case rel=>exact⟨k+1,m+1+X.size,by go_num,by go_num,by omega,HNX,trivial⟩
      case measure=>simp[intOf];omega
    · have hkn:l.take k=l:=List.take_of_length_le (by rw[HN.out];omega)
      have HE:=HM.out
      rw[hkn] at HE
      have HEE:=Lib.hid HE
      clear HE hkn
      go_wp2_with fail
      go_ret
      exact⟨by rw[← HEE.out];rfl,rfl⟩
end Go.Proofs.YtfbdnaclkfmiaaaGreatDoor
end
section
namespace Go.Proofs.YtfbdnaclkfmiaaaGreatDoor
open Go.RowKit Vc Ct
theorem cdrewN_low {B:Nat} {w w':World} (h:Below B w w') (n:Nat):Below B w (w'.drewN n):=⟨h.os,h.tape,h.output,h.size,h.block⟩
def heavyC (c:Con):Nat:=c.name.length+c.family.length+c.given.length+c.nick.length+c.jid.length+c.email.length+c.tel.length+c.note.length+c.uid.length+heavyT c.groups
set_option maxHeartbeats 4000000 in
set_option maxRecDepth 100000 in
theorem smallC_any (c:Con) (gv o:Value) (W:World) (hg:ReadT W.heap.size W gv (sts c.groups)) (ho:ReadP W o c.other) (hgl:c.groups.length≤1000000000) (hs:heavyC c≤1000000000000) (hc:costC c.other≤1000000000) :
    Calls Tryz.prog 9 #[agC c gv o] W fun e w'=>e=.returned (.bool (decide (heavyC c≤5000)&&decide (costC c.other≤8000)))∧Below W.heap.size W w':=by
  obtain⟨GA,gcap,hgv⟩:∃ A cap,gv=.slice A (sts c.groups).length cap:=by obtain⟨A,cap,e,_⟩:=hg;exact⟨A,cap,e⟩
  obtain⟨OA,ocap,hov⟩:∃ A cap,o=.slice A c.other.length cap:=by obtain⟨A,cap,e,_⟩:=ho;exact⟨A,cap,e⟩
  have hhc:heavyC c=c.name.length+c.family.length+c.given.length+c.nick.length+c.jid.length+c.email.length+c.tel.length+c.note.length+c.uid.length+heavyT c.groups:=rfl
  obtain⟨hv,hhv⟩:∃ x,heavyT c.groups=x:=⟨_,rfl⟩
  have HGT:=Lib.hid (fun W2 (h:Below W.heap.size W W2)=>ptexts_any gv c.groups W2 (hg.upon h) hgl (by omega))
  have HOP:=Lib.hid (fun W2 (h:Below W.heap.size W W2)=>small_any o c.other W2 (ho.below h) hc)
  obtain⟨gn,hgn⟩:∃ n,(sts c.groups).length=n:=⟨_,rfl⟩
  obtain⟨m,hm⟩:∃ n,c.other.length=n:=⟨_,rfl⟩
  rw[hgn] at hgv
  rw[hm] at hov
  subst hgv
  subst hov
  rw[hhv] at HGT hhc
  obtain⟨d2,hd2⟩:∃ d,decide (costC c.other≤8000)=d:=⟨_,rfl⟩
  rw[hd2] at HOP ⊢
  have hz0:(bts c.name).size=c.name.length:=by rw[Lib.size_eq]
  obtain⟨s0,hs0⟩:∃ s,bts c.name=s:=⟨_,rfl⟩
  rw[hs0] at hz0
  have hz1:(bts c.family).size=c.family.length:=by rw[Lib.size_eq]
  obtain⟨s1,hs1⟩:∃ s,bts c.family=s:=⟨_,rfl⟩
  rw[hs1] at hz1
  have hz2:(bts c.given).size=c.given.length:=by rw[Lib.size_eq]
  obtain⟨s2,hs2⟩:∃ s,bts c.given=s:=⟨_,rfl⟩
  rw[hs2] at hz2
  have hz3:(bts c.nick).size=c.nick.length:=by rw[Lib.size_eq]
  obtain⟨s3,hs3⟩:∃ s,bts c.nick=s:=⟨_,rfl⟩
  rw[hs3] at hz3
  have hz4:(bts c.jid).size=c.jid.length:=by rw[Lib.size_eq]
  obtain⟨s4,hs4⟩:∃ s,bts c.jid=s:=⟨_,rfl⟩
  rw[hs4] at hz4
  have hz5:(bts c.email).size=c.email.length:=by rw[Lib.size_eq]
  obtain⟨s5,hs5⟩:∃ s,bts c.email=s:=⟨_,rfl⟩
  rw[hs5] at hz5
  have hz6:(bts c.tel).size=c.tel.length:=by rw[Lib.size_eq]
  obtain⟨s6,hs6⟩:∃ s,bts c.tel=s:=⟨_,rfl⟩
  rw[hs6] at hz6
  have hz7:(bts c.note).size=c.note.length:=by rw[Lib.size_eq]
  obtain⟨s7,hs7⟩:∃ s,bts c.note=s:=⟨_,rfl⟩
  rw[hs7] at hz7
  have hz8:(bts c.uid).size=c.uid.length:=by rw[Lib.size_eq]
  obtain⟨s8,hs8⟩:∃ s,bts c.uid=s:=⟨_,rfl⟩
  rw[hs8] at hz8
  rw[← hz0,← hz1,← hz2,← hz3,← hz4,← hz5,← hz6,← hz7,← hz8] at hhc
  have hag:agC c (.slice GA gn gcap) (.slice OA m ocap)=.agg #[.string s0,.string s1,.string s2,.string s3,.string s4,.string s5,.string s6,.string s7,.string s8,.slice GA gn gcap,.slice OA m ocap]:=by
    unfold agC conCells
    rw[hs0,hs1,hs2,hs3,hs4,hs5,hs6,hs7,hs8]
  rw[hag]
  obtain⟨t,ht⟩:∃ t,heavyC c=t:=⟨_,rfl⟩
  rw[ht] at hhc hs ⊢
  subst hhc
  obtain⟨d1,hd1⟩:∃ d,decide (s0.size+s1.size+s2.size+s3.size+s4.size+s5.size+s6.size+s7.size+s8.size+hv≤5000)=d:=⟨_,rfl⟩
  rw[hd1]
  have HD1:=Lib.hid hd1
  clear hd1
  obtain⟨G,hG⟩:∃ G,W.heap.size=G:=⟨_,rfl⟩
  obtain⟨W1,hW1⟩:∃ W1,W.alloc (.cells #[.string s0,.string s1,.string s2,.string s3,.string s4,.string s5,.string s6,.string s7,.string s8,.slice GA gn gcap,.slice OA m ocap] 25)=W1:=⟨_,rfl⟩
  have b1:Below W.heap.size W W1:=by rw[← hW1];exact(Below.refl _ _).alloc (Nat.le_refl _) _
  have k1:Bk W1 G 25 #[.string s0,.string s1,.string s2,.string s3,.string s4,.string s5,.string s6,.string s7,.string s8,.slice GA gn gcap,.slice OA m ocap]:=by rw[← hW1,← hG];exact Bk.new _ _ _
  have q0:W1.cell? ⟨G,0,none⟩=some (.string s0):=k1.cell 0
  have q1:W1.cell? ⟨G,1,none⟩=some (.string s1):=k1.cell 1
  have q2:W1.cell? ⟨G,2,none⟩=some (.string s2):=k1.cell 2
  have q3:W1.cell? ⟨G,3,none⟩=some (.string s3):=k1.cell 3
  have q4:W1.cell? ⟨G,4,none⟩=some (.string s4):=k1.cell 4
  have q5:W1.cell? ⟨G,5,none⟩=some (.string s5):=k1.cell 5
  have q6:W1.cell? ⟨G,6,none⟩=some (.string s6):=k1.cell 6
  have q7:W1.cell? ⟨G,7,none⟩=some (.string s7):=k1.cell 7
  have q8:W1.cell? ⟨G,8,none⟩=some (.string s8):=k1.cell 8
  have q9:W1.cell? ⟨G,9,none⟩=some (.slice GA gn gcap):=k1.cell 9
  have q10:W1.cell? ⟨G,10,none⟩=some (.slice OA m ocap):=k1.cell 10
  have B1:=Lib.hid b1
  have HT2:Hid (∀ n,Calls Tryz.prog 27 #[.slice GA gn gcap] (W1.drewN n) fun e w'=>e=.returned (.int .i64 (hv:Nat))∧w'=W1.drewN n):=fun n=>HGT.out _ (cdrewN_low b1 n)
  clear hg ho hgl hc hhv hgn hm hag ht b1 k1 hd2 hs0 hz0 hs1 hz1 hs2 hz2 hs3 hz3 hs4 hz4 hs5 hz5 hs6 hz6 hs7 hz7 hs8 hz8
  go_enter Tryz.func9,Tryz.ntmps9
  go_wp2_with fail
  go_quiet ((go_at_call 27;exact Calls.quiet_of_same (HT2.out _)))
  rename_i nq
  have HB2:Hid (Below W.heap.size W (W1.drewN nq)):=cdrewN_low B1.out nq
  have q10':(W1.drewN nq).cell? ⟨G,10,none⟩=some (.slice OA m ocap):=q10
  by_cases h5:s0.size+s1.size+s2.size+s3.size+s4.size+s5.size+s6.size+s7.size+s8.size+hv≤5000
  · have e1:Hid (d1=true):=by unfold Hid;rw[← HD1.out];exact decide_eq_true h5
    have h5i:((s0.size:Int)+s1.size+s2.size+s3.size+s4.size+s5.size+s6.size+s7.size+s8.size+hv)≤5000:=by omega
    clear q0 q1 q2 q3 q4 q5 q6 q7 q8 q9 q10
    go_wp2_with fail
    refine(HOP.out _ HB2.out).mono ?_
    rintro e w5 ⟨rfl,mm,rfl⟩
    go_wp2_with fail
    go_ret
    exact⟨by rw[e1.out];rfl,cdrewN_low B1.out _⟩
  · have e1:Hid (d1=false):=by unfold Hid;rw[← HD1.out];exact decide_eq_false h5
    have h5i:¬ ((s0.size:Int)+s1.size+s2.size+s3.size+s4.size+s5.size+s6.size+s7.size+s8.size+hv)≤5000:=by omega
    clear q0 q1 q2 q3 q4 q5 q6 q7 q8 q9 q10
    go_wp2_with fail
    go_ret
    refine⟨by rw[e1.out];rfl,?_⟩
    first
      | exact HB2.out
      | (rw[← hG];exact HB2.out)
end Go.Proofs.YtfbdnaclkfmiaaaGreatDoor
end
section
namespace Go.Proofs.YtfbdnaclkfmiaaaGreatDoor
open Go.RowKit Vc Ct Tx
theorem heavyT_came:∀ l:List (List UInt8),heavyT l≤(l.map fun x=>3+x.length).sum
  | []=>Nat.le_refl _
  | x::t=>by
    have h:=heavyT_came t
    unfold heavyT at h ⊢
    simp only[List.map_cons,List.sum_cons] at h ⊢
    omega
theorem heavyC_came {c:Con} (ht:∀ x∈[c.name,c.family,c.given,c.nick,c.jid,c.email,c.tel,c.note,c.uid],x.length≤1048576) (hs:(c.groups.map fun x=>3+x.length).sum≤3145728):heavyC c≤13000000:=by
  have h0:=ht c.name (by simp)
  have h1:=ht c.family (by simp)
  have h2:=ht c.given (by simp)
  have h3:=ht c.nick (by simp)
  have h4:=ht c.jid (by simp)
  have h5:=ht c.email (by simp)
  have h6:=ht c.tel (by simp)
  have h7:=ht c.note (by simp)
  have h8:=ht c.uid (by simp)
  have h9:=heavyT_came c.groups
  unfold heavyC
  omega
end Go.Proofs.YtfbdnaclkfmiaaaGreatDoor
end