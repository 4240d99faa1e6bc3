import Derived.Test.YtfbdnaclkfmiaaaGreatDoorB34
import Derived.Test.YtfbdnaclkfmiaaaGreatDoorB21
import Derived.Deep.QuietTactic
section
namespace Go.Proofs.YtfbdnaclkfmiaaaGreatDoor
open Go.RowKit Vc Ct
set_option maxHeartbeats 1000000 in
theorem address_any (s:List UInt8) (w:World) (hO:OkwV w) (hs:s.length≤1000000) :
    Calls Tryz.prog 44 #[.string (bts s)] w fun e w'=>e=.returned (.bool (bareB s))∧Below w.heap.size w w':=by
  have HB:=Lib.hid (bare_any (bts s) w hO.jid (by rw[Lib.size_eq];show s.length≤_;omega))
  unfold twoV at HB
  rw[show (bts s).data.toList=s from rfl] at HB
  have hb:bareB s=(decide (s=[])||decide (Jd.bareL s=(s,0))):=rfl
  have e0:=emptyB (l:=s)
  obtain⟨r,hr⟩:∃ r,Jd.bareL s=r:=⟨_,rfl⟩
  rw[hr] at HB hb
  have en:=bytes_eqb2 r.1 s
  obtain⟨X,hX⟩:∃ X,bts s=X:=⟨_,rfl⟩
  obtain⟨Y,hY⟩:∃ X,(⟨r.1.toArray⟩:ByteArray)=X:=⟨_,rfl⟩
  rw[hX] at HB e0 en ⊢
  rw[hY] at HB
  rw[show bts r.1=Y from hY] at en
  clear hr hX hY hO
  by_cases hs0:s=[]
  · rw[decide_eq_true hs0] at e0 hb
    have hb2:=Lib.hid hb
    clear en hb hs0
    go_enter Tryz.func44,Tryz.ntmps44
    go_wp2_with fail
    go_ret
    exact⟨by rw[hb2.out];rfl,Below.refl _ _⟩
  · rw[decide_eq_false hs0] at e0
    rw[decide_eq_false hs0,Bool.false_or] at hb
    by_cases h0:r.2=0
    · have hb2:Hid (bareB s=decide (r.1=s)):=by
        unfold Hid
        rw[hb]
        congr 1
        refine propext ⟨fun e=>congrArg Prod.fst e,fun e=>Prod.ext e h0⟩
      rw[h0] at HB
      obtain⟨d,hd⟩:∃ d,decide (r.1=s)=d:=⟨_,rfl⟩
      rw[hd] at hb2 en
      clear hb hs0 h0 hd
      go_enter Tryz.func44,Tryz.ntmps44
      go_wp2_with fail
      refine HB.out.mono ?_
      rintro e w1 ⟨rfl,b1⟩
      go_wp2_with fail
      go_ret
      exact⟨by rw[hb2.out];rfl,b1⟩
    · have hb2:Hid (bareB s=false):=by
        unfold Hid
        rw[hb]
        exact decide_eq_false (fun e=>h0 (congrArg Prod.snd e))
      have hz:(((r.2:Nat):Int)==0)=false:=by simpa using h0
      clear hb hs0 h0 en
      go_enter Tryz.func44,Tryz.ntmps44
      go_wp2_with fail
      refine HB.out.mono ?_
      rintro e w1 ⟨rfl,b1⟩
      go_wp2_with fail
      go_ret
      exact⟨by rw[hb2.out];rfl,b1⟩
def riseB:List UInt8→List (List UInt8)→Bool
  | _,[]=>true
  | last,g::t=>Jd.ltL last g&&Tx.line g 100&&riseB g t
theorem lt_nil (g:List UInt8):Jd.ltL [] g=decide (g≠[]):=by
  cases g with
  | nil=>rw[Jd.lt_irr];rfl
  | cons c g=>rw[(lt_iff [] (c::g)).2 (List.nil_lt_cons c g)];simp
theorem rise_right (l:List (List UInt8)):rightG l=(decide (l.length≤8)&&riseB [] l):=by
  have key:∀ (t:List (List UInt8)) (x:List UInt8),riseB x t=(t.all (fun g=>decide (g≠[])&&Tx.line g 100)&&risingB (x::t))∨(x=[]∧t=[]):=by
    intro t
    induction t with
    | nil=>intro x;exact .inl rfl
    | cons y t ih =>
      intro x
      left
      show (Jd.ltL x y&&Tx.line y 100&&riseB y t)=_
      have hy:Jd.ltL x y=true→y≠[]:=fun h e=>by
        subst e
        exact absurd ((lt_iff x []).1 h) (List.not_lt_nil x)
      rw[List.all_cons]
      show _=((decide (y≠[])&&Tx.line y 100&&t.all (fun g=>decide (g≠[])&&Tx.line g 100))&&(Jd.ltL x y&&risingB (y::t)))
      cases hl:Jd.ltL x y with
      | false=>simp
      | true =>
        have hne:=hy hl
        rw[decide_eq_true hne]
        rcases ih y with h | ⟨h,_⟩
        · rw[h]
          cases Tx.line y 100<;>simp
        · exact absurd h hne
  unfold rightG
  rw[Bool.and_assoc]
  congr 1
  cases l with
  | nil=>rfl
  | cons g t =>
    show _=(Jd.ltL [] g&&Tx.line g 100&&riseB g t)
    rw[lt_nil,List.all_cons]
    by_cases hg:g=[]
    · subst hg
      simp
    · rw[decide_eq_true hg]
      rcases key t g with h | ⟨h,_⟩
      · rw[h]
        cases Tx.line g 100<;>simp
      · exact absurd h hg
theorem rise_at:∀ {l:List (List UInt8)} {last:List UInt8} {k:Nat} {g:List UInt8},l[k]?=some g→riseB last (l.take k)=true→riseB last (l.take (k+1))=(Jd.ltL (((l.take k).getLast?).getD last) g&&Tx.line g 100)
  | [],_,k,_,h,_=>by simp at h
  | x::t,last,0,g,h,_=>by
    obtain rfl:x=g:=by simpa using h
    show (Jd.ltL last x&&Tx.line x 100&&true)=_
    rw[Bool.and_true]
    rfl
  | x::t,last,k+1,g,h,hr=>by
    have hr2:(Jd.ltL last x&&Tx.line x 100&&riseB x (t.take k))=true:=hr
    obtain⟨h1,h2⟩:=Bool.and_eq_true_iff.1 hr2
    show (Jd.ltL last x&&Tx.line x 100&&riseB x (t.take (k+1)))=_
    rw[h1,Bool.true_and,rise_at (l:=t) (by simpa using h) h2]
    congr 2
    show _=(((x::t.take k).getLast?).getD last)
    rw[List.getLast?_cons]
    cases (t.take k).getLast?<;>rfl
theorem rise_stop:∀ {l:List (List UInt8)} {last:List UInt8} {k:Nat},riseB last (l.take k)=false→riseB last l=false
  | [],last,k,h=>by simp[riseB] at h
  | x::t,last,0,h=>by simp[riseB] at h
  | x :: t,last,k+1,h=>by
    have h2:(Jd.ltL last x&&Tx.line x 100&&riseB x (t.take k))=false:=h
    show (Jd.ltL last x&&Tx.line x 100&&riseB x t)=false
    cases h3:(Jd.ltL last x&&Tx.line x 100) with
    | false=>rfl
    | true =>
      rw[h3,Bool.true_and] at h2
      rw[rise_stop h2]
      rfl
theorem last_take {l:List (List UInt8)} {k:Nat} {g last:List UInt8} (h:l[k]?=some g):((l.take (k+1)).getLast?).getD last=g:=by
  rw[List.take_add_one,h]
  simp
set_option maxHeartbeats 2000000 in
theorem rising_any (v:Value) (l:List (List UInt8)) (w:World) (hT:Tabs w) (hR:ReadT w.heap.size w v (sts l)) (hl:l.length≤1000000000) (hs:∀ g∈l,g.length≤1000000) :
    Calls Tryz.prog 45 #[v] w fun e w'=>e=.returned (.bool (rightG l))∧Below w.heap.size w w':=by
  obtain⟨A,cap,rfl,hc⟩:=hR
  have hsl:(sts l).length=l.length:=by unfold sts;rw[List.length_map]
  rw[hsl] at hc ⊢
  obtain⟨n,hn⟩:∃ n,l.length=n:=⟨_,rfl⟩
  have HN:=Lib.hid hn
  have hrr:=rise_right l
  rw[hn] at hc hl hrr ⊢
  by_cases h8:8 < n
  · have hf:Hid (rightG l=false):=by unfold Hid;rw[hrr,decide_eq_false (by omega)];rfl
    clear hc hn hrr hs hT hsl
    go_enter Tryz.func45,Tryz.ntmps45
    go_wp2_with fail
    go_ret
    exact⟨by rw[hf.out];rfl,Below.refl _ _⟩
  have hrr2:Hid (rightG l=riseB [] l):=by unfold Hid;rw[hrr,decide_eq_true (by omega),Bool.true_and]
  have HC:=Lib.hid hc
  have HS:=Lib.hid hs
  have HNL:=Lib.hid (fun g (W:World) (hW:Below w.heap.size w W) (hg:g.length≤1000000)=>noLine_any (bts g) W (hT.below hW) (by rw[Lib.size_eq];show g.length≤_;omega))
  clear hc hn hrr hs hT hsl
  go_enter Tryz.func45,Tryz.ntmps45
  go_wp2_with fail
  go_loopw [3,11] (fun lv iv wr=>∃ (k:Nat) (last:ByteArray),lv=.string last∧iv=.int .i64 k∧k≤n∧Hid (riseB [] (l.take k)=true)∧Hid (last=bts (((l.take k).getLast?).getD []))∧Hid (Below w.heap.size w wr)) (fun _ iv _=>n - (intOf iv).toNat)
  case atStart=>exact⟨0,_,rfl,rfl,Nat.zero_le _,rfl,rfl,Below.refl _ _⟩
  case round =>
    obtain⟨k,last,rfl,rfl,hk,RB,LA,BW⟩:=hrel
    by_cases hlt:k < n
    · obtain⟨ad,rfl,hlb,hcell⟩:=HC.out (by omega)
      obtain⟨g,hg⟩:∃ g,l[k]?=some g:=⟨_,List.getElem?_eq_getElem (by rw[HN.out];exact hlt)⟩
      have c0:=hcell k (bts g) (by unfold sts;rw[List.getElem?_map,hg];rfl)
      rw[← BW.out.cell (p:=ad.add k) (by rw[addBlock];exact hlb)] at c0
      have hra:=rise_at hg RB.out
      have hlt2:=last_take (last:=[]) hg
      have hnl:=HNL.out g wr BW.out (HS.out g (List.mem_of_getElem? hg))
      obtain⟨lst,hlst⟩:∃ x,((l.take k).getLast?).getD []=x:=⟨_,rfl⟩
      rw[hlst] at hra
      have hlb2:last=bts lst:=by rw[← hlst];exact LA.out
      have hlX:(bts g).toList=g:=ByteArray.toList_mk g
      have hlL:last.toList=lst:=by rw[hlb2,ByteArray.toList_mk]
      have hless:Op.bytesLess (bts g).toList last.toList=Jd.ltL g lst:=by rw[hlX,hlL];unfold Jd.ltL;rfl
      have heqb:((bts g).toList==last.toList)=decide (g=lst):=by
        rw[hlX,hlL]
        by_cases h:g=lst
        · simp[h]
        · simp[h]
      have heqp:((bts g).toList=last.toList)↔g=lst:=by rw[hlX,hlL]
      have htri:=Jd.lt_tri lst g
      obtain⟨X,hX⟩:∃ X,bts g=X:=⟨_,rfl⟩
      rw[hX] at c0 hnl hless heqb heqp
      obtain⟨dn,hdn⟩:∃ d,Tx.line g 100=d:=⟨_,rfl⟩
      rw[hdn] at hra hnl
      have HLT:=Lib.hid hlt2
      have HX:=Lib.hid hX
      have HNO:=Lib.hid hnl
      rcases htri with ⟨t1,t2,t3⟩ | ⟨t1,t2,t3⟩ | ⟨t1,t2,t3⟩
      · have hne:g≠lst:=fun e=>t3 e.symm
        rw[t2] at hless
        rw[decide_eq_false hne] at heqb
        have hnp:¬ X.toList=last.toList:=fun e=>hne (heqp.1 e)
        rw[t1,Bool.true_and] at hra
        have HRA:=Lib.hid hra
        clear hcell hg hra hlt2 hX hnl hlst hlb2 hdn t1 t2 t3 hne heqp hlX hlL
        go_wp2_with fail
        refine HNO.out.mono ?_
        rintro e w1 ⟨rfl,b1⟩
        have B1:Hid (Below w.heap.size w w1):=BW.out.trans (b1.mono BW.out.size)
        clear b1
        cases dn with
        | false =>
          have hf:Hid (rightG l=false):=by
            unfold Hid
            rw[hrr2.out]
            exact rise_stop (k:=k+1) HRA.out
          go_wp2_with fail
          go_ret
          exact⟨by rw[hf.out];rfl,B1.out⟩
        | true =>
          go_wp2_with fail
          go_roundw
          case rel=>exact⟨k+1,X,rfl,by go_num,by omega,HRA.out,by unfold Hid;rw[HLT.out,HX.out],B1⟩
          case measure=>simp[intOf];omega
      · have hf:Hid (rightG l=false):=by
          unfold Hid
          rw[hrr2.out]
          exact rise_stop (k:=k+1) (by rw[hra,t1];rfl)
        rw[t2] at hless
        clear hcell hg hra hlt2 hX hnl hlst hlb2 hdn t1 t2 t3 heqp heqb hlX hlL HNO
        go_wp2_with fail
        go_ret
        exact⟨by rw[hf.out];rfl,BW.out⟩
      · have hf:Hid (rightG l=false):=by
          unfold Hid
          rw[hrr2.out]
          exact rise_stop (k:=k+1) (by rw[hra,t1];rfl)
        rw[t2] at hless
        rw[decide_eq_true t3.symm] at heqb
        have hyp:X.toList=last.toList:=heqp.2 t3.symm
        clear hcell hg hra hlt2 hX hnl hlst hlb2 hdn t1 t2 t3 heqp hlX hlL HNO
        go_wp2_with fail
        go_ret
        exact⟨by rw[hf.out];rfl,BW.out⟩
    · have hf:Hid (rightG l=true):=by
        have h1:=RB.out
        rw[show l.take k=l from List.take_of_length_le (by rw[HN.out];omega)] at h1
        exact hrr2.out.trans h1
      go_wp2_with fail
      go_ret
      exact⟨by rw[hf.out];rfl,BW.out⟩
end Go.Proofs.YtfbdnaclkfmiaaaGreatDoor
end
section
namespace Go.Proofs.YtfbdnaclkfmiaaaGreatDoor
open Go.RowKit Vc Ct
theorem readV_one {w:World} {v:Value} {l:List Pr} (h:ReadP w v l):ReadV (w.alloc (.cells #[v] 22)) (.slice (some ⟨w.heap.size,0,none⟩) 1 1) [l]:=by
  have k:=Bk.new w 22 #[v]
  have b:Below w.heap.size w (w.alloc (.cells #[v] 22)):=(Below.refl _ _).alloc (Nat.le_refl _) _
  refine⟨_,1,rfl,fun _=>⟨_,rfl,k.lt,fun i c hi=>?_⟩⟩
  match i,hi with
  | 0,hi =>
    obtain rfl:=Option.some.inj hi
    exact⟨v,by rw[add_at,Nat.add_zero];exact k.cell 0,h.below b⟩
  | i+1,hi=>simp at hi
theorem cost_bulk {l:List Pr} (h:costC l≤100000):bulkV [l] < 1000000:=by
  have h1:=bulkV_small (l:=[l]) (N:=100000) (fun c hc=>by rw[List.mem_singleton] at hc;rw[hc];exact h)
  simp only[List.length_cons,List.length_nil] at h1
  omega
set_option maxHeartbeats 1000000 in
theorem cwritten_any (v:Value) (l:List Pr) (w:World) (hO:OkwV w) (hR:ReadP w v l) (hc:costC l≤100000) :
    Calls Tryz.prog 46 #[v] w fun e w'=>e=.returned (.bool (decide ((writeV [l]).2=0)))∧Below w.heap.size w w':=by
  have hr:=readV_one hR
  obtain⟨A,n,cap,rfl⟩:∃ A n cap,v=.slice A n cap:=by obtain⟨A,cap,e⟩:=hR.slice;exact⟨A,_,cap,e⟩
  obtain⟨W1,hW1⟩:∃ W1,w.alloc (.cells #[.slice A n cap] 22)=W1:=⟨_,rfl⟩
  rw[hW1] at hr
  have b1:Below w.heap.size w W1:=by rw[← hW1];exact(Below.refl _ _).alloc (Nat.le_refl _) _
  have hb:=cost_bulk hc
  have HW:=Lib.hid (write_any _ [l] W1 (hO.1.below b1) (hO.2.2.below b1) (hO.2.1.below b1) hr (bulkV_mild hb) (by simp) hb)
  unfold WritesV at HW
  obtain⟨r,hrr⟩:∃ r,writeV [l]=r:=⟨_,rfl⟩
  rw[hrr] at HW ⊢
  obtain⟨S,hS⟩:∃ S,bts r.1=S:=⟨_,rfl⟩
  rw[hS] at HW
  have B1:=Lib.hid b1
  have hz:(((r.2:Nat):Int)==0)=decide (r.2=0):=by
    by_cases h:r.2=0
    · simp[h]
    · simp[h]
  obtain⟨d,hd⟩:∃ d,decide (r.2=0)=d:=⟨_,rfl⟩
  rw[hd] at hz ⊢
  clear hO hR hc hr b1 hb hrr hS hd
  go_enter Tryz.func46,Tryz.ntmps46
  go_wp2_with fail
  refine HW.out.mono ?_
  rintro e w1 ⟨rfl,b2⟩
  go_wp2_with fail
  go_ret
  exact⟨rfl,B1.out.trans (b2.mono B1.out.size)⟩
def Tame (c:Con):Prop:=(∀ x∈[c.name,c.family,c.given,c.nick,c.jid,c.email,c.tel,c.note,c.uid],x.length≤1000000)∧(c.groups.length≤1000000∧∀ g∈c.groups,g.length≤1000000)∧costC c.other≤100000
theorem texts_any (c:Con):textsB c=!([c.name,c.family,c.given,c.nick,c.email,c.tel,c.uid].any (fun x=>!Tx.line x 100)):=by
  unfold textsB
  simp only[List.any_cons,List.any_nil,Bool.or_false,Bool.not_or,Bool.not_not,Bool.and_assoc]
set_option maxHeartbeats 4000000 in
theorem right_cany (c:Con) (gv o:Value) (w:World) (hO:OkwV w) (hg:ReadT w.heap.size w gv (sts c.groups)) (ho:ReadP w o c.other) (ht:Tame c) :
    Calls Tryz.prog 16 #[agC c gv o] w fun e w'=>e=.returned (.bool (rightC c))∧Below w.heap.size w w':=by
  have hrc:Hid (rightC c=(decide (c.name≠[])&&textsB c&&noteB c.note&&bareB c.jid&&rightG c.groups&&decide ((writeV [c.other]).2=0))):=rfl
  have htx:=texts_any c
  have HTL:Hid (∀ x∈[c.name,c.family,c.given,c.nick,c.email,c.tel,c.uid],x.length≤1000000):=fun x hx=>ht.1 x (by
    simp only[List.mem_cons,List.not_mem_nil,or_false] at hx ⊢
    rcases hx with h | h | h | h | h | h | h<;>simp[h])
  have HN:=Lib.hid (fun W (h:Below w.heap.size w W)=>note_any (bts c.note) W (hO.1.below h) (by rw[Lib.size_eq];exact ht.1 c.note (by simp)))
  have HA:=Lib.hid (fun W (h:Below w.heap.size w W)=>address_any c.jid W (hO.below h) (ht.1 c.jid (by simp)))
  have HR:=Lib.hid (fun W (h:Below w.heap.size w W)=>rising_any gv c.groups W (hO.1.below h) (hg.upon h) (by have:=ht.2.1.1;omega) ht.2.1.2)
  have HW:=Lib.hid (fun W (h:Below w.heap.size w W)=>cwritten_any o c.other W (hO.below h) (ho.below h) ht.2.2)
  have HC:=Lib.hid (fun (h:Nat) W (hW:Below w.heap.size w W) (hx:Txts W h [c.name,c.family,c.given,c.nick,c.email,c.tel,c.uid])=>nContains_any h 7 7 _ rfl (by decide) HTL.out W (hO.1.below hW) hx)
  have e0:=emptyB (l:=c.name)
  obtain⟨d0,hd0⟩:∃ d,decide (c.name=[])=d:=⟨_,rfl⟩
  rw[hd0] at e0
  have hn0:decide (c.name≠[])=!d0:=by rw[← hd0];by_cases h:c.name=[]<;>simp[h]
  rw[hn0,htx] at hrc
  obtain⟨d1,hd1⟩:∃ d,[c.name,c.family,c.given,c.nick,c.email,c.tel,c.uid].any (fun x=>!Tx.line x 100)=d:=⟨_,rfl⟩
  obtain⟨d2,hd2⟩:∃ d,noteB c.note=d:=⟨_,rfl⟩
  obtain⟨d3,hd3⟩:∃ d,bareB c.jid=d:=⟨_,rfl⟩
  obtain⟨d4,hd4⟩:∃ d,rightG c.groups=d:=⟨_,rfl⟩
  obtain⟨d5,hd5⟩:∃ d,decide ((writeV [c.other]).2=0)=d:=⟨_,rfl⟩
  obtain⟨rr,hrr⟩:∃ d,rightC c=d:=⟨_,rfl⟩
  have hN2:noteB (bts c.note).data.toList=d2:=hd2
  rw[hN2] at HN
  rw[hd3] at HA
  rw[hd4] at HR
  rw[hd5] at HW
  rw[hd1] at HC
  rw[hd1,hd2,hd3,hd4,hd5,hrr] at hrc
  rw[hrr]
  obtain⟨G,hG⟩:∃ G,w.heap.size=G:=⟨_,rfl⟩
  obtain⟨W1,hW1⟩:∃ W1,w.alloc (.cells (conCells c gv o) 25)=W1:=⟨_,rfl⟩
  have b1:Below w.heap.size w W1:=by rw[← hW1];exact(Below.refl _ _).alloc (Nat.le_refl _) _
  have k1:Bk W1 G 25 (conCells c gv o):=by rw[← hW1,← hG];exact Bk.new _ _ _
  obtain⟨CS,hCS⟩:∃ CS,conCells c gv o=CS:=⟨_,rfl⟩
  have z1:CS.size=11:=by rw[← hCS];rfl
  unfold agC
  rw[hCS] at hW1 ⊢
  obtain⟨X0,hX0⟩:∃ X,bts c.name=X:=⟨_,rfl⟩
  obtain⟨X1,hX1⟩:∃ X,bts c.family=X:=⟨_,rfl⟩
  obtain⟨X2,hX2⟩:∃ X,bts c.given=X:=⟨_,rfl⟩
  obtain⟨X3,hX3⟩:∃ X,bts c.nick=X:=⟨_,rfl⟩
  obtain⟨X4,hX4⟩:∃ X,bts c.jid=X:=⟨_,rfl⟩
  obtain⟨X5,hX5⟩:∃ X,bts c.email=X:=⟨_,rfl⟩
  obtain⟨X6,hX6⟩:∃ X,bts c.tel=X:=⟨_,rfl⟩
  obtain⟨X7,hX7⟩:∃ X,bts c.note=X:=⟨_,rfl⟩
  obtain⟨X8,hX8⟩:∃ X,bts c.uid=X:=⟨_,rfl⟩
  have hcc:conCells c gv o=#[.string X0,.string X1,.string X2,.string X3,.string X4,.string X5,.string X6,.string X7,.string X8,gv,o]:=by rw[← hX0,← hX1,← hX2,← hX3,← hX4,← hX5,← hX6,← hX7,← hX8];rfl
  rw[hcc] at k1
  rw[hX0] at e0
  rw[hX7] at HN
  rw[hX4] at HA
  -- the lines
  obtain⟨L,hL⟩:∃ L,W1.heap.size=L:=⟨_,rfl⟩
  obtain⟨W2,hW2⟩:∃ W2,W1.alloc (.cells #[.string X0,.string X1,.string X2,.string X3,.string X5,.string X6,.string X8] 9)=W2:=⟨_,rfl⟩
  have b2:Below W1.heap.size W1 W2:=by rw[← hW2];exact(Below.refl _ _).alloc (Nat.le_refl _) _
  have k2:Bk W2 L 9 #[.string X0,.string X1,.string X2,.string X3,.string X5,.string X6,.string X8]:=by rw[← hW2,← hL];exact Bk.new _ _ _
  have htxt:Txts W2 L [c.name,c.family,c.given,c.nick,c.email,c.tel,c.uid]:=⟨_,k2,fun j x hj=>by
    match j,hj with
    | 0,hj=>obtain rfl:=Option.some.inj hj;rw[hX0];rfl
    | 1,hj=>obtain rfl:=Option.some.inj hj;rw[hX1];rfl
    | 2,hj=>obtain rfl:=Option.some.inj hj;rw[hX2];rfl
    | 3,hj=>obtain rfl:=Option.some.inj hj;rw[hX3];rfl
    | 4,hj=>obtain rfl:=Option.some.inj hj;rw[hX5];rfl
    | 5,hj=>obtain rfl:=Option.some.inj hj;rw[hX6];rfl
    | 6,hj=>obtain rfl:=Option.some.inj hj;rw[hX8];rfl
    | j+7,hj=>simp at hj⟩
  have B2:Hid (Below w.heap.size w W2):=b1.trans (b2.mono b1.size)
  have HC2:=Lib.hid (HC.out L W2 B2.out htxt)
  have h0:W1.cell? ⟨G,0,none⟩=some (.string X0):=k1.cell 0
  have h1:W1.cell? ⟨G,1,none⟩=some (.string X1):=k1.cell 1
  have h2:W1.cell? ⟨G,2,none⟩=some (.string X2):=k1.cell 2
  have h3:W1.cell? ⟨G,3,none⟩=some (.string X3):=k1.cell 3
  have h5:W1.cell? ⟨G,5,none⟩=some (.string X5):=k1.cell 5
  have h6:W1.cell? ⟨G,6,none⟩=some (.string X6):=k1.cell 6
  have h8:W1.cell? ⟨G,8,none⟩=some (.string X8):=k1.cell 8
  have k3:=k1.below b2 k1.lt
  have K2:=Lib.hid k3
  have j0:W2.cell? ⟨G,0,none⟩=some (.string X0):=k3.cell 0
  obtain⟨GA,gn,gcap,rfl⟩:∃ A n cap,gv=.slice A n cap:=by obtain⟨A,cap,e,_⟩:=hg;exact⟨A,_,cap,e⟩
  obtain⟨OA,on,ocap,rfl⟩:∃ A n cap,o=.slice A n cap:=by obtain⟨A,cap,e⟩:=ho.slice;exact⟨A,_,cap,e⟩
  clear hd0 hn0 htx hd1 hd2 hd3 hd4 hd5 hrr hN2 b1 b2 k1 k2 k3 hcc hX0 hX1 hX2 hX3 hX4 hX5 hX6 hX7 hX8 htxt HC hO hg ho ht hCS
  cases d0 with
  | true =>
    go_enter Tryz.func16,Tryz.ntmps16
    go_wp2_with fail
    go_ret
    exact⟨by rw[hrc.out];rfl,B2.out⟩
  | false =>
    go_enter Tryz.func16,Tryz.ntmps16
    go_wp2_with fail
    refine HC2.out.mono ?_
    rintro e w3 ⟨rfl,b3⟩
    have k3:=K2.out.below b3 K2.out.lt
    have K3:=Lib.hid k3
    have B3:Hid (Below w.heap.size w w3):=B2.out.trans (b3.mono B2.out.size)
    have c7:w3.cell? ⟨G,7,none⟩=some (.string X7):=k3.cell 7
    clear b3 k3 j0
    cases d1 with
    | true =>
      go_wp2_with fail
      go_ret
      exact⟨by rw[hrc.out];rfl,B3.out⟩
    | false =>
      go_wp2_with fail
      refine(HN.out w3 B3.out).mono ?_
      rintro e w4 ⟨rfl,b4⟩
      have k4:=K3.out.below b4 K3.out.lt
      have K4:=Lib.hid k4
      have B4:Hid (Below w.heap.size w w4):=B3.out.trans (b4.mono B3.out.size)
      have c4:w4.cell? ⟨G,4,none⟩=some (.string X4):=k4.cell 4
      clear b4 k4 c7
      cases d2 with
      | false =>
        go_wp2_with fail
        go_ret
        exact⟨by rw[hrc.out];rfl,B4.out⟩
      | true =>
        go_wp2_with fail
        refine(HA.out w4 B4.out).mono ?_
        rintro e w5 ⟨rfl,b5⟩
        have k5:=K4.out.below b5 K4.out.lt
        have K5:=Lib.hid k5
        have B5:Hid (Below w.heap.size w w5):=B4.out.trans (b5.mono B4.out.size)
        have c9:w5.cell? ⟨G,9,none⟩=some (.slice GA gn gcap):=k5.cell 9
        clear b5 k5 c4
        cases d3 with
        | false =>
          go_wp2_with fail
          go_ret
          exact⟨by rw[hrc.out];rfl,B5.out⟩
        | true =>
          go_wp2_with fail
          refine(HR.out w5 B5.out).mono ?_
          rintro e w6 ⟨rfl,b6⟩
          have k6:=K5.out.below b6 K5.out.lt
          have K6:=Lib.hid k6
          have B6:Hid (Below w.heap.size w w6):=B5.out.trans (b6.mono B5.out.size)
          have c10:w6.cell? ⟨G,10,none⟩=some (.slice OA on ocap):=k6.cell 10
          clear b6 k6 c9
          cases d4 with
          | false =>
            go_wp2_with fail
            go_ret
            exact⟨by rw[hrc.out];rfl,B6.out⟩
          | true =>
            go_wp2_with fail
            refine(HW.out w6 B6.out).mono ?_
            rintro e w7 ⟨rfl,b7⟩
            have B7:Hid (Below w.heap.size w w7):=B6.out.trans (b7.mono B6.out.size)
            clear b7
            go_wp2_with fail
            go_ret
            exact⟨by rw[hrc.out];simp,B7.out⟩
end Go.Proofs.YtfbdnaclkfmiaaaGreatDoor
end