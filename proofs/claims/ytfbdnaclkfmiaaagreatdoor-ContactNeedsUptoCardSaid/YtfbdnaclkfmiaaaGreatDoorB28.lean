import Derived.Test.YtfbdnaclkfmiaaaGreatDoorB13
import Derived.Test.YtfbdnaclkfmiaaaGreatDoorB03
import Derived.Test.YtfbdnaclkfmiaaaGreatDoorB21
import Derived.Test.YtfbdnaclkfmiaaaGreatDoorShelf
namespace Go.Proofs.YtfbdnaclkfmiaaaGreatDoor
open Go.RowKit Tx
def meantV (l:List UInt8):Value:=match l with
  | []=>.tuple #[.int .u8 0,.bool false]
  | c::_=>match unb c with
    | some x=>.tuple #[.int .u8 x.toNat,.bool true]
    | none=>.tuple #[.int .u8 0,.bool false]
theorem meantV_nil:meantV []=.tuple #[.int .u8 0,.bool false]:=rfl
theorem meantV_some {c x:UInt8} (t:List UInt8) (h:unb c=some x):meantV (c::t)=.tuple #[.int .u8 x.toNat,.bool true]:=by unfold meantV;simp only[h]
theorem meantV_none {c:UInt8} (t:List UInt8) (h:unb c=none):meantV (c::t)=.tuple #[.int .u8 0,.bool false]:=by unfold meantV;simp only[h]
set_option maxHeartbeats 1000000 in
theorem meant_any (t:ByteArray) (w:World):Calls Tryz.prog 114 #[.string t] w fun e w'=>e=.returned (meantV t.data.toList)∧w=w':=by
  cases hl:t.data.toList with
  | nil =>
    have he:t.toList.isEmpty=true:=by rw[Lib.toList_data,hl];rfl
    rw[meantV_nil]
    clear hl
    go_enter Tryz.func114,Tryz.ntmps114
    go_wp2_with fail
    go_ret2
    exact⟨rfl,rfl⟩
  | cons c r =>
    have he:t.toList.isEmpty=false:=by rw[Lib.toList_data,hl];rfl
    have h0:0 < t.size:=by rw[Lib.size_eq,hl];simp
    have hc:(t[0]'h0)=c:=by
      have:=Lib.data_getElem? t 0 h0
      rw[hl] at this
      exact(Option.some.inj this).symm
    obtain⟨z,hz⟩:∃ z:Int,((t[0]'h0).toNat:Int)=z:=⟨_,rfl⟩
    have hzc:(c.toNat:Int)=z:=by rw[← hc];exact hz
    rcases unb_of (c:=c) with ⟨h,hu⟩ | ⟨h,hu⟩ | ⟨h1,h2,h3,h4,h5,hu⟩
    · rw[meantV_some r hu,hzc]
      have hy3:z=92∨z=44∨z=59:=by
        rcases h with h | h | h
        · left;rw[← hzc,h];rfl
        · right;left;rw[← hzc,h];rfl
        · right;right;rw[← hzc,h];rfl
      clear hl hc hzc h hu
      rcases hy3 with rfl | rfl | rfl
      all_goals
        go_enter Tryz.func114,Tryz.ntmps114
        go_wp2_with fail
        go_ret2
        exact⟨rfl,rfl⟩
    · rw[meantV_some r hu]
      have hy3:z=110∨z=78:=by
        rcases h with h | h
        · left;rw[← hzc,h];rfl
        · right;rw[← hzc,h];rfl
      clear hl hc hzc h hu
      rcases hy3 with rfl | rfl
      all_goals
        go_enter Tryz.func114,Tryz.ntmps114
        go_wp2_with fail
        go_ret2
        exact⟨rfl,rfl⟩
    · rw[meantV_none r hu]
      have f1:(z==92)=false:=byte_ne hzc h1
      have f2:(z==44)=false:=byte_ne hzc h2
      have f3:(z==59)=false:=byte_ne hzc h3
      have f4:(z==110)=false:=byte_ne hzc h4
      have f5:(z==78)=false:=byte_ne hzc h5
      clear hl hc hzc h1 h2 h3 h4 h5 hu
      go_enter Tryz.func114,Tryz.ntmps114
      go_wp2_with fail
      go_ret2
      exact⟨rfl,rfl⟩
def PGoes (l t out:List UInt8):Prop:=plain l=(plain t).map (out++·)
theorem PGoes.start (l:List UInt8):PGoes l l []:=by unfold PGoes;cases plain l<;>rfl
theorem PGoes.stop {l t out:List UInt8} (h:PGoes l t out) (hn:∀ c∈t,c≠92):plain l=some (out++t):=by
  have:=plain_run t [] hn
  rw[List.append_nil,plain_nil] at this
  unfold PGoes at h
  rw[h,this]
  simp
theorem PGoes.last {l t out p:List UInt8} (h:PGoes l t out) (ht:t=p++[92]) (hn:∀ c∈p,c≠92):plain l=none:=by
  unfold PGoes at h
  rw[h,ht,plain_run p _ hn,Tx.plain_end]
  rfl
theorem PGoes.bad {l t out p u:List UInt8} {d:UInt8} (h:PGoes l t out) (ht:t=p++92::d::u) (hn:∀ c∈p,c≠92) (hu:unb d=none):plain l=none:=by
  unfold PGoes at h
  rw[h,ht,plain_run p _ hn,plain_bad u hu]
  rfl
theorem PGoes.step {l t out p u:List UInt8} {d x:UInt8} (h:PGoes l t out) (ht:t=p++92::d::u) (hn:∀ c∈p,c≠92) (hu:unb d=some x):PGoes l u (out++p++[x]):=by
  unfold PGoes at h ⊢
  rw[h,ht,plain_run p _ hn,plain_esc u hu]
  cases plain u<;>simp
def strLenP:Value→Nat
  | .string t=>t.size
  | _=>0
theorem strLenP_string (t:ByteArray):strLenP (.string t)=t.size:=rfl
set_option maxHeartbeats 4000000 in
set_option maxRecDepth 100000 in
theorem plain_fold (s:ByteArray) (w:World) (hM:MaxL w) (hs:s.size < 4000000000) :
    Calls Tryz.prog 80 #[.string s] w fun e w'=>e=.returned (plainV s.data.toList)∧Below w.heap.size w w':=by
  have HNone:=Lib.hid (fun h=>plainV_none (l:=s.data.toList) h)
  have HSome:=Lib.hid (fun x h=>plainV_some (l:=s.data.toList) (x:=x) h)
  have HMe:=Lib.hid (fun (t:ByteArray) (W:World)=>meant_any t W)
  have hMB : 0 < w.heap.size:=by obtain⟨m,hm⟩:=hM;exact World.block_lt_of_cell? _ _ hm
  have HM:=Lib.hid (fun (W:World) (hb:Below w.heap.size w W)=>hM.belowB hb hMB)
  have B0:=Bld.start w
  have D0:Below w.heap.size w (w.alloc (.cells #[.pointer none,.slice none 0 0] 113)):=(Below.refl _ _).alloc (Nat.le_refl _) _
  obtain⟨b,hb⟩:∃ b,w.heap.size=b:=⟨_,rfl⟩
  rw[hb] at B0 D0 HM
  have HB:=Lib.hid hb
  go_enter Tryz.func80,Tryz.ntmps80
  go_wp2_with fail
  go_loopw [0] (fun tv wr=>∃ (t:ByteArray) (out:List UInt8),tv=.string t∧t.size≤s.size∧out.length+t.size≤s.size∧Hid (PGoes s.data.toList t.data.toList out)∧Bld b (b+1) out wr∧Below b w wr) (fun tv _=>strLenP tv)
  case atStart=>exact⟨s,[],rfl,Nat.le_refl _,by simp,PGoes.start _,B0,D0⟩
  case round =>
    obtain⟨t,out,rfl,hts,hout,hgo,hbld,hbw⟩:=hrel
    have hsw:=hbw.size
    obtain⟨mx,hmx⟩:=HM.out wr hbw
    have HC:=Tryz.strings_Cut t ⟨#[92]⟩ mx wr (by omega) hmx
    rw[show (⟨#[92]⟩:ByteArray).data.toList=[92] from rfl] at HC
    have hbC:=hbld.lt
    rcases cut_one 92 t.data.toList with ⟨h1,h2⟩ | ⟨p,r,h1,h2,h3⟩
    · rw[h1] at HC
      have et:(⟨t.data.toList.toArray⟩:ByteArray)=t:=rfl
      simp only at HC
      rw[et] at HC
      have HCO:=Lib.hid HC
      have HF:=Lib.hid (HSome.out _ (hgo.out.stop h2))
      have HW:=Lib.hid (fun (W:World) h=>bld_string b (b+1) out t W h (by omega))
      have HST:=Lib.hid (fun (W:World) h=>bld_String b (b+1) (out++t.data.toList) W h)
      clear h1 h2 HC et hmx
      go_wp2_with fail
      refine HCO.out.mono ?_
      rintro e w4 ⟨rfl,nd,rfl⟩
      have bl4:Bld b (b+1) out (wr.drewN nd):=hbld.below (below_drewNP wr nd)
      have d4:Below b w (wr.drewN nd):=hbw.trans ((below_drewNP wr nd).mono (by omega))
      clear hbld hbw
      go_wp2_with fail
      refine(HW.out _ bl4).mono ?_
      rintro e w5 ⟨rfl,bl5,t5⟩
      go_wp2_with fail
      refine(HST.out _ bl5).mono ?_
      rintro e w6 ⟨rfl,b6⟩
      go_wp2_with fail
      go_ret2
      exact⟨by rw[HF.out];rfl,by rw[HB.out];exact(d4.trans t5.below).trans b6⟩
    · rw[h3] at HC
      simp only at HC
      obtain⟨P,hP⟩:∃ P:ByteArray,⟨p.toArray⟩=P:=⟨_,rfl⟩
      obtain⟨R,hR⟩:∃ R:ByteArray,⟨r.toArray⟩=R:=⟨_,rfl⟩
      have hPl:Hid (P.data.toList=p):=by unfold Hid;rw[← hP]
      have hRl:Hid (R.data.toList=r):=by unfold Hid;rw[← hR]
      have hsum:P.size+R.size+1=t.size:=by
        rw[Lib.size_eq,Lib.size_eq,Lib.size_eq,hPl.out,hRl.out,h1,List.length_append,List.length_cons];omega
      have HW:=Lib.hid (fun (W:World) h=>bld_string b (b+1) out P W h (by omega))
      rw[hPl.out] at HW
      have HMR:=fun (W:World)=>HMe.out R W
      rw[hRl.out] at HMR
      rw[hP,hR] at HC
      have HCO:=Lib.hid HC
      clear HC h3 hP hR hmx
      cases r with
      | nil =>
        have HF:=Lib.hid (HNone.out (hgo.out.last h1 h2))
        rw[meantV_nil] at HMR
        have HMO:=Lib.hid HMR
        clear h1 h2 HMR hRl
        go_wp2_with fail
        refine HCO.out.mono ?_
        rintro e w4 ⟨rfl,nd,rfl⟩
        have bl4:Bld b (b+1) out (wr.drewN nd):=hbld.below (below_drewNP wr nd)
        have d4:Below b w (wr.drewN nd):=hbw.trans ((below_drewNP wr nd).mono (by omega))
        clear hbld hbw
        go_wp2_with fail
        refine(HW.out _ bl4).mono ?_
        rintro e w5 ⟨rfl,bl5,t5⟩
        go_wp2_with fail
        refine(HMO.out _).mono ?_
        rintro e w6 ⟨rfl,rfl⟩
        go_wp2_with fail
        go_ret2
        exact⟨by rw[HF.out];rfl,by rw[HB.out];exact d4.trans t5.below⟩
      | cons d u =>
        cases hu:unb d with
        | none =>
          have HF:=Lib.hid (HNone.out (hgo.out.bad h1 h2 hu))
          rw[meantV_none u hu] at HMR
          have HMO:=Lib.hid HMR
          clear h1 h2 HMR hRl hu
          go_wp2_with fail
          refine HCO.out.mono ?_
          rintro e w4 ⟨rfl,nd,rfl⟩
          have bl4:Bld b (b+1) out (wr.drewN nd):=hbld.below (below_drewNP wr nd)
          have d4:Below b w (wr.drewN nd):=hbw.trans ((below_drewNP wr nd).mono (by omega))
          clear hbld hbw
          go_wp2_with fail
          refine(HW.out _ bl4).mono ?_
          rintro e w5 ⟨rfl,bl5,t5⟩
          go_wp2_with fail
          refine(HMO.out _).mono ?_
          rintro e w6 ⟨rfl,rfl⟩
          go_wp2_with fail
          go_ret2
          exact⟨by rw[HF.out];rfl,by rw[HB.out];exact d4.trans t5.below⟩
        | some x =>
          have HG:=hgo.out.step h1 h2 hu
          rw[meantV_some u hu] at HMR
          have hR1:1≤R.size:=by rw[Lib.size_eq,hRl.out];simp
          have hX:(R.extract 1 R.size).data.toList=u:=by rw[Lib.extract_to_end,hRl.out];rfl
          obtain⟨U,hU⟩:∃ U,R.extract 1 R.size=U:=⟨_,rfl⟩
          have hUs:U.size+1=R.size:=by rw[← hU,ByteArray.size_extract];omega
          rw[hU] at hX
          rw[← hX] at HG
          have HGO:=Lib.hid HG
          have hpl:p.length=P.size:=by rw[Lib.size_eq,hPl.out]
          have HW1:=fun (W:World) h=>bld_byte b (b+1) (out++p) x W h (by rw[List.length_append];omega)
          have hlen2:Hid ((out++p++[x]).length+U.size≤s.size):=by unfold Hid;rw[List.length_append,List.length_append,List.length_singleton];omega
          obtain⟨y,hy⟩:∃ y:Int,(x.toNat:Int)=y:=⟨_,rfl⟩
          rw[hy] at HMR HW1
          have HMO:=Lib.hid HMR
          have HWB:=Lib.hid HW1
          clear h1 h2 HMR HW1 hRl hPl hu hy hX HG hpl
          go_wp2_with fail
          refine HCO.out.mono ?_
          rintro e w4 ⟨rfl,nd,rfl⟩
          have bl4:Bld b (b+1) out (wr.drewN nd):=hbld.below (below_drewNP wr nd)
          have d4:Below b w (wr.drewN nd):=hbw.trans ((below_drewNP wr nd).mono (by omega))
          clear hbld hbw
          go_wp2_with fail
          refine(HW.out _ bl4).mono ?_
          rintro e w5 ⟨rfl,bl5,t5⟩
          go_wp2_with fail
          refine(HMO.out _).mono ?_
          rintro e w6 ⟨rfl,rfl⟩
          go_wp2_with fail
          refine(HWB.out _ bl5).mono ?_
          rintro e w7 ⟨rfl,bl7,t7⟩
          go_wp2_with fail
          go_roundw
          case rel=>exact⟨U,_,rfl,by omega,hlen2.out,HGO.out,bl7,(d4.trans t5.below).trans t7.below⟩
          case measure=>simp only[strLenP_string];omega
end Go.Proofs.YtfbdnaclkfmiaaaGreatDoor