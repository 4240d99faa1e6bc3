import Derived.Test.YtfbdnaclkfmiaaaGreatDoorB40
import Derived.Test.YtfbdnaclkfmiaaaGreatDoorB20
import Derived.Test.YtfbdnaclkfmiaaaGreatDoorB43
import Derived.Test.YtfbdnaclkfmiaaaGreatDoorB13
import Derived.Deep.QuietTactic
namespace Go.Proofs.YtfbdnaclkfmiaaaGreatDoor
open Go.RowKit Vc Ct
set_option maxHeartbeats 1000000 in
theorem pmod_any (k:Nat) (hk:k≤1000000000) (w:World):Calls Tryz.prog 101 #[.int .i64 k,.int .i64 5] w fun e w'=>e=.returned (.int .i64 ((k % 5:Nat):Int))∧w'=w:=by
  go_enter Tryz.func101,Tryz.ntmps101
  go_wp2_with fail
  go_ret
  refine⟨?_,rfl⟩
  show Ending.returned (.int .i64 ((k:Int) % 5))=_
  rw[show ((k % 5:Nat):Int)=(k:Int) % 5 by omega]
def fiveJ:List (List UInt8):=[[97,64,104],[98,64,104],[99,64,104],[100,64,120,46,121],[104]]
def jidP (s:List UInt8) (k:Nat):List UInt8:=if (Jd.bareL s).2=0 then (Jd.bareL s).1 else fiveJ.getD (k % 5) []
set_option maxHeartbeats 2000000 in
theorem pjid_any (s:List UInt8) (k:Nat) (hk:k≤1000000000) (w:World) (hs:s.length≤1000000) :
    Calls Tryz.prog 53 #[.string (bts s),.int .i64 k] w fun e w'=>e=.returned (.string (bts (jidP s k)))∧Below w.heap.size w w':=by
  have HB:=Lib.hid (rbare_any (bts s) w (by rw[Lib.size_eq];show s.length≤_;omega))
  unfold twoV at HB
  rw[show (bts s).data.toList=s from rfl] at HB
  have HMOD:=Lib.hid (fun W=>pmod_any k hk W)
  have hj:jidP s k=if (Jd.bareL s).2=0 then (Jd.bareL s).1 else fiveJ.getD (k % 5) []:=rfl
  obtain⟨r,hr⟩:∃ r,Jd.bareL s=r:=⟨_,rfl⟩
  rw[hr] at HB hj
  obtain⟨j,hjk⟩:∃ j,k % 5=j:=⟨_,rfl⟩
  have hj5:j < 5:=by omega
  rw[hjk] at HMOD hj
  obtain⟨X,hX⟩:∃ X,bts s=X:=⟨_,rfl⟩
  rw[hX] at HB ⊢
  by_cases h0:r.2=0
  · rw[if_pos h0] at hj
    rw[h0] at HB
    obtain⟨Y,hY⟩:∃ X,(⟨r.1.toArray⟩:ByteArray)=X:=⟨_,rfl⟩
    have hyy:bts (jidP s k)=Y:=by rw[hj];exact hY
    rw[hY] at HB
    rw[hyy]
    clear hj hr hX hY hyy h0 hjk hj5
    go_enter Tryz.func53,Tryz.ntmps53
    go_wp2_with fail
    refine HB.out.mono ?_
    rintro e w1 ⟨rfl,b1⟩
    go_wp2_with fail
    go_ret
    exact⟨rfl,b1⟩
  · rw[if_neg h0] at hj
    have hz:(((r.2:Nat):Int)==0)=false:=by simpa using h0
    obtain⟨Y,hY⟩:∃ X,(⟨r.1.toArray⟩:ByteArray)=X:=⟨_,rfl⟩
    rw[hY] at HB
    obtain⟨Z,hZ⟩:∃ X,bts (jidP s k)=X:=⟨_,rfl⟩
    have HZ:Hid (bts (fiveJ.getD j [])=Z):=by unfold Hid;rw[← hj];exact hZ
    rw[hZ]
    clear hj hr hX hY hZ h0 hjk
    go_enter Tryz.func53,Tryz.ntmps53
    go_wp2_with fail
    refine HB.out.mono ?_
    rintro e w1 ⟨rfl,b1⟩
    obtain⟨h,hh⟩:∃ h,w1.heap.size=h:=⟨_,rfl⟩
    obtain⟨W1,hW1⟩:∃ W1,w1.alloc (.cells #[.string ⟨#[97,64,104]⟩,.string ⟨#[98,64,104]⟩,.string ⟨#[99,64,104]⟩,.string ⟨#[100,64,120,46,121]⟩,.string ⟨#[104]⟩] 9)=W1:=⟨_,rfl⟩
    have k1:Bk W1 h 9 #[.string ⟨#[97,64,104]⟩,.string ⟨#[98,64,104]⟩,.string ⟨#[99,64,104]⟩,.string ⟨#[100,64,120,46,121]⟩,.string ⟨#[104]⟩]:=by rw[← hW1,← hh];exact Bk.new _ _ _
    have c1:W1.cell? ⟨h,j,none⟩=some (.string Z):=by
      rw[k1.cell,← HZ.out]
      match j,hj5 with
      | 0,_=>rfl
      | 1,_=>rfl
      | 2,_=>rfl
      | 3,_=>rfl
      | 4,_=>rfl
    have BF:Hid (Below w.heap.size w W1):=by unfold Hid;rw[← hW1];exact b1.alloc b1.size _
    clear k1 b1
    go_wp2_with fail
    refine(HMOD.out _).mono ?_
    rintro e w2 ⟨rfl,rfl⟩
    go_wp2_with fail
    go_ret
    exact⟨rfl,BF.out⟩
end Go.Proofs.YtfbdnaclkfmiaaaGreatDoor