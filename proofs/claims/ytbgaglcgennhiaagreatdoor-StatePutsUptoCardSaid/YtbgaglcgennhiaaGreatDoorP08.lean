import Derived.Test.YtbgaglcgennhiaaGreatDoorRows
import Derived.Test.YtbgaglcgennhiaaGreatDoorP01
import Derived.Test.YtbgaglcgennhiaaGreatDoorP02
import Derived.Test.YtbgaglcgennhiaaGreatDoorP07
import Derived.WalkKit
import Derived.WalkSpells
import Derived.WalkLawsBesides
namespace Go.Proofs.YtbgaglcgennhiaaGreatDoor
open Go.RowKit Tx
def Decoded (w:World) (l:List UInt8) (e:Ending) (w':World):Prop:=e=.returned (.tuple #[.int .i64 (ek l).1,.int .i64 (ek l).2])∧w=w'
theorem Decoded.some {w:World} {l:List UInt8} {c n:Nat} (h:ek l=(c,n)):Decoded w l (.returned (.tuple #[.int .i64 c,.int .i64 n])) w:=⟨by rw[h],rfl⟩
theorem Decoded.none {w:World} {l:List UInt8} (h:ek l=(0,0)):Decoded w l (.returned (.tuple #[.int .i64 0,.int .i64 0])) w:=⟨by rw[h];rfl,rfl⟩
theorem iC (s:ByteArray) (i k:Nat) (h:i+k < s.size):((s[i+k]'h).toNat:Int)=(bt (s.data.toList.drop i) k:Nat):=by
 rw[vm _ _ _ (by rw[← Lib.size_eq];exact h)];rfl
theorem dS (s:ByteArray) (i:Nat) (h:i < s.size):((s[i]'h).toNat:Int)=(bt (s.data.toList.drop i) 0:Nat):=iC s i 0 h
theorem vM {l:List UInt8} (h1:192≤bt l 0) (h2:bt l 0 < 224):Lead l 2 32 128:=jD.2 (.inl ⟨h1,h2,rfl,rfl,rfl⟩)
theorem wA {l:List UInt8} (h1:224≤bt l 0) (h2:bt l 0 < 240):Lead l 3 16 2048:=jD.2 (.inr (.inl ⟨h1,h2,rfl,rfl,rfl⟩))
theorem vY {l:List UInt8} (h1:240≤bt l 0) (h2:bt l 0 < 248):Lead l 4 8 65536:=jD.2 (.inr (.inr ⟨h1,h2,rfl,rfl,rfl⟩))
set_option maxRecDepth 100000 in
set_option maxHeartbeats 1000000 in
theorem s9 (s:ByteArray) (i:Nat) (w:World) (hs:s.size < 10000000000000) (h0:i < s.size) (h1:192≤bt (s.data.toList.drop i) 0) (h2:bt (s.data.toList.drop i) 0 < 224) :
 Calls Tryz.prog 135 #[.string s,.int .i64 i] w (Decoded w (s.data.toList.drop i)):=by
 have HL:Lead (s.data.toList.drop i) 2 32 128:=vM h1 h2;have hsz:=Lib.hid (Lib.size_eq s);have hln:Hid ((s.data.toList.drop i).length=s.size - i):=by unfold Hid;rw[List.length_drop,← hsz.out]
 obtain⟨a,ha⟩:∃ a:Nat,bt (s.data.toList.drop i) 0=a:=⟨_,rfl⟩
 have hsa:((s[i]'h0).toNat:Int)=a:=by rw[dS s i h0,ha]
 rw[ha] at h1 h2;have HA:=Lib.hid ha;clear ha
 by_cases hlen:i+2≤s.size
 · have hand:bits .and .i64 (a:Int) 31=((acc (s.data.toList.drop i) 32 0:Nat):Int):=by
    rw[wO _ (by omega) (by omega),jo,HA.out];push_cast;rfl
   obtain⟨c0,hc0⟩:∃ c0:Nat,acc (s.data.toList.drop i) 32 0=c0:=⟨_,rfl⟩
   rw[hc0] at hand;have HC0:=Lib.hid hc0;clear hc0;have h192:¬ (a:Int) < 192:=by omega
   go_enter Tryz.func135,Tryz.ntmps135
   go_wp2_with fail
   go_loop [6,9] (fun c k=>∃ (kk:Nat),1≤kk∧kk≤2∧c=.int .i64 (acc (s.data.toList.drop i) 32 (kk - 1):Nat)∧k=.int .i64 kk∧Cont (s.data.toList.drop i) kk) (fun _ k=>2 - (intOf k).toNat)
   case atStart=>exact⟨1,by omega,by omega,by rw[show 1 - 1=0 from rfl,HC0.out],rfl,Cont.one _⟩
   case round =>
    obtain⟨k,hk1,hk2,rfl,rfl,hco⟩:=hrel
    have hcb:=HL.bound (k - 1) (by omega)
    obtain⟨c,hc⟩:∃ c:Nat,acc (s.data.toList.drop i) 32 (k - 1)=c:=⟨_,rfl⟩
    rw[hc] at hcb ⊢;have HC:=Lib.hid hc;clear hc
    by_cases hlt:k < 2
    · obtain⟨b,hb⟩:∃ b:Nat,bt (s.data.toList.drop i) k=b:=⟨_,rfl⟩
      have hbl:b < 256:=by rw[← hb];exact mr _ _
      have hsb:((s[i+k]'(by omega)).toNat:Int)=b:=by rw[iC s i k (by omega),hb]
      have HB:=Lib.hid hb;clear hb
      by_cases hq:b / 64=2
      · have g:(bits .and .u8 (b:Int) 192 != 128)=false:=by
         rw[gy _ (by omega) (by omega)];simp;omega
        have g6:bits .or .i64 ((c:Int)*64) ((b:Int) % 64)=((acc (s.data.toList.drop i) 32 k:Nat):Int):=by
         rw[xd _ _ (by omega) (by omega) (by omega) (by omega),show k=k - 1+1 by omega,jE,HC.out,show k - 1+1=k by omega,HB.out];push_cast;rfl
        have G6:=Lib.hid g6;clear g6
        go_wp2_with fail
        go_round
        case rel=>exact⟨k+1,by omega,by omega,by rw[G6.out,Nat.add_sub_cancel],by go_num,hco.next (by rw[HB.out];exact hq)⟩
        case measure=>simp[intOf];omega
      · have g:(bits .and .u8 (b:Int) 192 != 128)=true:=by
         rw[gy _ (by omega) (by omega)];simp;omega
        have hno:=Lib.hid (lT HL hk1 hlt (by rw[HB.out];exact hq))
        go_wp2_with fail
        go_ret2;exact Decoded.none hno.out
    · have hke:k=2:=by omega
      have hend:Hid (ek (s.data.toList.drop i)=if 128≤c∧c≤1114111∧(c < 55296∨57343 < c) then (c,2) else (0,0)):=by
       have h:=l7 HL (by rw[hln.out];omega) (by rw[← hke];exact hco);rw[← hke,HC.out,hke] at h;exact h
      clear hke
      by_cases hv:128≤c∧c≤1114111∧(c < 55296∨57343 < c)
      · have hyes:Hid (ek (s.data.toList.drop i)=(c,2)):=by unfold Hid;rw[hend.out,if_pos hv]
        obtain⟨v1,v2,v3⟩:=hv
        rcases v3 with v3 | v3
        all_goals ((go_wp2_with fail)<;>(go_ret2;exact Decoded.some hyes.out))
      · have hno:Hid (ek (s.data.toList.drop i)=(0,0)):=by unfold Hid;rw[hend.out,if_neg hv]
        rcases(show c < 128∨(128≤c∧1114111 < c)∨(128≤c∧c≤1114111∧55296≤c∧c≤57343) by omega) with v | ⟨v1,v2⟩ | ⟨v1,v2,v3,v4⟩
        all_goals (clear hv;(go_wp2_with fail)<;>(go_ret2;exact Decoded.none hno.out))
 · have hno:=Lib.hid (gw HL (by rw[hln.out];omega))
   go_enter Tryz.func135,Tryz.ntmps135
   go_wp2_with fail
   go_ret2;exact Decoded.none hno.out
set_option maxRecDepth 100000 in
set_option maxHeartbeats 1000000 in
theorem tk (s:ByteArray) (i:Nat) (w:World) (hs:s.size < 10000000000000) (h0:i < s.size) (h1:224≤bt (s.data.toList.drop i) 0) (h2:bt (s.data.toList.drop i) 0 < 240) :
 Calls Tryz.prog 135 #[.string s,.int .i64 i] w (Decoded w (s.data.toList.drop i)):=by
 have HL:Lead (s.data.toList.drop i) 3 16 2048:=wA h1 h2;have hsz:=Lib.hid (Lib.size_eq s);have hln:Hid ((s.data.toList.drop i).length=s.size - i):=by unfold Hid;rw[List.length_drop,← hsz.out]
 obtain⟨a,ha⟩:∃ a:Nat,bt (s.data.toList.drop i) 0=a:=⟨_,rfl⟩
 have hsa:((s[i]'h0).toNat:Int)=a:=by rw[dS s i h0,ha]
 rw[ha] at h1 h2;have HA:=Lib.hid ha;clear ha
 by_cases hlen:i+3≤s.size
 · have hand:bits .and .i64 (a:Int) 15=((acc (s.data.toList.drop i) 16 0:Nat):Int):=by
    rw[wQ _ (by omega) (by omega),jo,HA.out];push_cast;rfl
   obtain⟨c0,hc0⟩:∃ c0:Nat,acc (s.data.toList.drop i) 16 0=c0:=⟨_,rfl⟩
   rw[hc0] at hand;have HC0:=Lib.hid hc0;clear hc0;have h192:¬ (a:Int) < 192:=by omega
   go_enter Tryz.func135,Tryz.ntmps135
   go_wp2_with fail
   go_loop [6,9] (fun c k=>∃ (kk:Nat),1≤kk∧kk≤3∧c=.int .i64 (acc (s.data.toList.drop i) 16 (kk - 1):Nat)∧k=.int .i64 kk∧Cont (s.data.toList.drop i) kk) (fun _ k=>3 - (intOf k).toNat)
   case atStart=>exact⟨1,by omega,by omega,by rw[show 1 - 1=0 from rfl,HC0.out],rfl,Cont.one _⟩
   case round =>
    obtain⟨k,hk1,hk2,rfl,rfl,hco⟩:=hrel
    have hcb:=HL.bound (k - 1) (by omega)
    obtain⟨c,hc⟩:∃ c:Nat,acc (s.data.toList.drop i) 16 (k - 1)=c:=⟨_,rfl⟩
    rw[hc] at hcb ⊢;have HC:=Lib.hid hc;clear hc
    by_cases hlt:k < 3
    · obtain⟨b,hb⟩:∃ b:Nat,bt (s.data.toList.drop i) k=b:=⟨_,rfl⟩
      have hbl:b < 256:=by rw[← hb];exact mr _ _
      have hsb:((s[i+k]'(by omega)).toNat:Int)=b:=by rw[iC s i k (by omega),hb]
      have HB:=Lib.hid hb;clear hb
      by_cases hq:b / 64=2
      · have g:(bits .and .u8 (b:Int) 192 != 128)=false:=by
         rw[gy _ (by omega) (by omega)];simp;omega
        have g6:bits .or .i64 ((c:Int)*64) ((b:Int) % 64)=((acc (s.data.toList.drop i) 16 k:Nat):Int):=by
         rw[xd _ _ (by omega) (by omega) (by omega) (by omega),show k=k - 1+1 by omega,jE,HC.out,show k - 1+1=k by omega,HB.out];push_cast;rfl
        have G6:=Lib.hid g6;clear g6
        go_wp2_with fail
        go_round
        case rel=>exact⟨k+1,by omega,by omega,by rw[G6.out,Nat.add_sub_cancel],by go_num,hco.next (by rw[HB.out];exact hq)⟩
        case measure=>simp[intOf];omega
      · have g:(bits .and .u8 (b:Int) 192 != 128)=true:=by
         rw[gy _ (by omega) (by omega)];simp;omega
        have hno:=Lib.hid (lT HL hk1 hlt (by rw[HB.out];exact hq))
        go_wp2_with fail
        go_ret2;exact Decoded.none hno.out
    · have hke:k=3:=by omega
      have hend:Hid (ek (s.data.toList.drop i)=if 2048≤c∧c≤1114111∧(c < 55296∨57343 < c) then (c,3) else (0,0)):=by
       have h:=l7 HL (by rw[hln.out];omega) (by rw[← hke];exact hco);rw[← hke,HC.out,hke] at h;exact h
      clear hke
      by_cases hv:2048≤c∧c≤1114111∧(c < 55296∨57343 < c)
      · have hyes:Hid (ek (s.data.toList.drop i)=(c,3)):=by unfold Hid;rw[hend.out,if_pos hv]
        obtain⟨v1,v2,v3⟩:=hv
        rcases v3 with v3 | v3
        all_goals ((go_wp2_with fail)<;>(go_ret2;exact Decoded.some hyes.out))
      · have hno:Hid (ek (s.data.toList.drop i)=(0,0)):=by unfold Hid;rw[hend.out,if_neg hv]
        rcases(show c < 2048∨(2048≤c∧1114111 < c)∨(2048≤c∧c≤1114111∧55296≤c∧c≤57343) by omega) with v | ⟨v1,v2⟩ | ⟨v1,v2,v3,v4⟩
        all_goals (clear hv;(go_wp2_with fail)<;>(go_ret2;exact Decoded.none hno.out))
 · have hno:=Lib.hid (gw HL (by rw[hln.out];omega))
   go_enter Tryz.func135,Tryz.ntmps135
   go_wp2_with fail
   go_ret2;exact Decoded.none hno.out
set_option maxRecDepth 100000 in
set_option maxHeartbeats 1000000 in
theorem sH (s:ByteArray) (i:Nat) (w:World) (hs:s.size < 10000000000000) (h0:i < s.size) (h1:240≤bt (s.data.toList.drop i) 0) (h2:bt (s.data.toList.drop i) 0 < 248) :
 Calls Tryz.prog 135 #[.string s,.int .i64 i] w (Decoded w (s.data.toList.drop i)):=by
 have HL:Lead (s.data.toList.drop i) 4 8 65536:=vY h1 h2;have hsz:=Lib.hid (Lib.size_eq s);have hln:Hid ((s.data.toList.drop i).length=s.size - i):=by unfold Hid;rw[List.length_drop,← hsz.out]
 obtain⟨a,ha⟩:∃ a:Nat,bt (s.data.toList.drop i) 0=a:=⟨_,rfl⟩
 have hsa:((s[i]'h0).toNat:Int)=a:=by rw[dS s i h0,ha]
 rw[ha] at h1 h2;have HA:=Lib.hid ha;clear ha
 by_cases hlen:i+4≤s.size
 · have hand:bits .and .i64 (a:Int) 7=((acc (s.data.toList.drop i) 8 0:Nat):Int):=by
    rw[wW _ (by omega) (by omega),jo,HA.out];push_cast;rfl
   obtain⟨c0,hc0⟩:∃ c0:Nat,acc (s.data.toList.drop i) 8 0=c0:=⟨_,rfl⟩
   rw[hc0] at hand;have HC0:=Lib.hid hc0;clear hc0;have h192:¬ (a:Int) < 192:=by omega
   go_enter Tryz.func135,Tryz.ntmps135
   go_wp2_with fail
   go_loop [6,9] (fun c k=>∃ (kk:Nat),1≤kk∧kk≤4∧c=.int .i64 (acc (s.data.toList.drop i) 8 (kk - 1):Nat)∧k=.int .i64 kk∧Cont (s.data.toList.drop i) kk) (fun _ k=>4 - (intOf k).toNat)
   case atStart=>exact⟨1,by omega,by omega,by rw[show 1 - 1=0 from rfl,HC0.out],rfl,Cont.one _⟩
   case round =>
    obtain⟨k,hk1,hk2,rfl,rfl,hco⟩:=hrel
    have hcb:=HL.bound (k - 1) (by omega)
    obtain⟨c,hc⟩:∃ c:Nat,acc (s.data.toList.drop i) 8 (k - 1)=c:=⟨_,rfl⟩
    rw[hc] at hcb ⊢;have HC:=Lib.hid hc;clear hc
    by_cases hlt:k < 4
    · obtain⟨b,hb⟩:∃ b:Nat,bt (s.data.toList.drop i) k=b:=⟨_,rfl⟩
      have hbl:b < 256:=by rw[← hb];exact mr _ _
      have hsb:((s[i+k]'(by omega)).toNat:Int)=b:=by rw[iC s i k (by omega),hb]
      have HB:=Lib.hid hb;clear hb
      by_cases hq:b / 64=2
      · have g:(bits .and .u8 (b:Int) 192 != 128)=false:=by
         rw[gy _ (by omega) (by omega)];simp;omega
        have g6:bits .or .i64 ((c:Int)*64) ((b:Int) % 64)=((acc (s.data.toList.drop i) 8 k:Nat):Int):=by
         rw[xd _ _ (by omega) (by omega) (by omega) (by omega),show k=k - 1+1 by omega,jE,HC.out,show k - 1+1=k by omega,HB.out];push_cast;rfl
        have G6:=Lib.hid g6;clear g6
        go_wp2_with fail
        go_round
        case rel=>exact⟨k+1,by omega,by omega,by rw[G6.out,Nat.add_sub_cancel],by go_num,hco.next (by rw[HB.out];exact hq)⟩
        case measure=>simp[intOf];omega
      · have g:(bits .and .u8 (b:Int) 192 != 128)=true:=by
         rw[gy _ (by omega) (by omega)];simp;omega
        have hno:=Lib.hid (lT HL hk1 hlt (by rw[HB.out];exact hq))
        go_wp2_with fail
        go_ret2;exact Decoded.none hno.out
    · have hke:k=4:=by omega
      have hend:Hid (ek (s.data.toList.drop i)=if 65536≤c∧c≤1114111∧(c < 55296∨57343 < c) then (c,4) else (0,0)):=by
       have h:=l7 HL (by rw[hln.out];omega) (by rw[← hke];exact hco);rw[← hke,HC.out,hke] at h;exact h
      clear hke
      by_cases hv:65536≤c∧c≤1114111∧(c < 55296∨57343 < c)
      · have hyes:Hid (ek (s.data.toList.drop i)=(c,4)):=by unfold Hid;rw[hend.out,if_pos hv]
        obtain⟨v1,v2,v3⟩:=hv
        rcases v3 with v3 | v3
        all_goals ((go_wp2_with fail)<;>(go_ret2;exact Decoded.some hyes.out))
      · have hno:Hid (ek (s.data.toList.drop i)=(0,0)):=by unfold Hid;rw[hend.out,if_neg hv]
        rcases(show c < 65536∨(65536≤c∧1114111 < c)∨(65536≤c∧c≤1114111∧55296≤c∧c≤57343) by omega) with v | ⟨v1,v2⟩ | ⟨v1,v2,v3,v4⟩
        all_goals (clear hv;(go_wp2_with fail)<;>(go_ret2;exact Decoded.none hno.out))
 · have hno:=Lib.hid (gw HL (by rw[hln.out];omega))
   go_enter Tryz.func135,Tryz.ntmps135
   go_wp2_with fail
   go_ret2;exact Decoded.none hno.out
set_option maxRecDepth 100000 in
set_option maxHeartbeats 1000000 in
theorem nW (s:ByteArray) (i:Nat) (w:World) (hs:s.size < 10000000000000) (h0:i < s.size) :
 Calls Tryz.prog 135 #[.string s,.int .i64 i] w (Decoded w (s.data.toList.drop i)):=by
 rcases(show bt (s.data.toList.drop i) 0 < 128∨(128≤bt (s.data.toList.drop i) 0∧bt (s.data.toList.drop i) 0 < 192)∨(192≤bt (s.data.toList.drop i) 0∧bt (s.data.toList.drop i) 0 < 224) ∨
  (224≤bt (s.data.toList.drop i) 0∧bt (s.data.toList.drop i) 0 < 240)∨(240≤bt (s.data.toList.drop i) 0∧bt (s.data.toList.drop i) 0 < 248)∨248≤bt (s.data.toList.drop i) 0 by omega) with h | h | h | h | h | h
 · have hyes:=Lib.hid (wL h)
   obtain⟨a,ha⟩:∃ a:Nat,bt (s.data.toList.drop i) 0=a:=⟨_,rfl⟩
   have hsa:((s[i]'h0).toNat:Int)=a:=by rw[dS s i h0,ha]
   rw[ha] at h hyes;clear ha;go_enter Tryz.func135,Tryz.ntmps135
   go_wp2_with fail
   go_loop [6,9] (fun c k=>c=.int .i64 a∧k=.int .i64 1) (fun _ _=>0)
   case atStart=>exact⟨rfl,rfl⟩
   case round =>
    obtain⟨rfl,rfl⟩:=hrel
    go_wp2_with fail
    go_ret2;exact Decoded.some hyes.out
 · have hno:=Lib.hid (vC h.1 (.inl h.2))
   obtain⟨a,ha⟩:∃ a:Nat,bt (s.data.toList.drop i) 0=a:=⟨_,rfl⟩
   have hsa:((s[i]'h0).toNat:Int)=a:=by rw[dS s i h0,ha]
   rw[ha] at h
   obtain⟨h1,h2⟩:=h
   clear ha;go_enter Tryz.func135,Tryz.ntmps135
   go_wp2_with fail
   go_ret2;exact Decoded.none hno.out
 · exact s9 s i w hs h0 h.1 h.2
 · exact tk s i w hs h0 h.1 h.2
 · exact sH s i w hs h0 h.1 h.2
 · have hno:=Lib.hid (vC (by omega) (.inr h))
   obtain⟨a,ha⟩:∃ a:Nat,bt (s.data.toList.drop i) 0=a:=⟨_,rfl⟩
   have hsa:((s[i]'h0).toNat:Int)=a:=by rw[dS s i h0,ha]
   have hb:a < 256:=by rw[← ha];exact mr _ _
   rw[ha] at h;clear ha;go_enter Tryz.func135,Tryz.ntmps135
   go_wp2_with fail
   go_ret2;exact Decoded.none hno.out
set_option maxHeartbeats 1000000 in
theorem nE (c:Int) (w:World):Calls Tryz.prog 136 #[.int .i64 c] w fun e w'=>e=.returned (.bool (pQ c))∧w=w':=by
 go_enter Tryz.func136,Tryz.ntmps136
 go_wp2_with fail
 all_goals (go_ret;refine⟨aG ?_,rfl⟩;unfold pQ;rw[Bool.eq_iff_iff];simp;try omega)
def Nexted (w:World) (l:List UInt8) (e:Ending) (w':World):Prop:=e=.returned (.tuple #[.int .i64 (nx l).1,.int .i64 (nx l).2])∧w=w'
theorem Nexted.of {w:World} {l:List UInt8} {c n:Nat} (h:nx l=(c,n)):Nexted w l (.returned (.tuple #[.int .i64 c,.int .i64 n])) w:=⟨by rw[h],rfl⟩
theorem Nexted.none {w:World} {l:List UInt8} (h:nx l=(0,0)):Nexted w l (.returned (.tuple #[.int .i64 0,.int .i64 0])) w:=⟨by rw[h];rfl,rfl⟩
set_option maxHeartbeats 1000000 in
theorem nd (s:ByteArray) (i:Nat) (w:World) (hs:s.size < 10000000000000) (h0:i < s.size) :
 Calls Tryz.prog 98 #[.string s,.int .i64 i] w (Nexted w (s.data.toList.drop i)):=by
 have HD:=Lib.hid (nW s i w hs h0);have hb:=qj (s.data.toList.drop i);have hn:=tj (s.data.toList.drop i)
 obtain⟨c,hc⟩:∃ c,(ek (s.data.toList.drop i)).1=c:=⟨_,rfl⟩
 obtain⟨n,hn'⟩:∃ n,(ek (s.data.toList.drop i)).2=n:=⟨_,rfl⟩
 have hr:ek (s.data.toList.drop i)=(c,n):=by rw[← hc,← hn']
 rw[hc,hn'] at hb;rw[hr] at hn;have HR:=Lib.hid hr;have HN:=Lib.hid hn
 obtain⟨b1,b2,b3⟩:=hb
 have hch:=qq c b1 b3;clear hc hn' hr hn b3;have hD:Hid (∀ e w',Decoded w (s.data.toList.drop i) e w'→e=.returned (.tuple #[.int .i64 c,.int .i64 n])∧w=w'):=fun e w' ⟨h1,h2⟩=>⟨by rw[h1,HR.out],h2⟩
 by_cases h:n=0
 · subst h
   have hno:Hid (nx (s.data.toList.drop i)=(0,0)):=by unfold Hid;rw[HN.out];rfl
   clear hch;go_enter Tryz.func98,Tryz.ntmps98
   go_wp2_with (go_at_call 135;refine HD.out.mono ?_;intro e w' hd;obtain⟨rfl,rfl⟩:=hD.out _ _ hd)
   go_ret2;exact Nexted.none hno.out
 · have g:((n:Int)==0)=false:=by simp;omega
   cases hok:g7 c with
   | true =>
     have hyes:Hid (nx (s.data.toList.drop i)=(c,n)):=by unfold Hid;rw[HN.out,hok,if_neg];simp;omega
     rw[hok] at hch;have HC:=Lib.hid hch;clear hch hok h;go_enter Tryz.func98,Tryz.ntmps98
     go_wp2_with (first | (go_at_call 135;refine HD.out.mono ?_;intro e w' hd;obtain⟨rfl,rfl⟩:=hD.out _ _ hd) | (go_at_call 136;refine(nE _ _).mono ?_;rintro e w' ⟨rfl,rfl⟩;rw[HC.out]))
     go_ret2;exact Nexted.of hyes.out
   | false =>
     have hno:Hid (nx (s.data.toList.drop i)=(0,0)):=by unfold Hid;rw[HN.out,hok,if_pos];simp
     rw[hok] at hch;have HC:=Lib.hid hch;clear hch hok h;go_enter Tryz.func98,Tryz.ntmps98
     go_wp2_with (first | (go_at_call 135;refine HD.out.mono ?_;intro e w' hd;obtain⟨rfl,rfl⟩:=hD.out _ _ hd) | (go_at_call 136;refine(nE _ _).mono ?_;rintro e w' ⟨rfl,rfl⟩;rw[HC.out]))
     go_ret2;exact Nexted.none hno.out
set_option maxHeartbeats 1000000 in
theorem fA (s:ByteArray) (w:World) (hs:s.size < 10000000000000) :
 Calls Tryz.prog 72 #[.string s] w fun e w'=>e=.returned (.bool (valid s.data.toList))∧w=w':=by
 have hsz:=Lib.hid (Lib.size_eq s);have hyes:=Lib.hid (fun (x:List Nat) (h:ch s.data.toList=some x)=>bg h);have hno:=Lib.hid (fun (h:ch s.data.toList=none)=>bh h)
 obtain⟨b,hb⟩:∃ b,valid s.data.toList=b:=⟨_,rfl⟩
 rw[hb] at hyes hno ⊢;clear hb;go_enter Tryz.func72,Tryz.ntmps72
 go_wp2_with fail
 go_loop [3] (fun at_=>∃ (k:Nat) (x:List Nat),k≤s.size∧at_=.int .i64 k∧At s.data.toList k x) (fun at_=>s.size - (intOf at_).toNat)
 case atStart=>exact⟨0,[],Nat.zero_le _,rfl,At.start _⟩
 case round =>
  obtain⟨k,x,hk,rfl,hat⟩:=hrel
  by_cases hlt:k < s.size
  · have hlt':k < s.data.toList.length:=by rw[← hsz.out];exact hlt
    have hle:=mJ (eV hlt');rw[List.length_drop,← hsz.out] at hle;have HD:=Lib.hid (nd s k w hs hlt)
    obtain⟨c,n,hcn⟩:∃ c n,Hid (nx (s.data.toList.drop k)=(c,n)):=⟨_,_,Lib.hid rfl⟩
    have hD:Hid (∀ e w',Nexted w (s.data.toList.drop k) e w'→e=.returned (.tuple #[.int .i64 c,.int .i64 n])∧w=w'):=fun e w' ⟨h1,h2⟩=>⟨by rw[h1,hcn.out],h2⟩
    rw[hcn.out] at hle
    by_cases hn:n=0
    · subst hn
      have hbad:Hid (b=false):=(hno.out (hat.bad hlt' (by rw[hcn.out])))
      go_wp2_with (go_at_call 98;refine HD.out.mono ?_;intro e w' hd;obtain⟨rfl,rfl⟩:=hD.out _ _ hd)
      go_ret
      exact⟨aG hbad.out.symm,rfl⟩
    · have hat':=hat.next hlt' (by rw[hcn.out];exact hn)
      rw[hcn.out] at hat';have g:((n:Int)==0)=false:=by simp;omega
      go_wp2_with (go_at_call 98;refine HD.out.mono ?_;intro e w' hd;obtain⟨rfl,rfl⟩:=hD.out _ _ hd)
      go_round
      case rel=>exact⟨k+n,x++[c],by omega,by go_num,hat'⟩
      case measure=>simp[intOf];omega
  · have hke:k=s.data.toList.length:=by rw[← hsz.out];omega
    have hgood:Hid (b=true):=hyes.out x (At.stop (by rw[← hke];exact hat));clear hke
    go_wp2_with fail
    go_ret
    exact⟨aG hgood.out.symm,rfl⟩
end Go.Proofs.YtbgaglcgennhiaaGreatDoor
