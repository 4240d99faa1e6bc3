import Derived.Test.YtfbdnaclkfmiaaaGreatDoorB39
import Derived.Test.YtfbdnaclkfmiaaaGreatDoorB48
import Derived.Test.YtfbdnaclkfmiaaaGreatDoorB46
import Derived.Test.YtfbdnaclkfmiaaaGreatDoorB47
import Derived.Test.YtfbdnaclkfmiaaaGreatDoorB18
namespace Go.Proofs.YtfbdnaclkfmiaaaGreatDoor
open Go.RowKit Vc Ct Tx
set_option maxHeartbeats 16000000 in
set_option maxRecDepth 100000 in
theorem contactNeeds_any (c:Con) (gv o:Value) (what:Int) (w:World) (hO:OkwV w) (hg:ReadT w.heap.size w gv (sts c.groups)) (ho:ReadP w o c.other) (hgl:c.groups.length≤1000000000) (hs:heavyC c≤1000000000000) (hc:costC c.other≤1000000000) :
    Calls Tryz.prog 6 #[agC c gv o,.int .i64 what] w fun e w'=>e=.returned (.bool true)∧Below w.heap.size w w':=by
  obtain⟨GA,gcap,hgv⟩:∃ A cap,gv=.slice A (sts c.groups).length cap:=by obtain⟨A,cap,e,_⟩:=hg;exact⟨A,cap,e⟩
  obtain⟨OA,ocap,hov⟩:∃ A cap,o=.slice A c.other.length cap:=by obtain⟨A,cap,e,_⟩:=ho;exact⟨A,cap,e⟩
  have HSM:=Lib.hid (fun W (h:Below w.heap.size w W)=>smallC_any c gv o W (hg.upon h) (ho.below h) hgl hs hc)
  have HAW:Hid (∀ W,Below w.heap.size w W→Calls Tryz.prog 10 #[] W fun e w'=>e=.returned (.bool true)∧Below W.heap.size W w'):=fun W h=>cawake_any W (hO.below h)
  have HO:Hid (∀ W,Below w.heap.size w W→OkwV W):=fun W h=>hO.below h
  obtain⟨sm,hsm⟩:∃ b,(decide (heavyC c≤5000)&&decide (costC c.other≤8000))=b:=⟨_,rfl⟩
  have HPC:Hid (sm=true→∀ W,Below w.heap.size w W→Calls Tryz.prog 19 #[agC c gv o] W fun e w'=>(∃ d g,e=.returned (agC d g (.slice none 0 0))∧Near d∧OwnT W.heap.size w' g (sts d.groups))∧Below W.heap.size W w'):=fun h W hW=>by
    rw[← hsm] at h
    have h1:=of_decide_eq_true (Bool.and_eq_true_iff.1 h).1
    have h2:heavyC c=c.name.length+c.family.length+c.given.length+c.nick.length+c.jid.length+c.email.length+c.tel.length+c.note.length+c.uid.length+heavyT c.groups:=rfl
    have hT:∀ l:List (List UInt8),l.length≤heavyT l∧∀ g∈l,g.length≤heavyT l:=by
      intro l
      unfold heavyT
      induction l with
      | nil=>simp
      | cons x t ih =>
        simp only[List.map_cons,List.sum_cons,List.length_cons]
        refine⟨by have:=ih.1;omega,fun g hm=>?_⟩
        rcases List.mem_cons.1 hm with e | e
        · rw[e];omega
        · have:=ih.2 g e;omega
    refine pcontact_any c gv o W (hg.upon hW) (ho.below hW) (fun x hx=>?_) (by have:=(hT c.groups).1;omega) (fun g hm=>by have:=(hT c.groups).2 g hm;omega)
    simp only[List.mem_cons,List.not_mem_nil,or_false] at hx
    rcases hx with e | e | e | e | e | e | e | e | e<;>rw[e]<;>omega
  rw[hsm] at HSM
  have hag:agC c gv o=.agg #[.string (bts c.name),.string (bts c.family),.string (bts c.given),.string (bts c.nick),.string (bts c.jid),.string (bts c.email),.string (bts c.tel),.string (bts c.note),.string (bts c.uid),gv,o]:=rfl
  rw[hag] at HSM HPC ⊢
  rw[hgv,hov] at HSM HPC ⊢
  clear hag hgv hov hsm hO hg ho hgl hs hc
  obtain⟨gn,hgn⟩:∃ n,(sts c.groups).length=n:=⟨_,rfl⟩
  obtain⟨on,hon⟩:∃ n,c.other.length=n:=⟨_,rfl⟩
  rw[hgn,hon] at HSM HPC ⊢
  clear hgn hon
  obtain⟨X0,hX0⟩:∃ X,bts c.name=X:=⟨_,rfl⟩
  obtain⟨X1,hX1⟩:∃ X,bts c.family=X:=⟨_,rfl⟩
  obtain⟨X2,hX2⟩:∃ X,bts c.given=X:=⟨_,rfl⟩
  obtain⟨X3,hX3⟩:∃ X,bts c.nick=X:=⟨_,rfl⟩
  obtain⟨X4,hX4⟩:∃ X,bts c.jid=X:=⟨_,rfl⟩
  obtain⟨X5,hX5⟩:∃ X,bts c.email=X:=⟨_,rfl⟩
  obtain⟨X6,hX6⟩:∃ X,bts c.tel=X:=⟨_,rfl⟩
  obtain⟨X7,hX7⟩:∃ X,bts c.note=X:=⟨_,rfl⟩
  obtain⟨X8,hX8⟩:∃ X,bts c.uid=X:=⟨_,rfl⟩
  rw[hX0,hX1,hX2,hX3,hX4,hX5,hX6,hX7,hX8] at HSM HPC ⊢
  clear hX0 hX1 hX2 hX3 hX4 hX5 hX6 hX7 hX8
  obtain⟨W1,hW1⟩:∃ W1,w.alloc (.cells #[.string X0,.string X1,.string X2,.string X3,.string X4,.string X5,.string X6,.string X7,.string X8,.slice GA gn gcap,.slice OA on ocap] 25)=W1:=⟨_,rfl⟩
  obtain⟨G,hG⟩:∃ g,w.heap.size=g:=⟨_,rfl⟩
  have K1:Hid (Bk W1 G 25 #[.string X0,.string X1,.string X2,.string X3,.string X4,.string X5,.string X6,.string X7,.string X8,.slice GA gn gcap,.slice OA on ocap]):=by rw[← hW1,← hG];exact Bk.new _ _ _
  have B1:Hid (Below w.heap.size w W1):=by rw[← hW1];exact(Below.refl _ _).alloc (Nat.le_refl _) _
  have HGW:Hid (w.heap.size≤G):=by unfold Hid;omega
  have HW1:=Lib.hid hW1
  have HG:=Lib.hid hG
  clear hW1 hG
  go_enter Tryz.func6,Tryz.ntmps6
  go_upto_region 1 with fail
  (try rw[HW1.out])
  (try rw[HG.out])
  have c0:W1.cell? ⟨G,0,none⟩=some (.string X0):=K1.out.cell 0
  have c1:W1.cell? ⟨G,1,none⟩=some (.string X1):=K1.out.cell 1
  have c2:W1.cell? ⟨G,2,none⟩=some (.string X2):=K1.out.cell 2
  have c3:W1.cell? ⟨G,3,none⟩=some (.string X3):=K1.out.cell 3
  have c4:W1.cell? ⟨G,4,none⟩=some (.string X4):=K1.out.cell 4
  have c5:W1.cell? ⟨G,5,none⟩=some (.string X5):=K1.out.cell 5
  have c6:W1.cell? ⟨G,6,none⟩=some (.string X6):=K1.out.cell 6
  have c7:W1.cell? ⟨G,7,none⟩=some (.string X7):=K1.out.cell 7
  have c8:W1.cell? ⟨G,8,none⟩=some (.string X8):=K1.out.cell 8
  have c9:W1.cell? ⟨G,9,none⟩=some (.slice GA gn gcap):=K1.out.cell 9
  have c10:W1.cell? ⟨G,10,none⟩=some (.slice OA on ocap):=K1.out.cell 10
  go_wp2_with fail
  refine(HSM.out W1 B1.out).mono ?_
  rintro e w2 ⟨rfl,b2⟩
  have K2:=Lib.hid (K1.out.below b2 K1.out.lt)
  have B2:Hid (Below w.heap.size w w2):=B1.out.trans (b2.mono B1.out.size)
  clear b2 HSM
  clear c0 c1 c2 c3 c4 c5 c6 c7 c8 c9 c10
  cases sm with
  | false =>
    go_wp2_with fail
    refine(HAW.out w2 B2.out).mono ?_
    rintro e w3 ⟨rfl,b3⟩
    have B3:Hid (Below w.heap.size w w3):=B2.out.trans (b3.mono B2.out.size)
    clear b3
    go_wp2_with fail
    go_ret
    exact⟨rfl,by first | exact B3.out | (rw[← HG.out];exact B3.out)⟩
  | true =>
    have c0:w2.cell? ⟨G,0,none⟩=some (.string X0):=K2.out.cell 0
    have c1:w2.cell? ⟨G,1,none⟩=some (.string X1):=K2.out.cell 1
    have c2:w2.cell? ⟨G,2,none⟩=some (.string X2):=K2.out.cell 2
    have c3:w2.cell? ⟨G,3,none⟩=some (.string X3):=K2.out.cell 3
    have c4:w2.cell? ⟨G,4,none⟩=some (.string X4):=K2.out.cell 4
    have c5:w2.cell? ⟨G,5,none⟩=some (.string X5):=K2.out.cell 5
    have c6:w2.cell? ⟨G,6,none⟩=some (.string X6):=K2.out.cell 6
    have c7:w2.cell? ⟨G,7,none⟩=some (.string X7):=K2.out.cell 7
    have c8:w2.cell? ⟨G,8,none⟩=some (.string X8):=K2.out.cell 8
    have c9:w2.cell? ⟨G,9,none⟩=some (.slice GA gn gcap):=K2.out.cell 9
    have c10:w2.cell? ⟨G,10,none⟩=some (.slice OA on ocap):=K2.out.cell 10
    go_wp2_with fail
    refine(HPC.out (by first | exact trivial | rfl) w2 B2.out).mono ?_
    rintro e w3 ⟨⟨d,g,rfl,hd,hown⟩,b3⟩
    have HD:=Lib.hid hd
    obtain⟨DA,dcap,hgv⟩:=hown.slice
    obtain⟨dn,hdn⟩:∃ n,(sts d.groups).length=n:=⟨_,rfl⟩
    rw[hdn] at hgv
    subst hgv
    have hag:agC d (.slice DA dn dcap) (.slice none 0 0)=.agg #[.string (bts d.name),.string (bts d.family),.string (bts d.given),.string (bts d.nick),.string (bts d.jid),.string (bts d.email),.string (bts d.tel),.string (bts d.note),.string (bts d.uid),.slice DA dn dcap,.slice none 0 0]:=rfl
    rw[hag]
    clear hag hd hdn
    obtain⟨D0,hD0⟩:∃ X,bts d.name=X:=⟨_,rfl⟩
    obtain⟨D1,hD1⟩:∃ X,bts d.family=X:=⟨_,rfl⟩
    obtain⟨D2,hD2⟩:∃ X,bts d.given=X:=⟨_,rfl⟩
    obtain⟨D3,hD3⟩:∃ X,bts d.nick=X:=⟨_,rfl⟩
    obtain⟨D4,hD4⟩:∃ X,bts d.jid=X:=⟨_,rfl⟩
    obtain⟨D5,hD5⟩:∃ X,bts d.email=X:=⟨_,rfl⟩
    obtain⟨D6,hD6⟩:∃ X,bts d.tel=X:=⟨_,rfl⟩
    obtain⟨D7,hD7⟩:∃ X,bts d.note=X:=⟨_,rfl⟩
    obtain⟨D8,hD8⟩:∃ X,bts d.uid=X:=⟨_,rfl⟩
    rw[hD0,hD1,hD2,hD3,hD4,hD5,hD6,hD7,hD8]
    have HD0:=Lib.hid hD0
    have HD1:=Lib.hid hD1
    have HD2:=Lib.hid hD2
    have HD3:=Lib.hid hD3
    have HD4:=Lib.hid hD4
    have HD5:=Lib.hid hD5
    have HD6:=Lib.hid hD6
    have HD7:=Lib.hid hD7
    have HD8:=Lib.hid hD8
    clear hD0 hD1 hD2 hD3 hD4 hD5 hD6 hD7 hD8
    clear c0 c1 c2 c3 c4 c5 c6 c7 c8 c9 c10
    have K3:=Lib.hid (K2.out.below b3 K2.out.lt)
    have B3:Hid (Below w.heap.size w w3):=B2.out.trans (b3.mono B2.out.size)
    have O3:=Lib.hid hown
    have HG2:Hid (G < w2.heap.size):=K2.out.lt
    clear hown b3
    have c0:w3.cell? ⟨G,0,none⟩=some (.string X0):=K3.out.cell 0
    have g0:w3.frozen? ⟨G,0,none⟩=false:=K3.out.free 0
    have c1:w3.cell? ⟨G,1,none⟩=some (.string X1):=K3.out.cell 1
    have g1:w3.frozen? ⟨G,1,none⟩=false:=K3.out.free 1
    have c2:w3.cell? ⟨G,2,none⟩=some (.string X2):=K3.out.cell 2
    have g2:w3.frozen? ⟨G,2,none⟩=false:=K3.out.free 2
    have c3:w3.cell? ⟨G,3,none⟩=some (.string X3):=K3.out.cell 3
    have g3:w3.frozen? ⟨G,3,none⟩=false:=K3.out.free 3
    have c4:w3.cell? ⟨G,4,none⟩=some (.string X4):=K3.out.cell 4
    have g4:w3.frozen? ⟨G,4,none⟩=false:=K3.out.free 4
    have c5:w3.cell? ⟨G,5,none⟩=some (.string X5):=K3.out.cell 5
    have g5:w3.frozen? ⟨G,5,none⟩=false:=K3.out.free 5
    have c6:w3.cell? ⟨G,6,none⟩=some (.string X6):=K3.out.cell 6
    have g6:w3.frozen? ⟨G,6,none⟩=false:=K3.out.free 6
    have c7:w3.cell? ⟨G,7,none⟩=some (.string X7):=K3.out.cell 7
    have g7:w3.frozen? ⟨G,7,none⟩=false:=K3.out.free 7
    have c8:w3.cell? ⟨G,8,none⟩=some (.string X8):=K3.out.cell 8
    have g8:w3.frozen? ⟨G,8,none⟩=false:=K3.out.free 8
    have c9:w3.cell? ⟨G,9,none⟩=some (.slice GA gn gcap):=K3.out.cell 9
    have g9:w3.frozen? ⟨G,9,none⟩=false:=K3.out.free 9
    have c10:w3.cell? ⟨G,10,none⟩=some (.slice OA on ocap):=K3.out.cell 10
    have g10:w3.frozen? ⟨G,10,none⟩=false:=K3.out.free 10
    have k4:=laid11_bk K3.out (.string D0) (.string D1) (.string D2) (.string D3) (.string D4) (.string D5) (.string D6) (.string D7) (.string D8) (.slice DA dn dcap) (.slice none 0 0)
    have b4:=laid11_below B3.out HGW.out (.string D0) (.string D1) (.string D2) (.string D3) (.string D4) (.string D5) (.string D6) (.string D7) (.string D8) (.slice DA dn dcap) (.slice none 0 0)
    have o4:OwnT w2.heap.size (laid11 w3 G (.string D0) (.string D1) (.string D2) (.string D3) (.string D4) (.string D5) (.string D6) (.string D7) (.string D8) (.slice DA dn dcap) (.slice none 0 0)) (.slice DA dn dcap) (sts d.groups):=((((((((((O3.out.set HG2.out).set HG2.out).set HG2.out).set HG2.out).set HG2.out).set HG2.out).set HG2.out).set HG2.out).set HG2.out).set HG2.out).set HG2.out
    obtain⟨w4,hw4⟩:∃ z,laid11 w3 G (.string D0) (.string D1) (.string D2) (.string D3) (.string D4) (.string D5) (.string D6) (.string D7) (.string D8) (.slice DA dn dcap) (.slice none 0 0)=z:=⟨_,rfl⟩
    rw[hw4] at k4 b4 o4
    have K4:=Lib.hid k4
    have B4:=Lib.hid b4
    have O4:=Lib.hid o4
    have HS23:=Lib.hid B2.out.size
    clear k4 b4 o4
    go_upto_region 4 with fail
    clear c0 c1 c2 c3 c4 c5 c6 c7 c8 c9 c10 g0 g1 g2 g3 g4 g5 g6 g7 g8 g9 g10
    clear hw4
    go_wp2_with fail
    go_loopw [5,6] (fun sv iv wr=>∃ k:Nat,sv=.string (longN k)∧iv=.int .i64 (k:Nat)∧k≤101∧wr=w4) (fun _ iv _=>101 - (intOf iv).toNat)
    case atStart=>exact⟨0,rfl,rfl,by decide,rfl⟩
    case round =>
      obtain⟨k,rfl,rfl,hk,hw⟩:=hrel
      have hw:=hw.symm
      subst hw
      by_cases hlt:k < 101
      · have h1:(k:Int)≤100:=by omega
        have hsz:=longN_size k
        have hsu:=longN_succ k
        obtain⟨S,hS⟩:∃ S,longN k=S:=⟨_,rfl⟩
        rw[hS] at hsz hsu ⊢
        have hb:S.size≤300:=by omega
        have h2:(⟨#[195,169]⟩:ByteArray).size=2:=rfl
        have HSU:=Lib.hid hsu
        have hcc:¬ (9223372036854775807 < S.size+2):=by omega
        clear hsz hsu hS
        go_wp2_with fail
        go_roundw
        case rel=>exact⟨k+1,by rw[← HSU.out],by go_num,by omega,by first | exact trivial | rfl⟩
        case measure=>simp[intOf];omega
      · have h1:¬ (k:Int)≤100:=by omega
        obtain rfl:k=101:=by omega
        clear hlt hk
        have hke:longN 101=bts longL:=rfl
        rw[hke]
        obtain⟨LB,hLB⟩:∃ z,bts longL=z:=⟨_,rfl⟩
        have HLN:Hid (∀ W,Calls Tryz.prog 23 #[.string LB,.int .i64 100] W fun e w'=>e=.returned (.bool false)∧Below W.heap.size W w'):=fun W=>by
          have h:=rline_any (bts longL) 100 W (by rw[Lib.size_eq];show longL.length < _;decide +kernel)
          rw[show Tx.line (bts longL).data.toList 100=false from long_no] at h
          rw[← hLB]
          exact h
        have HLB:=Lib.hid hLB
        rw[hLB]
        clear hke hLB
        go_wp2_with fail
        refine(HAW.out w4 B4.out).mono ?_
        rintro e w5 ⟨rfl,b5⟩
        have K5:=Lib.hid (K4.out.below b5 K4.out.lt)
        have B5:Hid (Below w.heap.size w w5):=B4.out.trans (b5.mono B4.out.size)
        have O5:=Lib.hid (O4.out.below b5)
        clear b5
        have c0:w5.cell? ⟨G,0,none⟩=some (.string D0):=K5.out.cell 0
        have c1:w5.cell? ⟨G,1,none⟩=some (.string D1):=K5.out.cell 1
        have c2:w5.cell? ⟨G,2,none⟩=some (.string D2):=K5.out.cell 2
        have c3:w5.cell? ⟨G,3,none⟩=some (.string D3):=K5.out.cell 3
        have c4:w5.cell? ⟨G,4,none⟩=some (.string D4):=K5.out.cell 4
        have c5:w5.cell? ⟨G,5,none⟩=some (.string D5):=K5.out.cell 5
        have c6:w5.cell? ⟨G,6,none⟩=some (.string D6):=K5.out.cell 6
        have c7:w5.cell? ⟨G,7,none⟩=some (.string D7):=K5.out.cell 7
        have c8:w5.cell? ⟨G,8,none⟩=some (.string D8):=K5.out.cell 8
        have c9:w5.cell? ⟨G,9,none⟩=some (.slice DA dn dcap):=K5.out.cell 9
        have c10:w5.cell? ⟨G,10,none⟩=some (.slice none 0 0):=K5.out.cell 10
        have HNR:Hid (Calls Tryz.prog 16 #[.agg #[.string D0,.string D1,.string D2,.string D3,.string D4,.string D5,.string D6,.string D7,.string D8,.slice DA dn dcap,.slice none 0 0]] w5 fun e w'=>e=.returned (.bool true)∧Below w5.heap.size w5 w'):=by
          have h:=nearR_any d HD.out (.slice DA dn dcap) w5 (HO.out w5 B5.out) O5.out.reads
          have hag:agC d (.slice DA dn dcap) (.slice none 0 0)=.agg #[.string (bts d.name),.string (bts d.family),.string (bts d.given),.string (bts d.nick),.string (bts d.jid),.string (bts d.email),.string (bts d.tel),.string (bts d.note),.string (bts d.uid),.slice DA dn dcap,.slice none 0 0]:=rfl
          rw[hag,HD0.out,HD1.out,HD2.out,HD3.out,HD4.out,HD5.out,HD6.out,HD7.out,HD8.out] at h
          exact h
        go_wp2_with fail
        refine HNR.out.mono ?_
        rintro e w6 ⟨rfl,b6⟩
        have K6:=Lib.hid (K5.out.below b6 K5.out.lt)
        have B6:Hid (Below w.heap.size w w6):=B5.out.trans (b6.mono B5.out.size)
        have O6:=Lib.hid (O5.out.below b6)
        clear b6 HNR
        clear c0 c1 c2 c3 c4 c5 c6 c7 c8 c9 c10
        obtain⟨k,hk,hk10⟩:=uintRem10 what
        have HK:=Lib.hid hk
        have hkk:k=0∨k=1∨k=2∨k=3∨k=4∨k=5∨k=6∨k=7∨k=8∨k=9:=by omega
        clear hk hk10
        rcases hkk with rfl | rfl | rfl | rfl | rfl | rfl | rfl | rfl | rfl | rfl
        · skip
          have hk:(IntKind.u64.wrap what).tmod 10=0:=HK.out
          clear HK
          have cz:w6.cell? ⟨G,0,none⟩=some (.string D0):=K6.out.cell 0
          have fz:w6.frozen? ⟨G,0,none⟩=false:=K6.out.free 0
          obtain⟨w8,hw8⟩:∃ z,w6.setCell ⟨G,0,none⟩ (.string ⟨#[]⟩)=z:=⟨_,rfl⟩
          have K8:Hid (Bk w8 G 25 #[.string ⟨#[]⟩,.string D1,.string D2,.string D3,.string D4,.string D5,.string D6,.string D7,.string D8,.slice DA dn dcap,.slice none 0 0]):=by rw[← hw8];exact K6.out.put 0 _
          have B8:Hid (Below w.heap.size w w8):=by rw[← hw8];exact B6.out.setCell (p:=⟨G,0,none⟩) HGW.out _
          have O8:OwnT w2.heap.size w8 (.slice DA dn dcap) (sts d.groups):=by rw[← hw8];exact O6.out.set HG2.out
          have R8:ReadT w8.heap.size w8 (.slice DA dn dcap) (sts (worse 0 d).groups):=O8.reads
          have S8:SeenP w8 (.slice none 0 0) (worse 0 d).other:=by rw[show (worse 0 d).other=[] from HD.out.other];exact⟨none,0,rfl,fun h0=>absurd h0 (Nat.not_lt_zero _)⟩
          have HPR:=Lib.hid (worseP_any 0 d HD.out (.slice DA dn dcap) (.slice none 0 0) w8 (HO.out w8 B8.out) R8 S8)
          have HRR:=Lib.hid (fun W (hW:Below w8.heap.size w8 W)=>worseR_any 0 d HD.out (.slice DA dn dcap) (.slice none 0 0) W (HO.out W (B8.out.trans (hW.mono B8.out.size))) (R8.upon hW) (S8.below hW))
          have hag:agC (worse 0 d) (.slice DA dn dcap) (.slice none 0 0)=.agg #[.string ⟨#[]⟩,.string D1,.string D2,.string D3,.string D4,.string D5,.string D6,.string D7,.string D8,.slice DA dn dcap,.slice none 0 0]:=by (try rw[← HLB.out]);(try rw[← HD0.out]);(try rw[← HD1.out]);(try rw[← HD2.out]);(try rw[← HD3.out]);(try rw[← HD4.out]);(try rw[← HD5.out]);(try rw[← HD6.out]);(try rw[← HD7.out]);(try rw[← HD8.out]);rfl
          rw[hag] at HPR HRR
          clear hag R8 S8 O8
          have u0:w8.cell? ⟨G,0,none⟩=some (.string ⟨#[]⟩):=K8.out.cell 0
          have u1:w8.cell? ⟨G,1,none⟩=some (.string D1):=K8.out.cell 1
          have u2:w8.cell? ⟨G,2,none⟩=some (.string D2):=K8.out.cell 2
          have u3:w8.cell? ⟨G,3,none⟩=some (.string D3):=K8.out.cell 3
          have u4:w8.cell? ⟨G,4,none⟩=some (.string D4):=K8.out.cell 4
          have u5:w8.cell? ⟨G,5,none⟩=some (.string D5):=K8.out.cell 5
          have u6:w8.cell? ⟨G,6,none⟩=some (.string D6):=K8.out.cell 6
          have u7:w8.cell? ⟨G,7,none⟩=some (.string D7):=K8.out.cell 7
          have u8:w8.cell? ⟨G,8,none⟩=some (.string D8):=K8.out.cell 8
          have u9:w8.cell? ⟨G,9,none⟩=some (.slice DA dn dcap):=K8.out.cell 9
          have u10:w8.cell? ⟨G,10,none⟩=some (.slice none 0 0):=K8.out.cell 10
          go_wp2_with fail
          refine HPR.out.mono ?_
          rintro e w9 ⟨⟨PA,pcap,rfl⟩,b9⟩
          have K9:=Lib.hid (K8.out.below b9 K8.out.lt)
          have HR9:=Lib.hid (HRR.out w9 b9)
          have B9:Hid (Below w.heap.size w w9):=B8.out.trans (b9.mono B8.out.size)
          clear b9 HPR HRR hw8 cz fz
          clear u0 u1 u2 u3 u4 u5 u6 u7 u8 u9 u10
          have u0:w9.cell? ⟨G,0,none⟩=some (.string ⟨#[]⟩):=K9.out.cell 0
          have u1:w9.cell? ⟨G,1,none⟩=some (.string D1):=K9.out.cell 1
          have u2:w9.cell? ⟨G,2,none⟩=some (.string D2):=K9.out.cell 2
          have u3:w9.cell? ⟨G,3,none⟩=some (.string D3):=K9.out.cell 3
          have u4:w9.cell? ⟨G,4,none⟩=some (.string D4):=K9.out.cell 4
          have u5:w9.cell? ⟨G,5,none⟩=some (.string D5):=K9.out.cell 5
          have u6:w9.cell? ⟨G,6,none⟩=some (.string D6):=K9.out.cell 6
          have u7:w9.cell? ⟨G,7,none⟩=some (.string D7):=K9.out.cell 7
          have u8:w9.cell? ⟨G,8,none⟩=some (.string D8):=K9.out.cell 8
          have u9:w9.cell? ⟨G,9,none⟩=some (.slice DA dn dcap):=K9.out.cell 9
          have u10:w9.cell? ⟨G,10,none⟩=some (.slice none 0 0):=K9.out.cell 10
          go_wp2_with fail
          refine HR9.out.mono ?_
          rintro e w10 ⟨rfl,b10⟩
          have B10:Hid (Below w.heap.size w w10):=B9.out.trans (b10.mono B9.out.size)
          clear b10 HR9
          clear u0 u1 u2 u3 u4 u5 u6 u7 u8 u9 u10
          go_wp2_with fail
          refine(HLN.out w10).mono ?_
          rintro e w11 ⟨rfl,b11⟩
          have B11:Hid (Below w.heap.size w w11):=B10.out.trans (b11.mono B10.out.size)
          clear b11
          go_wp2_with fail
          go_ret
          exact⟨rfl,by first | exact B11.out | (rw[← HG.out];exact B11.out)⟩
        · skip
          have hk:(IntKind.u64.wrap what).tmod 10=1:=HK.out
          clear HK
          have cz:w6.cell? ⟨G,3,none⟩=some (.string D3):=K6.out.cell 3
          have fz:w6.frozen? ⟨G,3,none⟩=false:=K6.out.free 3
          obtain⟨w8,hw8⟩:∃ z,w6.setCell ⟨G,3,none⟩ (.string LB)=z:=⟨_,rfl⟩
          have K8:Hid (Bk w8 G 25 #[.string D0,.string D1,.string D2,.string LB,.string D4,.string D5,.string D6,.string D7,.string D8,.slice DA dn dcap,.slice none 0 0]):=by rw[← hw8];exact K6.out.put 3 _
          have B8:Hid (Below w.heap.size w w8):=by rw[← hw8];exact B6.out.setCell (p:=⟨G,3,none⟩) HGW.out _
          have O8:OwnT w2.heap.size w8 (.slice DA dn dcap) (sts d.groups):=by rw[← hw8];exact O6.out.set HG2.out
          have R8:ReadT w8.heap.size w8 (.slice DA dn dcap) (sts (worse 1 d).groups):=O8.reads
          have S8:SeenP w8 (.slice none 0 0) (worse 1 d).other:=by rw[show (worse 1 d).other=[] from HD.out.other];exact⟨none,0,rfl,fun h0=>absurd h0 (Nat.not_lt_zero _)⟩
          have HPR:=Lib.hid (worseP_any 1 d HD.out (.slice DA dn dcap) (.slice none 0 0) w8 (HO.out w8 B8.out) R8 S8)
          have HRR:=Lib.hid (fun W (hW:Below w8.heap.size w8 W)=>worseR_any 1 d HD.out (.slice DA dn dcap) (.slice none 0 0) W (HO.out W (B8.out.trans (hW.mono B8.out.size))) (R8.upon hW) (S8.below hW))
          have hag:agC (worse 1 d) (.slice DA dn dcap) (.slice none 0 0)=.agg #[.string D0,.string D1,.string D2,.string LB,.string D4,.string D5,.string D6,.string D7,.string D8,.slice DA dn dcap,.slice none 0 0]:=by (try rw[← HLB.out]);(try rw[← HD0.out]);(try rw[← HD1.out]);(try rw[← HD2.out]);(try rw[← HD3.out]);(try rw[← HD4.out]);(try rw[← HD5.out]);(try rw[← HD6.out]);(try rw[← HD7.out]);(try rw[← HD8.out]);rfl
          rw[hag] at HPR HRR
          clear hag R8 S8 O8
          have u0:w8.cell? ⟨G,0,none⟩=some (.string D0):=K8.out.cell 0
          have u1:w8.cell? ⟨G,1,none⟩=some (.string D1):=K8.out.cell 1
          have u2:w8.cell? ⟨G,2,none⟩=some (.string D2):=K8.out.cell 2
          have u3:w8.cell? ⟨G,3,none⟩=some (.string LB):=K8.out.cell 3
          have u4:w8.cell? ⟨G,4,none⟩=some (.string D4):=K8.out.cell 4
          have u5:w8.cell? ⟨G,5,none⟩=some (.string D5):=K8.out.cell 5
          have u6:w8.cell? ⟨G,6,none⟩=some (.string D6):=K8.out.cell 6
          have u7:w8.cell? ⟨G,7,none⟩=some (.string D7):=K8.out.cell 7
          have u8:w8.cell? ⟨G,8,none⟩=some (.string D8):=K8.out.cell 8
          have u9:w8.cell? ⟨G,9,none⟩=some (.slice DA dn dcap):=K8.out.cell 9
          have u10:w8.cell? ⟨G,10,none⟩=some (.slice none 0 0):=K8.out.cell 10
          go_wp2_with fail
          refine HPR.out.mono ?_
          rintro e w9 ⟨⟨PA,pcap,rfl⟩,b9⟩
          have K9:=Lib.hid (K8.out.below b9 K8.out.lt)
          have HR9:=Lib.hid (HRR.out w9 b9)
          have B9:Hid (Below w.heap.size w w9):=B8.out.trans (b9.mono B8.out.size)
          clear b9 HPR HRR hw8 cz fz
          clear u0 u1 u2 u3 u4 u5 u6 u7 u8 u9 u10
          have u0:w9.cell? ⟨G,0,none⟩=some (.string D0):=K9.out.cell 0
          have u1:w9.cell? ⟨G,1,none⟩=some (.string D1):=K9.out.cell 1
          have u2:w9.cell? ⟨G,2,none⟩=some (.string D2):=K9.out.cell 2
          have u3:w9.cell? ⟨G,3,none⟩=some (.string LB):=K9.out.cell 3
          have u4:w9.cell? ⟨G,4,none⟩=some (.string D4):=K9.out.cell 4
          have u5:w9.cell? ⟨G,5,none⟩=some (.string D5):=K9.out.cell 5
          have u6:w9.cell? ⟨G,6,none⟩=some (.string D6):=K9.out.cell 6
          have u7:w9.cell? ⟨G,7,none⟩=some (.string D7):=K9.out.cell 7
          have u8:w9.cell? ⟨G,8,none⟩=some (.string D8):=K9.out.cell 8
          have u9:w9.cell? ⟨G,9,none⟩=some (.slice DA dn dcap):=K9.out.cell 9
          have u10:w9.cell? ⟨G,10,none⟩=some (.slice none 0 0):=K9.out.cell 10
          go_wp2_with fail
          refine HR9.out.mono ?_
          rintro e w10 ⟨rfl,b10⟩
          have B10:Hid (Below w.heap.size w w10):=B9.out.trans (b10.mono B9.out.size)
          clear b10 HR9
          clear u0 u1 u2 u3 u4 u5 u6 u7 u8 u9 u10
          go_wp2_with fail
          refine(HLN.out w10).mono ?_
          rintro e w11 ⟨rfl,b11⟩
          have B11:Hid (Below w.heap.size w w11):=B10.out.trans (b11.mono B10.out.size)
          clear b11
          go_wp2_with fail
          go_ret
          exact⟨rfl,by first | exact B11.out | (rw[← HG.out];exact B11.out)⟩
        · skip
          have hk:(IntKind.u64.wrap what).tmod 10=2:=HK.out
          clear HK
          have cz:w6.cell? ⟨G,6,none⟩=some (.string D6):=K6.out.cell 6
          have fz:w6.frozen? ⟨G,6,none⟩=false:=K6.out.free 6
          obtain⟨w8,hw8⟩:∃ z,w6.setCell ⟨G,6,none⟩ (.string ⟨#[97,10,98]⟩)=z:=⟨_,rfl⟩
          have K8:Hid (Bk w8 G 25 #[.string D0,.string D1,.string D2,.string D3,.string D4,.string D5,.string ⟨#[97,10,98]⟩,.string D7,.string D8,.slice DA dn dcap,.slice none 0 0]):=by rw[← hw8];exact K6.out.put 6 _
          have B8:Hid (Below w.heap.size w w8):=by rw[← hw8];exact B6.out.setCell (p:=⟨G,6,none⟩) HGW.out _
          have O8:OwnT w2.heap.size w8 (.slice DA dn dcap) (sts d.groups):=by rw[← hw8];exact O6.out.set HG2.out
          have R8:ReadT w8.heap.size w8 (.slice DA dn dcap) (sts (worse 2 d).groups):=O8.reads
          have S8:SeenP w8 (.slice none 0 0) (worse 2 d).other:=by rw[show (worse 2 d).other=[] from HD.out.other];exact⟨none,0,rfl,fun h0=>absurd h0 (Nat.not_lt_zero _)⟩
          have HPR:=Lib.hid (worseP_any 2 d HD.out (.slice DA dn dcap) (.slice none 0 0) w8 (HO.out w8 B8.out) R8 S8)
          have HRR:=Lib.hid (fun W (hW:Below w8.heap.size w8 W)=>worseR_any 2 d HD.out (.slice DA dn dcap) (.slice none 0 0) W (HO.out W (B8.out.trans (hW.mono B8.out.size))) (R8.upon hW) (S8.below hW))
          have hag:agC (worse 2 d) (.slice DA dn dcap) (.slice none 0 0)=.agg #[.string D0,.string D1,.string D2,.string D3,.string D4,.string D5,.string ⟨#[97,10,98]⟩,.string D7,.string D8,.slice DA dn dcap,.slice none 0 0]:=by (try rw[← HLB.out]);(try rw[← HD0.out]);(try rw[← HD1.out]);(try rw[← HD2.out]);(try rw[← HD3.out]);(try rw[← HD4.out]);(try rw[← HD5.out]);(try rw[← HD6.out]);(try rw[← HD7.out]);(try rw[← HD8.out]);rfl
          rw[hag] at HPR HRR
          clear hag R8 S8 O8
          have u0:w8.cell? ⟨G,0,none⟩=some (.string D0):=K8.out.cell 0
          have u1:w8.cell? ⟨G,1,none⟩=some (.string D1):=K8.out.cell 1
          have u2:w8.cell? ⟨G,2,none⟩=some (.string D2):=K8.out.cell 2
          have u3:w8.cell? ⟨G,3,none⟩=some (.string D3):=K8.out.cell 3
          have u4:w8.cell? ⟨G,4,none⟩=some (.string D4):=K8.out.cell 4
          have u5:w8.cell? ⟨G,5,none⟩=some (.string D5):=K8.out.cell 5
          have u6:w8.cell? ⟨G,6,none⟩=some (.string ⟨#[97,10,98]⟩):=K8.out.cell 6
          have u7:w8.cell? ⟨G,7,none⟩=some (.string D7):=K8.out.cell 7
          have u8:w8.cell? ⟨G,8,none⟩=some (.string D8):=K8.out.cell 8
          have u9:w8.cell? ⟨G,9,none⟩=some (.slice DA dn dcap):=K8.out.cell 9
          have u10:w8.cell? ⟨G,10,none⟩=some (.slice none 0 0):=K8.out.cell 10
          go_wp2_with fail
          refine HPR.out.mono ?_
          rintro e w9 ⟨⟨PA,pcap,rfl⟩,b9⟩
          have K9:=Lib.hid (K8.out.below b9 K8.out.lt)
          have HR9:=Lib.hid (HRR.out w9 b9)
          have B9:Hid (Below w.heap.size w w9):=B8.out.trans (b9.mono B8.out.size)
          clear b9 HPR HRR hw8 cz fz
          clear u0 u1 u2 u3 u4 u5 u6 u7 u8 u9 u10
          have u0:w9.cell? ⟨G,0,none⟩=some (.string D0):=K9.out.cell 0
          have u1:w9.cell? ⟨G,1,none⟩=some (.string D1):=K9.out.cell 1
          have u2:w9.cell? ⟨G,2,none⟩=some (.string D2):=K9.out.cell 2
          have u3:w9.cell? ⟨G,3,none⟩=some (.string D3):=K9.out.cell 3
          have u4:w9.cell? ⟨G,4,none⟩=some (.string D4):=K9.out.cell 4
          have u5:w9.cell? ⟨G,5,none⟩=some (.string D5):=K9.out.cell 5
          have u6:w9.cell? ⟨G,6,none⟩=some (.string ⟨#[97,10,98]⟩):=K9.out.cell 6
          have u7:w9.cell? ⟨G,7,none⟩=some (.string D7):=K9.out.cell 7
          have u8:w9.cell? ⟨G,8,none⟩=some (.string D8):=K9.out.cell 8
          have u9:w9.cell? ⟨G,9,none⟩=some (.slice DA dn dcap):=K9.out.cell 9
          have u10:w9.cell? ⟨G,10,none⟩=some (.slice none 0 0):=K9.out.cell 10
          go_wp2_with fail
          refine HR9.out.mono ?_
          rintro e w10 ⟨rfl,b10⟩
          have B10:Hid (Below w.heap.size w w10):=B9.out.trans (b10.mono B9.out.size)
          clear b10 HR9
          clear u0 u1 u2 u3 u4 u5 u6 u7 u8 u9 u10
          go_wp2_with fail
          refine(HLN.out w10).mono ?_
          rintro e w11 ⟨rfl,b11⟩
          have B11:Hid (Below w.heap.size w w11):=B10.out.trans (b11.mono B10.out.size)
          clear b11
          go_wp2_with fail
          go_ret
          exact⟨rfl,by first | exact B11.out | (rw[← HG.out];exact B11.out)⟩
        · skip
          have hk:(IntKind.u64.wrap what).tmod 10=3:=HK.out
          clear HK
          have cz:w6.cell? ⟨G,7,none⟩=some (.string D7):=K6.out.cell 7
          have fz:w6.frozen? ⟨G,7,none⟩=false:=K6.out.free 7
          obtain⟨w8,hw8⟩:∃ z,w6.setCell ⟨G,7,none⟩ (.string ⟨#[97,13,98]⟩)=z:=⟨_,rfl⟩
          have K8:Hid (Bk w8 G 25 #[.string D0,.string D1,.string D2,.string D3,.string D4,.string D5,.string D6,.string ⟨#[97,13,98]⟩,.string D8,.slice DA dn dcap,.slice none 0 0]):=by rw[← hw8];exact K6.out.put 7 _
          have B8:Hid (Below w.heap.size w w8):=by rw[← hw8];exact B6.out.setCell (p:=⟨G,7,none⟩) HGW.out _
          have O8:OwnT w2.heap.size w8 (.slice DA dn dcap) (sts d.groups):=by rw[← hw8];exact O6.out.set HG2.out
          have R8:ReadT w8.heap.size w8 (.slice DA dn dcap) (sts (worse 3 d).groups):=O8.reads
          have S8:SeenP w8 (.slice none 0 0) (worse 3 d).other:=by rw[show (worse 3 d).other=[] from HD.out.other];exact⟨none,0,rfl,fun h0=>absurd h0 (Nat.not_lt_zero _)⟩
          have HPR:=Lib.hid (worseP_any 3 d HD.out (.slice DA dn dcap) (.slice none 0 0) w8 (HO.out w8 B8.out) R8 S8)
          have HRR:=Lib.hid (fun W (hW:Below w8.heap.size w8 W)=>worseR_any 3 d HD.out (.slice DA dn dcap) (.slice none 0 0) W (HO.out W (B8.out.trans (hW.mono B8.out.size))) (R8.upon hW) (S8.below hW))
          have hag:agC (worse 3 d) (.slice DA dn dcap) (.slice none 0 0)=.agg #[.string D0,.string D1,.string D2,.string D3,.string D4,.string D5,.string D6,.string ⟨#[97,13,98]⟩,.string D8,.slice DA dn dcap,.slice none 0 0]:=by (try rw[← HLB.out]);(try rw[← HD0.out]);(try rw[← HD1.out]);(try rw[← HD2.out]);(try rw[← HD3.out]);(try rw[← HD4.out]);(try rw[← HD5.out]);(try rw[← HD6.out]);(try rw[← HD7.out]);(try rw[← HD8.out]);rfl
          rw[hag] at HPR HRR
          clear hag R8 S8 O8
          have u0:w8.cell? ⟨G,0,none⟩=some (.string D0):=K8.out.cell 0
          have u1:w8.cell? ⟨G,1,none⟩=some (.string D1):=K8.out.cell 1
          have u2:w8.cell? ⟨G,2,none⟩=some (.string D2):=K8.out.cell 2
          have u3:w8.cell? ⟨G,3,none⟩=some (.string D3):=K8.out.cell 3
          have u4:w8.cell? ⟨G,4,none⟩=some (.string D4):=K8.out.cell 4
          have u5:w8.cell? ⟨G,5,none⟩=some (.string D5):=K8.out.cell 5
          have u6:w8.cell? ⟨G,6,none⟩=some (.string D6):=K8.out.cell 6
          have u7:w8.cell? ⟨G,7,none⟩=some (.string ⟨#[97,13,98]⟩):=K8.out.cell 7
          have u8:w8.cell? ⟨G,8,none⟩=some (.string D8):=K8.out.cell 8
          have u9:w8.cell? ⟨G,9,none⟩=some (.slice DA dn dcap):=K8.out.cell 9
          have u10:w8.cell? ⟨G,10,none⟩=some (.slice none 0 0):=K8.out.cell 10
          go_wp2_with fail
          refine HPR.out.mono ?_
          rintro e w9 ⟨⟨PA,pcap,rfl⟩,b9⟩
          have K9:=Lib.hid (K8.out.below b9 K8.out.lt)
          have HR9:=Lib.hid (HRR.out w9 b9)
          have B9:Hid (Below w.heap.size w w9):=B8.out.trans (b9.mono B8.out.size)
          clear b9 HPR HRR hw8 cz fz
          clear u0 u1 u2 u3 u4 u5 u6 u7 u8 u9 u10
          have u0:w9.cell? ⟨G,0,none⟩=some (.string D0):=K9.out.cell 0
          have u1:w9.cell? ⟨G,1,none⟩=some (.string D1):=K9.out.cell 1
          have u2:w9.cell? ⟨G,2,none⟩=some (.string D2):=K9.out.cell 2
          have u3:w9.cell? ⟨G,3,none⟩=some (.string D3):=K9.out.cell 3
          have u4:w9.cell? ⟨G,4,none⟩=some (.string D4):=K9.out.cell 4
          have u5:w9.cell? ⟨G,5,none⟩=some (.string D5):=K9.out.cell 5
          have u6:w9.cell? ⟨G,6,none⟩=some (.string D6):=K9.out.cell 6
          have u7:w9.cell? ⟨G,7,none⟩=some (.string ⟨#[97,13,98]⟩):=K9.out.cell 7
          have u8:w9.cell? ⟨G,8,none⟩=some (.string D8):=K9.out.cell 8
          have u9:w9.cell? ⟨G,9,none⟩=some (.slice DA dn dcap):=K9.out.cell 9
          have u10:w9.cell? ⟨G,10,none⟩=some (.slice none 0 0):=K9.out.cell 10
          go_wp2_with fail
          refine HR9.out.mono ?_
          rintro e w10 ⟨rfl,b10⟩
          have B10:Hid (Below w.heap.size w w10):=B9.out.trans (b10.mono B9.out.size)
          clear b10 HR9
          clear u0 u1 u2 u3 u4 u5 u6 u7 u8 u9 u10
          go_wp2_with fail
          refine(HLN.out w10).mono ?_
          rintro e w11 ⟨rfl,b11⟩
          have B11:Hid (Below w.heap.size w w11):=B10.out.trans (b11.mono B10.out.size)
          clear b11
          go_wp2_with fail
          go_ret
          exact⟨rfl,by first | exact B11.out | (rw[← HG.out];exact B11.out)⟩
        · skip
          have hk:(IntKind.u64.wrap what).tmod 10=4:=HK.out
          clear HK
          have cz:w6.cell? ⟨G,4,none⟩=some (.string D4):=K6.out.cell 4
          have fz:w6.frozen? ⟨G,4,none⟩=false:=K6.out.free 4
          obtain⟨w8,hw8⟩:∃ z,w6.setCell ⟨G,4,none⟩ (.string ⟨#[65,64,98]⟩)=z:=⟨_,rfl⟩
          have K8:Hid (Bk w8 G 25 #[.string D0,.string D1,.string D2,.string D3,.string ⟨#[65,64,98]⟩,.string D5,.string D6,.string D7,.string D8,.slice DA dn dcap,.slice none 0 0]):=by rw[← hw8];exact K6.out.put 4 _
          have B8:Hid (Below w.heap.size w w8):=by rw[← hw8];exact B6.out.setCell (p:=⟨G,4,none⟩) HGW.out _
          have O8:OwnT w2.heap.size w8 (.slice DA dn dcap) (sts d.groups):=by rw[← hw8];exact O6.out.set HG2.out
          have R8:ReadT w8.heap.size w8 (.slice DA dn dcap) (sts (worse 4 d).groups):=O8.reads
          have S8:SeenP w8 (.slice none 0 0) (worse 4 d).other:=by rw[show (worse 4 d).other=[] from HD.out.other];exact⟨none,0,rfl,fun h0=>absurd h0 (Nat.not_lt_zero _)⟩
          have HPR:=Lib.hid (worseP_any 4 d HD.out (.slice DA dn dcap) (.slice none 0 0) w8 (HO.out w8 B8.out) R8 S8)
          have HRR:=Lib.hid (fun W (hW:Below w8.heap.size w8 W)=>worseR_any 4 d HD.out (.slice DA dn dcap) (.slice none 0 0) W (HO.out W (B8.out.trans (hW.mono B8.out.size))) (R8.upon hW) (S8.below hW))
          have hag:agC (worse 4 d) (.slice DA dn dcap) (.slice none 0 0)=.agg #[.string D0,.string D1,.string D2,.string D3,.string ⟨#[65,64,98]⟩,.string D5,.string D6,.string D7,.string D8,.slice DA dn dcap,.slice none 0 0]:=by (try rw[← HLB.out]);(try rw[← HD0.out]);(try rw[← HD1.out]);(try rw[← HD2.out]);(try rw[← HD3.out]);(try rw[← HD4.out]);(try rw[← HD5.out]);(try rw[← HD6.out]);(try rw[← HD7.out]);(try rw[← HD8.out]);rfl
          rw[hag] at HPR HRR
          clear hag R8 S8 O8
          have u0:w8.cell? ⟨G,0,none⟩=some (.string D0):=K8.out.cell 0
          have u1:w8.cell? ⟨G,1,none⟩=some (.string D1):=K8.out.cell 1
          have u2:w8.cell? ⟨G,2,none⟩=some (.string D2):=K8.out.cell 2
          have u3:w8.cell? ⟨G,3,none⟩=some (.string D3):=K8.out.cell 3
          have u4:w8.cell? ⟨G,4,none⟩=some (.string ⟨#[65,64,98]⟩):=K8.out.cell 4
          have u5:w8.cell? ⟨G,5,none⟩=some (.string D5):=K8.out.cell 5
          have u6:w8.cell? ⟨G,6,none⟩=some (.string D6):=K8.out.cell 6
          have u7:w8.cell? ⟨G,7,none⟩=some (.string D7):=K8.out.cell 7
          have u8:w8.cell? ⟨G,8,none⟩=some (.string D8):=K8.out.cell 8
          have u9:w8.cell? ⟨G,9,none⟩=some (.slice DA dn dcap):=K8.out.cell 9
          have u10:w8.cell? ⟨G,10,none⟩=some (.slice none 0 0):=K8.out.cell 10
          go_wp2_with fail
          refine HPR.out.mono ?_
          rintro e w9 ⟨⟨PA,pcap,rfl⟩,b9⟩
          have K9:=Lib.hid (K8.out.below b9 K8.out.lt)
          have HR9:=Lib.hid (HRR.out w9 b9)
          have B9:Hid (Below w.heap.size w w9):=B8.out.trans (b9.mono B8.out.size)
          clear b9 HPR HRR hw8 cz fz
          clear u0 u1 u2 u3 u4 u5 u6 u7 u8 u9 u10
          have u0:w9.cell? ⟨G,0,none⟩=some (.string D0):=K9.out.cell 0
          have u1:w9.cell? ⟨G,1,none⟩=some (.string D1):=K9.out.cell 1
          have u2:w9.cell? ⟨G,2,none⟩=some (.string D2):=K9.out.cell 2
          have u3:w9.cell? ⟨G,3,none⟩=some (.string D3):=K9.out.cell 3
          have u4:w9.cell? ⟨G,4,none⟩=some (.string ⟨#[65,64,98]⟩):=K9.out.cell 4
          have u5:w9.cell? ⟨G,5,none⟩=some (.string D5):=K9.out.cell 5
          have u6:w9.cell? ⟨G,6,none⟩=some (.string D6):=K9.out.cell 6
          have u7:w9.cell? ⟨G,7,none⟩=some (.string D7):=K9.out.cell 7
          have u8:w9.cell? ⟨G,8,none⟩=some (.string D8):=K9.out.cell 8
          have u9:w9.cell? ⟨G,9,none⟩=some (.slice DA dn dcap):=K9.out.cell 9
          have u10:w9.cell? ⟨G,10,none⟩=some (.slice none 0 0):=K9.out.cell 10
          go_wp2_with fail
          refine HR9.out.mono ?_
          rintro e w10 ⟨rfl,b10⟩
          have B10:Hid (Below w.heap.size w w10):=B9.out.trans (b10.mono B9.out.size)
          clear b10 HR9
          clear u0 u1 u2 u3 u4 u5 u6 u7 u8 u9 u10
          go_wp2_with fail
          refine(HLN.out w10).mono ?_
          rintro e w11 ⟨rfl,b11⟩
          have B11:Hid (Below w.heap.size w w11):=B10.out.trans (b11.mono B10.out.size)
          clear b11
          go_wp2_with fail
          go_ret
          exact⟨rfl,by first | exact B11.out | (rw[← HG.out];exact B11.out)⟩
        · skip
          have hk:(IntKind.u64.wrap what).tmod 10=5:=HK.out
          clear HK
          have cz:w6.cell? ⟨G,4,none⟩=some (.string D4):=K6.out.cell 4
          have fz:w6.frozen? ⟨G,4,none⟩=false:=K6.out.free 4
          obtain⟨w8,hw8⟩:∃ z,w6.setCell ⟨G,4,none⟩ (.string ⟨#[97,64,98,47,99]⟩)=z:=⟨_,rfl⟩
          have K8:Hid (Bk w8 G 25 #[.string D0,.string D1,.string D2,.string D3,.string ⟨#[97,64,98,47,99]⟩,.string D5,.string D6,.string D7,.string D8,.slice DA dn dcap,.slice none 0 0]):=by rw[← hw8];exact K6.out.put 4 _
          have B8:Hid (Below w.heap.size w w8):=by rw[← hw8];exact B6.out.setCell (p:=⟨G,4,none⟩) HGW.out _
          have O8:OwnT w2.heap.size w8 (.slice DA dn dcap) (sts d.groups):=by rw[← hw8];exact O6.out.set HG2.out
          have R8:ReadT w8.heap.size w8 (.slice DA dn dcap) (sts (worse 5 d).groups):=O8.reads
          have S8:SeenP w8 (.slice none 0 0) (worse 5 d).other:=by rw[show (worse 5 d).other=[] from HD.out.other];exact⟨none,0,rfl,fun h0=>absurd h0 (Nat.not_lt_zero _)⟩
          have HPR:=Lib.hid (worseP_any 5 d HD.out (.slice DA dn dcap) (.slice none 0 0) w8 (HO.out w8 B8.out) R8 S8)
          have HRR:=Lib.hid (fun W (hW:Below w8.heap.size w8 W)=>worseR_any 5 d HD.out (.slice DA dn dcap) (.slice none 0 0) W (HO.out W (B8.out.trans (hW.mono B8.out.size))) (R8.upon hW) (S8.below hW))
          have hag:agC (worse 5 d) (.slice DA dn dcap) (.slice none 0 0)=.agg #[.string D0,.string D1,.string D2,.string D3,.string ⟨#[97,64,98,47,99]⟩,.string D5,.string D6,.string D7,.string D8,.slice DA dn dcap,.slice none 0 0]:=by (try rw[← HLB.out]);(try rw[← HD0.out]);(try rw[← HD1.out]);(try rw[← HD2.out]);(try rw[← HD3.out]);(try rw[← HD4.out]);(try rw[← HD5.out]);(try rw[← HD6.out]);(try rw[← HD7.out]);(try rw[← HD8.out]);rfl
          rw[hag] at HPR HRR
          clear hag R8 S8 O8
          have u0:w8.cell? ⟨G,0,none⟩=some (.string D0):=K8.out.cell 0
          have u1:w8.cell? ⟨G,1,none⟩=some (.string D1):=K8.out.cell 1
          have u2:w8.cell? ⟨G,2,none⟩=some (.string D2):=K8.out.cell 2
          have u3:w8.cell? ⟨G,3,none⟩=some (.string D3):=K8.out.cell 3
          have u4:w8.cell? ⟨G,4,none⟩=some (.string ⟨#[97,64,98,47,99]⟩):=K8.out.cell 4
          have u5:w8.cell? ⟨G,5,none⟩=some (.string D5):=K8.out.cell 5
          have u6:w8.cell? ⟨G,6,none⟩=some (.string D6):=K8.out.cell 6
          have u7:w8.cell? ⟨G,7,none⟩=some (.string D7):=K8.out.cell 7
          have u8:w8.cell? ⟨G,8,none⟩=some (.string D8):=K8.out.cell 8
          have u9:w8.cell? ⟨G,9,none⟩=some (.slice DA dn dcap):=K8.out.cell 9
          have u10:w8.cell? ⟨G,10,none⟩=some (.slice none 0 0):=K8.out.cell 10
          go_wp2_with fail
          refine HPR.out.mono ?_
          rintro e w9 ⟨⟨PA,pcap,rfl⟩,b9⟩
          have K9:=Lib.hid (K8.out.below b9 K8.out.lt)
          have HR9:=Lib.hid (HRR.out w9 b9)
          have B9:Hid (Below w.heap.size w w9):=B8.out.trans (b9.mono B8.out.size)
          clear b9 HPR HRR hw8 cz fz
          clear u0 u1 u2 u3 u4 u5 u6 u7 u8 u9 u10
          have u0:w9.cell? ⟨G,0,none⟩=some (.string D0):=K9.out.cell 0
          have u1:w9.cell? ⟨G,1,none⟩=some (.string D1):=K9.out.cell 1
          have u2:w9.cell? ⟨G,2,none⟩=some (.string D2):=K9.out.cell 2
          have u3:w9.cell? ⟨G,3,none⟩=some (.string D3):=K9.out.cell 3
          have u4:w9.cell? ⟨G,4,none⟩=some (.string ⟨#[97,64,98,47,99]⟩):=K9.out.cell 4
          have u5:w9.cell? ⟨G,5,none⟩=some (.string D5):=K9.out.cell 5
          have u6:w9.cell? ⟨G,6,none⟩=some (.string D6):=K9.out.cell 6
          have u7:w9.cell? ⟨G,7,none⟩=some (.string D7):=K9.out.cell 7
          have u8:w9.cell? ⟨G,8,none⟩=some (.string D8):=K9.out.cell 8
          have u9:w9.cell? ⟨G,9,none⟩=some (.slice DA dn dcap):=K9.out.cell 9
          have u10:w9.cell? ⟨G,10,none⟩=some (.slice none 0 0):=K9.out.cell 10
          go_wp2_with fail
          refine HR9.out.mono ?_
          rintro e w10 ⟨rfl,b10⟩
          have B10:Hid (Below w.heap.size w w10):=B9.out.trans (b10.mono B9.out.size)
          clear b10 HR9
          clear u0 u1 u2 u3 u4 u5 u6 u7 u8 u9 u10
          go_wp2_with fail
          refine(HLN.out w10).mono ?_
          rintro e w11 ⟨rfl,b11⟩
          have B11:Hid (Below w.heap.size w w11):=B10.out.trans (b11.mono B10.out.size)
          clear b11
          go_wp2_with fail
          go_ret
          exact⟨rfl,by first | exact B11.out | (rw[← HG.out];exact B11.out)⟩
        · skip
          have hk:(IntKind.u64.wrap what).tmod 10=6:=HK.out
          clear HK
          obtain⟨Wa,hWa⟩:∃ z,w6.alloc (.cells #[.string ⟨#[98]⟩,.string ⟨#[97]⟩] 9)=z:=⟨_,rfl⟩
          obtain⟨h,hh⟩:∃ z,w6.heap.size=z:=⟨_,rfl⟩
          have ka:Bk Wa h 9 #[.string ⟨#[98]⟩,.string ⟨#[97]⟩]:=by rw[← hWa,← hh];exact Bk.new _ _ _
          have ba:Below w6.heap.size w6 Wa:=by rw[← hWa];exact(Below.refl _ _).alloc (Nat.le_refl _) _
          have kg:=K6.out.below ba K6.out.lt
          have hgh:G < h:=by rw[← hh];exact K6.out.lt
          have bw:Below w.heap.size w Wa:=B6.out.trans (ba.mono B6.out.size)
          have og:OwnT w2.heap.size Wa (.slice DA dn dcap) (sts d.groups):=O6.out.below ba
          have cz:Wa.cell? ⟨G,9,none⟩=some (.slice DA dn dcap):=kg.cell 9
          have fz:Wa.frozen? ⟨G,9,none⟩=false:=kg.free 9
          obtain⟨w8,hw8⟩:∃ z,Wa.setCell ⟨G,9,none⟩ (.slice (some ⟨h,0,none⟩) 2 2)=z:=⟨_,rfl⟩
          have K8:Hid (Bk w8 G 25 #[.string D0,.string D1,.string D2,.string D3,.string D4,.string D5,.string D6,.string D7,.string D8,.slice (some ⟨h,0,none⟩) 2 2,.slice none 0 0]):=by rw[← hw8];exact kg.put 9 _
          have B8:Hid (Below w.heap.size w w8):=by rw[← hw8];exact bw.setCell (p:=⟨G,9,none⟩) HGW.out _
          have O8:OwnT w2.heap.size w8 (.slice DA dn dcap) (sts d.groups):=by rw[← hw8];exact og.set HG2.out
          have R8:ReadT w8.heap.size w8 (.slice (some ⟨h,0,none⟩) 2 2) (sts (worse 6 d).groups):=by
            have kh:Bk w8 h 9 #[.string ⟨#[98]⟩,.string ⟨#[97]⟩]:=by rw[← hw8];exact ka.far (p:=⟨G,9,none⟩) (show h≠G by omega) _
            refine⟨_,2,rfl,fun _=>⟨_,rfl,kh.lt,fun i x hi=>?_⟩⟩
            rw[add_at,Nat.zero_add,kh.cell]
            have e:(#[.string ⟨#[98]⟩,.string ⟨#[97]⟩]:Array Value)=((sts (worse 6 d).groups).map Value.string).toArray:=rfl
            rw[e,List.getElem?_toArray,List.getElem?_map,hi]
            rfl
          have S8:SeenP w8 (.slice none 0 0) (worse 6 d).other:=by rw[show (worse 6 d).other=[] from HD.out.other];exact⟨none,0,rfl,fun h0=>absurd h0 (Nat.not_lt_zero _)⟩
          have HPR:=Lib.hid (worseP_any 6 d HD.out (.slice (some ⟨h,0,none⟩) 2 2) (.slice none 0 0) w8 (HO.out w8 B8.out) R8 S8)
          have HRR:=Lib.hid (fun W (hW:Below w8.heap.size w8 W)=>worseR_any 6 d HD.out (.slice (some ⟨h,0,none⟩) 2 2) (.slice none 0 0) W (HO.out W (B8.out.trans (hW.mono B8.out.size))) (R8.upon hW) (S8.below hW))
          have hag:agC (worse 6 d) (.slice (some ⟨h,0,none⟩) 2 2) (.slice none 0 0)=.agg #[.string D0,.string D1,.string D2,.string D3,.string D4,.string D5,.string D6,.string D7,.string D8,.slice (some ⟨h,0,none⟩) 2 2,.slice none 0 0]:=by (try rw[← HLB.out]);(try rw[← HD0.out]);(try rw[← HD1.out]);(try rw[← HD2.out]);(try rw[← HD3.out]);(try rw[← HD4.out]);(try rw[← HD5.out]);(try rw[← HD6.out]);(try rw[← HD7.out]);(try rw[← HD8.out]);rfl
          rw[hag] at HPR HRR
          clear hag R8 S8 O8 ka ba kg hgh bw og
          have u0:w8.cell? ⟨G,0,none⟩=some (.string D0):=K8.out.cell 0
          have u1:w8.cell? ⟨G,1,none⟩=some (.string D1):=K8.out.cell 1
          have u2:w8.cell? ⟨G,2,none⟩=some (.string D2):=K8.out.cell 2
          have u3:w8.cell? ⟨G,3,none⟩=some (.string D3):=K8.out.cell 3
          have u4:w8.cell? ⟨G,4,none⟩=some (.string D4):=K8.out.cell 4
          have u5:w8.cell? ⟨G,5,none⟩=some (.string D5):=K8.out.cell 5
          have u6:w8.cell? ⟨G,6,none⟩=some (.string D6):=K8.out.cell 6
          have u7:w8.cell? ⟨G,7,none⟩=some (.string D7):=K8.out.cell 7
          have u8:w8.cell? ⟨G,8,none⟩=some (.string D8):=K8.out.cell 8
          have u9:w8.cell? ⟨G,9,none⟩=some (.slice (some ⟨h,0,none⟩) 2 2):=K8.out.cell 9
          have u10:w8.cell? ⟨G,10,none⟩=some (.slice none 0 0):=K8.out.cell 10
          go_wp2_with fail
          refine HPR.out.mono ?_
          rintro e w9 ⟨⟨PA,pcap,rfl⟩,b9⟩
          have K9:=Lib.hid (K8.out.below b9 K8.out.lt)
          have HR9:=Lib.hid (HRR.out w9 b9)
          have B9:Hid (Below w.heap.size w w9):=B8.out.trans (b9.mono B8.out.size)
          clear b9 HPR HRR hw8 cz fz hWa hh
          clear u0 u1 u2 u3 u4 u5 u6 u7 u8 u9 u10
          have u0:w9.cell? ⟨G,0,none⟩=some (.string D0):=K9.out.cell 0
          have u1:w9.cell? ⟨G,1,none⟩=some (.string D1):=K9.out.cell 1
          have u2:w9.cell? ⟨G,2,none⟩=some (.string D2):=K9.out.cell 2
          have u3:w9.cell? ⟨G,3,none⟩=some (.string D3):=K9.out.cell 3
          have u4:w9.cell? ⟨G,4,none⟩=some (.string D4):=K9.out.cell 4
          have u5:w9.cell? ⟨G,5,none⟩=some (.string D5):=K9.out.cell 5
          have u6:w9.cell? ⟨G,6,none⟩=some (.string D6):=K9.out.cell 6
          have u7:w9.cell? ⟨G,7,none⟩=some (.string D7):=K9.out.cell 7
          have u8:w9.cell? ⟨G,8,none⟩=some (.string D8):=K9.out.cell 8
          have u9:w9.cell? ⟨G,9,none⟩=some (.slice (some ⟨h,0,none⟩) 2 2):=K9.out.cell 9
          have u10:w9.cell? ⟨G,10,none⟩=some (.slice none 0 0):=K9.out.cell 10
          go_wp2_with fail
          refine HR9.out.mono ?_
          rintro e w10 ⟨rfl,b10⟩
          have B10:Hid (Below w.heap.size w w10):=B9.out.trans (b10.mono B9.out.size)
          clear b10 HR9
          clear u0 u1 u2 u3 u4 u5 u6 u7 u8 u9 u10
          go_wp2_with fail
          refine(HLN.out w10).mono ?_
          rintro e w11 ⟨rfl,b11⟩
          have B11:Hid (Below w.heap.size w w11):=B10.out.trans (b11.mono B10.out.size)
          clear b11
          go_wp2_with fail
          go_ret
          exact⟨rfl,by first | exact B11.out | (rw[← HG.out];exact B11.out)⟩
        · skip
          have hk:(IntKind.u64.wrap what).tmod 10=7:=HK.out
          clear HK
          obtain⟨Wa,hWa⟩:∃ z,w6.alloc (.cells #[.string ⟨#[]⟩] 9)=z:=⟨_,rfl⟩
          obtain⟨h,hh⟩:∃ z,w6.heap.size=z:=⟨_,rfl⟩
          have ka:Bk Wa h 9 #[.string ⟨#[]⟩]:=by rw[← hWa,← hh];exact Bk.new _ _ _
          have ba:Below w6.heap.size w6 Wa:=by rw[← hWa];exact(Below.refl _ _).alloc (Nat.le_refl _) _
          have kg:=K6.out.below ba K6.out.lt
          have hgh:G < h:=by rw[← hh];exact K6.out.lt
          have bw:Below w.heap.size w Wa:=B6.out.trans (ba.mono B6.out.size)
          have og:OwnT w2.heap.size Wa (.slice DA dn dcap) (sts d.groups):=O6.out.below ba
          have cz:Wa.cell? ⟨G,9,none⟩=some (.slice DA dn dcap):=kg.cell 9
          have fz:Wa.frozen? ⟨G,9,none⟩=false:=kg.free 9
          obtain⟨w8,hw8⟩:∃ z,Wa.setCell ⟨G,9,none⟩ (.slice (some ⟨h,0,none⟩) 1 1)=z:=⟨_,rfl⟩
          have K8:Hid (Bk w8 G 25 #[.string D0,.string D1,.string D2,.string D3,.string D4,.string D5,.string D6,.string D7,.string D8,.slice (some ⟨h,0,none⟩) 1 1,.slice none 0 0]):=by rw[← hw8];exact kg.put 9 _
          have B8:Hid (Below w.heap.size w w8):=by rw[← hw8];exact bw.setCell (p:=⟨G,9,none⟩) HGW.out _
          have O8:OwnT w2.heap.size w8 (.slice DA dn dcap) (sts d.groups):=by rw[← hw8];exact og.set HG2.out
          have R8:ReadT w8.heap.size w8 (.slice (some ⟨h,0,none⟩) 1 1) (sts (worse 7 d).groups):=by
            have kh:Bk w8 h 9 #[.string ⟨#[]⟩]:=by rw[← hw8];exact ka.far (p:=⟨G,9,none⟩) (show h≠G by omega) _
            refine⟨_,1,rfl,fun _=>⟨_,rfl,kh.lt,fun i x hi=>?_⟩⟩
            rw[add_at,Nat.zero_add,kh.cell]
            have e:(#[.string ⟨#[]⟩]:Array Value)=((sts (worse 7 d).groups).map Value.string).toArray:=rfl
            rw[e,List.getElem?_toArray,List.getElem?_map,hi]
            rfl
          have S8:SeenP w8 (.slice none 0 0) (worse 7 d).other:=by rw[show (worse 7 d).other=[] from HD.out.other];exact⟨none,0,rfl,fun h0=>absurd h0 (Nat.not_lt_zero _)⟩
          have HPR:=Lib.hid (worseP_any 7 d HD.out (.slice (some ⟨h,0,none⟩) 1 1) (.slice none 0 0) w8 (HO.out w8 B8.out) R8 S8)
          have HRR:=Lib.hid (fun W (hW:Below w8.heap.size w8 W)=>worseR_any 7 d HD.out (.slice (some ⟨h,0,none⟩) 1 1) (.slice none 0 0) W (HO.out W (B8.out.trans (hW.mono B8.out.size))) (R8.upon hW) (S8.below hW))
          have hag:agC (worse 7 d) (.slice (some ⟨h,0,none⟩) 1 1) (.slice none 0 0)=.agg #[.string D0,.string D1,.string D2,.string D3,.string D4,.string D5,.string D6,.string D7,.string D8,.slice (some ⟨h,0,none⟩) 1 1,.slice none 0 0]:=by (try rw[← HLB.out]);(try rw[← HD0.out]);(try rw[← HD1.out]);(try rw[← HD2.out]);(try rw[← HD3.out]);(try rw[← HD4.out]);(try rw[← HD5.out]);(try rw[← HD6.out]);(try rw[← HD7.out]);(try rw[← HD8.out]);rfl
          rw[hag] at HPR HRR
          clear hag R8 S8 O8 ka ba kg hgh bw og
          have u0:w8.cell? ⟨G,0,none⟩=some (.string D0):=K8.out.cell 0
          have u1:w8.cell? ⟨G,1,none⟩=some (.string D1):=K8.out.cell 1
          have u2:w8.cell? ⟨G,2,none⟩=some (.string D2):=K8.out.cell 2
          have u3:w8.cell? ⟨G,3,none⟩=some (.string D3):=K8.out.cell 3
          have u4:w8.cell? ⟨G,4,none⟩=some (.string D4):=K8.out.cell 4
          have u5:w8.cell? ⟨G,5,none⟩=some (.string D5):=K8.out.cell 5
          have u6:w8.cell? ⟨G,6,none⟩=some (.string D6):=K8.out.cell 6
          have u7:w8.cell? ⟨G,7,none⟩=some (.string D7):=K8.out.cell 7
          have u8:w8.cell? ⟨G,8,none⟩=some (.string D8):=K8.out.cell 8
          have u9:w8.cell? ⟨G,9,none⟩=some (.slice (some ⟨h,0,none⟩) 1 1):=K8.out.cell 9
          have u10:w8.cell? ⟨G,10,none⟩=some (.slice none 0 0):=K8.out.cell 10
          go_wp2_with fail
          refine HPR.out.mono ?_
          rintro e w9 ⟨⟨PA,pcap,rfl⟩,b9⟩
          have K9:=Lib.hid (K8.out.below b9 K8.out.lt)
          have HR9:=Lib.hid (HRR.out w9 b9)
          have B9:Hid (Below w.heap.size w w9):=B8.out.trans (b9.mono B8.out.size)
          clear b9 HPR HRR hw8 cz fz hWa hh
          clear u0 u1 u2 u3 u4 u5 u6 u7 u8 u9 u10
          have u0:w9.cell? ⟨G,0,none⟩=some (.string D0):=K9.out.cell 0
          have u1:w9.cell? ⟨G,1,none⟩=some (.string D1):=K9.out.cell 1
          have u2:w9.cell? ⟨G,2,none⟩=some (.string D2):=K9.out.cell 2
          have u3:w9.cell? ⟨G,3,none⟩=some (.string D3):=K9.out.cell 3
          have u4:w9.cell? ⟨G,4,none⟩=some (.string D4):=K9.out.cell 4
          have u5:w9.cell? ⟨G,5,none⟩=some (.string D5):=K9.out.cell 5
          have u6:w9.cell? ⟨G,6,none⟩=some (.string D6):=K9.out.cell 6
          have u7:w9.cell? ⟨G,7,none⟩=some (.string D7):=K9.out.cell 7
          have u8:w9.cell? ⟨G,8,none⟩=some (.string D8):=K9.out.cell 8
          have u9:w9.cell? ⟨G,9,none⟩=some (.slice (some ⟨h,0,none⟩) 1 1):=K9.out.cell 9
          have u10:w9.cell? ⟨G,10,none⟩=some (.slice none 0 0):=K9.out.cell 10
          go_wp2_with fail
          refine HR9.out.mono ?_
          rintro e w10 ⟨rfl,b10⟩
          have B10:Hid (Below w.heap.size w w10):=B9.out.trans (b10.mono B9.out.size)
          clear b10 HR9
          clear u0 u1 u2 u3 u4 u5 u6 u7 u8 u9 u10
          go_wp2_with fail
          refine(HLN.out w10).mono ?_
          rintro e w11 ⟨rfl,b11⟩
          have B11:Hid (Below w.heap.size w w11):=B10.out.trans (b11.mono B10.out.size)
          clear b11
          go_wp2_with fail
          go_ret
          exact⟨rfl,by first | exact B11.out | (rw[← HG.out];exact B11.out)⟩
        · skip
          have hk:(IntKind.u64.wrap what).tmod 10=8:=HK.out
          clear HK
          obtain⟨Wa,hWa⟩:∃ z,w6.alloc (.cells #[.string ⟨#[]⟩,.string ⟨#[120]⟩,.slice none 0 0,.string ⟨#[]⟩] 41)=z:=⟨_,rfl⟩
          obtain⟨h,hh⟩:∃ z,w6.heap.size=z:=⟨_,rfl⟩
          have ka:Bk Wa h 41 #[.string ⟨#[]⟩,.string ⟨#[120]⟩,.slice none 0 0,.string ⟨#[]⟩]:=by rw[← hWa,← hh];exact Bk.new _ _ _
          have ba:Below w6.heap.size w6 Wa:=by rw[← hWa];exact(Below.refl _ _).alloc (Nat.le_refl _) _
          have kg:=K6.out.below ba K6.out.lt
          have hgh:G < h:=by rw[← hh];exact K6.out.lt
          have bw:Below w.heap.size w Wa:=B6.out.trans (ba.mono B6.out.size)
          have og:OwnT w2.heap.size Wa (.slice DA dn dcap) (sts d.groups):=O6.out.below ba
          have cz:Wa.cell? ⟨G,10,none⟩=some (.slice none 0 0):=kg.cell 10
          have fz:Wa.frozen? ⟨G,10,none⟩=false:=kg.free 10
          obtain⟨w8,hw8⟩:∃ z,Wa.setCell ⟨G,10,none⟩ (.slice (some ⟨h,0,none⟩) 1 1)=z:=⟨_,rfl⟩
          have K8:Hid (Bk w8 G 25 #[.string D0,.string D1,.string D2,.string D3,.string D4,.string D5,.string D6,.string D7,.string D8,.slice DA dn dcap,.slice (some ⟨h,0,none⟩) 1 1]):=by rw[← hw8];exact kg.put 10 _
          have B8:Hid (Below w.heap.size w w8):=by rw[← hw8];exact bw.setCell (p:=⟨G,10,none⟩) HGW.out _
          have O8:OwnT w2.heap.size w8 (.slice DA dn dcap) (sts d.groups):=by rw[← hw8];exact og.set HG2.out
          have R8:ReadT w8.heap.size w8 (.slice DA dn dcap) (sts (worse 8 d).groups):=O8.reads
          have S8:SeenP w8 (.slice (some ⟨h,0,none⟩) 1 1) (worse 8 d).other:=by
            have kh:Bk w8 h 41 #[.string ⟨#[]⟩,.string ⟨#[120]⟩,.slice none 0 0,.string ⟨#[]⟩]:=by rw[← hw8];exact ka.far (p:=⟨G,10,none⟩) (show h≠G by omega) _
            refine⟨_,1,rfl,fun _=>⟨_,rfl,kh.lt,fun j x hj=>?_⟩⟩
            have hj0:j=0:=by
              have h1:j < 1:=(List.getElem?_eq_some_iff.1 hj).1
              omega
            subst hj0
            obtain rfl:=(Option.some.inj hj).symm
            refine⟨.slice none 0 0,⟨?_,?_,?_,?_⟩,⟨none,0,rfl,fun h0=>absurd h0 (Nat.not_lt_zero _)⟩⟩
            · exact kh.cell 0
            · exact kh.cell 1
            · exact kh.cell 2
            · exact kh.cell 3
          have HPR:=Lib.hid (worseP_any 8 d HD.out (.slice DA dn dcap) (.slice (some ⟨h,0,none⟩) 1 1) w8 (HO.out w8 B8.out) R8 S8)
          have HRR:=Lib.hid (fun W (hW:Below w8.heap.size w8 W)=>worseR_any 8 d HD.out (.slice DA dn dcap) (.slice (some ⟨h,0,none⟩) 1 1) W (HO.out W (B8.out.trans (hW.mono B8.out.size))) (R8.upon hW) (S8.below hW))
          have hag:agC (worse 8 d) (.slice DA dn dcap) (.slice (some ⟨h,0,none⟩) 1 1)=.agg #[.string D0,.string D1,.string D2,.string D3,.string D4,.string D5,.string D6,.string D7,.string D8,.slice DA dn dcap,.slice (some ⟨h,0,none⟩) 1 1]:=by (try rw[← HLB.out]);(try rw[← HD0.out]);(try rw[← HD1.out]);(try rw[← HD2.out]);(try rw[← HD3.out]);(try rw[← HD4.out]);(try rw[← HD5.out]);(try rw[← HD6.out]);(try rw[← HD7.out]);(try rw[← HD8.out]);rfl
          rw[hag] at HPR HRR
          clear hag R8 S8 O8 ka ba kg hgh bw og
          have u0:w8.cell? ⟨G,0,none⟩=some (.string D0):=K8.out.cell 0
          have u1:w8.cell? ⟨G,1,none⟩=some (.string D1):=K8.out.cell 1
          have u2:w8.cell? ⟨G,2,none⟩=some (.string D2):=K8.out.cell 2
          have u3:w8.cell? ⟨G,3,none⟩=some (.string D3):=K8.out.cell 3
          have u4:w8.cell? ⟨G,4,none⟩=some (.string D4):=K8.out.cell 4
          have u5:w8.cell? ⟨G,5,none⟩=some (.string D5):=K8.out.cell 5
          have u6:w8.cell? ⟨G,6,none⟩=some (.string D6):=K8.out.cell 6
          have u7:w8.cell? ⟨G,7,none⟩=some (.string D7):=K8.out.cell 7
          have u8:w8.cell? ⟨G,8,none⟩=some (.string D8):=K8.out.cell 8
          have u9:w8.cell? ⟨G,9,none⟩=some (.slice DA dn dcap):=K8.out.cell 9
          have u10:w8.cell? ⟨G,10,none⟩=some (.slice (some ⟨h,0,none⟩) 1 1):=K8.out.cell 10
          go_wp2_with fail
          refine HPR.out.mono ?_
          rintro e w9 ⟨⟨PA,pcap,rfl⟩,b9⟩
          have K9:=Lib.hid (K8.out.below b9 K8.out.lt)
          have HR9:=Lib.hid (HRR.out w9 b9)
          have B9:Hid (Below w.heap.size w w9):=B8.out.trans (b9.mono B8.out.size)
          clear b9 HPR HRR hw8 cz fz hWa hh
          clear u0 u1 u2 u3 u4 u5 u6 u7 u8 u9 u10
          have u0:w9.cell? ⟨G,0,none⟩=some (.string D0):=K9.out.cell 0
          have u1:w9.cell? ⟨G,1,none⟩=some (.string D1):=K9.out.cell 1
          have u2:w9.cell? ⟨G,2,none⟩=some (.string D2):=K9.out.cell 2
          have u3:w9.cell? ⟨G,3,none⟩=some (.string D3):=K9.out.cell 3
          have u4:w9.cell? ⟨G,4,none⟩=some (.string D4):=K9.out.cell 4
          have u5:w9.cell? ⟨G,5,none⟩=some (.string D5):=K9.out.cell 5
          have u6:w9.cell? ⟨G,6,none⟩=some (.string D6):=K9.out.cell 6
          have u7:w9.cell? ⟨G,7,none⟩=some (.string D7):=K9.out.cell 7
          have u8:w9.cell? ⟨G,8,none⟩=some (.string D8):=K9.out.cell 8
          have u9:w9.cell? ⟨G,9,none⟩=some (.slice DA dn dcap):=K9.out.cell 9
          have u10:w9.cell? ⟨G,10,none⟩=some (.slice (some ⟨h,0,none⟩) 1 1):=K9.out.cell 10
          go_wp2_with fail
          refine HR9.out.mono ?_
          rintro e w10 ⟨rfl,b10⟩
          have B10:Hid (Below w.heap.size w w10):=B9.out.trans (b10.mono B9.out.size)
          clear b10 HR9
          clear u0 u1 u2 u3 u4 u5 u6 u7 u8 u9 u10
          go_wp2_with fail
          refine(HLN.out w10).mono ?_
          rintro e w11 ⟨rfl,b11⟩
          have B11:Hid (Below w.heap.size w w11):=B10.out.trans (b11.mono B10.out.size)
          clear b11
          go_wp2_with fail
          go_ret
          exact⟨rfl,by first | exact B11.out | (rw[← HG.out];exact B11.out)⟩
        · skip
          have hk:(IntKind.u64.wrap what).tmod 10=9:=HK.out
          clear HK
          obtain⟨Wa,hWa⟩:∃ z,w6.alloc (.cells #[.int .u8 255] 5)=z:=⟨_,rfl⟩
          obtain⟨h,hh⟩:∃ z,w6.heap.size=z:=⟨_,rfl⟩
          have ka:Bk Wa h 5 #[.int .u8 255]:=by rw[← hWa,← hh];exact Bk.new _ _ _
          have ba:Below w6.heap.size w6 Wa:=by rw[← hWa];exact(Below.refl _ _).alloc (Nat.le_refl _) _
          have kg:=K6.out.below ba K6.out.lt
          have hgh:G < h:=by rw[← hh];exact K6.out.lt
          have bw:Below w.heap.size w Wa:=B6.out.trans (ba.mono B6.out.size)
          have og:OwnT w2.heap.size Wa (.slice DA dn dcap) (sts d.groups):=O6.out.below ba
          have cz:Wa.cell? ⟨G,8,none⟩=some (.string D8):=kg.cell 8
          have fz:Wa.frozen? ⟨G,8,none⟩=false:=kg.free 8
          have hb0:(convert 50 9 (.slice (some ⟨h,0,none⟩) 1 1)).run Tryz.prog Wa=.ok (.string ⟨#[255]⟩) Wa:=by rw[← hWa,← hh];exact oneByteN Tryz.underlying50 Tryz.underlying5 Tryz.underlying9 255 w6
          obtain⟨w8,hw8⟩:∃ z,Wa.setCell ⟨G,8,none⟩ (.string ⟨#[255]⟩)=z:=⟨_,rfl⟩
          have K8:Hid (Bk w8 G 25 #[.string D0,.string D1,.string D2,.string D3,.string D4,.string D5,.string D6,.string D7,.string ⟨#[255]⟩,.slice DA dn dcap,.slice none 0 0]):=by rw[← hw8];exact kg.put 8 _
          have B8:Hid (Below w.heap.size w w8):=by rw[← hw8];exact bw.setCell (p:=⟨G,8,none⟩) HGW.out _
          have O8:OwnT w2.heap.size w8 (.slice DA dn dcap) (sts d.groups):=by rw[← hw8];exact og.set HG2.out
          have R8:ReadT w8.heap.size w8 (.slice DA dn dcap) (sts (worse 9 d).groups):=O8.reads
          have S8:SeenP w8 (.slice none 0 0) (worse 9 d).other:=by rw[show (worse 9 d).other=[] from HD.out.other];exact⟨none,0,rfl,fun h0=>absurd h0 (Nat.not_lt_zero _)⟩
          have HPR:=Lib.hid (worseP_any 9 d HD.out (.slice DA dn dcap) (.slice none 0 0) w8 (HO.out w8 B8.out) R8 S8)
          have HRR:=Lib.hid (fun W (hW:Below w8.heap.size w8 W)=>worseR_any 9 d HD.out (.slice DA dn dcap) (.slice none 0 0) W (HO.out W (B8.out.trans (hW.mono B8.out.size))) (R8.upon hW) (S8.below hW))
          have hag:agC (worse 9 d) (.slice DA dn dcap) (.slice none 0 0)=.agg #[.string D0,.string D1,.string D2,.string D3,.string D4,.string D5,.string D6,.string D7,.string ⟨#[255]⟩,.slice DA dn dcap,.slice none 0 0]:=by (try rw[← HLB.out]);(try rw[← HD0.out]);(try rw[← HD1.out]);(try rw[← HD2.out]);(try rw[← HD3.out]);(try rw[← HD4.out]);(try rw[← HD5.out]);(try rw[← HD6.out]);(try rw[← HD7.out]);(try rw[← HD8.out]);rfl
          rw[hag] at HPR HRR
          clear hag R8 S8 O8 ka ba kg hgh bw og
          have u0:w8.cell? ⟨G,0,none⟩=some (.string D0):=K8.out.cell 0
          have u1:w8.cell? ⟨G,1,none⟩=some (.string D1):=K8.out.cell 1
          have u2:w8.cell? ⟨G,2,none⟩=some (.string D2):=K8.out.cell 2
          have u3:w8.cell? ⟨G,3,none⟩=some (.string D3):=K8.out.cell 3
          have u4:w8.cell? ⟨G,4,none⟩=some (.string D4):=K8.out.cell 4
          have u5:w8.cell? ⟨G,5,none⟩=some (.string D5):=K8.out.cell 5
          have u6:w8.cell? ⟨G,6,none⟩=some (.string D6):=K8.out.cell 6
          have u7:w8.cell? ⟨G,7,none⟩=some (.string D7):=K8.out.cell 7
          have u8:w8.cell? ⟨G,8,none⟩=some (.string ⟨#[255]⟩):=K8.out.cell 8
          have u9:w8.cell? ⟨G,9,none⟩=some (.slice DA dn dcap):=K8.out.cell 9
          have u10:w8.cell? ⟨G,10,none⟩=some (.slice none 0 0):=K8.out.cell 10
          go_wp2_with fail
          refine HPR.out.mono ?_
          rintro e w9 ⟨⟨PA,pcap,rfl⟩,b9⟩
          have K9:=Lib.hid (K8.out.below b9 K8.out.lt)
          have HR9:=Lib.hid (HRR.out w9 b9)
          have B9:Hid (Below w.heap.size w w9):=B8.out.trans (b9.mono B8.out.size)
          clear b9 HPR HRR hw8 cz fz hWa hh hb0
          clear u0 u1 u2 u3 u4 u5 u6 u7 u8 u9 u10
          have u0:w9.cell? ⟨G,0,none⟩=some (.string D0):=K9.out.cell 0
          have u1:w9.cell? ⟨G,1,none⟩=some (.string D1):=K9.out.cell 1
          have u2:w9.cell? ⟨G,2,none⟩=some (.string D2):=K9.out.cell 2
          have u3:w9.cell? ⟨G,3,none⟩=some (.string D3):=K9.out.cell 3
          have u4:w9.cell? ⟨G,4,none⟩=some (.string D4):=K9.out.cell 4
          have u5:w9.cell? ⟨G,5,none⟩=some (.string D5):=K9.out.cell 5
          have u6:w9.cell? ⟨G,6,none⟩=some (.string D6):=K9.out.cell 6
          have u7:w9.cell? ⟨G,7,none⟩=some (.string D7):=K9.out.cell 7
          have u8:w9.cell? ⟨G,8,none⟩=some (.string ⟨#[255]⟩):=K9.out.cell 8
          have u9:w9.cell? ⟨G,9,none⟩=some (.slice DA dn dcap):=K9.out.cell 9
          have u10:w9.cell? ⟨G,10,none⟩=some (.slice none 0 0):=K9.out.cell 10
          go_wp2_with fail
          refine HR9.out.mono ?_
          rintro e w10 ⟨rfl,b10⟩
          have B10:Hid (Below w.heap.size w w10):=B9.out.trans (b10.mono B9.out.size)
          clear b10 HR9
          clear u0 u1 u2 u3 u4 u5 u6 u7 u8 u9 u10
          go_wp2_with fail
          refine(HLN.out w10).mono ?_
          rintro e w11 ⟨rfl,b11⟩
          have B11:Hid (Below w.heap.size w w11):=B10.out.trans (b11.mono B10.out.size)
          clear b11
          go_wp2_with fail
          go_ret
          exact⟨rfl,by first | exact B11.out | (rw[← HG.out];exact B11.out)⟩
end Go.Proofs.YtfbdnaclkfmiaaaGreatDoor