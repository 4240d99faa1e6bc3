import Derived.Test.YtfbdnaclkfmiaaaGreatDoorB44
import Derived.Test.YtfbdnaclkfmiaaaGreatDoorB45
import Derived.Test.YtfbdnaclkfmiaaaGreatDoorB40
import Derived.Test.YtfbdnaclkfmiaaaGreatDoorB19
import Derived.Test.YtfbdnaclkfmiaaaGreatDoorB18
import Derived.Test.YtfbdnaclkfmiaaaGreatDoorB17
namespace Go.Proofs.YtfbdnaclkfmiaaaGreatDoor
open Go.RowKit Vc Ct Tx
set_option linter.unusedSimpArgs false in
set_option maxHeartbeats 16000000 in
set_option maxRecDepth 100000 in
theorem pcontact_any (c:Con) (gv o:Value) (W:World) (hg:ReadT W.heap.size W gv (sts c.groups)) (ho:ReadP W o c.other) (ht:∀ x∈[c.name,c.family,c.given,c.nick,c.jid,c.email,c.tel,c.note,c.uid],x.length≤1000000) (hgl:c.groups.length≤1000000) (hgs:∀ g∈c.groups,g.length≤1000000) :
    Calls Tryz.prog 19 #[agC c gv o] W fun e w'=>(∃ d g,e=.returned (agC d g (.slice none 0 0))∧Near d∧OwnT W.heap.size w' g (sts d.groups))∧Below W.heap.size W w':=by
  have HJ:=Lib.hid (fun W2=>pjid_any c.jid c.jid.length (by have:=ht c.jid (by simp);omega) W2 (ht c.jid (by simp)))
  have HGL:Hid (∀ (x:List UInt8) W2,x∈c.groups→Calls Tryz.prog 20 #[.string (bts x),.int .i64 30] W2 fun e w'=>(∃ v:ByteArray,e=.returned (.string v)∧valid v.data.toList=true∧clean v.data.toList∧v.size≤(bts x).size∧((0:Int)≤30→line v.data.toList 30=true))∧Below W2.heap.size W2 w'):=fun x W2 hx=>playLineL_any (bts x) 30 W2 (by rw[Lib.size_eq];have:=hgs x hx;show x.length≤_;omega)
  have HGR:=Lib.hid (fun u (l:List (List UInt8)) W2 (h:ReadT W2.heap.size W2 u (sts l)) (h2:l.length≤1000000)=>rgroups_any u l W2 h h2)
  have HG0:=Lib.hid hg
  have e4:=emptyB (l:=c.jid)
  have hz4:(bts c.jid).size=c.jid.length:=Lib.size_eq _
  obtain⟨GS,hGS⟩:∃ GS,c.groups=GS:=⟨_,rfl⟩
  rw[hGS] at HG0 HGL hgl
  obtain⟨J,hJ⟩:∃ J,c.jid=J:=⟨_,rfl⟩
  rw[hJ] at HJ e4 hz4
  have HL0:=Lib.hid (fun W2=>playLineL_any (bts c.name) 100 W2 (by rw[Lib.size_eq];have:=ht c.name (by simp);show c.name.length≤_;omega))
  have HL1:=Lib.hid (fun W2=>playLineL_any (bts c.family) 50 W2 (by rw[Lib.size_eq];have:=ht c.family (by simp);show c.family.length≤_;omega))
  have HL2:=Lib.hid (fun W2=>playLineL_any (bts c.given) 50 W2 (by rw[Lib.size_eq];have:=ht c.given (by simp);show c.given.length≤_;omega))
  have HL3:=Lib.hid (fun W2=>playLineL_any (bts c.nick) 50 W2 (by rw[Lib.size_eq];have:=ht c.nick (by simp);show c.nick.length≤_;omega))
  have HL5:=Lib.hid (fun W2=>playLineL_any (bts c.email) 50 W2 (by rw[Lib.size_eq];have:=ht c.email (by simp);show c.email.length≤_;omega))
  have HL6:=Lib.hid (fun W2=>playLineL_any (bts c.tel) 50 W2 (by rw[Lib.size_eq];have:=ht c.tel (by simp);show c.tel.length≤_;omega))
  have HL7:=Lib.hid (fun W2=>playLineL_any (bts c.note) 200 W2 (by rw[Lib.size_eq];have:=ht c.note (by simp);show c.note.length≤_;omega))
  have HL8:=Lib.hid (fun W2=>playLineL_any (bts c.uid) 50 W2 (by rw[Lib.size_eq];have:=ht c.uid (by simp);show c.uid.length≤_;omega))
  obtain⟨GA,gn,gcap,rfl⟩:∃ A n cap,gv=.slice A n cap:=by obtain⟨A,cap,e,_⟩:=hg;exact⟨A,_,cap,e⟩
  obtain⟨OA,on,ocap,rfl⟩:∃ A n cap,o=.slice A n cap:=by obtain⟨A,cap,e,_⟩:=ho;exact⟨A,_,cap,e⟩
  have hgn:gn=GS.length:=by
    obtain⟨A,cap,e,_⟩:=HG0.out
    injection e with e1 e2 e3
    rw[e2]
    unfold sts
    rw[List.length_map]
  subst hgn
  obtain⟨gn,hgn⟩:∃ n,GS.length=n:=⟨_,rfl⟩
  rw[hgn] at HG0 hgl ⊢
  have HGN:=Lib.hid hgn
  unfold agC conCells
  rw[hJ]
  obtain⟨X0,hX0⟩:∃ X,bts c.name=X:=⟨_,rfl⟩
  obtain⟨X1,hX1⟩:∃ X,bts c.family=X:=⟨_,rfl⟩
  obtain⟨X2,hX2⟩:∃ X,bts c.given=X:=⟨_,rfl⟩
  obtain⟨X3,hX3⟩:∃ X,bts c.nick=X:=⟨_,rfl⟩
  obtain⟨X4,hX4⟩:∃ X,bts J=X:=⟨_,rfl⟩
  obtain⟨X5,hX5⟩:∃ X,bts c.email=X:=⟨_,rfl⟩
  obtain⟨X6,hX6⟩:∃ X,bts c.tel=X:=⟨_,rfl⟩
  obtain⟨X7,hX7⟩:∃ X,bts c.note=X:=⟨_,rfl⟩
  obtain⟨X8,hX8⟩:∃ X,bts c.uid=X:=⟨_,rfl⟩
  rw[hX0] at HL0
  rw[hX1] at HL1
  rw[hX2] at HL2
  rw[hX3] at HL3
  rw[hX5] at HL5
  rw[hX6] at HL6
  rw[hX7] at HL7
  rw[hX8] at HL8
  rw[hX4] at HJ e4 hz4
  rw[hX0,hX1,hX2,hX3,hX4,hX5,hX6,hX7,hX8]
  clear hg ho ht hgs hgn hGS hJ hX0 hX1 hX2 hX3 hX4 hX5 hX6 hX7 hX8
  obtain⟨G,hG⟩:∃ G,W.heap.size=G:=⟨_,rfl⟩
  obtain⟨W1,hW1⟩:∃ W1,W.alloc (.cells #[.string X0,.string X1,.string X2,.string X3,.string X4,.string X5,.string X6,.string X7,.string X8,.slice GA gn gcap,.slice OA on ocap] 25)=W1:=⟨_,rfl⟩
  obtain⟨R,hR⟩:∃ R,W1.heap.size=R:=⟨_,rfl⟩
  obtain⟨W2,hW2⟩:∃ W2,W1.alloc (.cells #[.string ⟨#[]⟩,.string ⟨#[]⟩,.string ⟨#[]⟩,.string ⟨#[]⟩,.string ⟨#[]⟩,.string ⟨#[]⟩,.string ⟨#[]⟩,.string ⟨#[]⟩,.string ⟨#[]⟩,.slice none 0 0,.slice none 0 0] 25)=W2:=⟨_,rfl⟩
  have b1:Below W.heap.size W W1:=by rw[← hW1];exact(Below.refl _ _).alloc (Nat.le_refl _) _
  have b2:Below W1.heap.size W1 W2:=by rw[← hW2];exact(Below.refl _ _).alloc (Nat.le_refl _) _
  have B2:Hid (Below W.heap.size W W2):=b1.trans (b2.mono b1.size)
  have k1:Bk W1 G 25 #[.string X0,.string X1,.string X2,.string X3,.string X4,.string X5,.string X6,.string X7,.string X8,.slice GA gn gcap,.slice OA on ocap]:=by rw[← hW1,← hG];exact Bk.new _ _ _
  have k2:Bk W2 R 25 #[.string ⟨#[]⟩,.string ⟨#[]⟩,.string ⟨#[]⟩,.string ⟨#[]⟩,.string ⟨#[]⟩,.string ⟨#[]⟩,.string ⟨#[]⟩,.string ⟨#[]⟩,.string ⟨#[]⟩,.slice none 0 0,.slice none 0 0]:=by rw[← hW2,← hR];exact Bk.new _ _ _
  have KG:=Lib.hid (k1.below b2 k1.lt)
  have KR:=Lib.hid k2
  have HWR:Hid (W.heap.size≤R):=by rw[← hR];exact b1.size
  have HGR2:Hid (G < R):=by rw[← hR];exact k1.lt
  have HX0:Hid (∀ w',Below W2.heap.size W2 w'→w'.cell? ⟨G,0,none⟩=some (.string X0)):=fun w' h=>(KG.out.below h KG.out.lt).cell 0
  have HX1:Hid (∀ w',Below W2.heap.size W2 w'→w'.cell? ⟨G,1,none⟩=some (.string X1)):=fun w' h=>(KG.out.below h KG.out.lt).cell 1
  have HX2:Hid (∀ w',Below W2.heap.size W2 w'→w'.cell? ⟨G,2,none⟩=some (.string X2)):=fun w' h=>(KG.out.below h KG.out.lt).cell 2
  have HX3:Hid (∀ w',Below W2.heap.size W2 w'→w'.cell? ⟨G,3,none⟩=some (.string X3)):=fun w' h=>(KG.out.below h KG.out.lt).cell 3
  have HX5:Hid (∀ w',Below W2.heap.size W2 w'→w'.cell? ⟨G,5,none⟩=some (.string X5)):=fun w' h=>(KG.out.below h KG.out.lt).cell 5
  have HX6:Hid (∀ w',Below W2.heap.size W2 w'→w'.cell? ⟨G,6,none⟩=some (.string X6)):=fun w' h=>(KG.out.below h KG.out.lt).cell 6
  have HX7:Hid (∀ w',Below W2.heap.size W2 w'→w'.cell? ⟨G,7,none⟩=some (.string X7)):=fun w' h=>(KG.out.below h KG.out.lt).cell 7
  have HX8:Hid (∀ w',Below W2.heap.size W2 w'→w'.cell? ⟨G,8,none⟩=some (.string X8)):=fun w' h=>(KG.out.below h KG.out.lt).cell 8
  clear b1 b2 k1 k2
  go_enter Tryz.func19,Tryz.ntmps19
  go_upto_region 1 with fail
  (try rw[hW1])
  (try rw[hR])
  (try rw[hW2])
  clear hW1 hW2 hR
  go_upto_region 1 with fail
  go_cut [3] from 6 to 30 (fun s wx=>∃ (D:Nat) (v0 v1 v2 v3 v5 v6 v7 v8:ByteArray),s=.pointer (some ⟨D,0,none⟩)∧Hid (Bk wx D 25 #[.string v0,.string v1,.string v2,.string v3,.string ⟨#[]⟩,.string v5,.string v6,.string v7,.string v8,.slice none 0 0,.slice none 0 0])∧Hid (line v0.data.toList 100=true)∧Hid (line v1.data.toList 50=true)∧Hid (line v2.data.toList 50=true)∧Hid (line v3.data.toList 50=true)∧Hid (line v5.data.toList 50=true)∧Hid (line v6.data.toList 50=true)∧Hid (line v7.data.toList 200=true)∧Hid (line v8.data.toList 50=true)∧Hid (Below W2.heap.size W2 wx)∧Hid (W2.heap.size≤D))
  case first J0 K0 hJ0 hK0 =>
    have bN:Below W2.heap.size W2 W2.drew:=(Below.refl _ _).drew
    refine wp_region_held_drew (S:=fun w'=>Below W2.heap.size W2 w'∧w'.cell? ⟨G,0,none⟩=some (.string X0)∧w'.cell? ⟨G,1,none⟩=some (.string X1)∧w'.cell? ⟨G,2,none⟩=some (.string X2)∧w'.cell? ⟨G,3,none⟩=some (.string X3)∧w'.cell? ⟨G,5,none⟩=some (.string X5)∧w'.cell? ⟨G,6,none⟩=some (.string X6)∧w'.cell? ⟨G,7,none⟩=some (.string X7)∧w'.cell? ⟨G,8,none⟩=some (.string X8)) (by kernel_rfl) ?_ (fun hHeld=>?_)
    · exact⟨bN,HX0.out _ bN,HX1.out _ bN,HX2.out _ bN,HX3.out _ bN,HX5.out _ bN,HX6.out _ bN,HX7.out _ bN,HX8.out _ bN⟩
    obtain⟨wd,hwd⟩:∃ z,W2.drew=z:=⟨_,rfl⟩
    rw[hwd] at bN hHeld ⊢
    clear hwd
    refine take_w 0 (some 6) ?v1 rfl rfl (by kernel_rfl) (by kernel_rfl) (by kernel_rfl) (by rfl) ?y1 (fun _ _ _ h=>h) (by assumption) ?n1
    case y1 =>
      intro w hSw
      try dsimp only at hSw
      go_simp
      try with_reducible rfl
    try simp only[Act.put,List.setIfInBounds_toArray,List.set_cons_zero,List.set_cons_succ]
    refine take_w 1 (some 7) ?v2 rfl rfl (by kernel_rfl) (by kernel_rfl) (by kernel_rfl) (by rfl) ?y2 (fun _ _ _ h=>h) (by assumption) ?n2
    case y2 =>
      intro w hSw
      try dsimp only at hSw
      go_simp
      try with_reducible rfl
    try simp only[Act.put,List.setIfInBounds_toArray,List.set_cons_zero,List.set_cons_succ]
    refine take_w 3 (some 9) ?v3 rfl rfl (by kernel_rfl) (by kernel_rfl) (by kernel_rfl) (by rfl) ?y3 (fun _ _ _ h=>h) (by assumption) ?n3
    case y3 =>
      intro w hSw
      try dsimp only at hSw
      go_simp
      try with_reducible rfl
    try simp only[Act.put,List.setIfInBounds_toArray,List.set_cons_zero,List.set_cons_succ]
    refine take_w 4 (some 10) ?v4 rfl rfl (by kernel_rfl) (by kernel_rfl) (by kernel_rfl) (by rfl) ?y4 (fun _ _ _ h=>h) (by assumption) ?n4
    case y4 =>
      intro w hSw
      try dsimp only at hSw
      go_simp
      try with_reducible rfl
    try simp only[Act.put,List.setIfInBounds_toArray,List.set_cons_zero,List.set_cons_succ]
    refine take_w 6 (some 12) ?v5 rfl rfl (by kernel_rfl) (by kernel_rfl) (by kernel_rfl) (by rfl) ?y5 (fun _ _ _ h=>h) (by assumption) ?n5
    case y5 =>
      intro w hSw
      try dsimp only at hSw
      go_simp
      try with_reducible rfl
    try simp only[Act.put,List.setIfInBounds_toArray,List.set_cons_zero,List.set_cons_succ]
    refine take_w 7 (some 13) ?v6 rfl rfl (by kernel_rfl) (by kernel_rfl) (by kernel_rfl) (by rfl) ?y6 (fun _ _ _ h=>h) (by assumption) ?n6
    case y6 =>
      intro w hSw
      try dsimp only at hSw
      go_simp
      try with_reducible rfl
    try simp only[Act.put,List.setIfInBounds_toArray,List.set_cons_zero,List.set_cons_succ]
    refine take_w 9 (some 15) ?v7 rfl rfl (by kernel_rfl) (by kernel_rfl) (by kernel_rfl) (by rfl) ?y7 (fun _ _ _ h=>h) (by assumption) ?n7
    case y7 =>
      intro w hSw
      try dsimp only at hSw
      go_simp
      try with_reducible rfl
    try simp only[Act.put,List.setIfInBounds_toArray,List.set_cons_zero,List.set_cons_succ]
    refine take_w 10 (some 16) ?v8 rfl rfl (by kernel_rfl) (by kernel_rfl) (by kernel_rfl) (by rfl) ?y8 (fun _ _ _ h=>h) (by assumption) ?n8
    case y8 =>
      intro w hSw
      try dsimp only at hSw
      go_simp
      try with_reducible rfl
    try simp only[Act.put,List.setIfInBounds_toArray,List.set_cons_zero,List.set_cons_succ]
    refine take_w 12 (some 18) ?v9 rfl rfl (by kernel_rfl) (by kernel_rfl) (by kernel_rfl) (by rfl) ?y9 (fun _ _ _ h=>h) (by assumption) ?n9
    case y9 =>
      intro w hSw
      try dsimp only at hSw
      go_simp
      try with_reducible rfl
    try simp only[Act.put,List.setIfInBounds_toArray,List.set_cons_zero,List.set_cons_succ]
    refine take_w 13 (some 19) ?v10 rfl rfl (by kernel_rfl) (by kernel_rfl) (by kernel_rfl) (by rfl) ?y10 (fun _ _ _ h=>h) (by assumption) ?n10
    case y10 =>
      intro w hSw
      try dsimp only at hSw
      go_simp
      try with_reducible rfl
    try simp only[Act.put,List.setIfInBounds_toArray,List.set_cons_zero,List.set_cons_succ]
    refine take_w 15 (some 21) ?v11 rfl rfl (by kernel_rfl) (by kernel_rfl) (by kernel_rfl) (by rfl) ?y11 (fun _ _ _ h=>h) (by assumption) ?n11
    case y11 =>
      intro w hSw
      try dsimp only at hSw
      go_simp
      try with_reducible rfl
    try simp only[Act.put,List.setIfInBounds_toArray,List.set_cons_zero,List.set_cons_succ]
    refine take_w 16 (some 22) ?v12 rfl rfl (by kernel_rfl) (by kernel_rfl) (by kernel_rfl) (by rfl) ?y12 (fun _ _ _ h=>h) (by assumption) ?n12
    case y12 =>
      intro w hSw
      try dsimp only at hSw
      go_simp
      try with_reducible rfl
    try simp only[Act.put,List.setIfInBounds_toArray,List.set_cons_zero,List.set_cons_succ]
    refine take_w 18 (some 24) ?v13 rfl rfl (by kernel_rfl) (by kernel_rfl) (by kernel_rfl) (by rfl) ?y13 (fun _ _ _ h=>h) (by assumption) ?n13
    case y13 =>
      intro w hSw
      try dsimp only at hSw
      go_simp
      try with_reducible rfl
    try simp only[Act.put,List.setIfInBounds_toArray,List.set_cons_zero,List.set_cons_succ]
    refine take_w 19 (some 25) ?v14 rfl rfl (by kernel_rfl) (by kernel_rfl) (by kernel_rfl) (by rfl) ?y14 (fun _ _ _ h=>h) (by assumption) ?n14
    case y14 =>
      intro w hSw
      try dsimp only at hSw
      go_simp
      try with_reducible rfl
    try simp only[Act.put,List.setIfInBounds_toArray,List.set_cons_zero,List.set_cons_succ]
    refine take_w 21 (some 27) ?v15 rfl rfl (by kernel_rfl) (by kernel_rfl) (by kernel_rfl) (by rfl) ?y15 (fun _ _ _ h=>h) (by assumption) ?n15
    case y15 =>
      intro w hSw
      try dsimp only at hSw
      go_simp
      try with_reducible rfl
    try simp only[Act.put,List.setIfInBounds_toArray,List.set_cons_zero,List.set_cons_succ]
    refine take_w 22 (some 28) ?v16 rfl rfl (by kernel_rfl) (by kernel_rfl) (by kernel_rfl) (by rfl) ?y16 (fun _ _ _ h=>h) (by assumption) ?n16
    case y16 =>
      intro w hSw
      try dsimp only at hSw
      go_simp
      try with_reducible rfl
    try simp only[Act.put,List.setIfInBounds_toArray,List.set_cons_zero,List.set_cons_succ]
    refine wpAnyH_ready (rs:=[2,25]) (by kernel_rfl) (by simp) ?_
    refine AllReadyH.cons (i:=2) rfl (fun K hK=>?_) (AllReadyH.cons (i:=25) rfl (fun K hK=>?_) AllReadyH.nil)
    · go_simp
      refine(HL0.out wd).mono ?_
      rintro e wv1 ⟨⟨v0,rfl,-,-,-,hl⟩,bC⟩
      have L0:=Lib.hid (hl (by decide))
      have bN:=bN.trans (bC.mono bN.size)
      clear hl bC
      go_wp2_with fail
      refine hK.out _ _ ?_ (fun hHeld=>?_)
      · exact⟨bN,HX0.out _ bN,HX1.out _ bN,HX2.out _ bN,HX3.out _ bN,HX5.out _ bN,HX6.out _ bN,HX7.out _ bN,HX8.out _ bN⟩
      clear hK K
      try simp only[Act.put,List.setIfInBounds_toArray,List.set_cons_zero,List.set_cons_succ]
      refine wpAnyH_ready (rs:=[5,25]) (by kernel_rfl) (by simp) ?_
      refine AllReadyH.cons (i:=5) rfl (fun K hK=>?_) (AllReadyH.cons (i:=25) rfl (fun K hK=>?_) AllReadyH.nil)
      · go_simp
        refine(HL1.out wv1).mono ?_
        rintro e wv2 ⟨⟨v1,rfl,-,-,-,hl⟩,bC⟩
        have L1:=Lib.hid (hl (by decide))
        have bN:=bN.trans (bC.mono bN.size)
        clear hl bC
        go_wp2_with fail
        refine hK.out _ _ ?_ (fun hHeld=>?_)
        · exact⟨bN,HX0.out _ bN,HX1.out _ bN,HX2.out _ bN,HX3.out _ bN,HX5.out _ bN,HX6.out _ bN,HX7.out _ bN,HX8.out _ bN⟩
        clear hK K
        try simp only[Act.put,List.setIfInBounds_toArray,List.set_cons_zero,List.set_cons_succ]
        refine wpAnyH_ready (rs:=[8,25]) (by kernel_rfl) (by simp) ?_
        refine AllReadyH.cons (i:=8) rfl (fun K hK=>?_) (AllReadyH.cons (i:=25) rfl (fun K hK=>?_) AllReadyH.nil)
        · go_simp
          refine(HL2.out wv2).mono ?_
          rintro e wv3 ⟨⟨v2,rfl,-,-,-,hl⟩,bC⟩
          have L2:=Lib.hid (hl (by decide))
          have bN:=bN.trans (bC.mono bN.size)
          clear hl bC
          go_wp2_with fail
          refine hK.out _ _ ?_ (fun hHeld=>?_)
          · exact⟨bN,HX0.out _ bN,HX1.out _ bN,HX2.out _ bN,HX3.out _ bN,HX5.out _ bN,HX6.out _ bN,HX7.out _ bN,HX8.out _ bN⟩
          clear hK K
          try simp only[Act.put,List.setIfInBounds_toArray,List.set_cons_zero,List.set_cons_succ]
          refine wpAnyH_ready (rs:=[11,25]) (by kernel_rfl) (by simp) ?_
          refine AllReadyH.cons (i:=11) rfl (fun K hK=>?_) (AllReadyH.cons (i:=25) rfl (fun K hK=>?_) AllReadyH.nil)
          · go_simp
            refine(HL3.out wv3).mono ?_
            rintro e wv4 ⟨⟨v3,rfl,-,-,-,hl⟩,bC⟩
            have L3:=Lib.hid (hl (by decide))
            have bN:=bN.trans (bC.mono bN.size)
            clear hl bC
            go_wp2_with fail
            refine hK.out _ _ ?_ (fun hHeld=>?_)
            · exact⟨bN,HX0.out _ bN,HX1.out _ bN,HX2.out _ bN,HX3.out _ bN,HX5.out _ bN,HX6.out _ bN,HX7.out _ bN,HX8.out _ bN⟩
            clear hK K
            try simp only[Act.put,List.setIfInBounds_toArray,List.set_cons_zero,List.set_cons_succ]
            refine wpAnyH_ready (rs:=[14,25]) (by kernel_rfl) (by simp) ?_
            refine AllReadyH.cons (i:=14) rfl (fun K hK=>?_) (AllReadyH.cons (i:=25) rfl (fun K hK=>?_) AllReadyH.nil)
            · go_simp
              refine(HL5.out wv4).mono ?_
              rintro e wv5 ⟨⟨v5,rfl,-,-,-,hl⟩,bC⟩
              have L5:=Lib.hid (hl (by decide))
              have bN:=bN.trans (bC.mono bN.size)
              clear hl bC
              go_wp2_with fail
              refine hK.out _ _ ?_ (fun hHeld=>?_)
              · exact⟨bN,HX0.out _ bN,HX1.out _ bN,HX2.out _ bN,HX3.out _ bN,HX5.out _ bN,HX6.out _ bN,HX7.out _ bN,HX8.out _ bN⟩
              clear hK K
              try simp only[Act.put,List.setIfInBounds_toArray,List.set_cons_zero,List.set_cons_succ]
              refine wpAnyH_ready (rs:=[17,25]) (by kernel_rfl) (by simp) ?_
              refine AllReadyH.cons (i:=17) rfl (fun K hK=>?_) (AllReadyH.cons (i:=25) rfl (fun K hK=>?_) AllReadyH.nil)
              · go_simp
                refine(HL6.out wv5).mono ?_
                rintro e wv6 ⟨⟨v6,rfl,-,-,-,hl⟩,bC⟩
                have L6:=Lib.hid (hl (by decide))
                have bN:=bN.trans (bC.mono bN.size)
                clear hl bC
                go_wp2_with fail
                refine hK.out _ _ ?_ (fun hHeld=>?_)
                · exact⟨bN,HX0.out _ bN,HX1.out _ bN,HX2.out _ bN,HX3.out _ bN,HX5.out _ bN,HX6.out _ bN,HX7.out _ bN,HX8.out _ bN⟩
                clear hK K
                try simp only[Act.put,List.setIfInBounds_toArray,List.set_cons_zero,List.set_cons_succ]
                refine wpAnyH_ready (rs:=[20,25]) (by kernel_rfl) (by simp) ?_
                refine AllReadyH.cons (i:=20) rfl (fun K hK=>?_) (AllReadyH.cons (i:=25) rfl (fun K hK=>?_) AllReadyH.nil)
                · go_simp
                  refine(HL7.out wv6).mono ?_
                  rintro e wv7 ⟨⟨v7,rfl,-,-,-,hl⟩,bC⟩
                  have L7:=Lib.hid (hl (by decide))
                  have bN:=bN.trans (bC.mono bN.size)
                  clear hl bC
                  go_wp2_with fail
                  refine hK.out _ _ ?_ (fun hHeld=>?_)
                  · exact⟨bN,HX0.out _ bN,HX1.out _ bN,HX2.out _ bN,HX3.out _ bN,HX5.out _ bN,HX6.out _ bN,HX7.out _ bN,HX8.out _ bN⟩
                  clear hK K
                  try simp only[Act.put,List.setIfInBounds_toArray,List.set_cons_zero,List.set_cons_succ]
                  refine wpAnyH_ready (rs:=[23,25]) (by kernel_rfl) (by simp) ?_
                  refine AllReadyH.cons (i:=23) rfl (fun K hK=>?_) (AllReadyH.cons (i:=25) rfl (fun K hK=>?_) AllReadyH.nil)
                  · go_simp
                    refine(HL8.out wv7).mono ?_
                    rintro e wv8 ⟨⟨v8,rfl,-,-,-,hl⟩,bC⟩
                    have L8:=Lib.hid (hl (by decide))
                    have bN:=bN.trans (bC.mono bN.size)
                    clear hl bC
                    go_wp2_with fail
                    refine hK.out _ _ ?_ (fun hHeld=>?_)
                    · exact⟨bN,HX0.out _ bN,HX1.out _ bN,HX2.out _ bN,HX3.out _ bN,HX5.out _ bN,HX6.out _ bN,HX7.out _ bN,HX8.out _ bN⟩
                    clear hK K
                    try simp only[Act.put,List.setIfInBounds_toArray,List.set_cons_zero,List.set_cons_succ]
                    refine take_w 24 (some 30) ?v17 rfl rfl (by kernel_rfl) (by kernel_rfl) (by kernel_rfl) (by rfl) ?y17 (fun _ _ _ h=>h) (by assumption) ?n17
                    case y17 =>
                      intro w hSw
                      try dsimp only at hSw
                      go_simp
                      try with_reducible rfl
                    try simp only[Act.put,List.setIfInBounds_toArray,List.set_cons_zero,List.set_cons_succ]
                    refine wpAnyH_ready (rs:=[25]) (by kernel_rfl) (by simp) ?_
                    refine AllReadyH.cons (i:=25) rfl (fun K hK=>?_) AllReadyH.nil
                    go_simp
                    obtain⟨wv9,hwv9⟩:∃ z,World.alloc wv8 (.cells #[.string ⟨#[]⟩,.string ⟨#[]⟩,.string ⟨#[]⟩,.string ⟨#[]⟩,.string ⟨#[]⟩,.string ⟨#[]⟩,.string ⟨#[]⟩,.string ⟨#[]⟩,.string ⟨#[]⟩,.slice none 0 0,.slice none 0 0] 25)=z:=⟨_,rfl⟩
                    obtain⟨D,hD⟩:∃ D,wv8.heap.size=D:=⟨_,rfl⟩
                    have kD:Bk wv9 D 25 #[.string ⟨#[]⟩,.string ⟨#[]⟩,.string ⟨#[]⟩,.string ⟨#[]⟩,.string ⟨#[]⟩,.string ⟨#[]⟩,.string ⟨#[]⟩,.string ⟨#[]⟩,.string ⟨#[]⟩,.slice none 0 0,.slice none 0 0]:=by rw[← hwv9,← hD];exact Bk.new _ _ _
                    have hDW:W2.heap.size≤D:=by rw[← hD];exact bN.size
                    have bN:=bN.alloc bN.size (.cells #[.string ⟨#[]⟩,.string ⟨#[]⟩,.string ⟨#[]⟩,.string ⟨#[]⟩,.string ⟨#[]⟩,.string ⟨#[]⟩,.string ⟨#[]⟩,.string ⟨#[]⟩,.string ⟨#[]⟩,.slice none 0 0,.slice none 0 0] 25)
                    rw[hwv9] at bN 
                    (try rw[hwv9])
                    (try rw[hD])
                    clear hwv9 hD
                    refine hK.out _ _ ?_ (fun hHeld=>?_)
                    · exact⟨bN,HX0.out _ bN,HX1.out _ bN,HX2.out _ bN,HX3.out _ bN,HX5.out _ bN,HX6.out _ bN,HX7.out _ bN,HX8.out _ bN⟩
                    clear hK K
                    try simp only[Act.put,List.setIfInBounds_toArray,List.set_cons_zero,List.set_cons_succ]
                    refine wpAnyH_ready (rs:=[26]) (by kernel_rfl) (by simp) ?_
                    refine AllReadyH.cons (i:=26) rfl (fun K hK=>?_) AllReadyH.nil
                    go_simp
                    have y0:=kD.cell 0
                    have z0:=kD.free 0
                    have y1:=kD.cell 1
                    have z1:=kD.free 1
                    have y2:=kD.cell 2
                    have z2:=kD.free 2
                    have y3:=kD.cell 3
                    have z3:=kD.free 3
                    have y4:=kD.cell 4
                    have z4:=kD.free 4
                    have y5:=kD.cell 5
                    have z5:=kD.free 5
                    have y6:=kD.cell 6
                    have z6:=kD.free 6
                    have y7:=kD.cell 7
                    have z7:=kD.free 7
                    have y8:=kD.cell 8
                    have z8:=kD.free 8
                    have y9:=kD.cell 9
                    have z9:=kD.free 9
                    have y10:=kD.cell 10
                    have z10:=kD.free 10
                    go_simp
                    obtain⟨wv10,hwv10⟩:∃ z,laid11 wv9 D (.string v0) (.string v1) (.string v2) (.string v3) (.string ⟨#[]⟩) (.string v5) (.string v6) (.string v7) (.string v8) (.slice none 0 0) (.slice none 0 0)=z:=⟨_,rfl⟩
                    have kD:=laid11_bk kD (.string v0) (.string v1) (.string v2) (.string v3) (.string ⟨#[]⟩) (.string v5) (.string v6) (.string v7) (.string v8) (.slice none 0 0) (.slice none 0 0)
                    have bN:=laid11_below bN hDW (.string v0) (.string v1) (.string v2) (.string v3) (.string ⟨#[]⟩) (.string v5) (.string v6) (.string v7) (.string v8) (.slice none 0 0) (.slice none 0 0)
                    refine hK.out _ _ ?_ (fun hHeld=>?_)
                    · exact⟨bN,HX0.out _ bN,HX1.out _ bN,HX2.out _ bN,HX3.out _ bN,HX5.out _ bN,HX6.out _ bN,HX7.out _ bN,HX8.out _ bN⟩
                    clear hK K
                    try simp only[Act.put,List.setIfInBounds_toArray,List.set_cons_zero,List.set_cons_succ]
                    refine wpAnyH_done (by kernel_rfl) ?_ _
                    refine hK0 _ _ (Met.intro (hJ0 _ _ ?_))
                    (repeat apply Exists.intro)
                    refine⟨?_,rfl⟩
                    exact⟨D,v0,v1,v2,v3,v5,v6,v7,v8,rfl,kD,L0,L1,L2,L3,L5,L6,L7,L8,bN,hDW⟩
                  · go_simp
                    obtain⟨wv8,hwv8⟩:∃ z,World.alloc wv7 (.cells #[.string ⟨#[]⟩,.string ⟨#[]⟩,.string ⟨#[]⟩,.string ⟨#[]⟩,.string ⟨#[]⟩,.string ⟨#[]⟩,.string ⟨#[]⟩,.string ⟨#[]⟩,.string ⟨#[]⟩,.slice none 0 0,.slice none 0 0] 25)=z:=⟨_,rfl⟩
                    obtain⟨D,hD⟩:∃ D,wv7.heap.size=D:=⟨_,rfl⟩
                    have kD:Bk wv8 D 25 #[.string ⟨#[]⟩,.string ⟨#[]⟩,.string ⟨#[]⟩,.string ⟨#[]⟩,.string ⟨#[]⟩,.string ⟨#[]⟩,.string ⟨#[]⟩,.string ⟨#[]⟩,.string ⟨#[]⟩,.slice none 0 0,.slice none 0 0]:=by rw[← hwv8,← hD];exact Bk.new _ _ _
                    have hDW:W2.heap.size≤D:=by rw[← hD];exact bN.size
                    have bN:=bN.alloc bN.size (.cells #[.string ⟨#[]⟩,.string ⟨#[]⟩,.string ⟨#[]⟩,.string ⟨#[]⟩,.string ⟨#[]⟩,.string ⟨#[]⟩,.string ⟨#[]⟩,.string ⟨#[]⟩,.string ⟨#[]⟩,.slice none 0 0,.slice none 0 0] 25)
                    rw[hwv8] at bN 
                    (try rw[hwv8])
                    (try rw[hD])
                    clear hwv8 hD
                    refine hK.out _ _ ?_ (fun hHeld=>?_)
                    · exact⟨bN,HX0.out _ bN,HX1.out _ bN,HX2.out _ bN,HX3.out _ bN,HX5.out _ bN,HX6.out _ bN,HX7.out _ bN,HX8.out _ bN⟩
                    clear hK K
                    try simp only[Act.put,List.setIfInBounds_toArray,List.set_cons_zero,List.set_cons_succ]
                    refine wpAnyH_ready (rs:=[23]) (by kernel_rfl) (by simp) ?_
                    refine AllReadyH.cons (i:=23) rfl (fun K hK=>?_) AllReadyH.nil
                    go_simp
                    refine(HL8.out wv8).mono ?_
                    rintro e wv9 ⟨⟨v8,rfl,-,-,-,hl⟩,bC⟩
                    have L8:=Lib.hid (hl (by decide))
                    have kD:=kD.below bC kD.lt
                    have bN:=bN.trans (bC.mono bN.size)
                    clear hl bC
                    go_wp2_with fail
                    refine hK.out _ _ ?_ (fun hHeld=>?_)
                    · exact⟨bN,HX0.out _ bN,HX1.out _ bN,HX2.out _ bN,HX3.out _ bN,HX5.out _ bN,HX6.out _ bN,HX7.out _ bN,HX8.out _ bN⟩
                    clear hK K
                    try simp only[Act.put,List.setIfInBounds_toArray,List.set_cons_zero,List.set_cons_succ]
                    refine take_w 24 (some 30) ?v18 rfl rfl (by kernel_rfl) (by kernel_rfl) (by kernel_rfl) (by rfl) ?y18 (fun _ _ _ h=>h) (by assumption) ?n18
                    case y18 =>
                      intro w hSw
                      try dsimp only at hSw
                      go_simp
                      try with_reducible rfl
                    try simp only[Act.put,List.setIfInBounds_toArray,List.set_cons_zero,List.set_cons_succ]
                    refine wpAnyH_ready (rs:=[26]) (by kernel_rfl) (by simp) ?_
                    refine AllReadyH.cons (i:=26) rfl (fun K hK=>?_) AllReadyH.nil
                    go_simp
                    have y0:=kD.cell 0
                    have z0:=kD.free 0
                    have y1:=kD.cell 1
                    have z1:=kD.free 1
                    have y2:=kD.cell 2
                    have z2:=kD.free 2
                    have y3:=kD.cell 3
                    have z3:=kD.free 3
                    have y4:=kD.cell 4
                    have z4:=kD.free 4
                    have y5:=kD.cell 5
                    have z5:=kD.free 5
                    have y6:=kD.cell 6
                    have z6:=kD.free 6
                    have y7:=kD.cell 7
                    have z7:=kD.free 7
                    have y8:=kD.cell 8
                    have z8:=kD.free 8
                    have y9:=kD.cell 9
                    have z9:=kD.free 9
                    have y10:=kD.cell 10
                    have z10:=kD.free 10
                    go_simp
                    obtain⟨wv10,hwv10⟩:∃ z,laid11 wv9 D (.string v0) (.string v1) (.string v2) (.string v3) (.string ⟨#[]⟩) (.string v5) (.string v6) (.string v7) (.string v8) (.slice none 0 0) (.slice none 0 0)=z:=⟨_,rfl⟩
                    have kD:=laid11_bk kD (.string v0) (.string v1) (.string v2) (.string v3) (.string ⟨#[]⟩) (.string v5) (.string v6) (.string v7) (.string v8) (.slice none 0 0) (.slice none 0 0)
                    have bN:=laid11_below bN hDW (.string v0) (.string v1) (.string v2) (.string v3) (.string ⟨#[]⟩) (.string v5) (.string v6) (.string v7) (.string v8) (.slice none 0 0) (.slice none 0 0)
                    refine hK.out _ _ ?_ (fun hHeld=>?_)
                    · exact⟨bN,HX0.out _ bN,HX1.out _ bN,HX2.out _ bN,HX3.out _ bN,HX5.out _ bN,HX6.out _ bN,HX7.out _ bN,HX8.out _ bN⟩
                    clear hK K
                    try simp only[Act.put,List.setIfInBounds_toArray,List.set_cons_zero,List.set_cons_succ]
                    refine wpAnyH_done (by kernel_rfl) ?_ _
                    refine hK0 _ _ (Met.intro (hJ0 _ _ ?_))
                    (repeat apply Exists.intro)
                    refine⟨?_,rfl⟩
                    exact⟨D,v0,v1,v2,v3,v5,v6,v7,v8,rfl,kD,L0,L1,L2,L3,L5,L6,L7,L8,bN,hDW⟩
                · go_simp
                  obtain⟨wv7,hwv7⟩:∃ z,World.alloc wv6 (.cells #[.string ⟨#[]⟩,.string ⟨#[]⟩,.string ⟨#[]⟩,.string ⟨#[]⟩,.string ⟨#[]⟩,.string ⟨#[]⟩,.string ⟨#[]⟩,.string ⟨#[]⟩,.string ⟨#[]⟩,.slice none 0 0,.slice none 0 0] 25)=z:=⟨_,rfl⟩
                  obtain⟨D,hD⟩:∃ D,wv6.heap.size=D:=⟨_,rfl⟩
                  have kD:Bk wv7 D 25 #[.string ⟨#[]⟩,.string ⟨#[]⟩,.string ⟨#[]⟩,.string ⟨#[]⟩,.string ⟨#[]⟩,.string ⟨#[]⟩,.string ⟨#[]⟩,.string ⟨#[]⟩,.string ⟨#[]⟩,.slice none 0 0,.slice none 0 0]:=by rw[← hwv7,← hD];exact Bk.new _ _ _
                  have hDW:W2.heap.size≤D:=by rw[← hD];exact bN.size
                  have bN:=bN.alloc bN.size (.cells #[.string ⟨#[]⟩,.string ⟨#[]⟩,.string ⟨#[]⟩,.string ⟨#[]⟩,.string ⟨#[]⟩,.string ⟨#[]⟩,.string ⟨#[]⟩,.string ⟨#[]⟩,.string ⟨#[]⟩,.slice none 0 0,.slice none 0 0] 25)
                  rw[hwv7] at bN 
                  (try rw[hwv7])
                  (try rw[hD])
                  clear hwv7 hD
                  refine hK.out _ _ ?_ (fun hHeld=>?_)
                  · exact⟨bN,HX0.out _ bN,HX1.out _ bN,HX2.out _ bN,HX3.out _ bN,HX5.out _ bN,HX6.out _ bN,HX7.out _ bN,HX8.out _ bN⟩
                  clear hK K
                  try simp only[Act.put,List.setIfInBounds_toArray,List.set_cons_zero,List.set_cons_succ]
                  refine wpAnyH_ready (rs:=[20]) (by kernel_rfl) (by simp) ?_
                  refine AllReadyH.cons (i:=20) rfl (fun K hK=>?_) AllReadyH.nil
                  go_simp
                  refine(HL7.out wv7).mono ?_
                  rintro e wv8 ⟨⟨v7,rfl,-,-,-,hl⟩,bC⟩
                  have L7:=Lib.hid (hl (by decide))
                  have kD:=kD.below bC kD.lt
                  have bN:=bN.trans (bC.mono bN.size)
                  clear hl bC
                  go_wp2_with fail
                  refine hK.out _ _ ?_ (fun hHeld=>?_)
                  · exact⟨bN,HX0.out _ bN,HX1.out _ bN,HX2.out _ bN,HX3.out _ bN,HX5.out _ bN,HX6.out _ bN,HX7.out _ bN,HX8.out _ bN⟩
                  clear hK K
                  try simp only[Act.put,List.setIfInBounds_toArray,List.set_cons_zero,List.set_cons_succ]
                  refine wpAnyH_ready (rs:=[23]) (by kernel_rfl) (by simp) ?_
                  refine AllReadyH.cons (i:=23) rfl (fun K hK=>?_) AllReadyH.nil
                  go_simp
                  refine(HL8.out wv8).mono ?_
                  rintro e wv9 ⟨⟨v8,rfl,-,-,-,hl⟩,bC⟩
                  have L8:=Lib.hid (hl (by decide))
                  have kD:=kD.below bC kD.lt
                  have bN:=bN.trans (bC.mono bN.size)
                  clear hl bC
                  go_wp2_with fail
                  refine hK.out _ _ ?_ (fun hHeld=>?_)
                  · exact⟨bN,HX0.out _ bN,HX1.out _ bN,HX2.out _ bN,HX3.out _ bN,HX5.out _ bN,HX6.out _ bN,HX7.out _ bN,HX8.out _ bN⟩
                  clear hK K
                  try simp only[Act.put,List.setIfInBounds_toArray,List.set_cons_zero,List.set_cons_succ]
                  refine take_w 24 (some 30) ?v19 rfl rfl (by kernel_rfl) (by kernel_rfl) (by kernel_rfl) (by rfl) ?y19 (fun _ _ _ h=>h) (by assumption) ?n19
                  case y19 =>
                    intro w hSw
                    try dsimp only at hSw
                    go_simp
                    try with_reducible rfl
                  try simp only[Act.put,List.setIfInBounds_toArray,List.set_cons_zero,List.set_cons_succ]
                  refine wpAnyH_ready (rs:=[26]) (by kernel_rfl) (by simp) ?_
                  refine AllReadyH.cons (i:=26) rfl (fun K hK=>?_) AllReadyH.nil
                  go_simp
                  have y0:=kD.cell 0
                  have z0:=kD.free 0
                  have y1:=kD.cell 1
                  have z1:=kD.free 1
                  have y2:=kD.cell 2
                  have z2:=kD.free 2
                  have y3:=kD.cell 3
                  have z3:=kD.free 3
                  have y4:=kD.cell 4
                  have z4:=kD.free 4
                  have y5:=kD.cell 5
                  have z5:=kD.free 5
                  have y6:=kD.cell 6
                  have z6:=kD.free 6
                  have y7:=kD.cell 7
                  have z7:=kD.free 7
                  have y8:=kD.cell 8
                  have z8:=kD.free 8
                  have y9:=kD.cell 9
                  have z9:=kD.free 9
                  have y10:=kD.cell 10
                  have z10:=kD.free 10
                  go_simp
                  obtain⟨wv10,hwv10⟩:∃ z,laid11 wv9 D (.string v0) (.string v1) (.string v2) (.string v3) (.string ⟨#[]⟩) (.string v5) (.string v6) (.string v7) (.string v8) (.slice none 0 0) (.slice none 0 0)=z:=⟨_,rfl⟩
                  have kD:=laid11_bk kD (.string v0) (.string v1) (.string v2) (.string v3) (.string ⟨#[]⟩) (.string v5) (.string v6) (.string v7) (.string v8) (.slice none 0 0) (.slice none 0 0)
                  have bN:=laid11_below bN hDW (.string v0) (.string v1) (.string v2) (.string v3) (.string ⟨#[]⟩) (.string v5) (.string v6) (.string v7) (.string v8) (.slice none 0 0) (.slice none 0 0)
                  refine hK.out _ _ ?_ (fun hHeld=>?_)
                  · exact⟨bN,HX0.out _ bN,HX1.out _ bN,HX2.out _ bN,HX3.out _ bN,HX5.out _ bN,HX6.out _ bN,HX7.out _ bN,HX8.out _ bN⟩
                  clear hK K
                  try simp only[Act.put,List.setIfInBounds_toArray,List.set_cons_zero,List.set_cons_succ]
                  refine wpAnyH_done (by kernel_rfl) ?_ _
                  refine hK0 _ _ (Met.intro (hJ0 _ _ ?_))
                  (repeat apply Exists.intro)
                  refine⟨?_,rfl⟩
                  exact⟨D,v0,v1,v2,v3,v5,v6,v7,v8,rfl,kD,L0,L1,L2,L3,L5,L6,L7,L8,bN,hDW⟩
              · go_simp
                obtain⟨wv6,hwv6⟩:∃ z,World.alloc wv5 (.cells #[.string ⟨#[]⟩,.string ⟨#[]⟩,.string ⟨#[]⟩,.string ⟨#[]⟩,.string ⟨#[]⟩,.string ⟨#[]⟩,.string ⟨#[]⟩,.string ⟨#[]⟩,.string ⟨#[]⟩,.slice none 0 0,.slice none 0 0] 25)=z:=⟨_,rfl⟩
                obtain⟨D,hD⟩:∃ D,wv5.heap.size=D:=⟨_,rfl⟩
                have kD:Bk wv6 D 25 #[.string ⟨#[]⟩,.string ⟨#[]⟩,.string ⟨#[]⟩,.string ⟨#[]⟩,.string ⟨#[]⟩,.string ⟨#[]⟩,.string ⟨#[]⟩,.string ⟨#[]⟩,.string ⟨#[]⟩,.slice none 0 0,.slice none 0 0]:=by rw[← hwv6,← hD];exact Bk.new _ _ _
                have hDW:W2.heap.size≤D:=by rw[← hD];exact bN.size
                have bN:=bN.alloc bN.size (.cells #[.string ⟨#[]⟩,.string ⟨#[]⟩,.string ⟨#[]⟩,.string ⟨#[]⟩,.string ⟨#[]⟩,.string ⟨#[]⟩,.string ⟨#[]⟩,.string ⟨#[]⟩,.string ⟨#[]⟩,.slice none 0 0,.slice none 0 0] 25)
                rw[hwv6] at bN 
                (try rw[hwv6])
                (try rw[hD])
                clear hwv6 hD
                refine hK.out _ _ ?_ (fun hHeld=>?_)
                · exact⟨bN,HX0.out _ bN,HX1.out _ bN,HX2.out _ bN,HX3.out _ bN,HX5.out _ bN,HX6.out _ bN,HX7.out _ bN,HX8.out _ bN⟩
                clear hK K
                try simp only[Act.put,List.setIfInBounds_toArray,List.set_cons_zero,List.set_cons_succ]
                refine wpAnyH_ready (rs:=[17]) (by kernel_rfl) (by simp) ?_
                refine AllReadyH.cons (i:=17) rfl (fun K hK=>?_) AllReadyH.nil
                go_simp
                refine(HL6.out wv6).mono ?_
                rintro e wv7 ⟨⟨v6,rfl,-,-,-,hl⟩,bC⟩
                have L6:=Lib.hid (hl (by decide))
                have kD:=kD.below bC kD.lt
                have bN:=bN.trans (bC.mono bN.size)
                clear hl bC
                go_wp2_with fail
                refine hK.out _ _ ?_ (fun hHeld=>?_)
                · exact⟨bN,HX0.out _ bN,HX1.out _ bN,HX2.out _ bN,HX3.out _ bN,HX5.out _ bN,HX6.out _ bN,HX7.out _ bN,HX8.out _ bN⟩
                clear hK K
                try simp only[Act.put,List.setIfInBounds_toArray,List.set_cons_zero,List.set_cons_succ]
                refine wpAnyH_ready (rs:=[20]) (by kernel_rfl) (by simp) ?_
                refine AllReadyH.cons (i:=20) rfl (fun K hK=>?_) AllReadyH.nil
                go_simp
                refine(HL7.out wv7).mono ?_
                rintro e wv8 ⟨⟨v7,rfl,-,-,-,hl⟩,bC⟩
                have L7:=Lib.hid (hl (by decide))
                have kD:=kD.below bC kD.lt
                have bN:=bN.trans (bC.mono bN.size)
                clear hl bC
                go_wp2_with fail
                refine hK.out _ _ ?_ (fun hHeld=>?_)
                · exact⟨bN,HX0.out _ bN,HX1.out _ bN,HX2.out _ bN,HX3.out _ bN,HX5.out _ bN,HX6.out _ bN,HX7.out _ bN,HX8.out _ bN⟩
                clear hK K
                try simp only[Act.put,List.setIfInBounds_toArray,List.set_cons_zero,List.set_cons_succ]
                refine wpAnyH_ready (rs:=[23]) (by kernel_rfl) (by simp) ?_
                refine AllReadyH.cons (i:=23) rfl (fun K hK=>?_) AllReadyH.nil
                go_simp
                refine(HL8.out wv8).mono ?_
                rintro e wv9 ⟨⟨v8,rfl,-,-,-,hl⟩,bC⟩
                have L8:=Lib.hid (hl (by decide))
                have kD:=kD.below bC kD.lt
                have bN:=bN.trans (bC.mono bN.size)
                clear hl bC
                go_wp2_with fail
                refine hK.out _ _ ?_ (fun hHeld=>?_)
                · exact⟨bN,HX0.out _ bN,HX1.out _ bN,HX2.out _ bN,HX3.out _ bN,HX5.out _ bN,HX6.out _ bN,HX7.out _ bN,HX8.out _ bN⟩
                clear hK K
                try simp only[Act.put,List.setIfInBounds_toArray,List.set_cons_zero,List.set_cons_succ]
                refine take_w 24 (some 30) ?v20 rfl rfl (by kernel_rfl) (by kernel_rfl) (by kernel_rfl) (by rfl) ?y20 (fun _ _ _ h=>h) (by assumption) ?n20
                case y20 =>
                  intro w hSw
                  try dsimp only at hSw
                  go_simp
                  try with_reducible rfl
                try simp only[Act.put,List.setIfInBounds_toArray,List.set_cons_zero,List.set_cons_succ]
                refine wpAnyH_ready (rs:=[26]) (by kernel_rfl) (by simp) ?_
                refine AllReadyH.cons (i:=26) rfl (fun K hK=>?_) AllReadyH.nil
                go_simp
                have y0:=kD.cell 0
                have z0:=kD.free 0
                have y1:=kD.cell 1
                have z1:=kD.free 1
                have y2:=kD.cell 2
                have z2:=kD.free 2
                have y3:=kD.cell 3
                have z3:=kD.free 3
                have y4:=kD.cell 4
                have z4:=kD.free 4
                have y5:=kD.cell 5
                have z5:=kD.free 5
                have y6:=kD.cell 6
                have z6:=kD.free 6
                have y7:=kD.cell 7
                have z7:=kD.free 7
                have y8:=kD.cell 8
                have z8:=kD.free 8
                have y9:=kD.cell 9
                have z9:=kD.free 9
                have y10:=kD.cell 10
                have z10:=kD.free 10
                go_simp
                obtain⟨wv10,hwv10⟩:∃ z,laid11 wv9 D (.string v0) (.string v1) (.string v2) (.string v3) (.string ⟨#[]⟩) (.string v5) (.string v6) (.string v7) (.string v8) (.slice none 0 0) (.slice none 0 0)=z:=⟨_,rfl⟩
                have kD:=laid11_bk kD (.string v0) (.string v1) (.string v2) (.string v3) (.string ⟨#[]⟩) (.string v5) (.string v6) (.string v7) (.string v8) (.slice none 0 0) (.slice none 0 0)
                have bN:=laid11_below bN hDW (.string v0) (.string v1) (.string v2) (.string v3) (.string ⟨#[]⟩) (.string v5) (.string v6) (.string v7) (.string v8) (.slice none 0 0) (.slice none 0 0)
                refine hK.out _ _ ?_ (fun hHeld=>?_)
                · exact⟨bN,HX0.out _ bN,HX1.out _ bN,HX2.out _ bN,HX3.out _ bN,HX5.out _ bN,HX6.out _ bN,HX7.out _ bN,HX8.out _ bN⟩
                clear hK K
                try simp only[Act.put,List.setIfInBounds_toArray,List.set_cons_zero,List.set_cons_succ]
                refine wpAnyH_done (by kernel_rfl) ?_ _
                refine hK0 _ _ (Met.intro (hJ0 _ _ ?_))
                (repeat apply Exists.intro)
                refine⟨?_,rfl⟩
                exact⟨D,v0,v1,v2,v3,v5,v6,v7,v8,rfl,kD,L0,L1,L2,L3,L5,L6,L7,L8,bN,hDW⟩
            · go_simp
              obtain⟨wv5,hwv5⟩:∃ z,World.alloc wv4 (.cells #[.string ⟨#[]⟩,.string ⟨#[]⟩,.string ⟨#[]⟩,.string ⟨#[]⟩,.string ⟨#[]⟩,.string ⟨#[]⟩,.string ⟨#[]⟩,.string ⟨#[]⟩,.string ⟨#[]⟩,.slice none 0 0,.slice none 0 0] 25)=z:=⟨_,rfl⟩
              obtain⟨D,hD⟩:∃ D,wv4.heap.size=D:=⟨_,rfl⟩
              have kD:Bk wv5 D 25 #[.string ⟨#[]⟩,.string ⟨#[]⟩,.string ⟨#[]⟩,.string ⟨#[]⟩,.string ⟨#[]⟩,.string ⟨#[]⟩,.string ⟨#[]⟩,.string ⟨#[]⟩,.string ⟨#[]⟩,.slice none 0 0,.slice none 0 0]:=by rw[← hwv5,← hD];exact Bk.new _ _ _
              have hDW:W2.heap.size≤D:=by rw[← hD];exact bN.size
              have bN:=bN.alloc bN.size (.cells #[.string ⟨#[]⟩,.string ⟨#[]⟩,.string ⟨#[]⟩,.string ⟨#[]⟩,.string ⟨#[]⟩,.string ⟨#[]⟩,.string ⟨#[]⟩,.string ⟨#[]⟩,.string ⟨#[]⟩,.slice none 0 0,.slice none 0 0] 25)
              rw[hwv5] at bN 
              (try rw[hwv5])
              (try rw[hD])
              clear hwv5 hD
              refine hK.out _ _ ?_ (fun hHeld=>?_)
              · exact⟨bN,HX0.out _ bN,HX1.out _ bN,HX2.out _ bN,HX3.out _ bN,HX5.out _ bN,HX6.out _ bN,HX7.out _ bN,HX8.out _ bN⟩
              clear hK K
              try simp only[Act.put,List.setIfInBounds_toArray,List.set_cons_zero,List.set_cons_succ]
              refine wpAnyH_ready (rs:=[14]) (by kernel_rfl) (by simp) ?_
              refine AllReadyH.cons (i:=14) rfl (fun K hK=>?_) AllReadyH.nil
              go_simp
              refine(HL5.out wv5).mono ?_
              rintro e wv6 ⟨⟨v5,rfl,-,-,-,hl⟩,bC⟩
              have L5:=Lib.hid (hl (by decide))
              have kD:=kD.below bC kD.lt
              have bN:=bN.trans (bC.mono bN.size)
              clear hl bC
              go_wp2_with fail
              refine hK.out _ _ ?_ (fun hHeld=>?_)
              · exact⟨bN,HX0.out _ bN,HX1.out _ bN,HX2.out _ bN,HX3.out _ bN,HX5.out _ bN,HX6.out _ bN,HX7.out _ bN,HX8.out _ bN⟩
              clear hK K
              try simp only[Act.put,List.setIfInBounds_toArray,List.set_cons_zero,List.set_cons_succ]
              refine wpAnyH_ready (rs:=[17]) (by kernel_rfl) (by simp) ?_
              refine AllReadyH.cons (i:=17) rfl (fun K hK=>?_) AllReadyH.nil
              go_simp
              refine(HL6.out wv6).mono ?_
              rintro e wv7 ⟨⟨v6,rfl,-,-,-,hl⟩,bC⟩
              have L6:=Lib.hid (hl (by decide))
              have kD:=kD.below bC kD.lt
              have bN:=bN.trans (bC.mono bN.size)
              clear hl bC
              go_wp2_with fail
              refine hK.out _ _ ?_ (fun hHeld=>?_)
              · exact⟨bN,HX0.out _ bN,HX1.out _ bN,HX2.out _ bN,HX3.out _ bN,HX5.out _ bN,HX6.out _ bN,HX7.out _ bN,HX8.out _ bN⟩
              clear hK K
              try simp only[Act.put,List.setIfInBounds_toArray,List.set_cons_zero,List.set_cons_succ]
              refine wpAnyH_ready (rs:=[20]) (by kernel_rfl) (by simp) ?_
              refine AllReadyH.cons (i:=20) rfl (fun K hK=>?_) AllReadyH.nil
              go_simp
              refine(HL7.out wv7).mono ?_
              rintro e wv8 ⟨⟨v7,rfl,-,-,-,hl⟩,bC⟩
              have L7:=Lib.hid (hl (by decide))
              have kD:=kD.below bC kD.lt
              have bN:=bN.trans (bC.mono bN.size)
              clear hl bC
              go_wp2_with fail
              refine hK.out _ _ ?_ (fun hHeld=>?_)
              · exact⟨bN,HX0.out _ bN,HX1.out _ bN,HX2.out _ bN,HX3.out _ bN,HX5.out _ bN,HX6.out _ bN,HX7.out _ bN,HX8.out _ bN⟩
              clear hK K
              try simp only[Act.put,List.setIfInBounds_toArray,List.set_cons_zero,List.set_cons_succ]
              refine wpAnyH_ready (rs:=[23]) (by kernel_rfl) (by simp) ?_
              refine AllReadyH.cons (i:=23) rfl (fun K hK=>?_) AllReadyH.nil
              go_simp
              refine(HL8.out wv8).mono ?_
              rintro e wv9 ⟨⟨v8,rfl,-,-,-,hl⟩,bC⟩
              have L8:=Lib.hid (hl (by decide))
              have kD:=kD.below bC kD.lt
              have bN:=bN.trans (bC.mono bN.size)
              clear hl bC
              go_wp2_with fail
              refine hK.out _ _ ?_ (fun hHeld=>?_)
              · exact⟨bN,HX0.out _ bN,HX1.out _ bN,HX2.out _ bN,HX3.out _ bN,HX5.out _ bN,HX6.out _ bN,HX7.out _ bN,HX8.out _ bN⟩
              clear hK K
              try simp only[Act.put,List.setIfInBounds_toArray,List.set_cons_zero,List.set_cons_succ]
              refine take_w 24 (some 30) ?v21 rfl rfl (by kernel_rfl) (by kernel_rfl) (by kernel_rfl) (by rfl) ?y21 (fun _ _ _ h=>h) (by assumption) ?n21
              case y21 =>
                intro w hSw
                try dsimp only at hSw
                go_simp
                try with_reducible rfl
              try simp only[Act.put,List.setIfInBounds_toArray,List.set_cons_zero,List.set_cons_succ]
              refine wpAnyH_ready (rs:=[26]) (by kernel_rfl) (by simp) ?_
              refine AllReadyH.cons (i:=26) rfl (fun K hK=>?_) AllReadyH.nil
              go_simp
              have y0:=kD.cell 0
              have z0:=kD.free 0
              have y1:=kD.cell 1
              have z1:=kD.free 1
              have y2:=kD.cell 2
              have z2:=kD.free 2
              have y3:=kD.cell 3
              have z3:=kD.free 3
              have y4:=kD.cell 4
              have z4:=kD.free 4
              have y5:=kD.cell 5
              have z5:=kD.free 5
              have y6:=kD.cell 6
              have z6:=kD.free 6
              have y7:=kD.cell 7
              have z7:=kD.free 7
              have y8:=kD.cell 8
              have z8:=kD.free 8
              have y9:=kD.cell 9
              have z9:=kD.free 9
              have y10:=kD.cell 10
              have z10:=kD.free 10
              go_simp
              obtain⟨wv10,hwv10⟩:∃ z,laid11 wv9 D (.string v0) (.string v1) (.string v2) (.string v3) (.string ⟨#[]⟩) (.string v5) (.string v6) (.string v7) (.string v8) (.slice none 0 0) (.slice none 0 0)=z:=⟨_,rfl⟩
              have kD:=laid11_bk kD (.string v0) (.string v1) (.string v2) (.string v3) (.string ⟨#[]⟩) (.string v5) (.string v6) (.string v7) (.string v8) (.slice none 0 0) (.slice none 0 0)
              have bN:=laid11_below bN hDW (.string v0) (.string v1) (.string v2) (.string v3) (.string ⟨#[]⟩) (.string v5) (.string v6) (.string v7) (.string v8) (.slice none 0 0) (.slice none 0 0)
              refine hK.out _ _ ?_ (fun hHeld=>?_)
              · exact⟨bN,HX0.out _ bN,HX1.out _ bN,HX2.out _ bN,HX3.out _ bN,HX5.out _ bN,HX6.out _ bN,HX7.out _ bN,HX8.out _ bN⟩
              clear hK K
              try simp only[Act.put,List.setIfInBounds_toArray,List.set_cons_zero,List.set_cons_succ]
              refine wpAnyH_done (by kernel_rfl) ?_ _
              refine hK0 _ _ (Met.intro (hJ0 _ _ ?_))
              (repeat apply Exists.intro)
              refine⟨?_,rfl⟩
              exact⟨D,v0,v1,v2,v3,v5,v6,v7,v8,rfl,kD,L0,L1,L2,L3,L5,L6,L7,L8,bN,hDW⟩
          · go_simp
            obtain⟨wv4,hwv4⟩:∃ z,World.alloc wv3 (.cells #[.string ⟨#[]⟩,.string ⟨#[]⟩,.string ⟨#[]⟩,.string ⟨#[]⟩,.string ⟨#[]⟩,.string ⟨#[]⟩,.string ⟨#[]⟩,.string ⟨#[]⟩,.string ⟨#[]⟩,.slice none 0 0,.slice none 0 0] 25)=z:=⟨_,rfl⟩
            obtain⟨D,hD⟩:∃ D,wv3.heap.size=D:=⟨_,rfl⟩
            have kD:Bk wv4 D 25 #[.string ⟨#[]⟩,.string ⟨#[]⟩,.string ⟨#[]⟩,.string ⟨#[]⟩,.string ⟨#[]⟩,.string ⟨#[]⟩,.string ⟨#[]⟩,.string ⟨#[]⟩,.string ⟨#[]⟩,.slice none 0 0,.slice none 0 0]:=by rw[← hwv4,← hD];exact Bk.new _ _ _
            have hDW:W2.heap.size≤D:=by rw[← hD];exact bN.size
            have bN:=bN.alloc bN.size (.cells #[.string ⟨#[]⟩,.string ⟨#[]⟩,.string ⟨#[]⟩,.string ⟨#[]⟩,.string ⟨#[]⟩,.string ⟨#[]⟩,.string ⟨#[]⟩,.string ⟨#[]⟩,.string ⟨#[]⟩,.slice none 0 0,.slice none 0 0] 25)
            rw[hwv4] at bN 
            (try rw[hwv4])
            (try rw[hD])
            clear hwv4 hD
            refine hK.out _ _ ?_ (fun hHeld=>?_)
            · exact⟨bN,HX0.out _ bN,HX1.out _ bN,HX2.out _ bN,HX3.out _ bN,HX5.out _ bN,HX6.out _ bN,HX7.out _ bN,HX8.out _ bN⟩
            clear hK K
            try simp only[Act.put,List.setIfInBounds_toArray,List.set_cons_zero,List.set_cons_succ]
            refine wpAnyH_ready (rs:=[11]) (by kernel_rfl) (by simp) ?_
            refine AllReadyH.cons (i:=11) rfl (fun K hK=>?_) AllReadyH.nil
            go_simp
            refine(HL3.out wv4).mono ?_
            rintro e wv5 ⟨⟨v3,rfl,-,-,-,hl⟩,bC⟩
            have L3:=Lib.hid (hl (by decide))
            have kD:=kD.below bC kD.lt
            have bN:=bN.trans (bC.mono bN.size)
            clear hl bC
            go_wp2_with fail
            refine hK.out _ _ ?_ (fun hHeld=>?_)
            · exact⟨bN,HX0.out _ bN,HX1.out _ bN,HX2.out _ bN,HX3.out _ bN,HX5.out _ bN,HX6.out _ bN,HX7.out _ bN,HX8.out _ bN⟩
            clear hK K
            try simp only[Act.put,List.setIfInBounds_toArray,List.set_cons_zero,List.set_cons_succ]
            refine wpAnyH_ready (rs:=[14]) (by kernel_rfl) (by simp) ?_
            refine AllReadyH.cons (i:=14) rfl (fun K hK=>?_) AllReadyH.nil
            go_simp
            refine(HL5.out wv5).mono ?_
            rintro e wv6 ⟨⟨v5,rfl,-,-,-,hl⟩,bC⟩
            have L5:=Lib.hid (hl (by decide))
            have kD:=kD.below bC kD.lt
            have bN:=bN.trans (bC.mono bN.size)
            clear hl bC
            go_wp2_with fail
            refine hK.out _ _ ?_ (fun hHeld=>?_)
            · exact⟨bN,HX0.out _ bN,HX1.out _ bN,HX2.out _ bN,HX3.out _ bN,HX5.out _ bN,HX6.out _ bN,HX7.out _ bN,HX8.out _ bN⟩
            clear hK K
            try simp only[Act.put,List.setIfInBounds_toArray,List.set_cons_zero,List.set_cons_succ]
            refine wpAnyH_ready (rs:=[17]) (by kernel_rfl) (by simp) ?_
            refine AllReadyH.cons (i:=17) rfl (fun K hK=>?_) AllReadyH.nil
            go_simp
            refine(HL6.out wv6).mono ?_
            rintro e wv7 ⟨⟨v6,rfl,-,-,-,hl⟩,bC⟩
            have L6:=Lib.hid (hl (by decide))
            have kD:=kD.below bC kD.lt
            have bN:=bN.trans (bC.mono bN.size)
            clear hl bC
            go_wp2_with fail
            refine hK.out _ _ ?_ (fun hHeld=>?_)
            · exact⟨bN,HX0.out _ bN,HX1.out _ bN,HX2.out _ bN,HX3.out _ bN,HX5.out _ bN,HX6.out _ bN,HX7.out _ bN,HX8.out _ bN⟩
            clear hK K
            try simp only[Act.put,List.setIfInBounds_toArray,List.set_cons_zero,List.set_cons_succ]
            refine wpAnyH_ready (rs:=[20]) (by kernel_rfl) (by simp) ?_
            refine AllReadyH.cons (i:=20) rfl (fun K hK=>?_) AllReadyH.nil
            go_simp
            refine(HL7.out wv7).mono ?_
            rintro e wv8 ⟨⟨v7,rfl,-,-,-,hl⟩,bC⟩
            have L7:=Lib.hid (hl (by decide))
            have kD:=kD.below bC kD.lt
            have bN:=bN.trans (bC.mono bN.size)
            clear hl bC
            go_wp2_with fail
            refine hK.out _ _ ?_ (fun hHeld=>?_)
            · exact⟨bN,HX0.out _ bN,HX1.out _ bN,HX2.out _ bN,HX3.out _ bN,HX5.out _ bN,HX6.out _ bN,HX7.out _ bN,HX8.out _ bN⟩
            clear hK K
            try simp only[Act.put,List.setIfInBounds_toArray,List.set_cons_zero,List.set_cons_succ]
            refine wpAnyH_ready (rs:=[23]) (by kernel_rfl) (by simp) ?_
            refine AllReadyH.cons (i:=23) rfl (fun K hK=>?_) AllReadyH.nil
            go_simp
            refine(HL8.out wv8).mono ?_
            rintro e wv9 ⟨⟨v8,rfl,-,-,-,hl⟩,bC⟩
            have L8:=Lib.hid (hl (by decide))
            have kD:=kD.below bC kD.lt
            have bN:=bN.trans (bC.mono bN.size)
            clear hl bC
            go_wp2_with fail
            refine hK.out _ _ ?_ (fun hHeld=>?_)
            · exact⟨bN,HX0.out _ bN,HX1.out _ bN,HX2.out _ bN,HX3.out _ bN,HX5.out _ bN,HX6.out _ bN,HX7.out _ bN,HX8.out _ bN⟩
            clear hK K
            try simp only[Act.put,List.setIfInBounds_toArray,List.set_cons_zero,List.set_cons_succ]
            refine take_w 24 (some 30) ?v22 rfl rfl (by kernel_rfl) (by kernel_rfl) (by kernel_rfl) (by rfl) ?y22 (fun _ _ _ h=>h) (by assumption) ?n22
            case y22 =>
              intro w hSw
              try dsimp only at hSw
              go_simp
              try with_reducible rfl
            try simp only[Act.put,List.setIfInBounds_toArray,List.set_cons_zero,List.set_cons_succ]
            refine wpAnyH_ready (rs:=[26]) (by kernel_rfl) (by simp) ?_
            refine AllReadyH.cons (i:=26) rfl (fun K hK=>?_) AllReadyH.nil
            go_simp
            have y0:=kD.cell 0
            have z0:=kD.free 0
            have y1:=kD.cell 1
            have z1:=kD.free 1
            have y2:=kD.cell 2
            have z2:=kD.free 2
            have y3:=kD.cell 3
            have z3:=kD.free 3
            have y4:=kD.cell 4
            have z4:=kD.free 4
            have y5:=kD.cell 5
            have z5:=kD.free 5
            have y6:=kD.cell 6
            have z6:=kD.free 6
            have y7:=kD.cell 7
            have z7:=kD.free 7
            have y8:=kD.cell 8
            have z8:=kD.free 8
            have y9:=kD.cell 9
            have z9:=kD.free 9
            have y10:=kD.cell 10
            have z10:=kD.free 10
            go_simp
            obtain⟨wv10,hwv10⟩:∃ z,laid11 wv9 D (.string v0) (.string v1) (.string v2) (.string v3) (.string ⟨#[]⟩) (.string v5) (.string v6) (.string v7) (.string v8) (.slice none 0 0) (.slice none 0 0)=z:=⟨_,rfl⟩
            have kD:=laid11_bk kD (.string v0) (.string v1) (.string v2) (.string v3) (.string ⟨#[]⟩) (.string v5) (.string v6) (.string v7) (.string v8) (.slice none 0 0) (.slice none 0 0)
            have bN:=laid11_below bN hDW (.string v0) (.string v1) (.string v2) (.string v3) (.string ⟨#[]⟩) (.string v5) (.string v6) (.string v7) (.string v8) (.slice none 0 0) (.slice none 0 0)
            refine hK.out _ _ ?_ (fun hHeld=>?_)
            · exact⟨bN,HX0.out _ bN,HX1.out _ bN,HX2.out _ bN,HX3.out _ bN,HX5.out _ bN,HX6.out _ bN,HX7.out _ bN,HX8.out _ bN⟩
            clear hK K
            try simp only[Act.put,List.setIfInBounds_toArray,List.set_cons_zero,List.set_cons_succ]
            refine wpAnyH_done (by kernel_rfl) ?_ _
            refine hK0 _ _ (Met.intro (hJ0 _ _ ?_))
            (repeat apply Exists.intro)
            refine⟨?_,rfl⟩
            exact⟨D,v0,v1,v2,v3,v5,v6,v7,v8,rfl,kD,L0,L1,L2,L3,L5,L6,L7,L8,bN,hDW⟩
        · go_simp
          obtain⟨wv3,hwv3⟩:∃ z,World.alloc wv2 (.cells #[.string ⟨#[]⟩,.string ⟨#[]⟩,.string ⟨#[]⟩,.string ⟨#[]⟩,.string ⟨#[]⟩,.string ⟨#[]⟩,.string ⟨#[]⟩,.string ⟨#[]⟩,.string ⟨#[]⟩,.slice none 0 0,.slice none 0 0] 25)=z:=⟨_,rfl⟩
          obtain⟨D,hD⟩:∃ D,wv2.heap.size=D:=⟨_,rfl⟩
          have kD:Bk wv3 D 25 #[.string ⟨#[]⟩,.string ⟨#[]⟩,.string ⟨#[]⟩,.string ⟨#[]⟩,.string ⟨#[]⟩,.string ⟨#[]⟩,.string ⟨#[]⟩,.string ⟨#[]⟩,.string ⟨#[]⟩,.slice none 0 0,.slice none 0 0]:=by rw[← hwv3,← hD];exact Bk.new _ _ _
          have hDW:W2.heap.size≤D:=by rw[← hD];exact bN.size
          have bN:=bN.alloc bN.size (.cells #[.string ⟨#[]⟩,.string ⟨#[]⟩,.string ⟨#[]⟩,.string ⟨#[]⟩,.string ⟨#[]⟩,.string ⟨#[]⟩,.string ⟨#[]⟩,.string ⟨#[]⟩,.string ⟨#[]⟩,.slice none 0 0,.slice none 0 0] 25)
          rw[hwv3] at bN 
          (try rw[hwv3])
          (try rw[hD])
          clear hwv3 hD
          refine hK.out _ _ ?_ (fun hHeld=>?_)
          · exact⟨bN,HX0.out _ bN,HX1.out _ bN,HX2.out _ bN,HX3.out _ bN,HX5.out _ bN,HX6.out _ bN,HX7.out _ bN,HX8.out _ bN⟩
          clear hK K
          try simp only[Act.put,List.setIfInBounds_toArray,List.set_cons_zero,List.set_cons_succ]
          refine wpAnyH_ready (rs:=[8]) (by kernel_rfl) (by simp) ?_
          refine AllReadyH.cons (i:=8) rfl (fun K hK=>?_) AllReadyH.nil
          go_simp
          refine(HL2.out wv3).mono ?_
          rintro e wv4 ⟨⟨v2,rfl,-,-,-,hl⟩,bC⟩
          have L2:=Lib.hid (hl (by decide))
          have kD:=kD.below bC kD.lt
          have bN:=bN.trans (bC.mono bN.size)
          clear hl bC
          go_wp2_with fail
          refine hK.out _ _ ?_ (fun hHeld=>?_)
          · exact⟨bN,HX0.out _ bN,HX1.out _ bN,HX2.out _ bN,HX3.out _ bN,HX5.out _ bN,HX6.out _ bN,HX7.out _ bN,HX8.out _ bN⟩
          clear hK K
          try simp only[Act.put,List.setIfInBounds_toArray,List.set_cons_zero,List.set_cons_succ]
          refine wpAnyH_ready (rs:=[11]) (by kernel_rfl) (by simp) ?_
          refine AllReadyH.cons (i:=11) rfl (fun K hK=>?_) AllReadyH.nil
          go_simp
          refine(HL3.out wv4).mono ?_
          rintro e wv5 ⟨⟨v3,rfl,-,-,-,hl⟩,bC⟩
          have L3:=Lib.hid (hl (by decide))
          have kD:=kD.below bC kD.lt
          have bN:=bN.trans (bC.mono bN.size)
          clear hl bC
          go_wp2_with fail
          refine hK.out _ _ ?_ (fun hHeld=>?_)
          · exact⟨bN,HX0.out _ bN,HX1.out _ bN,HX2.out _ bN,HX3.out _ bN,HX5.out _ bN,HX6.out _ bN,HX7.out _ bN,HX8.out _ bN⟩
          clear hK K
          try simp only[Act.put,List.setIfInBounds_toArray,List.set_cons_zero,List.set_cons_succ]
          refine wpAnyH_ready (rs:=[14]) (by kernel_rfl) (by simp) ?_
          refine AllReadyH.cons (i:=14) rfl (fun K hK=>?_) AllReadyH.nil
          go_simp
          refine(HL5.out wv5).mono ?_
          rintro e wv6 ⟨⟨v5,rfl,-,-,-,hl⟩,bC⟩
          have L5:=Lib.hid (hl (by decide))
          have kD:=kD.below bC kD.lt
          have bN:=bN.trans (bC.mono bN.size)
          clear hl bC
          go_wp2_with fail
          refine hK.out _ _ ?_ (fun hHeld=>?_)
          · exact⟨bN,HX0.out _ bN,HX1.out _ bN,HX2.out _ bN,HX3.out _ bN,HX5.out _ bN,HX6.out _ bN,HX7.out _ bN,HX8.out _ bN⟩
          clear hK K
          try simp only[Act.put,List.setIfInBounds_toArray,List.set_cons_zero,List.set_cons_succ]
          refine wpAnyH_ready (rs:=[17]) (by kernel_rfl) (by simp) ?_
          refine AllReadyH.cons (i:=17) rfl (fun K hK=>?_) AllReadyH.nil
          go_simp
          refine(HL6.out wv6).mono ?_
          rintro e wv7 ⟨⟨v6,rfl,-,-,-,hl⟩,bC⟩
          have L6:=Lib.hid (hl (by decide))
          have kD:=kD.below bC kD.lt
          have bN:=bN.trans (bC.mono bN.size)
          clear hl bC
          go_wp2_with fail
          refine hK.out _ _ ?_ (fun hHeld=>?_)
          · exact⟨bN,HX0.out _ bN,HX1.out _ bN,HX2.out _ bN,HX3.out _ bN,HX5.out _ bN,HX6.out _ bN,HX7.out _ bN,HX8.out _ bN⟩
          clear hK K
          try simp only[Act.put,List.setIfInBounds_toArray,List.set_cons_zero,List.set_cons_succ]
          refine wpAnyH_ready (rs:=[20]) (by kernel_rfl) (by simp) ?_
          refine AllReadyH.cons (i:=20) rfl (fun K hK=>?_) AllReadyH.nil
          go_simp
          refine(HL7.out wv7).mono ?_
          rintro e wv8 ⟨⟨v7,rfl,-,-,-,hl⟩,bC⟩
          have L7:=Lib.hid (hl (by decide))
          have kD:=kD.below bC kD.lt
          have bN:=bN.trans (bC.mono bN.size)
          clear hl bC
          go_wp2_with fail
          refine hK.out _ _ ?_ (fun hHeld=>?_)
          · exact⟨bN,HX0.out _ bN,HX1.out _ bN,HX2.out _ bN,HX3.out _ bN,HX5.out _ bN,HX6.out _ bN,HX7.out _ bN,HX8.out _ bN⟩
          clear hK K
          try simp only[Act.put,List.setIfInBounds_toArray,List.set_cons_zero,List.set_cons_succ]
          refine wpAnyH_ready (rs:=[23]) (by kernel_rfl) (by simp) ?_
          refine AllReadyH.cons (i:=23) rfl (fun K hK=>?_) AllReadyH.nil
          go_simp
          refine(HL8.out wv8).mono ?_
          rintro e wv9 ⟨⟨v8,rfl,-,-,-,hl⟩,bC⟩
          have L8:=Lib.hid (hl (by decide))
          have kD:=kD.below bC kD.lt
          have bN:=bN.trans (bC.mono bN.size)
          clear hl bC
          go_wp2_with fail
          refine hK.out _ _ ?_ (fun hHeld=>?_)
          · exact⟨bN,HX0.out _ bN,HX1.out _ bN,HX2.out _ bN,HX3.out _ bN,HX5.out _ bN,HX6.out _ bN,HX7.out _ bN,HX8.out _ bN⟩
          clear hK K
          try simp only[Act.put,List.setIfInBounds_toArray,List.set_cons_zero,List.set_cons_succ]
          refine take_w 24 (some 30) ?v23 rfl rfl (by kernel_rfl) (by kernel_rfl) (by kernel_rfl) (by rfl) ?y23 (fun _ _ _ h=>h) (by assumption) ?n23
          case y23 =>
            intro w hSw
            try dsimp only at hSw
            go_simp
            try with_reducible rfl
          try simp only[Act.put,List.setIfInBounds_toArray,List.set_cons_zero,List.set_cons_succ]
          refine wpAnyH_ready (rs:=[26]) (by kernel_rfl) (by simp) ?_
          refine AllReadyH.cons (i:=26) rfl (fun K hK=>?_) AllReadyH.nil
          go_simp
          have y0:=kD.cell 0
          have z0:=kD.free 0
          have y1:=kD.cell 1
          have z1:=kD.free 1
          have y2:=kD.cell 2
          have z2:=kD.free 2
          have y3:=kD.cell 3
          have z3:=kD.free 3
          have y4:=kD.cell 4
          have z4:=kD.free 4
          have y5:=kD.cell 5
          have z5:=kD.free 5
          have y6:=kD.cell 6
          have z6:=kD.free 6
          have y7:=kD.cell 7
          have z7:=kD.free 7
          have y8:=kD.cell 8
          have z8:=kD.free 8
          have y9:=kD.cell 9
          have z9:=kD.free 9
          have y10:=kD.cell 10
          have z10:=kD.free 10
          go_simp
          obtain⟨wv10,hwv10⟩:∃ z,laid11 wv9 D (.string v0) (.string v1) (.string v2) (.string v3) (.string ⟨#[]⟩) (.string v5) (.string v6) (.string v7) (.string v8) (.slice none 0 0) (.slice none 0 0)=z:=⟨_,rfl⟩
          have kD:=laid11_bk kD (.string v0) (.string v1) (.string v2) (.string v3) (.string ⟨#[]⟩) (.string v5) (.string v6) (.string v7) (.string v8) (.slice none 0 0) (.slice none 0 0)
          have bN:=laid11_below bN hDW (.string v0) (.string v1) (.string v2) (.string v3) (.string ⟨#[]⟩) (.string v5) (.string v6) (.string v7) (.string v8) (.slice none 0 0) (.slice none 0 0)
          refine hK.out _ _ ?_ (fun hHeld=>?_)
          · exact⟨bN,HX0.out _ bN,HX1.out _ bN,HX2.out _ bN,HX3.out _ bN,HX5.out _ bN,HX6.out _ bN,HX7.out _ bN,HX8.out _ bN⟩
          clear hK K
          try simp only[Act.put,List.setIfInBounds_toArray,List.set_cons_zero,List.set_cons_succ]
          refine wpAnyH_done (by kernel_rfl) ?_ _
          refine hK0 _ _ (Met.intro (hJ0 _ _ ?_))
          (repeat apply Exists.intro)
          refine⟨?_,rfl⟩
          exact⟨D,v0,v1,v2,v3,v5,v6,v7,v8,rfl,kD,L0,L1,L2,L3,L5,L6,L7,L8,bN,hDW⟩
      · go_simp
        obtain⟨wv2,hwv2⟩:∃ z,World.alloc wv1 (.cells #[.string ⟨#[]⟩,.string ⟨#[]⟩,.string ⟨#[]⟩,.string ⟨#[]⟩,.string ⟨#[]⟩,.string ⟨#[]⟩,.string ⟨#[]⟩,.string ⟨#[]⟩,.string ⟨#[]⟩,.slice none 0 0,.slice none 0 0] 25)=z:=⟨_,rfl⟩
        obtain⟨D,hD⟩:∃ D,wv1.heap.size=D:=⟨_,rfl⟩
        have kD:Bk wv2 D 25 #[.string ⟨#[]⟩,.string ⟨#[]⟩,.string ⟨#[]⟩,.string ⟨#[]⟩,.string ⟨#[]⟩,.string ⟨#[]⟩,.string ⟨#[]⟩,.string ⟨#[]⟩,.string ⟨#[]⟩,.slice none 0 0,.slice none 0 0]:=by rw[← hwv2,← hD];exact Bk.new _ _ _
        have hDW:W2.heap.size≤D:=by rw[← hD];exact bN.size
        have bN:=bN.alloc bN.size (.cells #[.string ⟨#[]⟩,.string ⟨#[]⟩,.string ⟨#[]⟩,.string ⟨#[]⟩,.string ⟨#[]⟩,.string ⟨#[]⟩,.string ⟨#[]⟩,.string ⟨#[]⟩,.string ⟨#[]⟩,.slice none 0 0,.slice none 0 0] 25)
        rw[hwv2] at bN 
        (try rw[hwv2])
        (try rw[hD])
        clear hwv2 hD
        refine hK.out _ _ ?_ (fun hHeld=>?_)
        · exact⟨bN,HX0.out _ bN,HX1.out _ bN,HX2.out _ bN,HX3.out _ bN,HX5.out _ bN,HX6.out _ bN,HX7.out _ bN,HX8.out _ bN⟩
        clear hK K
        try simp only[Act.put,List.setIfInBounds_toArray,List.set_cons_zero,List.set_cons_succ]
        refine wpAnyH_ready (rs:=[5]) (by kernel_rfl) (by simp) ?_
        refine AllReadyH.cons (i:=5) rfl (fun K hK=>?_) AllReadyH.nil
        go_simp
        refine(HL1.out wv2).mono ?_
        rintro e wv3 ⟨⟨v1,rfl,-,-,-,hl⟩,bC⟩
        have L1:=Lib.hid (hl (by decide))
        have kD:=kD.below bC kD.lt
        have bN:=bN.trans (bC.mono bN.size)
        clear hl bC
        go_wp2_with fail
        refine hK.out _ _ ?_ (fun hHeld=>?_)
        · exact⟨bN,HX0.out _ bN,HX1.out _ bN,HX2.out _ bN,HX3.out _ bN,HX5.out _ bN,HX6.out _ bN,HX7.out _ bN,HX8.out _ bN⟩
        clear hK K
        try simp only[Act.put,List.setIfInBounds_toArray,List.set_cons_zero,List.set_cons_succ]
        refine wpAnyH_ready (rs:=[8]) (by kernel_rfl) (by simp) ?_
        refine AllReadyH.cons (i:=8) rfl (fun K hK=>?_) AllReadyH.nil
        go_simp
        refine(HL2.out wv3).mono ?_
        rintro e wv4 ⟨⟨v2,rfl,-,-,-,hl⟩,bC⟩
        have L2:=Lib.hid (hl (by decide))
        have kD:=kD.below bC kD.lt
        have bN:=bN.trans (bC.mono bN.size)
        clear hl bC
        go_wp2_with fail
        refine hK.out _ _ ?_ (fun hHeld=>?_)
        · exact⟨bN,HX0.out _ bN,HX1.out _ bN,HX2.out _ bN,HX3.out _ bN,HX5.out _ bN,HX6.out _ bN,HX7.out _ bN,HX8.out _ bN⟩
        clear hK K
        try simp only[Act.put,List.setIfInBounds_toArray,List.set_cons_zero,List.set_cons_succ]
        refine wpAnyH_ready (rs:=[11]) (by kernel_rfl) (by simp) ?_
        refine AllReadyH.cons (i:=11) rfl (fun K hK=>?_) AllReadyH.nil
        go_simp
        refine(HL3.out wv4).mono ?_
        rintro e wv5 ⟨⟨v3,rfl,-,-,-,hl⟩,bC⟩
        have L3:=Lib.hid (hl (by decide))
        have kD:=kD.below bC kD.lt
        have bN:=bN.trans (bC.mono bN.size)
        clear hl bC
        go_wp2_with fail
        refine hK.out _ _ ?_ (fun hHeld=>?_)
        · exact⟨bN,HX0.out _ bN,HX1.out _ bN,HX2.out _ bN,HX3.out _ bN,HX5.out _ bN,HX6.out _ bN,HX7.out _ bN,HX8.out _ bN⟩
        clear hK K
        try simp only[Act.put,List.setIfInBounds_toArray,List.set_cons_zero,List.set_cons_succ]
        refine wpAnyH_ready (rs:=[14]) (by kernel_rfl) (by simp) ?_
        refine AllReadyH.cons (i:=14) rfl (fun K hK=>?_) AllReadyH.nil
        go_simp
        refine(HL5.out wv5).mono ?_
        rintro e wv6 ⟨⟨v5,rfl,-,-,-,hl⟩,bC⟩
        have L5:=Lib.hid (hl (by decide))
        have kD:=kD.below bC kD.lt
        have bN:=bN.trans (bC.mono bN.size)
        clear hl bC
        go_wp2_with fail
        refine hK.out _ _ ?_ (fun hHeld=>?_)
        · exact⟨bN,HX0.out _ bN,HX1.out _ bN,HX2.out _ bN,HX3.out _ bN,HX5.out _ bN,HX6.out _ bN,HX7.out _ bN,HX8.out _ bN⟩
        clear hK K
        try simp only[Act.put,List.setIfInBounds_toArray,List.set_cons_zero,List.set_cons_succ]
        refine wpAnyH_ready (rs:=[17]) (by kernel_rfl) (by simp) ?_
        refine AllReadyH.cons (i:=17) rfl (fun K hK=>?_) AllReadyH.nil
        go_simp
        refine(HL6.out wv6).mono ?_
        rintro e wv7 ⟨⟨v6,rfl,-,-,-,hl⟩,bC⟩
        have L6:=Lib.hid (hl (by decide))
        have kD:=kD.below bC kD.lt
        have bN:=bN.trans (bC.mono bN.size)
        clear hl bC
        go_wp2_with fail
        refine hK.out _ _ ?_ (fun hHeld=>?_)
        · exact⟨bN,HX0.out _ bN,HX1.out _ bN,HX2.out _ bN,HX3.out _ bN,HX5.out _ bN,HX6.out _ bN,HX7.out _ bN,HX8.out _ bN⟩
        clear hK K
        try simp only[Act.put,List.setIfInBounds_toArray,List.set_cons_zero,List.set_cons_succ]
        refine wpAnyH_ready (rs:=[20]) (by kernel_rfl) (by simp) ?_
        refine AllReadyH.cons (i:=20) rfl (fun K hK=>?_) AllReadyH.nil
        go_simp
        refine(HL7.out wv7).mono ?_
        rintro e wv8 ⟨⟨v7,rfl,-,-,-,hl⟩,bC⟩
        have L7:=Lib.hid (hl (by decide))
        have kD:=kD.below bC kD.lt
        have bN:=bN.trans (bC.mono bN.size)
        clear hl bC
        go_wp2_with fail
        refine hK.out _ _ ?_ (fun hHeld=>?_)
        · exact⟨bN,HX0.out _ bN,HX1.out _ bN,HX2.out _ bN,HX3.out _ bN,HX5.out _ bN,HX6.out _ bN,HX7.out _ bN,HX8.out _ bN⟩
        clear hK K
        try simp only[Act.put,List.setIfInBounds_toArray,List.set_cons_zero,List.set_cons_succ]
        refine wpAnyH_ready (rs:=[23]) (by kernel_rfl) (by simp) ?_
        refine AllReadyH.cons (i:=23) rfl (fun K hK=>?_) AllReadyH.nil
        go_simp
        refine(HL8.out wv8).mono ?_
        rintro e wv9 ⟨⟨v8,rfl,-,-,-,hl⟩,bC⟩
        have L8:=Lib.hid (hl (by decide))
        have kD:=kD.below bC kD.lt
        have bN:=bN.trans (bC.mono bN.size)
        clear hl bC
        go_wp2_with fail
        refine hK.out _ _ ?_ (fun hHeld=>?_)
        · exact⟨bN,HX0.out _ bN,HX1.out _ bN,HX2.out _ bN,HX3.out _ bN,HX5.out _ bN,HX6.out _ bN,HX7.out _ bN,HX8.out _ bN⟩
        clear hK K
        try simp only[Act.put,List.setIfInBounds_toArray,List.set_cons_zero,List.set_cons_succ]
        refine take_w 24 (some 30) ?v24 rfl rfl (by kernel_rfl) (by kernel_rfl) (by kernel_rfl) (by rfl) ?y24 (fun _ _ _ h=>h) (by assumption) ?n24
        case y24 =>
          intro w hSw
          try dsimp only at hSw
          go_simp
          try with_reducible rfl
        try simp only[Act.put,List.setIfInBounds_toArray,List.set_cons_zero,List.set_cons_succ]
        refine wpAnyH_ready (rs:=[26]) (by kernel_rfl) (by simp) ?_
        refine AllReadyH.cons (i:=26) rfl (fun K hK=>?_) AllReadyH.nil
        go_simp
        have y0:=kD.cell 0
        have z0:=kD.free 0
        have y1:=kD.cell 1
        have z1:=kD.free 1
        have y2:=kD.cell 2
        have z2:=kD.free 2
        have y3:=kD.cell 3
        have z3:=kD.free 3
        have y4:=kD.cell 4
        have z4:=kD.free 4
        have y5:=kD.cell 5
        have z5:=kD.free 5
        have y6:=kD.cell 6
        have z6:=kD.free 6
        have y7:=kD.cell 7
        have z7:=kD.free 7
        have y8:=kD.cell 8
        have z8:=kD.free 8
        have y9:=kD.cell 9
        have z9:=kD.free 9
        have y10:=kD.cell 10
        have z10:=kD.free 10
        go_simp
        obtain⟨wv10,hwv10⟩:∃ z,laid11 wv9 D (.string v0) (.string v1) (.string v2) (.string v3) (.string ⟨#[]⟩) (.string v5) (.string v6) (.string v7) (.string v8) (.slice none 0 0) (.slice none 0 0)=z:=⟨_,rfl⟩
        have kD:=laid11_bk kD (.string v0) (.string v1) (.string v2) (.string v3) (.string ⟨#[]⟩) (.string v5) (.string v6) (.string v7) (.string v8) (.slice none 0 0) (.slice none 0 0)
        have bN:=laid11_below bN hDW (.string v0) (.string v1) (.string v2) (.string v3) (.string ⟨#[]⟩) (.string v5) (.string v6) (.string v7) (.string v8) (.slice none 0 0) (.slice none 0 0)
        refine hK.out _ _ ?_ (fun hHeld=>?_)
        · exact⟨bN,HX0.out _ bN,HX1.out _ bN,HX2.out _ bN,HX3.out _ bN,HX5.out _ bN,HX6.out _ bN,HX7.out _ bN,HX8.out _ bN⟩
        clear hK K
        try simp only[Act.put,List.setIfInBounds_toArray,List.set_cons_zero,List.set_cons_succ]
        refine wpAnyH_done (by kernel_rfl) ?_ _
        refine hK0 _ _ (Met.intro (hJ0 _ _ ?_))
        (repeat apply Exists.intro)
        refine⟨?_,rfl⟩
        exact⟨D,v0,v1,v2,v3,v5,v6,v7,v8,rfl,kD,L0,L1,L2,L3,L5,L6,L7,L8,bN,hDW⟩
    · go_simp
      obtain⟨wv1,hwv1⟩:∃ z,World.alloc wd (.cells #[.string ⟨#[]⟩,.string ⟨#[]⟩,.string ⟨#[]⟩,.string ⟨#[]⟩,.string ⟨#[]⟩,.string ⟨#[]⟩,.string ⟨#[]⟩,.string ⟨#[]⟩,.string ⟨#[]⟩,.slice none 0 0,.slice none 0 0] 25)=z:=⟨_,rfl⟩
      obtain⟨D,hD⟩:∃ D,wd.heap.size=D:=⟨_,rfl⟩
      have kD:Bk wv1 D 25 #[.string ⟨#[]⟩,.string ⟨#[]⟩,.string ⟨#[]⟩,.string ⟨#[]⟩,.string ⟨#[]⟩,.string ⟨#[]⟩,.string ⟨#[]⟩,.string ⟨#[]⟩,.string ⟨#[]⟩,.slice none 0 0,.slice none 0 0]:=by rw[← hwv1,← hD];exact Bk.new _ _ _
      have hDW:W2.heap.size≤D:=by rw[← hD];exact bN.size
      have bN:=bN.alloc bN.size (.cells #[.string ⟨#[]⟩,.string ⟨#[]⟩,.string ⟨#[]⟩,.string ⟨#[]⟩,.string ⟨#[]⟩,.string ⟨#[]⟩,.string ⟨#[]⟩,.string ⟨#[]⟩,.string ⟨#[]⟩,.slice none 0 0,.slice none 0 0] 25)
      rw[hwv1] at bN 
      (try rw[hwv1])
      (try rw[hD])
      clear hwv1 hD
      refine hK.out _ _ ?_ (fun hHeld=>?_)
      · exact⟨bN,HX0.out _ bN,HX1.out _ bN,HX2.out _ bN,HX3.out _ bN,HX5.out _ bN,HX6.out _ bN,HX7.out _ bN,HX8.out _ bN⟩
      clear hK K
      try simp only[Act.put,List.setIfInBounds_toArray,List.set_cons_zero,List.set_cons_succ]
      refine wpAnyH_ready (rs:=[2]) (by kernel_rfl) (by simp) ?_
      refine AllReadyH.cons (i:=2) rfl (fun K hK=>?_) AllReadyH.nil
      go_simp
      refine(HL0.out wv1).mono ?_
      rintro e wv2 ⟨⟨v0,rfl,-,-,-,hl⟩,bC⟩
      have L0:=Lib.hid (hl (by decide))
      have kD:=kD.below bC kD.lt
      have bN:=bN.trans (bC.mono bN.size)
      clear hl bC
      go_wp2_with fail
      refine hK.out _ _ ?_ (fun hHeld=>?_)
      · exact⟨bN,HX0.out _ bN,HX1.out _ bN,HX2.out _ bN,HX3.out _ bN,HX5.out _ bN,HX6.out _ bN,HX7.out _ bN,HX8.out _ bN⟩
      clear hK K
      try simp only[Act.put,List.setIfInBounds_toArray,List.set_cons_zero,List.set_cons_succ]
      refine wpAnyH_ready (rs:=[5]) (by kernel_rfl) (by simp) ?_
      refine AllReadyH.cons (i:=5) rfl (fun K hK=>?_) AllReadyH.nil
      go_simp
      refine(HL1.out wv2).mono ?_
      rintro e wv3 ⟨⟨v1,rfl,-,-,-,hl⟩,bC⟩
      have L1:=Lib.hid (hl (by decide))
      have kD:=kD.below bC kD.lt
      have bN:=bN.trans (bC.mono bN.size)
      clear hl bC
      go_wp2_with fail
      refine hK.out _ _ ?_ (fun hHeld=>?_)
      · exact⟨bN,HX0.out _ bN,HX1.out _ bN,HX2.out _ bN,HX3.out _ bN,HX5.out _ bN,HX6.out _ bN,HX7.out _ bN,HX8.out _ bN⟩
      clear hK K
      try simp only[Act.put,List.setIfInBounds_toArray,List.set_cons_zero,List.set_cons_succ]
      refine wpAnyH_ready (rs:=[8]) (by kernel_rfl) (by simp) ?_
      refine AllReadyH.cons (i:=8) rfl (fun K hK=>?_) AllReadyH.nil
      go_simp
      refine(HL2.out wv3).mono ?_
      rintro e wv4 ⟨⟨v2,rfl,-,-,-,hl⟩,bC⟩
      have L2:=Lib.hid (hl (by decide))
      have kD:=kD.below bC kD.lt
      have bN:=bN.trans (bC.mono bN.size)
      clear hl bC
      go_wp2_with fail
      refine hK.out _ _ ?_ (fun hHeld=>?_)
      · exact⟨bN,HX0.out _ bN,HX1.out _ bN,HX2.out _ bN,HX3.out _ bN,HX5.out _ bN,HX6.out _ bN,HX7.out _ bN,HX8.out _ bN⟩
      clear hK K
      try simp only[Act.put,List.setIfInBounds_toArray,List.set_cons_zero,List.set_cons_succ]
      refine wpAnyH_ready (rs:=[11]) (by kernel_rfl) (by simp) ?_
      refine AllReadyH.cons (i:=11) rfl (fun K hK=>?_) AllReadyH.nil
      go_simp
      refine(HL3.out wv4).mono ?_
      rintro e wv5 ⟨⟨v3,rfl,-,-,-,hl⟩,bC⟩
      have L3:=Lib.hid (hl (by decide))
      have kD:=kD.below bC kD.lt
      have bN:=bN.trans (bC.mono bN.size)
      clear hl bC
      go_wp2_with fail
      refine hK.out _ _ ?_ (fun hHeld=>?_)
      · exact⟨bN,HX0.out _ bN,HX1.out _ bN,HX2.out _ bN,HX3.out _ bN,HX5.out _ bN,HX6.out _ bN,HX7.out _ bN,HX8.out _ bN⟩
      clear hK K
      try simp only[Act.put,List.setIfInBounds_toArray,List.set_cons_zero,List.set_cons_succ]
      refine wpAnyH_ready (rs:=[14]) (by kernel_rfl) (by simp) ?_
      refine AllReadyH.cons (i:=14) rfl (fun K hK=>?_) AllReadyH.nil
      go_simp
      refine(HL5.out wv5).mono ?_
      rintro e wv6 ⟨⟨v5,rfl,-,-,-,hl⟩,bC⟩
      have L5:=Lib.hid (hl (by decide))
      have kD:=kD.below bC kD.lt
      have bN:=bN.trans (bC.mono bN.size)
      clear hl bC
      go_wp2_with fail
      refine hK.out _ _ ?_ (fun hHeld=>?_)
      · exact⟨bN,HX0.out _ bN,HX1.out _ bN,HX2.out _ bN,HX3.out _ bN,HX5.out _ bN,HX6.out _ bN,HX7.out _ bN,HX8.out _ bN⟩
      clear hK K
      try simp only[Act.put,List.setIfInBounds_toArray,List.set_cons_zero,List.set_cons_succ]
      refine wpAnyH_ready (rs:=[17]) (by kernel_rfl) (by simp) ?_
      refine AllReadyH.cons (i:=17) rfl (fun K hK=>?_) AllReadyH.nil
      go_simp
      refine(HL6.out wv6).mono ?_
      rintro e wv7 ⟨⟨v6,rfl,-,-,-,hl⟩,bC⟩
      have L6:=Lib.hid (hl (by decide))
      have kD:=kD.below bC kD.lt
      have bN:=bN.trans (bC.mono bN.size)
      clear hl bC
      go_wp2_with fail
      refine hK.out _ _ ?_ (fun hHeld=>?_)
      · exact⟨bN,HX0.out _ bN,HX1.out _ bN,HX2.out _ bN,HX3.out _ bN,HX5.out _ bN,HX6.out _ bN,HX7.out _ bN,HX8.out _ bN⟩
      clear hK K
      try simp only[Act.put,List.setIfInBounds_toArray,List.set_cons_zero,List.set_cons_succ]
      refine wpAnyH_ready (rs:=[20]) (by kernel_rfl) (by simp) ?_
      refine AllReadyH.cons (i:=20) rfl (fun K hK=>?_) AllReadyH.nil
      go_simp
      refine(HL7.out wv7).mono ?_
      rintro e wv8 ⟨⟨v7,rfl,-,-,-,hl⟩,bC⟩
      have L7:=Lib.hid (hl (by decide))
      have kD:=kD.below bC kD.lt
      have bN:=bN.trans (bC.mono bN.size)
      clear hl bC
      go_wp2_with fail
      refine hK.out _ _ ?_ (fun hHeld=>?_)
      · exact⟨bN,HX0.out _ bN,HX1.out _ bN,HX2.out _ bN,HX3.out _ bN,HX5.out _ bN,HX6.out _ bN,HX7.out _ bN,HX8.out _ bN⟩
      clear hK K
      try simp only[Act.put,List.setIfInBounds_toArray,List.set_cons_zero,List.set_cons_succ]
      refine wpAnyH_ready (rs:=[23]) (by kernel_rfl) (by simp) ?_
      refine AllReadyH.cons (i:=23) rfl (fun K hK=>?_) AllReadyH.nil
      go_simp
      refine(HL8.out wv8).mono ?_
      rintro e wv9 ⟨⟨v8,rfl,-,-,-,hl⟩,bC⟩
      have L8:=Lib.hid (hl (by decide))
      have kD:=kD.below bC kD.lt
      have bN:=bN.trans (bC.mono bN.size)
      clear hl bC
      go_wp2_with fail
      refine hK.out _ _ ?_ (fun hHeld=>?_)
      · exact⟨bN,HX0.out _ bN,HX1.out _ bN,HX2.out _ bN,HX3.out _ bN,HX5.out _ bN,HX6.out _ bN,HX7.out _ bN,HX8.out _ bN⟩
      clear hK K
      try simp only[Act.put,List.setIfInBounds_toArray,List.set_cons_zero,List.set_cons_succ]
      refine take_w 24 (some 30) ?v25 rfl rfl (by kernel_rfl) (by kernel_rfl) (by kernel_rfl) (by rfl) ?y25 (fun _ _ _ h=>h) (by assumption) ?n25
      case y25 =>
        intro w hSw
        try dsimp only at hSw
        go_simp
        try with_reducible rfl
      try simp only[Act.put,List.setIfInBounds_toArray,List.set_cons_zero,List.set_cons_succ]
      refine wpAnyH_ready (rs:=[26]) (by kernel_rfl) (by simp) ?_
      refine AllReadyH.cons (i:=26) rfl (fun K hK=>?_) AllReadyH.nil
      go_simp
      have y0:=kD.cell 0
      have z0:=kD.free 0
      have y1:=kD.cell 1
      have z1:=kD.free 1
      have y2:=kD.cell 2
      have z2:=kD.free 2
      have y3:=kD.cell 3
      have z3:=kD.free 3
      have y4:=kD.cell 4
      have z4:=kD.free 4
      have y5:=kD.cell 5
      have z5:=kD.free 5
      have y6:=kD.cell 6
      have z6:=kD.free 6
      have y7:=kD.cell 7
      have z7:=kD.free 7
      have y8:=kD.cell 8
      have z8:=kD.free 8
      have y9:=kD.cell 9
      have z9:=kD.free 9
      have y10:=kD.cell 10
      have z10:=kD.free 10
      go_simp
      obtain⟨wv10,hwv10⟩:∃ z,laid11 wv9 D (.string v0) (.string v1) (.string v2) (.string v3) (.string ⟨#[]⟩) (.string v5) (.string v6) (.string v7) (.string v8) (.slice none 0 0) (.slice none 0 0)=z:=⟨_,rfl⟩
      have kD:=laid11_bk kD (.string v0) (.string v1) (.string v2) (.string v3) (.string ⟨#[]⟩) (.string v5) (.string v6) (.string v7) (.string v8) (.slice none 0 0) (.slice none 0 0)
      have bN:=laid11_below bN hDW (.string v0) (.string v1) (.string v2) (.string v3) (.string ⟨#[]⟩) (.string v5) (.string v6) (.string v7) (.string v8) (.slice none 0 0) (.slice none 0 0)
      refine hK.out _ _ ?_ (fun hHeld=>?_)
      · exact⟨bN,HX0.out _ bN,HX1.out _ bN,HX2.out _ bN,HX3.out _ bN,HX5.out _ bN,HX6.out _ bN,HX7.out _ bN,HX8.out _ bN⟩
      clear hK K
      try simp only[Act.put,List.setIfInBounds_toArray,List.set_cons_zero,List.set_cons_succ]
      refine wpAnyH_done (by kernel_rfl) ?_ _
      refine hK0 _ _ (Met.intro (hJ0 _ _ ?_))
      (repeat apply Exists.intro)
      refine⟨?_,rfl⟩
      exact⟨D,v0,v1,v2,v3,v5,v6,v7,v8,rfl,kD,L0,L1,L2,L3,L5,L6,L7,L8,bN,hDW⟩
  case rest =>
    obtain⟨D,v0,v1,v2,v3,v5,v6,v7,v8,rfl,KD,L0,L1,L2,L3,L5,L6,L7,L8,BW,hDW⟩:=hcut
    have HDW:Hid (W2.heap.size≤D):=hDW
    have HRW2:Hid (R < W2.heap.size):=KR.out.lt
    have HB2:Hid (W.heap.size≤W2.heap.size):=B2.out.size
    have HGD:Hid (G < D):=by have:=HGR2.out;have:=HRW2.out;have:=HDW.out;unfold Hid;omega
    have HRD:Hid (R < D):=by have:=HRW2.out;have:=HDW.out;unfold Hid;omega
    obtain⟨cb,hcb⟩:∃ b,decide (v0.data.toList=[])=b:=⟨_,rfl⟩
    have e0:=emptyB (l:=v0.data.toList)
    rw[show bts v0.data.toList=v0 from rfl,hcb] at e0
    have HCB:=Lib.hid hcb
    clear hcb
    have y0:wc.cell? ⟨D,0,none⟩=some (.string v0):=KD.out.cell 0
    have f0:wc.frozen? ⟨D,0,none⟩=false:=KD.out.free 0
    clear hDW
    go_upto_if 33 with fail
    go_cut [34] from 31 to 34 (fun _ wx=>∃ N0:ByteArray,Hid (Bk wx D 25 #[.string N0,.string v1,.string v2,.string v3,.string ⟨#[]⟩,.string v5,.string v6,.string v7,.string v8,.slice none 0 0,.slice none 0 0])∧Hid (line N0.data.toList 100=true)∧Hid (N0.data.toList≠[])∧Hid (Below W2.heap.size W2 wx))
    case first =>
      cases cb with
      | true =>
        go_wp2_with fail
        go_meet
        exact⟨⟨#[110]⟩,KD.out.put 0 _,by unfold Hid;decide +kernel,by unfold Hid;decide,BW.out.setCell (p:=⟨D,0,none⟩) HDW.out _⟩
      | false =>
        have HN:Hid (v0.data.toList≠[]):=of_decide_eq_false HCB.out
        clear HCB
        go_wp2_with fail
        go_meet
        exact⟨v0,KD,L0,HN,BW⟩
    case rest =>
    obtain⟨N0,KN,HN0,HN1,BN⟩:=hcut
    obtain⟨wn,rfl⟩:∃ z,z=wc:=⟨_,rfl⟩
    have g4:wn.cell? ⟨G,4,none⟩=some (.string X4):=(KG.out.below BN.out KG.out.lt).cell 4
    clear y0 f0 e0 HCB
    obtain⟨cb,hcb⟩:∃ b,decide (J=[])=b:=⟨_,rfl⟩
    rw[hcb] at e4
    have HCB:=Lib.hid hcb
    clear hcb
    go_upto_if 37 with fail
    go_cut [44] from 35 to 44 (fun _ wx=>∃ J4:ByteArray,Hid (Bk wx D 25 #[.string N0,.string v1,.string v2,.string v3,.string J4,.string v5,.string v6,.string v7,.string v8,.slice none 0 0,.slice none 0 0])∧Hid (J4.data.toList=[]∨∃ s k,J4.data.toList=nearJ s k)∧Hid (Below W2.heap.size W2 wx))
    case first =>
      cases cb with
      | true =>
        go_wp2_with fail
        go_meet
        exact⟨⟨#[]⟩,KN,.inl rfl,BN⟩
      | false =>
        have HJ4:Hid ((bts (jidP J J.length)).data.toList=[]∨∃ s k,(bts (jidP J J.length)).data.toList=nearJ s k):=.inr ⟨J,J.length,rfl⟩
        have HJJ:=Lib.hid (HJ.out)
        obtain⟨J4,hJ4⟩:∃ J4,bts (jidP J J.length)=J4:=⟨_,rfl⟩
        rw[hJ4] at HJ4 HJJ
        clear hJ4
        go_wp2_with fail
        refine(HJJ.out _).mono ?_
        rintro e w6 ⟨rfl,b6⟩
        have KD6:=KN.out.below b6 KN.out.lt
        have BW6:=BN.out.trans (b6.mono BN.out.size)
        have K6:=Lib.hid KD6
        have BX6:=Lib.hid BW6
        have c4:w6.cell? ⟨D,4,none⟩=some (.string ⟨#[]⟩):=KD6.cell 4
        have f4:w6.frozen? ⟨D,4,none⟩=false:=KD6.free 4
        clear b6 KD6 BW6
        go_wp2_with fail
        go_meet
        exact⟨J4,K6.out.put 4 _,HJ4,BX6.out.setCell (p:=⟨D,4,none⟩) HDW.out _⟩
    case rest =>
    obtain⟨J4,KJ,HJ4,BJ⟩:=hcut
    obtain⟨wz,rfl⟩:∃ z,z=wc:=⟨_,rfl⟩
    have KGz0:=KG.out.below BJ.out KG.out.lt
    have KRz0:=KR.out.below BJ.out KR.out.lt
    have KDz0:=KJ.out
    have BWz0:=BJ.out
    clear g4 e4 HCB
    have KGz:=Lib.hid KGz0
    have KRz:=Lib.hid KRz0
    have KDz:=Lib.hid KDz0
    have BWz:=Lib.hid BWz0
    clear KGz0 KRz0 KDz0 BWz0
    have HZB:Hid (W.heap.size≤wz.heap.size):=Nat.le_trans HB2.out BWz.out.size
    have HO0:Hid (OwnT wz.heap.size wz (.slice none 0 0) (sts [])):=OwnT.nil _ _
    have HA0:Hid (∀ x∈([]:List (List UInt8)),line x 30=true):=fun x hx=>by cases hx
    have HB0:Hid (Below wz.heap.size wz wz):=Below.refl _ _
    have HCX:Hid (∀ W',Below wz.heap.size wz W'→W'.cell? ⟨G,9,none⟩=some (.slice GA gn gcap)):=fun W' h=>(KGz.out.below h KGz.out.lt).cell 9
    have HRD0:Hid (∀ W',Below wz.heap.size wz W'→ReadT W'.heap.size W' (.slice GA gn gcap) (sts GS)):=fun W' h=>HG0.out.upon (B2.out.trans ((BWz.out.trans (h.mono BWz.out.size)).mono HB2.out))
    go_wp2_with fail
    go_loopw [4,5] (fun lv iv wr=>∃ (q:Nat) (lx:Value) (ys:List (List UInt8)),lv=lx∧iv=.int .i64 q∧q≤gn∧q≤4∧Hid (ys.length=q)∧Hid (OwnT wz.heap.size wr lx (sts ys))∧Hid (∀ x∈ys,line x 30=true)∧Hid (Below wz.heap.size wz wr)) (fun _ iv _=>4 - (intOf iv).toNat)
    case atStart=>exact⟨0,_,[],rfl,rfl,Nat.zero_le _,by omega,rfl,HO0,HA0,HB0⟩
    case round =>
      obtain⟨q,lx,ys,hlx,rfl,hq,hq4,YL,OY,LY,BY⟩:=hrel
      have hlx2:=hlx.symm
      subst hlx2
      clear hlx
      have g9:=HCX.out wr BY.out
      go_upto_region 8 with fail
      go_cut [53] from 45 to 53 (fun s wx=>s=.bool (decide (q < gn)&&decide (q < 4))∧wx=wr)
      case first =>
        by_cases hlt:q < gn
        · have hltd:decide (q < gn)=true:=decide_eq_true hlt
          by_cases h4:q < 4
          · have h4d:decide (q < 4)=true:=decide_eq_true h4
            have h4i:decide ((q:Int) < 4)=true:=decide_eq_true (by omega)
            go_wp2_with fail
            go_meet
            exact⟨by rw[hltd,h4d];first | rfl | (rw[h4i];rfl),rfl⟩
          · have h4d:decide (q < 4)=false:=decide_eq_false h4
            have h4i:decide ((q:Int) < 4)=false:=decide_eq_false (by omega)
            go_wp2_with fail
            go_meet
            exact⟨by rw[hltd,h4d];first | (simp;done) | (simp;omega),rfl⟩
        · have hltd:decide (q < gn)=false:=decide_eq_false hlt
          go_wp2_with fail
          go_meet
          exact⟨by rw[hltd];rfl,rfl⟩
      case rest =>
      obtain⟨hsl9,hwc⟩:=hcut
      have hwc2:=hwc.symm
      subst hwc2
      clear hwc
      obtain⟨cb,hcb⟩:∃ b,(decide (q < gn)&&decide (q < 4))=b:=⟨_,rfl⟩
      rw[hcb] at hsl9
      subst hsl9
      cases cb with
      | true =>
        obtain⟨hlt9,h49⟩:=Bool.and_eq_true_iff.1 hcb
        have hlt:q < gn:=of_decide_eq_true hlt9
        have h4:q < 4:=of_decide_eq_true h49
        clear hlt9 h49 hcb
        obtain⟨A',cap',he,hcell⟩:=HRD0.out wr BY.out
        have hsl:(sts GS).length=gn:=by unfold sts;rw[List.length_map];exact HGN.out
        obtain⟨ad,had,hlb,hc⟩:∃ ad:Addr,GA=some ad∧ad.block < wr.heap.size∧∀ i b,(sts GS)[i]?=some b→wr.cell? (ad.add i)=some (.string b):=by
          injection he with e1 e2 e3
          subst e1
          exact hcell (by omega)
        subst had
        obtain⟨x,hx⟩:∃ x,GS[q]?=some x:=⟨_,List.getElem?_eq_getElem (by rw[HGN.out];exact hlt)⟩
        have cx:=hc q (bts x) (sts_at hx)
        have HLX:=Lib.hid (HGL.out x wr (List.mem_of_getElem? hx))
        obtain⟨XX,hXX⟩:∃ X,bts x=X:=⟨_,rfl⟩
        rw[hXX] at cx HLX
        obtain⟨YA,yn,ycap,rfl⟩:∃ A n cap,lx=.slice A n cap:=by obtain⟨A,cap,e⟩:=OY.out.slice;exact⟨A,_,cap,e⟩
        have ZR:Hid (wz.heap.size≤wr.heap.size):=BY.out.size
        clear he hcell hsl hlb hc hx hXX
        go_wp2_with fail
        refine HLX.out.mono ?_
        rintro e w5 ⟨⟨vx,rfl,-,-,-,hl⟩,b5⟩
        have LX:=Lib.hid (hl (by decide))
        have OY5:=Lib.hid (OY.out.below b5)
        have Z5:Hid (wz.heap.size≤w5.heap.size):=Nat.le_trans ZR.out b5.size
        have BY5:Hid (Below wz.heap.size wz w5):=BY.out.trans (b5.mono BY.out.size)
        have hyl:Hid ((sts ys).length≤1000000000000):=by have:=YL.out;unfold Hid sts;rw[List.length_map];omega
        clear hl b5
        go_wp2_with (at_builtin;refine push_str rfl _ _ rfl wz.heap.size (.slice YA yn ycap) (sts ys) vx w5 rfl OY5.out rfl hyl.out Z5.out ?_)
        intro v7 w7 o7 b7
        have O7:Hid (OwnT wz.heap.size w7 v7 (sts (ys++[vx.data.toList]))):=by
          unfold Hid
          rw[sts_append]
          show OwnT wz.heap.size w7 v7 (sts ys++[bts vx.data.toList])
          rw[show bts vx.data.toList=vx from rfl]
          exact o7
        have B7:Hid (Below wz.heap.size wz w7):=BY5.out.trans b7
        have A7:Hid (∀ x∈ys++[vx.data.toList],line x 30=true):=fun x hx=>by
          rcases List.mem_append.1 hx with hx | hx
          · exact LY.out x hx
          · rw[List.mem_singleton] at hx;rw[hx];exact LX.out
        clear o7 b7
        go_wp2_with fail
        go_roundw
        case rel=>exact⟨q+1,_,_,rfl,by go_num,by omega,by omega,by have:=YL.out;unfold Hid;rw[List.length_append,this];rfl,O7,A7,B7⟩
        case measure=>simp[intOf];omega
      | false =>
        clear hcb
        have OYZ:=Lib.hid OY
        have HGC:=Lib.hid (HGR.out lx ys wr OY.out.reads (by have:=YL.out;omega))
        have HYL:Hid (ys.length≤4):=by have:=YL.out;unfold Hid;omega
        obtain⟨YA,yn,ycap,rfl⟩:∃ A n cap,lx=.slice A n cap:=by obtain⟨A,cap,e⟩:=OY.out.slice;exact⟨A,_,cap,e⟩
        clear OYZ
        go_wp2_with fail
        refine HGC.out.mono ?_
        rintro e w8 ⟨⟨u,rfl,ou⟩,b8⟩
        have BY8:Hid (Below wz.heap.size wz w8):=BY.out.trans (b8.mono BY.out.size)
        have KD8:=KDz.out.below BY8.out KDz.out.lt
        have KR8:=KRz.out.below BY8.out KRz.out.lt
        have HDz:Hid (D < wr.heap.size):=Nat.lt_of_lt_of_le KDz.out.lt BY.out.size
        have HRz:Hid (R < wr.heap.size):=Nat.lt_of_lt_of_le KRz.out.lt BY.out.size
        obtain⟨UA,un,ucap,rfl⟩:∃ A n cap,u=.slice A n cap:=by obtain⟨A,cap,e⟩:=ou.slice;exact⟨A,_,cap,e⟩
        have c9:w8.cell? ⟨D,9,none⟩=some (.slice none 0 0):=KD8.cell 9
        have f9:w8.frozen? ⟨D,9,none⟩=false:=KD8.free 9
        obtain⟨w9,hw9⟩:∃ w9,w8.setCell ⟨D,9,none⟩ (.slice UA un ucap)=w9:=⟨_,rfl⟩
        have KD9:Bk w9 D 25 #[.string N0,.string v1,.string v2,.string v3,.string J4,.string v5,.string v6,.string v7,.string v8,.slice UA un ucap,.slice none 0 0]:=by rw[← hw9];exact KD8.put 9 _
        have but9:But (·=D) w8 w9:=by rw[← hw9];exact but_set _ _ _ _
        have KR9:Bk w9 R 25 #[.string ⟨#[]⟩,.string ⟨#[]⟩,.string ⟨#[]⟩,.string ⟨#[]⟩,.string ⟨#[]⟩,.string ⟨#[]⟩,.string ⟨#[]⟩,.string ⟨#[]⟩,.string ⟨#[]⟩,.slice none 0 0,.slice none 0 0]:=but9.bk KR8 (fun e=>by have:=HRD.out;omega)
        have ou9:OwnT wr.heap.size w9 (.slice UA un ucap) (sts (groupsL ys)):=ou.butq but9 HDz.out
        have BZ9:Hid (Below W.heap.size W w9):=by
          have h8:Below W.heap.size W w8:=B2.out.trans ((BWz.out.trans (BY8.out.mono BWz.out.size)).mono HB2.out)
          rw[← hw9]
          exact h8.setCell (p:=⟨D,9,none⟩) (show W.heap.size≤D by have:=HB2.out;have:=HDW.out;omega) _
        have OU9:=Lib.hid ou9
        have KDX:=Lib.hid KD9
        have KRX:=Lib.hid KR9
        have d0:w9.cell? ⟨D,0,none⟩=some (.string N0):=KD9.cell 0
        have d1:w9.cell? ⟨D,1,none⟩=some (.string v1):=KD9.cell 1
        have d2:w9.cell? ⟨D,2,none⟩=some (.string v2):=KD9.cell 2
        have d3:w9.cell? ⟨D,3,none⟩=some (.string v3):=KD9.cell 3
        have d4:w9.cell? ⟨D,4,none⟩=some (.string J4):=KD9.cell 4
        have d5:w9.cell? ⟨D,5,none⟩=some (.string v5):=KD9.cell 5
        have d6:w9.cell? ⟨D,6,none⟩=some (.string v6):=KD9.cell 6
        have d7:w9.cell? ⟨D,7,none⟩=some (.string v7):=KD9.cell 7
        have d8:w9.cell? ⟨D,8,none⟩=some (.string v8):=KD9.cell 8
        have d9:w9.cell? ⟨D,9,none⟩=some (.slice UA un ucap):=KD9.cell 9
        have d10:w9.cell? ⟨D,10,none⟩=some (.slice none 0 0):=KD9.cell 10
        have r0:w9.cell? ⟨R,0,none⟩=some (.string ⟨#[]⟩):=KR9.cell 0
        have x0:w9.frozen? ⟨R,0,none⟩=false:=KR9.free 0
        have r1:w9.cell? ⟨R,1,none⟩=some (.string ⟨#[]⟩):=KR9.cell 1
        have x1:w9.frozen? ⟨R,1,none⟩=false:=KR9.free 1
        have r2:w9.cell? ⟨R,2,none⟩=some (.string ⟨#[]⟩):=KR9.cell 2
        have x2:w9.frozen? ⟨R,2,none⟩=false:=KR9.free 2
        have r3:w9.cell? ⟨R,3,none⟩=some (.string ⟨#[]⟩):=KR9.cell 3
        have x3:w9.frozen? ⟨R,3,none⟩=false:=KR9.free 3
        have r4:w9.cell? ⟨R,4,none⟩=some (.string ⟨#[]⟩):=KR9.cell 4
        have x4:w9.frozen? ⟨R,4,none⟩=false:=KR9.free 4
        have r5:w9.cell? ⟨R,5,none⟩=some (.string ⟨#[]⟩):=KR9.cell 5
        have x5:w9.frozen? ⟨R,5,none⟩=false:=KR9.free 5
        have r6:w9.cell? ⟨R,6,none⟩=some (.string ⟨#[]⟩):=KR9.cell 6
        have x6:w9.frozen? ⟨R,6,none⟩=false:=KR9.free 6
        have r7:w9.cell? ⟨R,7,none⟩=some (.string ⟨#[]⟩):=KR9.cell 7
        have x7:w9.frozen? ⟨R,7,none⟩=false:=KR9.free 7
        have r8:w9.cell? ⟨R,8,none⟩=some (.string ⟨#[]⟩):=KR9.cell 8
        have x8:w9.frozen? ⟨R,8,none⟩=false:=KR9.free 8
        have r9:w9.cell? ⟨R,9,none⟩=some (.slice none 0 0):=KR9.cell 9
        have x9:w9.frozen? ⟨R,9,none⟩=false:=KR9.free 9
        have r10:w9.cell? ⟨R,10,none⟩=some (.slice none 0 0):=KR9.cell 10
        have x10:w9.frozen? ⟨R,10,none⟩=false:=KR9.free 10
        have HNE:D≠R:=by have:=HRD.out;omega
        clear b8 ou ou9 KD8 KR8 but9 KD9 KR9
        go_wp2_with fail
        obtain⟨wf,hwf⟩:∃ wf,laid11 w9 R (.string N0) (.string v1) (.string v2) (.string v3) (.string J4) (.string v5) (.string v6) (.string v7) (.string v8) (.slice UA un ucap) (.slice none 0 0)=wf:=⟨_,rfl⟩
        have kf:Bk wf R 25 #[.string N0,.string v1,.string v2,.string v3,.string J4,.string v5,.string v6,.string v7,.string v8,.slice UA un ucap,.slice none 0 0]:=by rw[← hwf];exact laid11_bk KRX.out _ _ _ _ _ _ _ _ _ _ _
        have butf:But (·=R) w9 wf:=by rw[← hwf];exact laid11_but _ _ _ _ _ _ _ _ _ _ _ _ _
        have BF:Hid (Below W.heap.size W wf):=by rw[← hwf];exact laid11_below BZ9.out HWR.out _ _ _ _ _ _ _ _ _ _ _
        have j0:wf.cell? ⟨R,0,none⟩=some (.string N0):=kf.cell 0
        have j1:wf.cell? ⟨R,1,none⟩=some (.string v1):=kf.cell 1
        have j2:wf.cell? ⟨R,2,none⟩=some (.string v2):=kf.cell 2
        have j3:wf.cell? ⟨R,3,none⟩=some (.string v3):=kf.cell 3
        have j4:wf.cell? ⟨R,4,none⟩=some (.string J4):=kf.cell 4
        have j5:wf.cell? ⟨R,5,none⟩=some (.string v5):=kf.cell 5
        have j6:wf.cell? ⟨R,6,none⟩=some (.string v6):=kf.cell 6
        have j7:wf.cell? ⟨R,7,none⟩=some (.string v7):=kf.cell 7
        have j8:wf.cell? ⟨R,8,none⟩=some (.string v8):=kf.cell 8
        have j9:wf.cell? ⟨R,9,none⟩=some (.slice UA un ucap):=kf.cell 9
        have j10:wf.cell? ⟨R,10,none⟩=some (.slice none 0 0):=kf.cell 10
        show bodyPost _ _ _ _ _ (laid11 w9 R (.string N0) (.string v1) (.string v2) (.string v3) (.string J4) (.string v5) (.string v6) (.string v7) (.string v8) (.slice UA un ucap) (.slice none 0 0))
        rw[hwf]
        refine bodyPost_ret (v:=.agg #[.string N0,.string v1,.string v2,.string v3,.string J4,.string v5,.string v6,.string v7,.string v8,.slice UA un ucap,.slice none 0 0]) (by simp[results,Tryz.results19,go_sem,j0,j1,j2,j3,j4,j5,j6,j7,j8,j9,j10]) rfl ?_
        refine⟨⟨{ name:=N0.data.toList,family:=v1.data.toList,given:=v2.data.toList,nick:=v3.data.toList,jid:=J4.data.toList,email:=v5.data.toList,tel:=v6.data.toList,note:=v7.data.toList,uid:=v8.data.toList,groups:=groupsL ys,other:=[] },.slice UA un ucap,?_,⟨HN0.out,HN1.out,L1.out,L2.out,L3.out,HJ4.out,L5.out,L6.out,L7.out,L8.out,⟨ys,rfl,HYL.out,LY.out⟩,rfl⟩,(OU9.out.butq butf HRz.out).weakT (Nat.le_trans HZB.out BY.out.size)⟩,by first | exact BF.out | (rw[← hG];exact BF.out)⟩
        rfl
end Go.Proofs.YtfbdnaclkfmiaaaGreatDoor