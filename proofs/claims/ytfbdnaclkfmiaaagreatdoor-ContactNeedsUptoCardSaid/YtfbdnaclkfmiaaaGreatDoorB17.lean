import Derived.Test.YtfbdnaclkfmiaaaGreatDoorB11
namespace Go.Proofs.YtfbdnaclkfmiaaaGreatDoor
open Go.RowKit Rg Tx
theorem any_take {x:List Nat} {p:Nat→Bool} {k:Nat} (h:k < x.length):(x.take (k+1)).any p=((x.take k).any p||p (x.getD k 0)):=by
  rw[List.take_add_one,List.getElem?_eq_getElem h,List.any_append,List.getD,List.getElem?_eq_getElem h,Option.toList_some,Option.getD_some]
  simp
section
variable {P:Program} {ops:Array Oper} {Q:Exit→Act→World→Prop} {md:Region.Mode} {S:World→Prop}
theorem take_w (i d:_) (v:Value) {oi:Oper} {fuel:Nat} {listed:Array Bool} {a:Act} {w:World} (hi:ops[i]?=some oi) (hd:oi.dst=d)
    (hs:Region.noSelect ops=true) (hf:Region.free md ops listed i=true) (hr:(Region.ready md ops listed).contains i=true)
    (hw:Region.wanted oi (yielded ops a.tmps)=true) (hv:∀ w,S w→(execOp a.eval oi).run P w=.ok (.value v) w)
    (hQ:∀ c a w,Q (.panic c) (a.put d v) w→Q (.panic c) a w) (hS:S w)
    (h:wpAnyH P md ops Q S fuel (listed.setIfInBounds i true) (a.put d v) w):wpAnyH P md ops Q S (fuel+1) listed a w:=by
  subst hd
  exact wpAnyH_take hi hs hf hr hQ (.inl ⟨hw,hv⟩) hS h
theorem take_u (i d:_) {oi:Oper} {fuel:Nat} {listed:Array Bool} {a:Act} {w:World} (hi:ops[i]?=some oi) (hd:oi.dst=d)
    (hs:Region.noSelect ops=true) (hf:Region.free md ops listed i=true) (hr:(Region.ready md ops listed).contains i=true)
    (hw:Region.wanted oi (yielded ops a.tmps)=false)
    (hQ:∀ c a w,Q (.panic c) (a.put d undef) w→Q (.panic c) a w) (hS:S w)
    (h:wpAnyH P md ops Q S fuel (listed.setIfInBounds i true) (a.put d undef) w):wpAnyH P md ops Q S (fuel+1) listed a w:=by
  subst hd
  exact wpAnyH_take hi hs hf hr hQ (.inr ⟨hw,rfl⟩) hS h
end
set_option linter.unusedSimpArgs false in
set_option maxRecDepth 100000 in
set_option maxHeartbeats 8000000 in
theorem rway_any (v:Value) (x:List Nat) (w:World) (hv:Reads w.heap.size w v x) (hl:x.length≤100000000000) :
    Calls Tryz.prog 199 #[v] w fun e w'=>e=.returned (.bool (Pr.wayB x))∧Below w.heap.size w w':=by
  obtain⟨A,cap,rfl,hx⟩:=hv
  have HX:=Lib.hid hx
  have HRL:=Lib.hid refRightLeft_any
  have HLT:=Lib.hid refLetters_any
  have HIR:=Lib.hid (fun (B:Nat) (z:Int) v W (h:OwnR B W v rightLeftL)=>refIn_any v rightLeftL z W h.reads (by simp[rightLeftL]))
  have HIL:=Lib.hid (fun (B:Nat) (z:Int) v W (h:OwnR B W v lettersL)=>refIn_any v lettersL z W h.reads (by simp[lettersL]))
  obtain⟨q,hq⟩:∃ q,Pr.wayB x=q:=⟨_,rfl⟩
  have HN:=Lib.hid (fun (h:x.any Pr.rl=false)=>hq.symm.trans (wayB_none h))
  have HS:=Lib.hid (fun (h:x.any Pr.rl=true)=>hq.symm.trans (wayB_some h))
  rw[hq]
  clear hx hq
  go_enter Tryz.func199,Tryz.ntmps199
  go_wp2_with fail
  go_loopw [3,4,5] (fun rr ll i wr=>∃ (k:Nat) (r l:Bool),rr=.bool r∧ll=.bool l∧k≤x.length∧i=.int .i64 k∧Below w.heap.size w wr∧Hid (r=(x.take k).any Pr.rl)∧Hid (l=(x.take k).any Pr.letter)) (fun _ _ i _=>x.length - (intOf i).toNat)
  case atStart=>exact⟨0,_,_,rfl,rfl,Nat.zero_le _,rfl,Below.refl _ _,rfl,rfl⟩
  case round =>
    obtain⟨k,r,l,rfl,rfl,hk,rfl,hb,hr,hl2⟩:=hrel
    have hsw:=hb.size
    by_cases hlt:k < x.length
    · obtain⟨ad,rfl,hlb,hc⟩:=HX.out (by omega)
      have c0:=hc k hlt
      rw[← hb.cell (p:=ad.add k) (by rw[addBlock];omega)] at c0
      obtain⟨c,hcx⟩:∃ c,x.getD k 0=c:=⟨_,rfl⟩
      have hr1:=any_take (p:=Pr.rl) hlt
      have hl1:=any_take (p:=Pr.letter) hlt
      rw[← hr.out,hcx] at hr1
      rw[← hl2.out,hcx] at hl1
      rw[hcx] at c0
      have hr3:(x.take (k+1)).any Pr.rl=(r||inL rightLeftL (c:Int)):=hr1
      have hl3:(x.take (k+1)).any Pr.letter=(l||inL lettersL (c:Int)):=hl1
      obtain⟨z,hz⟩:∃ z:Int,(c:Int)=z:=⟨_,rfl⟩
      rw[hz] at c0 hr3 hl3
      obtain⟨g1,hg1⟩:∃ g,inL rightLeftL z=g:=⟨_,rfl⟩
      obtain⟨g2,hg2⟩:∃ g,inL lettersL z=g:=⟨_,rfl⟩
      have HIR2:=Lib.hid (fun B v W (h:OwnR B W v rightLeftL)=>HIR.out B z v W h)
      have HIL2:=Lib.hid (fun B v W (h:OwnR B W v lettersL)=>HIL.out B z v W h)
      rw[hg1] at hr3 HIR2
      rw[hg2] at hl3 HIL2
      have HR3:=Lib.hid hr3
      have HL3:=Lib.hid hl3
      have C0:=Lib.hid c0
      have HLB:Hid ((ad.add k).block < wr.heap.size):=by unfold Hid;rw[addBlock];omega
      clear hc hcx hr1 hl1 hr3 hl3 hz hg1 hg2 hr hl2 HIR HIL HN HS
      cases r<;>cases l
      case true.true =>
        go_wp2_with fail
        go_big_quiet (fail)
        go_wp2_with fail
        go_roundw
        case rel=>exact⟨k+1,_,_,rfl,rfl,by omega,by go_num,drewN_below hb _,by unfold Hid;rw[HR3.out];rfl,by unfold Hid;rw[HL3.out];rfl⟩
        case measure=>simp[intOf];omega
      case true.false =>
        go_wp2_with fail
        have bN:Below wr.heap.size wr wr.drew:=(Below.refl _ wr).drew
        refine wp_region_held_drew (S:=fun w'=>Below wr.heap.size wr w'∧w'.cell? (ad.add k)=some (.int .i64 z)) (by kernel_rfl) ?_ (fun hHeld=>?_)
        · exact⟨bN,(bN.cell HLB.out).trans C0.out⟩
        refine take_w 0 (some 12) ?v1 rfl rfl (by kernel_rfl) (by kernel_rfl) (by kernel_rfl) (by rfl) ?y1 (fun _ _ _ h=>h) (by assumption) ?n1
        case y1 =>
          intro w hSw
          try dsimp only at hSw
          go_simp
          try with_reducible rfl
        try simp only[Act.put,List.setIfInBounds_toArray,List.set_cons_zero,List.set_cons_succ]
        refine take_w 1 (some 13) ?v2 rfl rfl (by kernel_rfl) (by kernel_rfl) (by kernel_rfl) (by rfl) ?y2 (fun _ _ _ h=>h) (by assumption) ?n2
        case y2 =>
          intro w hSw
          try dsimp only at hSw
          go_simp
          try with_reducible rfl
        try simp only[Act.put,List.setIfInBounds_toArray,List.set_cons_zero,List.set_cons_succ]
        refine take_u 2 (some 14) rfl rfl (by kernel_rfl) (by kernel_rfl) (by kernel_rfl) (by rfl) (fun _ _ _ h=>h) (by assumption) ?n3
        try simp only[Act.put,List.setIfInBounds_toArray,List.set_cons_zero,List.set_cons_succ]
        refine take_u 3 (some 15) rfl rfl (by kernel_rfl) (by kernel_rfl) (by kernel_rfl) (by rfl) (fun _ _ _ h=>h) (by assumption) ?n4
        try simp only[Act.put,List.setIfInBounds_toArray,List.set_cons_zero,List.set_cons_succ]
        refine take_u 4 (some 16) rfl rfl (by kernel_rfl) (by kernel_rfl) (by kernel_rfl) (by rfl) (fun _ _ _ h=>h) (by assumption) ?n5
        try simp only[Act.put,List.setIfInBounds_toArray,List.set_cons_zero,List.set_cons_succ]
        refine take_u 5 (some 17) rfl rfl (by kernel_rfl) (by kernel_rfl) (by kernel_rfl) (by rfl) (fun _ _ _ h=>h) (by assumption) ?n6
        try simp only[Act.put,List.setIfInBounds_toArray,List.set_cons_zero,List.set_cons_succ]
        refine take_u 6 (some 18) rfl rfl (by kernel_rfl) (by kernel_rfl) (by kernel_rfl) (by rfl) (fun _ _ _ h=>h) (by assumption) ?n7
        try simp only[Act.put,List.setIfInBounds_toArray,List.set_cons_zero,List.set_cons_succ]
        refine take_u 7 (some 19) rfl rfl (by kernel_rfl) (by kernel_rfl) (by kernel_rfl) (by rfl) (fun _ _ _ h=>h) (by assumption) ?n8
        try simp only[Act.put,List.setIfInBounds_toArray,List.set_cons_zero,List.set_cons_succ]
        refine take_w 8 (some 20) ?v9 rfl rfl (by kernel_rfl) (by kernel_rfl) (by kernel_rfl) (by rfl) ?y9 (fun _ _ _ h=>h) (by assumption) ?n9
        case y9 =>
          intro w hSw
          try dsimp only at hSw
          go_simp
          try with_reducible rfl
        try simp only[Act.put,List.setIfInBounds_toArray,List.set_cons_zero,List.set_cons_succ]
        refine take_w 9 (some 21) ?v10 rfl rfl (by kernel_rfl) (by kernel_rfl) (by kernel_rfl) (by rfl) ?y10 (fun _ _ _ h=>h) (by assumption) ?n10
        case y10 =>
          intro w hSw
          try dsimp only at hSw
          go_simp
          try with_reducible rfl
        try simp only[Act.put,List.setIfInBounds_toArray,List.set_cons_zero,List.set_cons_succ]
        refine take_w 10 (some 22) ?v11 rfl rfl (by kernel_rfl) (by kernel_rfl) (by kernel_rfl) (by rfl) ?y11 (fun _ _ _ h=>h) (by assumption) ?n11
        case y11 =>
          intro w hSw
          try dsimp only at hSw
          go_simp
          try with_reducible rfl
        try simp only[Act.put,List.setIfInBounds_toArray,List.set_cons_zero,List.set_cons_succ]
        refine take_w 12 (some 24) ?v12 rfl rfl (by kernel_rfl) (by kernel_rfl) (by kernel_rfl) (by rfl) ?y12 (fun _ _ _ h=>h) (by assumption) ?n12
        case y12 =>
          intro w hSw
          try dsimp only at hSw
          go_simp
          try with_reducible rfl
        try simp only[Act.put,List.setIfInBounds_toArray,List.set_cons_zero,List.set_cons_succ]
        refine take_w 13 (some 25) ?v13 rfl rfl (by kernel_rfl) (by kernel_rfl) (by kernel_rfl) (by rfl) ?y13 (fun _ _ _ h=>h) (by assumption) ?n13
        case y13 =>
          intro w hSw
          try dsimp only at hSw
          go_simp
          try with_reducible rfl
        try simp only[Act.put,List.setIfInBounds_toArray,List.set_cons_zero,List.set_cons_succ]
        refine take_w 14 (some 26) ?v14 rfl rfl (by kernel_rfl) (by kernel_rfl) (by kernel_rfl) (by rfl) ?y14 (fun _ _ _ h=>h) (by assumption) ?n14
        case y14 =>
          intro w hSw
          try dsimp only at hSw
          go_simp
          try with_reducible rfl
        try simp only[Act.put,List.setIfInBounds_toArray,List.set_cons_zero,List.set_cons_succ]
        refine take_w 15 (some 27) ?v15 rfl rfl (by kernel_rfl) (by kernel_rfl) (by kernel_rfl) (by rfl) ?y15 (fun _ _ _ h=>h) (by assumption) ?n15
        case y15 =>
          intro w hSw
          try dsimp only at hSw
          go_simp
          try with_reducible rfl
        try simp only[Act.put,List.setIfInBounds_toArray,List.set_cons_zero,List.set_cons_succ]
        refine wpAnyH_ready (rs:=[11]) (by kernel_rfl) (by simp) ?_
        refine AllReadyH.cons (i:=11) rfl (fun K hK=>?_) AllReadyH.nil
        go_simp
        refine(HLT.out _).mono ?_
        rintro e wN ⟨voL,rfl,oL,bX⟩
        have bN:=bN.trans (bX.mono bN.size)
        obtain⟨AoL,coL,rfl⟩:=oL.slice
        have oL:=Lib.hid oL
        clear bX
        go_wp2_with fail
        refine hK.out _ _ ?_ (fun hHeld=>?_)
        · exact⟨bN,(bN.cell HLB.out).trans C0.out⟩
        clear hK K
        try simp only[Act.put,List.setIfInBounds_toArray,List.set_cons_zero,List.set_cons_succ]
        refine wpAnyH_ready (rs:=[16]) (by kernel_rfl) (by simp) ?_
        refine AllReadyH.cons (i:=16) rfl (fun K hK=>?_) AllReadyH.nil
        go_simp
        refine(HIL2.out _ _ _ oL.out).mono ?_
        rintro e wN ⟨rfl,bX⟩
        have bN:=bN.trans (bX.mono bN.size)
        clear bX
        go_wp2_with fail
        refine hK.out _ _ ?_ (fun hHeld=>?_)
        · exact⟨bN,(bN.cell HLB.out).trans C0.out⟩
        clear hK K
        try simp only[Act.put,List.setIfInBounds_toArray,List.set_cons_zero,List.set_cons_succ]
        refine take_w 17 (some 29) ?v18 rfl rfl (by kernel_rfl) (by kernel_rfl) (by kernel_rfl) (by rfl) ?y18 (fun _ _ _ h=>h) (by assumption) ?n18
        case y18 =>
          intro w hSw
          try dsimp only at hSw
          go_simp
          try with_reducible rfl
        try simp only[Act.put,List.setIfInBounds_toArray,List.set_cons_zero,List.set_cons_succ]
        refine take_w 18 (some 3) ?v19 rfl rfl (by kernel_rfl) (by kernel_rfl) (by kernel_rfl) (by rfl) ?y19 (fun _ _ _ h=>h) (by assumption) ?n19
        case y19 =>
          intro w hSw
          try dsimp only at hSw
          go_simp
          try with_reducible rfl
        try simp only[Act.put,List.setIfInBounds_toArray,List.set_cons_zero,List.set_cons_succ]
        refine take_w 19 (some 4) ?v20 rfl rfl (by kernel_rfl) (by kernel_rfl) (by kernel_rfl) (by rfl) ?y20 (fun _ _ _ h=>h) (by assumption) ?n20
        case y20 =>
          intro w hSw
          try dsimp only at hSw
          go_simp
          try with_reducible rfl
        try simp only[Act.put,List.setIfInBounds_toArray,List.set_cons_zero,List.set_cons_succ]
        refine wpAnyH_done (by kernel_rfl) ?_ _
        have bZ:=hb.trans (bN.mono hsw)
        clear bN
        go_wp2_with fail
        go_roundw
        case rel=>exact⟨k+1,_,_,rfl,rfl,by omega,by go_num,bZ,by unfold Hid;rw[HR3.out];rfl,by unfold Hid;rw[HL3.out];rfl⟩
        case measure=>simp[intOf];omega
      case false.true =>
        go_wp2_with fail
        have bN:Below wr.heap.size wr wr.drew:=(Below.refl _ wr).drew
        refine wp_region_held_drew (S:=fun w'=>Below wr.heap.size wr w'∧w'.cell? (ad.add k)=some (.int .i64 z)) (by kernel_rfl) ?_ (fun hHeld=>?_)
        · exact⟨bN,(bN.cell HLB.out).trans C0.out⟩
        refine take_w 0 (some 12) ?v21 rfl rfl (by kernel_rfl) (by kernel_rfl) (by kernel_rfl) (by rfl) ?y21 (fun _ _ _ h=>h) (by assumption) ?n21
        case y21 =>
          intro w hSw
          try dsimp only at hSw
          go_simp
          try with_reducible rfl
        try simp only[Act.put,List.setIfInBounds_toArray,List.set_cons_zero,List.set_cons_succ]
        refine take_w 1 (some 13) ?v22 rfl rfl (by kernel_rfl) (by kernel_rfl) (by kernel_rfl) (by rfl) ?y22 (fun _ _ _ h=>h) (by assumption) ?n22
        case y22 =>
          intro w hSw
          try dsimp only at hSw
          go_simp
          try with_reducible rfl
        try simp only[Act.put,List.setIfInBounds_toArray,List.set_cons_zero,List.set_cons_succ]
        refine take_w 3 (some 15) ?v23 rfl rfl (by kernel_rfl) (by kernel_rfl) (by kernel_rfl) (by rfl) ?y23 (fun _ _ _ h=>h) (by assumption) ?n23
        case y23 =>
          intro w hSw
          try dsimp only at hSw
          go_simp
          try with_reducible rfl
        try simp only[Act.put,List.setIfInBounds_toArray,List.set_cons_zero,List.set_cons_succ]
        refine take_w 4 (some 16) ?v24 rfl rfl (by kernel_rfl) (by kernel_rfl) (by kernel_rfl) (by rfl) ?y24 (fun _ _ _ h=>h) (by assumption) ?n24
        case y24 =>
          intro w hSw
          try dsimp only at hSw
          go_simp
          try with_reducible rfl
        try simp only[Act.put,List.setIfInBounds_toArray,List.set_cons_zero,List.set_cons_succ]
        refine take_w 5 (some 17) ?v25 rfl rfl (by kernel_rfl) (by kernel_rfl) (by kernel_rfl) (by rfl) ?y25 (fun _ _ _ h=>h) (by assumption) ?n25
        case y25 =>
          intro w hSw
          try dsimp only at hSw
          go_simp
          try with_reducible rfl
        try simp only[Act.put,List.setIfInBounds_toArray,List.set_cons_zero,List.set_cons_succ]
        refine take_w 6 (some 18) ?v26 rfl rfl (by kernel_rfl) (by kernel_rfl) (by kernel_rfl) (by rfl) ?y26 (fun _ _ _ h=>h) (by assumption) ?n26
        case y26 =>
          intro w hSw
          try dsimp only at hSw
          go_simp
          try with_reducible rfl
        try simp only[Act.put,List.setIfInBounds_toArray,List.set_cons_zero,List.set_cons_succ]
        refine take_w 9 (some 21) ?v27 rfl rfl (by kernel_rfl) (by kernel_rfl) (by kernel_rfl) (by rfl) ?y27 (fun _ _ _ h=>h) (by assumption) ?n27
        case y27 =>
          intro w hSw
          try dsimp only at hSw
          go_simp
          try with_reducible rfl
        try simp only[Act.put,List.setIfInBounds_toArray,List.set_cons_zero,List.set_cons_succ]
        refine wpAnyH_ready (rs:=[2]) (by kernel_rfl) (by simp) ?_
        refine AllReadyH.cons (i:=2) rfl (fun K hK=>?_) AllReadyH.nil
        go_simp
        refine(HRL.out _).mono ?_
        rintro e wN ⟨voR,rfl,oR,bX⟩
        have bN:=bN.trans (bX.mono bN.size)
        obtain⟨AoR,coR,rfl⟩:=oR.slice
        have oR:=Lib.hid oR
        clear bX
        go_wp2_with fail
        refine hK.out _ _ ?_ (fun hHeld=>?_)
        · exact⟨bN,(bN.cell HLB.out).trans C0.out⟩
        clear hK K
        try simp only[Act.put,List.setIfInBounds_toArray,List.set_cons_zero,List.set_cons_succ]
        refine wpAnyH_ready (rs:=[7]) (by kernel_rfl) (by simp) ?_
        refine AllReadyH.cons (i:=7) rfl (fun K hK=>?_) AllReadyH.nil
        go_simp
        refine(HIR2.out _ _ _ oR.out).mono ?_
        rintro e wN ⟨rfl,bX⟩
        have bN:=bN.trans (bX.mono bN.size)
        clear bX
        go_wp2_with fail
        refine hK.out _ _ ?_ (fun hHeld=>?_)
        · exact⟨bN,(bN.cell HLB.out).trans C0.out⟩
        clear hK K
        try simp only[Act.put,List.setIfInBounds_toArray,List.set_cons_zero,List.set_cons_succ]
        refine take_w 8 (some 20) ?v30 rfl rfl (by kernel_rfl) (by kernel_rfl) (by kernel_rfl) (by rfl) ?y30 (fun _ _ _ h=>h) (by assumption) ?n30
        case y30 =>
          intro w hSw
          try dsimp only at hSw
          go_simp
          try with_reducible rfl
        try simp only[Act.put,List.setIfInBounds_toArray,List.set_cons_zero,List.set_cons_succ]
        refine take_w 10 (some 22) ?v31 rfl rfl (by kernel_rfl) (by kernel_rfl) (by kernel_rfl) (by rfl) ?y31 (fun _ _ _ h=>h) (by assumption) ?n31
        case y31 =>
          intro w hSw
          try dsimp only at hSw
          go_simp
          try with_reducible rfl
        try simp only[Act.put,List.setIfInBounds_toArray,List.set_cons_zero,List.set_cons_succ]
        refine take_u 11 (some 23) rfl rfl (by kernel_rfl) (by kernel_rfl) (by kernel_rfl) (by rfl) (fun _ _ _ h=>h) (by assumption) ?n32
        try simp only[Act.put,List.setIfInBounds_toArray,List.set_cons_zero,List.set_cons_succ]
        refine take_u 12 (some 24) rfl rfl (by kernel_rfl) (by kernel_rfl) (by kernel_rfl) (by rfl) (fun _ _ _ h=>h) (by assumption) ?n33
        try simp only[Act.put,List.setIfInBounds_toArray,List.set_cons_zero,List.set_cons_succ]
        refine take_u 13 (some 25) rfl rfl (by kernel_rfl) (by kernel_rfl) (by kernel_rfl) (by rfl) (fun _ _ _ h=>h) (by assumption) ?n34
        try simp only[Act.put,List.setIfInBounds_toArray,List.set_cons_zero,List.set_cons_succ]
        refine take_u 14 (some 26) rfl rfl (by kernel_rfl) (by kernel_rfl) (by kernel_rfl) (by rfl) (fun _ _ _ h=>h) (by assumption) ?n35
        try simp only[Act.put,List.setIfInBounds_toArray,List.set_cons_zero,List.set_cons_succ]
        refine take_u 15 (some 27) rfl rfl (by kernel_rfl) (by kernel_rfl) (by kernel_rfl) (by rfl) (fun _ _ _ h=>h) (by assumption) ?n36
        try simp only[Act.put,List.setIfInBounds_toArray,List.set_cons_zero,List.set_cons_succ]
        refine take_u 16 (some 28) rfl rfl (by kernel_rfl) (by kernel_rfl) (by kernel_rfl) (by rfl) (fun _ _ _ h=>h) (by assumption) ?n37
        try simp only[Act.put,List.setIfInBounds_toArray,List.set_cons_zero,List.set_cons_succ]
        refine take_w 17 (some 29) ?v38 rfl rfl (by kernel_rfl) (by kernel_rfl) (by kernel_rfl) (by rfl) ?y38 (fun _ _ _ h=>h) (by assumption) ?n38
        case y38 =>
          intro w hSw
          try dsimp only at hSw
          go_simp
          try with_reducible rfl
        try simp only[Act.put,List.setIfInBounds_toArray,List.set_cons_zero,List.set_cons_succ]
        refine take_w 18 (some 3) ?v39 rfl rfl (by kernel_rfl) (by kernel_rfl) (by kernel_rfl) (by rfl) ?y39 (fun _ _ _ h=>h) (by assumption) ?n39
        case y39 =>
          intro w hSw
          try dsimp only at hSw
          go_simp
          try with_reducible rfl
        try simp only[Act.put,List.setIfInBounds_toArray,List.set_cons_zero,List.set_cons_succ]
        refine take_w 19 (some 4) ?v40 rfl rfl (by kernel_rfl) (by kernel_rfl) (by kernel_rfl) (by rfl) ?y40 (fun _ _ _ h=>h) (by assumption) ?n40
        case y40 =>
          intro w hSw
          try dsimp only at hSw
          go_simp
          try with_reducible rfl
        try simp only[Act.put,List.setIfInBounds_toArray,List.set_cons_zero,List.set_cons_succ]
        refine wpAnyH_done (by kernel_rfl) ?_ _
        have bZ:=hb.trans (bN.mono hsw)
        clear bN
        go_wp2_with fail
        go_roundw
        case rel=>exact⟨k+1,_,_,rfl,rfl,by omega,by go_num,bZ,by unfold Hid;rw[HR3.out];rfl,by unfold Hid;rw[HL3.out];rfl⟩
        case measure=>simp[intOf];omega
      case false.false =>
        go_wp2_with fail
        have bN:Below wr.heap.size wr wr.drew:=(Below.refl _ wr).drew
        refine wp_region_held_drew (S:=fun w'=>Below wr.heap.size wr w'∧w'.cell? (ad.add k)=some (.int .i64 z)) (by kernel_rfl) ?_ (fun hHeld=>?_)
        · exact⟨bN,(bN.cell HLB.out).trans C0.out⟩
        refine take_w 0 (some 12) ?v41 rfl rfl (by kernel_rfl) (by kernel_rfl) (by kernel_rfl) (by rfl) ?y41 (fun _ _ _ h=>h) (by assumption) ?n41
        case y41 =>
          intro w hSw
          try dsimp only at hSw
          go_simp
          try with_reducible rfl
        try simp only[Act.put,List.setIfInBounds_toArray,List.set_cons_zero,List.set_cons_succ]
        refine take_w 1 (some 13) ?v42 rfl rfl (by kernel_rfl) (by kernel_rfl) (by kernel_rfl) (by rfl) ?y42 (fun _ _ _ h=>h) (by assumption) ?n42
        case y42 =>
          intro w hSw
          try dsimp only at hSw
          go_simp
          try with_reducible rfl
        try simp only[Act.put,List.setIfInBounds_toArray,List.set_cons_zero,List.set_cons_succ]
        refine take_w 3 (some 15) ?v43 rfl rfl (by kernel_rfl) (by kernel_rfl) (by kernel_rfl) (by rfl) ?y43 (fun _ _ _ h=>h) (by assumption) ?n43
        case y43 =>
          intro w hSw
          try dsimp only at hSw
          go_simp
          try with_reducible rfl
        try simp only[Act.put,List.setIfInBounds_toArray,List.set_cons_zero,List.set_cons_succ]
        refine take_w 4 (some 16) ?v44 rfl rfl (by kernel_rfl) (by kernel_rfl) (by kernel_rfl) (by rfl) ?y44 (fun _ _ _ h=>h) (by assumption) ?n44
        case y44 =>
          intro w hSw
          try dsimp only at hSw
          go_simp
          try with_reducible rfl
        try simp only[Act.put,List.setIfInBounds_toArray,List.set_cons_zero,List.set_cons_succ]
        refine take_w 5 (some 17) ?v45 rfl rfl (by kernel_rfl) (by kernel_rfl) (by kernel_rfl) (by rfl) ?y45 (fun _ _ _ h=>h) (by assumption) ?n45
        case y45 =>
          intro w hSw
          try dsimp only at hSw
          go_simp
          try with_reducible rfl
        try simp only[Act.put,List.setIfInBounds_toArray,List.set_cons_zero,List.set_cons_succ]
        refine take_w 6 (some 18) ?v46 rfl rfl (by kernel_rfl) (by kernel_rfl) (by kernel_rfl) (by rfl) ?y46 (fun _ _ _ h=>h) (by assumption) ?n46
        case y46 =>
          intro w hSw
          try dsimp only at hSw
          go_simp
          try with_reducible rfl
        try simp only[Act.put,List.setIfInBounds_toArray,List.set_cons_zero,List.set_cons_succ]
        refine take_w 9 (some 21) ?v47 rfl rfl (by kernel_rfl) (by kernel_rfl) (by kernel_rfl) (by rfl) ?y47 (fun _ _ _ h=>h) (by assumption) ?n47
        case y47 =>
          intro w hSw
          try dsimp only at hSw
          go_simp
          try with_reducible rfl
        try simp only[Act.put,List.setIfInBounds_toArray,List.set_cons_zero,List.set_cons_succ]
        refine wpAnyH_ready (rs:=[2]) (by kernel_rfl) (by simp) ?_
        refine AllReadyH.cons (i:=2) rfl (fun K hK=>?_) AllReadyH.nil
        go_simp
        refine(HRL.out _).mono ?_
        rintro e wN ⟨voR,rfl,oR,bX⟩
        have bN:=bN.trans (bX.mono bN.size)
        obtain⟨AoR,coR,rfl⟩:=oR.slice
        have oR:=Lib.hid oR
        clear bX
        go_wp2_with fail
        refine hK.out _ _ ?_ (fun hHeld=>?_)
        · exact⟨bN,(bN.cell HLB.out).trans C0.out⟩
        clear hK K
        try simp only[Act.put,List.setIfInBounds_toArray,List.set_cons_zero,List.set_cons_succ]
        refine wpAnyH_ready (rs:=[7]) (by kernel_rfl) (by simp) ?_
        refine AllReadyH.cons (i:=7) rfl (fun K hK=>?_) AllReadyH.nil
        go_simp
        refine(HIR2.out _ _ _ oR.out).mono ?_
        rintro e wN ⟨rfl,bX⟩
        have bN:=bN.trans (bX.mono bN.size)
        clear bX
        go_wp2_with fail
        refine hK.out _ _ ?_ (fun hHeld=>?_)
        · exact⟨bN,(bN.cell HLB.out).trans C0.out⟩
        clear hK K
        try simp only[Act.put,List.setIfInBounds_toArray,List.set_cons_zero,List.set_cons_succ]
        refine take_w 8 (some 20) ?v50 rfl rfl (by kernel_rfl) (by kernel_rfl) (by kernel_rfl) (by rfl) ?y50 (fun _ _ _ h=>h) (by assumption) ?n50
        case y50 =>
          intro w hSw
          try dsimp only at hSw
          go_simp
          try with_reducible rfl
        try simp only[Act.put,List.setIfInBounds_toArray,List.set_cons_zero,List.set_cons_succ]
        refine take_w 10 (some 22) ?v51 rfl rfl (by kernel_rfl) (by kernel_rfl) (by kernel_rfl) (by rfl) ?y51 (fun _ _ _ h=>h) (by assumption) ?n51
        case y51 =>
          intro w hSw
          try dsimp only at hSw
          go_simp
          try with_reducible rfl
        try simp only[Act.put,List.setIfInBounds_toArray,List.set_cons_zero,List.set_cons_succ]
        refine take_w 12 (some 24) ?v52 rfl rfl (by kernel_rfl) (by kernel_rfl) (by kernel_rfl) (by rfl) ?y52 (fun _ _ _ h=>h) (by assumption) ?n52
        case y52 =>
          intro w hSw
          try dsimp only at hSw
          go_simp
          try with_reducible rfl
        try simp only[Act.put,List.setIfInBounds_toArray,List.set_cons_zero,List.set_cons_succ]
        refine take_w 13 (some 25) ?v53 rfl rfl (by kernel_rfl) (by kernel_rfl) (by kernel_rfl) (by rfl) ?y53 (fun _ _ _ h=>h) (by assumption) ?n53
        case y53 =>
          intro w hSw
          try dsimp only at hSw
          go_simp
          try with_reducible rfl
        try simp only[Act.put,List.setIfInBounds_toArray,List.set_cons_zero,List.set_cons_succ]
        refine take_w 14 (some 26) ?v54 rfl rfl (by kernel_rfl) (by kernel_rfl) (by kernel_rfl) (by rfl) ?y54 (fun _ _ _ h=>h) (by assumption) ?n54
        case y54 =>
          intro w hSw
          try dsimp only at hSw
          go_simp
          try with_reducible rfl
        try simp only[Act.put,List.setIfInBounds_toArray,List.set_cons_zero,List.set_cons_succ]
        refine take_w 15 (some 27) ?v55 rfl rfl (by kernel_rfl) (by kernel_rfl) (by kernel_rfl) (by rfl) ?y55 (fun _ _ _ h=>h) (by assumption) ?n55
        case y55 =>
          intro w hSw
          try dsimp only at hSw
          go_simp
          try with_reducible rfl
        try simp only[Act.put,List.setIfInBounds_toArray,List.set_cons_zero,List.set_cons_succ]
        refine wpAnyH_ready (rs:=[11]) (by kernel_rfl) (by simp) ?_
        refine AllReadyH.cons (i:=11) rfl (fun K hK=>?_) AllReadyH.nil
        go_simp
        refine(HLT.out _).mono ?_
        rintro e wN ⟨voL,rfl,oL,bX⟩
        have bN:=bN.trans (bX.mono bN.size)
        obtain⟨AoL,coL,rfl⟩:=oL.slice
        have oL:=Lib.hid oL
        clear bX
        go_wp2_with fail
        refine hK.out _ _ ?_ (fun hHeld=>?_)
        · exact⟨bN,(bN.cell HLB.out).trans C0.out⟩
        clear hK K
        try simp only[Act.put,List.setIfInBounds_toArray,List.set_cons_zero,List.set_cons_succ]
        refine wpAnyH_ready (rs:=[16]) (by kernel_rfl) (by simp) ?_
        refine AllReadyH.cons (i:=16) rfl (fun K hK=>?_) AllReadyH.nil
        go_simp
        refine(HIL2.out _ _ _ oL.out).mono ?_
        rintro e wN ⟨rfl,bX⟩
        have bN:=bN.trans (bX.mono bN.size)
        clear bX
        go_wp2_with fail
        refine hK.out _ _ ?_ (fun hHeld=>?_)
        · exact⟨bN,(bN.cell HLB.out).trans C0.out⟩
        clear hK K
        try simp only[Act.put,List.setIfInBounds_toArray,List.set_cons_zero,List.set_cons_succ]
        refine take_w 17 (some 29) ?v58 rfl rfl (by kernel_rfl) (by kernel_rfl) (by kernel_rfl) (by rfl) ?y58 (fun _ _ _ h=>h) (by assumption) ?n58
        case y58 =>
          intro w hSw
          try dsimp only at hSw
          go_simp
          try with_reducible rfl
        try simp only[Act.put,List.setIfInBounds_toArray,List.set_cons_zero,List.set_cons_succ]
        refine take_w 18 (some 3) ?v59 rfl rfl (by kernel_rfl) (by kernel_rfl) (by kernel_rfl) (by rfl) ?y59 (fun _ _ _ h=>h) (by assumption) ?n59
        case y59 =>
          intro w hSw
          try dsimp only at hSw
          go_simp
          try with_reducible rfl
        try simp only[Act.put,List.setIfInBounds_toArray,List.set_cons_zero,List.set_cons_succ]
        refine take_w 19 (some 4) ?v60 rfl rfl (by kernel_rfl) (by kernel_rfl) (by kernel_rfl) (by rfl) ?y60 (fun _ _ _ h=>h) (by assumption) ?n60
        case y60 =>
          intro w hSw
          try dsimp only at hSw
          go_simp
          try with_reducible rfl
        try simp only[Act.put,List.setIfInBounds_toArray,List.set_cons_zero,List.set_cons_succ]
        refine wpAnyH_done (by kernel_rfl) ?_ _
        have bZ:=hb.trans (bN.mono hsw)
        clear bN
        go_wp2_with fail
        go_roundw
        case rel=>exact⟨k+1,_,_,rfl,rfl,by omega,by go_num,bZ,by unfold Hid;rw[HR3.out];rfl,by unfold Hid;rw[HL3.out];rfl⟩
        case measure=>simp[intOf];omega
    · have hke:k=x.length:=by omega
      have hr2:=hr.out
      have hl3:=hl2.out
      rw[hke,List.take_length] at hr2 hl3
      cases r with
      | false =>
        have hf:=Lib.hid (HN.out hr2.symm)
        clear hke hr2 hl3
        go_wp2_with fail
        go_big_quiet (fail)
        go_wp2_with fail
        go_ret
        exact⟨ret_bool hf.out.symm,drewN_below hb _⟩
      | true =>
        have hf:=HS.out hr2.symm
        have hpos:=any_pos hr2.symm
        rw[← hl3] at hf
        cases l with
        | true =>
          have hf2:Hid (q=false):=by unfold Hid;rw[hf];simp
          clear hke hr2 hl3 hf hpos
          go_wp2_with fail
          go_big_quiet (fail)
          go_wp2_with fail
          go_ret
          exact⟨ret_bool hf2.out.symm,drewN_below hb _⟩
        | false =>
          rw[headD_get,lastD_get] at hf
          obtain⟨ad,rfl,hlb,hc⟩:=HX.out hpos
          have d0:=hc 0 hpos
          obtain⟨m,hm⟩:∃ m,x.length=m+1:=⟨x.length - 1,by omega⟩
          have d1:=hc m (by omega)
          rw[show x.length - 1=m by omega] at hf
          rw[← hb.cell (p:=ad.add 0) (by rw[addBlock];omega),add_zero] at d0
          rw[← hb.cell (p:=ad.add m) (by rw[addBlock];omega)] at d1
          have hf1:q=(inL rightLeftL ((x.getD 0 0:Nat):Int)&&inL rightLeftL ((x.getD m 0:Nat):Int)&&!false):=hf
          obtain⟨z0,hz0⟩:∃ z:Int,((x.getD 0 0:Nat):Int)=z:=⟨_,rfl⟩
          obtain⟨z1,hz1⟩:∃ z:Int,((x.getD m 0:Nat):Int)=z:=⟨_,rfl⟩
          rw[hz0] at d0 hf1
          rw[hz1] at d1 hf1
          obtain⟨g1,hg1⟩:∃ g,inL rightLeftL z0=g:=⟨_,rfl⟩
          obtain⟨g2,hg2⟩:∃ g,inL rightLeftL z1=g:=⟨_,rfl⟩
          have HIR0:=Lib.hid (fun B v W (h:OwnR B W v rightLeftL)=>HIR.out B z0 v W h)
          have HIR1:=Lib.hid (fun B v W (h:OwnR B W v rightLeftL)=>HIR.out B z1 v W h)
          rw[hg1] at hf1 HIR0
          rw[hg2] at hf1 HIR1
          have D0:=Lib.hid d0
          have D1:=Lib.hid d1
          have HLB:Hid (ad.block < wr.heap.size):=Nat.lt_of_lt_of_le hlb hsw
          have HLM:Hid ((ad.add m).block < wr.heap.size):=by unfold Hid;rw[addBlock];exact HLB.out
          have HF:=Lib.hid hf1
          have hbd:m+1≤100000000000:=by omega
          have hkm:k=m+1:=by omega
          subst hkm
          rw[hm]
          clear hc hke hr2 hl3 hf hf1 hpos hz0 hz1 hg1 hg2 hr hl2 hl hm HIR HIL HN HS hlt hk HX HLT
          have hw1:IntKind.i64.wrap ((m:Int)+1 - 1)=(m:Int):=by rw[IntKind.wrap_i64];omega
          have hw2:IntKind.i64.wrap (m:Int)=(m:Int):=by rw[IntKind.wrap_i64];omega
          have hw3:(0:Int)≤(m:Int):=by omega
          have hw4:(m:Int) < (m:Int)+1:=by omega
          have hw5:m < m+1:=by omega
          cases g1 with
          | false =>
            go_wp2_with fail
            have bN:Below wr.heap.size wr wr.drew:=(Below.refl _ wr).drew
            refine wp_region_held_drew (S:=fun w'=>Below wr.heap.size wr w'∧w'.cell? ad=some (.int .i64 z0)∧w'.cell? (ad.add m)=some (.int .i64 z1)) (by kernel_rfl) ?_ (fun hHeld=>?_)
            · exact⟨bN,(bN.cell HLB.out).trans D0.out,(bN.cell HLM.out).trans D1.out⟩
            refine take_w 0 (some 30) ?v85 rfl rfl (by kernel_rfl) (by kernel_rfl) (by kernel_rfl) (by rfl) ?y85 (fun _ _ _ h=>h) (by assumption) ?n85
            case y85 =>
              intro w hSw
              try dsimp only at hSw
              go_simp
              try with_reducible rfl
            try simp only[Act.put,List.setIfInBounds_toArray,List.set_cons_zero,List.set_cons_succ]
            refine take_w 1 (some 31) ?v86 rfl rfl (by kernel_rfl) (by kernel_rfl) (by kernel_rfl) (by rfl) ?y86 (fun _ _ _ h=>h) (by assumption) ?n86
            case y86 =>
              intro w hSw
              try dsimp only at hSw
              go_simp
              try with_reducible rfl
            try simp only[Act.put,List.setIfInBounds_toArray,List.set_cons_zero,List.set_cons_succ]
            refine take_w 2 (some 32) ?v87 rfl rfl (by kernel_rfl) (by kernel_rfl) (by kernel_rfl) (by rfl) ?y87 (fun _ _ _ h=>h) (by assumption) ?n87
            case y87 =>
              intro w hSw
              try dsimp only at hSw
              go_simp
              try with_reducible rfl
            try simp only[Act.put,List.setIfInBounds_toArray,List.set_cons_zero,List.set_cons_succ]
            refine take_w 3 (some 33) ?v88 rfl rfl (by kernel_rfl) (by kernel_rfl) (by kernel_rfl) (by rfl) ?y88 (fun _ _ _ h=>h) (by assumption) ?n88
            case y88 =>
              intro w hSw
              try dsimp only at hSw
              go_simp
              try with_reducible rfl
            try simp only[Act.put,List.setIfInBounds_toArray,List.set_cons_zero,List.set_cons_succ]
            refine take_w 4 (some 34) ?v89 rfl rfl (by kernel_rfl) (by kernel_rfl) (by kernel_rfl) (by rfl) ?y89 (fun _ _ _ h=>h) (by assumption) ?n89
            case y89 =>
              intro w hSw
              try dsimp only at hSw
              go_simp
              try with_reducible rfl
            try simp only[Act.put,List.setIfInBounds_toArray,List.set_cons_zero,List.set_cons_succ]
            refine take_w 5 (some 35) ?v90 rfl rfl (by kernel_rfl) (by kernel_rfl) (by kernel_rfl) (by rfl) ?y90 (fun _ _ _ h=>h) (by assumption) ?n90
            case y90 =>
              intro w hSw
              try dsimp only at hSw
              go_simp
              try with_reducible rfl
            try simp only[Act.put,List.setIfInBounds_toArray,List.set_cons_zero,List.set_cons_succ]
            refine take_w 7 (some 37) ?v91 rfl rfl (by kernel_rfl) (by kernel_rfl) (by kernel_rfl) (by rfl) ?y91 (fun _ _ _ h=>h) (by assumption) ?n91
            case y91 =>
              intro w hSw
              try dsimp only at hSw
              go_simp
              try with_reducible rfl
            try simp only[Act.put,List.setIfInBounds_toArray,List.set_cons_zero,List.set_cons_succ]
            refine take_w 8 (some 38) ?v92 rfl rfl (by kernel_rfl) (by kernel_rfl) (by kernel_rfl) (by rfl) ?y92 (fun _ _ _ h=>h) (by assumption) ?n92
            case y92 =>
              intro w hSw
              try dsimp only at hSw
              go_simp
              try with_reducible rfl
            try simp only[Act.put,List.setIfInBounds_toArray,List.set_cons_zero,List.set_cons_succ]
            refine take_w 9 (some 39) ?v93 rfl rfl (by kernel_rfl) (by kernel_rfl) (by kernel_rfl) (by rfl) ?y93 (fun _ _ _ h=>h) (by assumption) ?n93
            case y93 =>
              intro w hSw
              try dsimp only at hSw
              go_simp
              try with_reducible rfl
            try simp only[Act.put,List.setIfInBounds_toArray,List.set_cons_zero,List.set_cons_succ]
            refine wpAnyH_ready (rs:=[6]) (by kernel_rfl) (by simp) ?_
            refine AllReadyH.cons (i:=6) rfl (fun K hK=>?_) AllReadyH.nil
            go_simp
            refine(HRL.out _).mono ?_
            rintro e wN ⟨voR,rfl,oR,bX⟩
            have bN:=bN.trans (bX.mono bN.size)
            obtain⟨AoR,coR,rfl⟩:=oR.slice
            have oR:=Lib.hid oR
            clear bX
            go_wp2_with fail
            refine hK.out _ _ ?_ (fun hHeld=>?_)
            · exact⟨bN,(bN.cell HLB.out).trans D0.out,(bN.cell HLM.out).trans D1.out⟩
            clear hK K
            try simp only[Act.put,List.setIfInBounds_toArray,List.set_cons_zero,List.set_cons_succ]
            refine wpAnyH_ready (rs:=[10]) (by kernel_rfl) (by simp) ?_
            refine AllReadyH.cons (i:=10) rfl (fun K hK=>?_) AllReadyH.nil
            go_simp
            refine(HIR0.out _ _ _ oR.out).mono ?_
            rintro e wN ⟨rfl,bX⟩
            have bN:=bN.trans (bX.mono bN.size)
            clear bX
            go_wp2_with fail
            refine hK.out _ _ ?_ (fun hHeld=>?_)
            · exact⟨bN,(bN.cell HLB.out).trans D0.out,(bN.cell HLM.out).trans D1.out⟩
            clear hK K
            try simp only[Act.put,List.setIfInBounds_toArray,List.set_cons_zero,List.set_cons_succ]
            refine take_w 11 (some 41) ?v96 rfl rfl (by kernel_rfl) (by kernel_rfl) (by kernel_rfl) (by rfl) ?y96 (fun _ _ _ h=>h) (by assumption) ?n96
            case y96 =>
              intro w hSw
              try dsimp only at hSw
              go_simp
              try with_reducible rfl
            try simp only[Act.put,List.setIfInBounds_toArray,List.set_cons_zero,List.set_cons_succ]
            refine take_w 12 (some 42) ?v97 rfl rfl (by kernel_rfl) (by kernel_rfl) (by kernel_rfl) (by rfl) ?y97 (fun _ _ _ h=>h) (by assumption) ?n97
            case y97 =>
              intro w hSw
              try dsimp only at hSw
              go_simp
              try with_reducible rfl
            try simp only[Act.put,List.setIfInBounds_toArray,List.set_cons_zero,List.set_cons_succ]
            refine take_u 13 (some 43) rfl rfl (by kernel_rfl) (by kernel_rfl) (by kernel_rfl) (by rfl) (fun _ _ _ h=>h) (by assumption) ?n98
            try simp only[Act.put,List.setIfInBounds_toArray,List.set_cons_zero,List.set_cons_succ]
            refine take_u 14 (some 44) rfl rfl (by kernel_rfl) (by kernel_rfl) (by kernel_rfl) (by rfl) (fun _ _ _ h=>h) (by assumption) ?n99
            try simp only[Act.put,List.setIfInBounds_toArray,List.set_cons_zero,List.set_cons_succ]
            refine take_u 15 (some 45) rfl rfl (by kernel_rfl) (by kernel_rfl) (by kernel_rfl) (by rfl) (fun _ _ _ h=>h) (by assumption) ?n100
            try simp only[Act.put,List.setIfInBounds_toArray,List.set_cons_zero,List.set_cons_succ]
            refine take_u 16 (some 46) rfl rfl (by kernel_rfl) (by kernel_rfl) (by kernel_rfl) (by rfl) (fun _ _ _ h=>h) (by assumption) ?n101
            try simp only[Act.put,List.setIfInBounds_toArray,List.set_cons_zero,List.set_cons_succ]
            refine take_u 17 (some 47) rfl rfl (by kernel_rfl) (by kernel_rfl) (by kernel_rfl) (by rfl) (fun _ _ _ h=>h) (by assumption) ?n102
            try simp only[Act.put,List.setIfInBounds_toArray,List.set_cons_zero,List.set_cons_succ]
            refine take_u 18 (some 48) rfl rfl (by kernel_rfl) (by kernel_rfl) (by kernel_rfl) (by rfl) (fun _ _ _ h=>h) (by assumption) ?n103
            try simp only[Act.put,List.setIfInBounds_toArray,List.set_cons_zero,List.set_cons_succ]
            refine take_u 19 (some 49) rfl rfl (by kernel_rfl) (by kernel_rfl) (by kernel_rfl) (by rfl) (fun _ _ _ h=>h) (by assumption) ?n104
            try simp only[Act.put,List.setIfInBounds_toArray,List.set_cons_zero,List.set_cons_succ]
            refine take_u 20 (some 50) rfl rfl (by kernel_rfl) (by kernel_rfl) (by kernel_rfl) (by rfl) (fun _ _ _ h=>h) (by assumption) ?n105
            try simp only[Act.put,List.setIfInBounds_toArray,List.set_cons_zero,List.set_cons_succ]
            refine take_w 21 (some 51) ?v106 rfl rfl (by kernel_rfl) (by kernel_rfl) (by kernel_rfl) (by rfl) ?y106 (fun _ _ _ h=>h) (by assumption) ?n106
            case y106 =>
              intro w hSw
              try dsimp only at hSw
              go_simp
              try with_reducible rfl
            try simp only[Act.put,List.setIfInBounds_toArray,List.set_cons_zero,List.set_cons_succ]
            refine take_w 22 (some 52) ?v107 rfl rfl (by kernel_rfl) (by kernel_rfl) (by kernel_rfl) (by rfl) ?y107 (fun _ _ _ h=>h) (by assumption) ?n107
            case y107 =>
              intro w hSw
              try dsimp only at hSw
              go_simp
              try with_reducible rfl
            try simp only[Act.put,List.setIfInBounds_toArray,List.set_cons_zero,List.set_cons_succ]
            refine take_w 23 (some 2) ?v108 rfl rfl (by kernel_rfl) (by kernel_rfl) (by kernel_rfl) (by rfl) ?y108 (fun _ _ _ h=>h) (by assumption) ?n108
            case y108 =>
              intro w hSw
              try dsimp only at hSw
              go_simp
              try with_reducible rfl
            try simp only[Act.put,List.setIfInBounds_toArray,List.set_cons_zero,List.set_cons_succ]
            refine wpAnyH_done (by kernel_rfl) ?_ _
            have bZ:=hb.trans (bN.mono hsw)
            clear bN
            go_wp2_with fail
            go_ret
            exact⟨ret_bool (by rw[HF.out];rfl),bZ⟩
          | true =>
            go_wp2_with fail
            have bN:Below wr.heap.size wr wr.drew:=(Below.refl _ wr).drew
            refine wp_region_held_drew (S:=fun w'=>Below wr.heap.size wr w'∧w'.cell? ad=some (.int .i64 z0)∧w'.cell? (ad.add m)=some (.int .i64 z1)) (by kernel_rfl) ?_ (fun hHeld=>?_)
            · exact⟨bN,(bN.cell HLB.out).trans D0.out,(bN.cell HLM.out).trans D1.out⟩
            refine take_w 0 (some 30) ?v61 rfl rfl (by kernel_rfl) (by kernel_rfl) (by kernel_rfl) (by rfl) ?y61 (fun _ _ _ h=>h) (by assumption) ?n61
            case y61 =>
              intro w hSw
              try dsimp only at hSw
              go_simp
              try with_reducible rfl
            try simp only[Act.put,List.setIfInBounds_toArray,List.set_cons_zero,List.set_cons_succ]
            refine take_w 1 (some 31) ?v62 rfl rfl (by kernel_rfl) (by kernel_rfl) (by kernel_rfl) (by rfl) ?y62 (fun _ _ _ h=>h) (by assumption) ?n62
            case y62 =>
              intro w hSw
              try dsimp only at hSw
              go_simp
              try with_reducible rfl
            try simp only[Act.put,List.setIfInBounds_toArray,List.set_cons_zero,List.set_cons_succ]
            refine take_w 2 (some 32) ?v63 rfl rfl (by kernel_rfl) (by kernel_rfl) (by kernel_rfl) (by rfl) ?y63 (fun _ _ _ h=>h) (by assumption) ?n63
            case y63 =>
              intro w hSw
              try dsimp only at hSw
              go_simp
              try with_reducible rfl
            try simp only[Act.put,List.setIfInBounds_toArray,List.set_cons_zero,List.set_cons_succ]
            refine take_w 3 (some 33) ?v64 rfl rfl (by kernel_rfl) (by kernel_rfl) (by kernel_rfl) (by rfl) ?y64 (fun _ _ _ h=>h) (by assumption) ?n64
            case y64 =>
              intro w hSw
              try dsimp only at hSw
              go_simp
              try with_reducible rfl
            try simp only[Act.put,List.setIfInBounds_toArray,List.set_cons_zero,List.set_cons_succ]
            refine take_w 4 (some 34) ?v65 rfl rfl (by kernel_rfl) (by kernel_rfl) (by kernel_rfl) (by rfl) ?y65 (fun _ _ _ h=>h) (by assumption) ?n65
            case y65 =>
              intro w hSw
              try dsimp only at hSw
              go_simp
              try with_reducible rfl
            try simp only[Act.put,List.setIfInBounds_toArray,List.set_cons_zero,List.set_cons_succ]
            refine take_w 5 (some 35) ?v66 rfl rfl (by kernel_rfl) (by kernel_rfl) (by kernel_rfl) (by rfl) ?y66 (fun _ _ _ h=>h) (by assumption) ?n66
            case y66 =>
              intro w hSw
              try dsimp only at hSw
              go_simp
              try with_reducible rfl
            try simp only[Act.put,List.setIfInBounds_toArray,List.set_cons_zero,List.set_cons_succ]
            refine take_w 7 (some 37) ?v67 rfl rfl (by kernel_rfl) (by kernel_rfl) (by kernel_rfl) (by rfl) ?y67 (fun _ _ _ h=>h) (by assumption) ?n67
            case y67 =>
              intro w hSw
              try dsimp only at hSw
              go_simp
              try with_reducible rfl
            try simp only[Act.put,List.setIfInBounds_toArray,List.set_cons_zero,List.set_cons_succ]
            refine take_w 8 (some 38) ?v68 rfl rfl (by kernel_rfl) (by kernel_rfl) (by kernel_rfl) (by rfl) ?y68 (fun _ _ _ h=>h) (by assumption) ?n68
            case y68 =>
              intro w hSw
              try dsimp only at hSw
              go_simp
              try with_reducible rfl
            try simp only[Act.put,List.setIfInBounds_toArray,List.set_cons_zero,List.set_cons_succ]
            refine take_w 9 (some 39) ?v69 rfl rfl (by kernel_rfl) (by kernel_rfl) (by kernel_rfl) (by rfl) ?y69 (fun _ _ _ h=>h) (by assumption) ?n69
            case y69 =>
              intro w hSw
              try dsimp only at hSw
              go_simp
              try with_reducible rfl
            try simp only[Act.put,List.setIfInBounds_toArray,List.set_cons_zero,List.set_cons_succ]
            refine wpAnyH_ready (rs:=[6]) (by kernel_rfl) (by simp) ?_
            refine AllReadyH.cons (i:=6) rfl (fun K hK=>?_) AllReadyH.nil
            go_simp
            refine(HRL.out _).mono ?_
            rintro e wN ⟨voR,rfl,oR,bX⟩
            have bN:=bN.trans (bX.mono bN.size)
            obtain⟨AoR,coR,rfl⟩:=oR.slice
            have oR:=Lib.hid oR
            clear bX
            go_wp2_with fail
            refine hK.out _ _ ?_ (fun hHeld=>?_)
            · exact⟨bN,(bN.cell HLB.out).trans D0.out,(bN.cell HLM.out).trans D1.out⟩
            clear hK K
            try simp only[Act.put,List.setIfInBounds_toArray,List.set_cons_zero,List.set_cons_succ]
            refine wpAnyH_ready (rs:=[10]) (by kernel_rfl) (by simp) ?_
            refine AllReadyH.cons (i:=10) rfl (fun K hK=>?_) AllReadyH.nil
            go_simp
            refine(HIR0.out _ _ _ oR.out).mono ?_
            rintro e wN ⟨rfl,bX⟩
            have bN:=bN.trans (bX.mono bN.size)
            clear bX
            go_wp2_with fail
            refine hK.out _ _ ?_ (fun hHeld=>?_)
            · exact⟨bN,(bN.cell HLB.out).trans D0.out,(bN.cell HLM.out).trans D1.out⟩
            clear hK K
            try simp only[Act.put,List.setIfInBounds_toArray,List.set_cons_zero,List.set_cons_succ]
            refine take_w 11 (some 41) ?v72 rfl rfl (by kernel_rfl) (by kernel_rfl) (by kernel_rfl) (by rfl) ?y72 (fun _ _ _ h=>h) (by assumption) ?n72
            case y72 =>
              intro w hSw
              try dsimp only at hSw
              go_simp
              try with_reducible rfl
            try simp only[Act.put,List.setIfInBounds_toArray,List.set_cons_zero,List.set_cons_succ]
            refine take_w 12 (some 42) ?v73 rfl rfl (by kernel_rfl) (by kernel_rfl) (by kernel_rfl) (by rfl) ?y73 (fun _ _ _ h=>h) (by assumption) ?n73
            case y73 =>
              intro w hSw
              try dsimp only at hSw
              go_simp
              try with_reducible rfl
            try simp only[Act.put,List.setIfInBounds_toArray,List.set_cons_zero,List.set_cons_succ]
            refine take_w 14 (some 44) ?v74 rfl rfl (by kernel_rfl) (by kernel_rfl) (by kernel_rfl) (by rfl) ?y74 (fun _ _ _ h=>h) (by assumption) ?n74
            case y74 =>
              intro w hSw
              try dsimp only at hSw
              go_simp
              try with_reducible rfl
            try simp only[Act.put,List.setIfInBounds_toArray,List.set_cons_zero,List.set_cons_succ]
            refine take_w 15 (some 45) ?v75 rfl rfl (by kernel_rfl) (by kernel_rfl) (by kernel_rfl) (by rfl) ?y75 (fun _ _ _ h=>h) (by assumption) ?n75
            case y75 =>
              intro w hSw
              try dsimp only at hSw
              go_simp
              try with_reducible rfl
            try simp only[Act.put,List.setIfInBounds_toArray,List.set_cons_zero,List.set_cons_succ]
            refine take_w 16 (some 46) ?v76 rfl rfl (by kernel_rfl) (by kernel_rfl) (by kernel_rfl) (by rfl) ?y76 (fun _ _ _ h=>h) (by assumption) ?n76
            case y76 =>
              intro w hSw
              try dsimp only at hSw
              go_simp
              try with_reducible rfl
            try simp only[Act.put,List.setIfInBounds_toArray,List.set_cons_zero,List.set_cons_succ]
            refine take_w 17 (some 47) ?v77 rfl rfl (by kernel_rfl) (by kernel_rfl) (by kernel_rfl) (by rfl) ?y77 (fun _ _ _ h=>h) (by assumption) ?n77
            case y77 =>
              intro w hSw
              try dsimp only at hSw
              go_simp
              try with_reducible rfl
            try simp only[Act.put,List.setIfInBounds_toArray,List.set_cons_zero,List.set_cons_succ]
            refine take_w 18 (some 48) ?v78 rfl rfl (by kernel_rfl) (by kernel_rfl) (by kernel_rfl) (by rfl) ?y78 (fun _ _ _ h=>h) (by assumption) ?n78
            case y78 =>
              intro w hSw
              try dsimp only at hSw
              go_simp
              try with_reducible rfl
            try simp only[Act.put,List.setIfInBounds_toArray,List.set_cons_zero,List.set_cons_succ]
            refine take_w 19 (some 49) ?v79 rfl rfl (by kernel_rfl) (by kernel_rfl) (by kernel_rfl) (by rfl) ?y79 (fun _ _ _ h=>h) (by assumption) ?n79
            case y79 =>
              intro w hSw
              try dsimp only at hSw
              go_simp
              try with_reducible rfl
            try simp only[Act.put,List.setIfInBounds_toArray,List.set_cons_zero,List.set_cons_succ]
            refine wpAnyH_ready (rs:=[13]) (by kernel_rfl) (by simp) ?_
            refine AllReadyH.cons (i:=13) rfl (fun K hK=>?_) AllReadyH.nil
            go_simp
            refine(HRL.out _).mono ?_
            rintro e wN ⟨voR,rfl,oR,bX⟩
            have bN:=bN.trans (bX.mono bN.size)
            obtain⟨AoR,coR,rfl⟩:=oR.slice
            have oR:=Lib.hid oR
            clear bX
            go_wp2_with fail
            refine hK.out _ _ ?_ (fun hHeld=>?_)
            · exact⟨bN,(bN.cell HLB.out).trans D0.out,(bN.cell HLM.out).trans D1.out⟩
            clear hK K
            try simp only[Act.put,List.setIfInBounds_toArray,List.set_cons_zero,List.set_cons_succ]
            refine wpAnyH_ready (rs:=[20]) (by kernel_rfl) (by simp) ?_
            refine AllReadyH.cons (i:=20) rfl (fun K hK=>?_) AllReadyH.nil
            go_simp
            refine(HIR1.out _ _ _ oR.out).mono ?_
            rintro e wN ⟨rfl,bX⟩
            have bN:=bN.trans (bX.mono bN.size)
            clear bX
            go_wp2_with fail
            refine hK.out _ _ ?_ (fun hHeld=>?_)
            · exact⟨bN,(bN.cell HLB.out).trans D0.out,(bN.cell HLM.out).trans D1.out⟩
            clear hK K
            try simp only[Act.put,List.setIfInBounds_toArray,List.set_cons_zero,List.set_cons_succ]
            refine take_w 21 (some 51) ?v82 rfl rfl (by kernel_rfl) (by kernel_rfl) (by kernel_rfl) (by rfl) ?y82 (fun _ _ _ h=>h) (by assumption) ?n82
            case y82 =>
              intro w hSw
              try dsimp only at hSw
              go_simp
              try with_reducible rfl
            try simp only[Act.put,List.setIfInBounds_toArray,List.set_cons_zero,List.set_cons_succ]
            refine take_w 22 (some 52) ?v83 rfl rfl (by kernel_rfl) (by kernel_rfl) (by kernel_rfl) (by rfl) ?y83 (fun _ _ _ h=>h) (by assumption) ?n83
            case y83 =>
              intro w hSw
              try dsimp only at hSw
              go_simp
              try with_reducible rfl
            try simp only[Act.put,List.setIfInBounds_toArray,List.set_cons_zero,List.set_cons_succ]
            refine take_w 23 (some 2) ?v84 rfl rfl (by kernel_rfl) (by kernel_rfl) (by kernel_rfl) (by rfl) ?y84 (fun _ _ _ h=>h) (by assumption) ?n84
            case y84 =>
              intro w hSw
              try dsimp only at hSw
              go_simp
              try with_reducible rfl
            try simp only[Act.put,List.setIfInBounds_toArray,List.set_cons_zero,List.set_cons_succ]
            refine wpAnyH_done (by kernel_rfl) ?_ _
            have bZ:=hb.trans (bN.mono hsw)
            clear bN
            go_wp2_with fail
            go_ret
            exact⟨ret_bool (by rw[HF.out];cases g2<;>rfl),bZ⟩
end Go.Proofs.YtfbdnaclkfmiaaaGreatDoor