import Derived.Test.YtbgaglcgennhiaaGreatDoorQ11
set_option maxHeartbeats 8000000
set_option maxRecDepth 100000
namespace Go.Proofs.YtbgaglcgennhiaaGreatDoor
open Go.RowKit Rg Tx
theorem ol {x:List Nat} {p:Nat->Bool} {k:Nat} (h:k<x.length):(x.take (k+1)).any p=((x.take k).any p||p (x.getD k 0)):=by rw[List.take_add_one,aQ h,List.any_append,List.getD,aQ h,Option.toList_some,Option.getD_some];simp
section
variable {P:Program} {ops:Array Oper} {Q:Exit->Act->World->Prop} {md:Region.Mode} {S:World->Prop}
theorem Aq (i d:_) (v:Value) {oi:Oper} {fuel:Nat} {listed:Array Bool} {a:Act} {w:World} (hi:ops[i]?=some oi) (hd:oi.dst=d)
 (hs:Region.noSelect ops=true) (hf:Region.free md ops listed i=true) (hr:(Region.ready md ops listed).contains i=true)
 (hw:Region.wanted oi (yielded ops a.tmps)=true) (hv:∀ w,S w->(execOp a.eval oi).run P w=.ok (.value v) w)
 (hQ:∀ c a w,Q (.panic c) (a.put d v) w->Q (.panic c) a w) (hS:S w)
 (h:wpAnyH P md ops Q S fuel (listed.setIfInBounds i true) (a.put d v) w):wpAnyH P md ops Q S (fuel+1) listed a w:=by
 subst hd;exact wpAnyH_take hi hs hf hr hQ (.inl ⟨hw,hv⟩) hS h
theorem Ap (i d:_) {oi:Oper} {fuel:Nat} {listed:Array Bool} {a:Act} {w:World} (hi:ops[i]?=some oi) (hd:oi.dst=d)
 (hs:Region.noSelect ops=true) (hf:Region.free md ops listed i=true) (hr:(Region.ready md ops listed).contains i=true)
 (hw:Region.wanted oi (yielded ops a.tmps)=false)
 (hQ:∀ c a w,Q (.panic c) (a.put d undef) w->Q (.panic c) a w) (hS:S w)
 (h:wpAnyH P md ops Q S fuel (listed.setIfInBounds i true) (a.put d undef) w):wpAnyH P md ops Q S (fuel+1) listed a w:=by
 subst hd;exact wpAnyH_take hi hs hf hr hQ (.inr ⟨hw,rfl⟩) hS h
theorem bo (i d:_) (v:Value) {oi:Oper} {fuel:Nat} {listed:Array Bool} {a:Act} {w:World} (hv:∀ w,S w->(execOp a.eval oi).run P w=.ok (.value v) w) (h:wpAnyH P md ops Q S fuel (listed.setIfInBounds i true) (a.put d v) w)
 (hi:ops[i]?=some oi:=by rfl) (hd:oi.dst=d:=by rfl) (hs:Region.noSelect ops=true:=by kernel_rfl) (hf:Region.free md ops listed i=true:=by kernel_rfl) (hr:(Region.ready md ops listed).contains i=true:=by kernel_rfl)
 (hw:Region.wanted oi (yielded ops a.tmps)=true:=by rfl) (hQ:∀ c a w,Q (.panic c) (a.put d v) w->Q (.panic c) a w:=by exact fun _ _ _ h=>h) (hS:S w:=by assumption):wpAnyH P md ops Q S (fuel+1) listed a w:=Aq i d v hi hd hs hf hr hw hv hQ hS h
theorem mE (i d:_) {oi:Oper} {fuel:Nat} {listed:Array Bool} {a:Act} {w:World} (h:wpAnyH P md ops Q S fuel (listed.setIfInBounds i true) (a.put d undef) w)
 (hi:ops[i]?=some oi:=by rfl) (hd:oi.dst=d:=by rfl) (hs:Region.noSelect ops=true:=by kernel_rfl) (hf:Region.free md ops listed i=true:=by kernel_rfl) (hr:(Region.ready md ops listed).contains i=true:=by kernel_rfl)
 (hw:Region.wanted oi (yielded ops a.tmps)=false:=by rfl) (hQ:∀ c a w,Q (.panic c) (a.put d undef) w->Q (.panic c) a w:=by exact fun _ _ _ h=>h) (hS:S w:=by assumption):wpAnyH P md ops Q S (fuel+1) listed a w:=Ap i d hi hd hs hf hr hw hQ hS h
end
set_option linter.unusedSimpArgs false in
theorem xV (v:Value) (x:List Nat) (w:World) (hv:Reads w.heap.size w v x) (hl:x.length<=100000000000):
 Calls Tryz.prog 133 #[v] w fun e w'=>e=.returned (.bool (Pr.wayB x))/\Below w.heap.size w w':=by
 obtain⟨A,cap,rfl,hx⟩:=hv;have HX:=aa hx;have HRL:=aa e6;have HLT:=aa fM;have HIR:=aa (fun (B:Nat) (z:Int) v W (h:OwnR B W v ag)=>dN v ag z W h.reads (by simp[ag]));have HIL:=aa (fun (B:Nat) (z:Int) v W (h:OwnR B W v au)=>dN v au z W h.reads (by simp[au]));obtain⟨q,hq⟩:=ac (Pr.wayB x);have HN:=aa (fun (h:x.any Pr.rl=false)=>hq.symm.trans (mG h));have HS:=aa (fun (h:x.any Pr.rl=true)=>hq.symm.trans (mH h));rw[hq];clear hx hq;go_enter Tryz.func133,Tryz.ntmps133;go_wp2_with fail
 go_loopw [3,4,5] (fun rr ll i wr=>∃ (k:Nat) (r l:Bool),rr=.bool r/\ll=.bool l/\k<=x.length/\i=.int .i64 k/\Below w.heap.size w wr/\Hid (r=(x.take k).any Pr.rl)/\Hid (l=(x.take k).any Pr.letter)) (fun _ _ i _=>x.length-(intOf i).toNat)
 case atStart=>exact⟨0,_,_,rfl,rfl,bI _,rfl,aE _ _,rfl,rfl⟩
 case round=>
  obtain⟨k,r,l,rfl,rfl,hk,rfl,hb,hr,hl2⟩:=hrel;have hsw:=hb.size;by_cases hlt:k<x.length
  ·obtain⟨ad,rfl,hlb,hc⟩:=HX.out (by omega);have c0:=hc k hlt;rw[<-hb.cell (p:=ad.add k) (by rw[aC];omega)] at c0;obtain⟨c,hcx⟩:=ac (x.getD k 0);have hr1:=ol (p:=Pr.rl) hlt;have hl1:=ol (p:=Pr.letter) hlt;rw[<-hr.out,hcx] at hr1;rw[<-hl2.out,hcx] at hl1;rw[hcx] at c0;have hr3:(x.take (k+1)).any Pr.rl=(r||bO ag (c:Int)):=hr1;have hl3:(x.take (k+1)).any Pr.letter=(l||bO au (c:Int)):=hl1;obtain⟨z,hz⟩:∃ z:Int,(c:Int)=z:=⟨_,rfl⟩;rw[hz] at c0 hr3 hl3;obtain⟨g1,hg1⟩:=ac (bO ag z);obtain⟨g2,hg2⟩:=ac (bO au z);have HIR2:=aa (fun B v W (h:OwnR B W v ag)=>HIR.out B z v W h);have HIL2:=aa (fun B v W (h:OwnR B W v au)=>HIL.out B z v W h);rw[hg1] at hr3 HIR2;rw[hg2] at hl3 HIL2;have HR3:=aa hr3;have HL3:=aa hl3;have C0:=aa c0;have HLB:Hid ((ad.add k).block<wr.heap.size):=(by unfold Hid;rw[aC];omega);clear hc hcx hr1 hl1 hr3 hl3 hz hg1 hg2 hr hl2 HIR HIL HN HS;cases r<;>cases l;case true.true=>
    (go_wp2_with fail);go_big_quiet (fail)
    (go_wp2_with fail);go_roundw;case rel=>exact⟨k+1,_,_,rfl,rfl,by omega,by go_num,be hb _,by unfold Hid;rw[HR3.out];rfl,by unfold Hid;rw[HL3.out];rfl⟩
    case measure=>simp[intOf];omega
   case true.false=>
    (go_wp2_with fail);have bN:Below wr.heap.size wr wr.drew:=(Below.refl _ wr).drew;refine wp_region_held_drew (S:=fun w'=>Below wr.heap.size wr w'/\w'.cell? (ad.add k)=some (.int .i64 z)) (by kernel_rfl) ?_ (fun hHeld=>?_)
    ·exact⟨bN,(bN.cell HLB.out).trans C0.out⟩
    refine bo 0 (some 12) ?v1 ?y1 ?n1;case y1=>intro w hSw;(try dsimp only at hSw);go_simp;try with_reducible rfl
    (try simp only[ay]);refine bo 1 (some 13) ?v2 ?y2 ?n2;case y2=>intro w hSw;(try dsimp only at hSw);go_simp;try with_reducible rfl
    (try simp only[ay]);refine mE 2 (some 14) ?n3;(try simp only[ay]);refine mE 3 (some 15) ?n4;(try simp only[ay]);refine mE 4 (some 16) ?n5;(try simp only[ay]);refine mE 5 (some 17) ?n6;(try simp only[ay]);refine mE 6 (some 18) ?n7;(try simp only[ay]);refine mE 7 (some 19) ?n8;(try simp only[ay]);refine bo 8 (some 20) ?v9 ?y9 ?n9;case y9=>intro w hSw;(try dsimp only at hSw);go_simp;try with_reducible rfl
    (try simp only[ay]);refine bo 9 (some 21) ?v10 ?y10 ?n10;case y10=>intro w hSw;(try dsimp only at hSw);go_simp;try with_reducible rfl
    (try simp only[ay]);refine bo 10 (some 22) ?v11 ?y11 ?n11;case y11=>intro w hSw;(try dsimp only at hSw);go_simp;try with_reducible rfl
    (try simp only[ay]);refine bo 12 (some 24) ?v12 ?y12 ?n12;case y12=>intro w hSw;(try dsimp only at hSw);go_simp;try with_reducible rfl
    (try simp only[ay]);refine bo 13 (some 25) ?v13 ?y13 ?n13;case y13=>intro w hSw;(try dsimp only at hSw);go_simp;try with_reducible rfl
    (try simp only[ay]);refine bo 14 (some 26) ?v14 ?y14 ?n14;case y14=>intro w hSw;(try dsimp only at hSw);go_simp;try with_reducible rfl
    (try simp only[ay]);refine bo 15 (some 27) ?v15 ?y15 ?n15;case y15=>intro w hSw;(try dsimp only at hSw);go_simp;try with_reducible rfl
    (try simp only[ay]);refine wpAnyH_ready (rs:=[11]) (by kernel_rfl) (by simp) ?_;refine AllReadyH.cons (i:=11) rfl (fun K hK=>?_) AllReadyH.nil;go_simp;refine(HLT.out _).mono ?_;rintro e wN ⟨voL,rfl,oL,bX⟩;have bN:=bN.trans (bX.mono bN.size);obtain⟨AoL,coL,rfl⟩:=oL.slice;have oL:=aa oL;clear bX;(go_wp2_with fail);refine hK.out _ _ ?_ (fun hHeld=>?_)
    ·exact⟨bN,(bN.cell HLB.out).trans C0.out⟩
    clear hK K;(try simp only[ay]);refine wpAnyH_ready (rs:=[16]) (by kernel_rfl) (by simp) ?_;refine AllReadyH.cons (i:=16) rfl (fun K hK=>?_) AllReadyH.nil;go_simp;refine(HIL2.out _ _ _ oL.out).mono ?_;rintro e wN ⟨rfl,bX⟩;have bN:=bN.trans (bX.mono bN.size);clear bX;(go_wp2_with fail);refine hK.out _ _ ?_ (fun hHeld=>?_)
    ·exact⟨bN,(bN.cell HLB.out).trans C0.out⟩
    clear hK K;(try simp only[ay]);refine bo 17 (some 29) ?v18 ?y18 ?n18;case y18=>intro w hSw;(try dsimp only at hSw);go_simp;try with_reducible rfl
    (try simp only[ay]);refine bo 18 (some 3) ?v19 ?y19 ?n19;case y19=>intro w hSw;(try dsimp only at hSw);go_simp;try with_reducible rfl
    (try simp only[ay]);refine bo 19 (some 4) ?v20 ?y20 ?n20;case y20=>intro w hSw;(try dsimp only at hSw);go_simp;try with_reducible rfl
    (try simp only[ay]);refine wpAnyH_done (by kernel_rfl) ?_ _;have bZ:=hb.trans (bN.mono hsw);clear bN;(go_wp2_with fail);go_roundw;case rel=>exact⟨k+1,_,_,rfl,rfl,by omega,by go_num,bZ,by unfold Hid;rw[HR3.out];rfl,by unfold Hid;rw[HL3.out];rfl⟩
    case measure=>simp[intOf];omega
   case false.true=>
    (go_wp2_with fail);have bN:Below wr.heap.size wr wr.drew:=(Below.refl _ wr).drew;refine wp_region_held_drew (S:=fun w'=>Below wr.heap.size wr w'/\w'.cell? (ad.add k)=some (.int .i64 z)) (by kernel_rfl) ?_ (fun hHeld=>?_)
    ·exact⟨bN,(bN.cell HLB.out).trans C0.out⟩
    refine bo 0 (some 12) ?v21 ?y21 ?n21;case y21=>intro w hSw;(try dsimp only at hSw);go_simp;try with_reducible rfl
    (try simp only[ay]);refine bo 1 (some 13) ?v22 ?y22 ?n22;case y22=>intro w hSw;(try dsimp only at hSw);go_simp;try with_reducible rfl
    (try simp only[ay]);refine bo 3 (some 15) ?v23 ?y23 ?n23;case y23=>intro w hSw;(try dsimp only at hSw);go_simp;try with_reducible rfl
    (try simp only[ay]);refine bo 4 (some 16) ?v24 ?y24 ?n24;case y24=>intro w hSw;(try dsimp only at hSw);go_simp;try with_reducible rfl
    (try simp only[ay]);refine bo 5 (some 17) ?v25 ?y25 ?n25;case y25=>intro w hSw;(try dsimp only at hSw);go_simp;try with_reducible rfl
    (try simp only[ay]);refine bo 6 (some 18) ?v26 ?y26 ?n26;case y26=>intro w hSw;(try dsimp only at hSw);go_simp;try with_reducible rfl
    (try simp only[ay]);refine bo 9 (some 21) ?v27 ?y27 ?n27;case y27=>intro w hSw;(try dsimp only at hSw);go_simp;try with_reducible rfl
    (try simp only[ay]);refine wpAnyH_ready (rs:=[2]) (by kernel_rfl) (by simp) ?_;refine AllReadyH.cons (i:=2) rfl (fun K hK=>?_) AllReadyH.nil;go_simp;refine(HRL.out _).mono ?_;rintro e wN ⟨voR,rfl,oR,bX⟩;have bN:=bN.trans (bX.mono bN.size);obtain⟨AoR,coR,rfl⟩:=oR.slice;have oR:=aa oR;clear bX;(go_wp2_with fail);refine hK.out _ _ ?_ (fun hHeld=>?_)
    ·exact⟨bN,(bN.cell HLB.out).trans C0.out⟩
    clear hK K;(try simp only[ay]);refine wpAnyH_ready (rs:=[7]) (by kernel_rfl) (by simp) ?_;refine AllReadyH.cons (i:=7) rfl (fun K hK=>?_) AllReadyH.nil;go_simp;refine(HIR2.out _ _ _ oR.out).mono ?_;rintro e wN ⟨rfl,bX⟩;have bN:=bN.trans (bX.mono bN.size);clear bX;(go_wp2_with fail);refine hK.out _ _ ?_ (fun hHeld=>?_)
    ·exact⟨bN,(bN.cell HLB.out).trans C0.out⟩
    clear hK K;(try simp only[ay]);refine bo 8 (some 20) ?v30 ?y30 ?n30;case y30=>intro w hSw;(try dsimp only at hSw);go_simp;try with_reducible rfl
    (try simp only[ay]);refine bo 10 (some 22) ?v31 ?y31 ?n31;case y31=>intro w hSw;(try dsimp only at hSw);go_simp;try with_reducible rfl
    (try simp only[ay]);refine mE 11 (some 23) ?n32;(try simp only[ay]);refine mE 12 (some 24) ?n33;(try simp only[ay]);refine mE 13 (some 25) ?n34;(try simp only[ay]);refine mE 14 (some 26) ?n35;(try simp only[ay]);refine mE 15 (some 27) ?n36;(try simp only[ay]);refine mE 16 (some 28) ?n37;(try simp only[ay]);refine bo 17 (some 29) ?v38 ?y38 ?n38;case y38=>intro w hSw;(try dsimp only at hSw);go_simp;try with_reducible rfl
    (try simp only[ay]);refine bo 18 (some 3) ?v39 ?y39 ?n39;case y39=>intro w hSw;(try dsimp only at hSw);go_simp;try with_reducible rfl
    (try simp only[ay]);refine bo 19 (some 4) ?v40 ?y40 ?n40;case y40=>intro w hSw;(try dsimp only at hSw);go_simp;try with_reducible rfl
    (try simp only[ay]);refine wpAnyH_done (by kernel_rfl) ?_ _;have bZ:=hb.trans (bN.mono hsw);clear bN;(go_wp2_with fail);go_roundw;case rel=>exact⟨k+1,_,_,rfl,rfl,by omega,by go_num,bZ,by unfold Hid;rw[HR3.out];rfl,by unfold Hid;rw[HL3.out];rfl⟩
    case measure=>simp[intOf];omega
   case false.false=>
    (go_wp2_with fail);have bN:Below wr.heap.size wr wr.drew:=(Below.refl _ wr).drew;refine wp_region_held_drew (S:=fun w'=>Below wr.heap.size wr w'/\w'.cell? (ad.add k)=some (.int .i64 z)) (by kernel_rfl) ?_ (fun hHeld=>?_)
    ·exact⟨bN,(bN.cell HLB.out).trans C0.out⟩
    refine bo 0 (some 12) ?v41 ?y41 ?n41;case y41=>intro w hSw;(try dsimp only at hSw);go_simp;try with_reducible rfl
    (try simp only[ay]);refine bo 1 (some 13) ?v42 ?y42 ?n42;case y42=>intro w hSw;(try dsimp only at hSw);go_simp;try with_reducible rfl
    (try simp only[ay]);refine bo 3 (some 15) ?v43 ?y43 ?n43;case y43=>intro w hSw;(try dsimp only at hSw);go_simp;try with_reducible rfl
    (try simp only[ay]);refine bo 4 (some 16) ?v44 ?y44 ?n44;case y44=>intro w hSw;(try dsimp only at hSw);go_simp;try with_reducible rfl
    (try simp only[ay]);refine bo 5 (some 17) ?v45 ?y45 ?n45;case y45=>intro w hSw;(try dsimp only at hSw);go_simp;try with_reducible rfl
    (try simp only[ay]);refine bo 6 (some 18) ?v46 ?y46 ?n46;case y46=>intro w hSw;(try dsimp only at hSw);go_simp;try with_reducible rfl
    (try simp only[ay]);refine bo 9 (some 21) ?v47 ?y47 ?n47;case y47=>intro w hSw;(try dsimp only at hSw);go_simp;try with_reducible rfl
    (try simp only[ay]);refine wpAnyH_ready (rs:=[2]) (by kernel_rfl) (by simp) ?_;refine AllReadyH.cons (i:=2) rfl (fun K hK=>?_) AllReadyH.nil;go_simp;refine(HRL.out _).mono ?_;rintro e wN ⟨voR,rfl,oR,bX⟩;have bN:=bN.trans (bX.mono bN.size);obtain⟨AoR,coR,rfl⟩:=oR.slice;have oR:=aa oR;clear bX;(go_wp2_with fail);refine hK.out _ _ ?_ (fun hHeld=>?_)
    ·exact⟨bN,(bN.cell HLB.out).trans C0.out⟩
    clear hK K;(try simp only[ay]);refine wpAnyH_ready (rs:=[7]) (by kernel_rfl) (by simp) ?_;refine AllReadyH.cons (i:=7) rfl (fun K hK=>?_) AllReadyH.nil;go_simp;refine(HIR2.out _ _ _ oR.out).mono ?_;rintro e wN ⟨rfl,bX⟩;have bN:=bN.trans (bX.mono bN.size);clear bX;(go_wp2_with fail);refine hK.out _ _ ?_ (fun hHeld=>?_)
    ·exact⟨bN,(bN.cell HLB.out).trans C0.out⟩
    clear hK K;(try simp only[ay]);refine bo 8 (some 20) ?v50 ?y50 ?n50;case y50=>intro w hSw;(try dsimp only at hSw);go_simp;try with_reducible rfl
    (try simp only[ay]);refine bo 10 (some 22) ?v51 ?y51 ?n51;case y51=>intro w hSw;(try dsimp only at hSw);go_simp;try with_reducible rfl
    (try simp only[ay]);refine bo 12 (some 24) ?v52 ?y52 ?n52;case y52=>intro w hSw;(try dsimp only at hSw);go_simp;try with_reducible rfl
    (try simp only[ay]);refine bo 13 (some 25) ?v53 ?y53 ?n53;case y53=>intro w hSw;(try dsimp only at hSw);go_simp;try with_reducible rfl
    (try simp only[ay]);refine bo 14 (some 26) ?v54 ?y54 ?n54;case y54=>intro w hSw;(try dsimp only at hSw);go_simp;try with_reducible rfl
    (try simp only[ay]);refine bo 15 (some 27) ?v55 ?y55 ?n55;case y55=>intro w hSw;(try dsimp only at hSw);go_simp;try with_reducible rfl
    (try simp only[ay]);refine wpAnyH_ready (rs:=[11]) (by kernel_rfl) (by simp) ?_;refine AllReadyH.cons (i:=11) rfl (fun K hK=>?_) AllReadyH.nil;go_simp;refine(HLT.out _).mono ?_;rintro e wN ⟨voL,rfl,oL,bX⟩;have bN:=bN.trans (bX.mono bN.size);obtain⟨AoL,coL,rfl⟩:=oL.slice;have oL:=aa oL;clear bX;(go_wp2_with fail);refine hK.out _ _ ?_ (fun hHeld=>?_)
    ·exact⟨bN,(bN.cell HLB.out).trans C0.out⟩
    clear hK K;(try simp only[ay]);refine wpAnyH_ready (rs:=[16]) (by kernel_rfl) (by simp) ?_;refine AllReadyH.cons (i:=16) rfl (fun K hK=>?_) AllReadyH.nil;go_simp;refine(HIL2.out _ _ _ oL.out).mono ?_;rintro e wN ⟨rfl,bX⟩;have bN:=bN.trans (bX.mono bN.size);clear bX;(go_wp2_with fail);refine hK.out _ _ ?_ (fun hHeld=>?_)
    ·exact⟨bN,(bN.cell HLB.out).trans C0.out⟩
    clear hK K;(try simp only[ay]);refine bo 17 (some 29) ?v58 ?y58 ?n58;case y58=>intro w hSw;(try dsimp only at hSw);go_simp;try with_reducible rfl
    (try simp only[ay]);refine bo 18 (some 3) ?v59 ?y59 ?n59;case y59=>intro w hSw;(try dsimp only at hSw);go_simp;try with_reducible rfl
    (try simp only[ay]);refine bo 19 (some 4) ?v60 ?y60 ?n60;case y60=>intro w hSw;(try dsimp only at hSw);go_simp;try with_reducible rfl
    (try simp only[ay]);refine wpAnyH_done (by kernel_rfl) ?_ _;have bZ:=hb.trans (bN.mono hsw);clear bN;(go_wp2_with fail);go_roundw;case rel=>exact⟨k+1,_,_,rfl,rfl,by omega,by go_num,bZ,by unfold Hid;rw[HR3.out];rfl,by unfold Hid;rw[HL3.out];rfl⟩
    case measure=>simp[intOf];omega
  ·have hke:k=x.length:=(by omega);have hr2:=hr.out;have hl3:=hl2.out;rw[hke,List.take_length] at hr2 hl3;cases r with
   | false=>
     have hf:=aa (HN.out hr2.symm);clear hke hr2 hl3;(go_wp2_with fail);go_big_quiet (fail)
     (go_wp2_with fail);go_ret;exact⟨aV hf.out.symm,be hb _⟩
   | true=>
     have hf:=HS.out hr2.symm;have hpos:=ss hr2.symm;rw[<-hl3] at hf;cases l with
     | true=>
       have hf2:Hid (q=false):=(by unfold Hid;rw[hf];simp);clear hke hr2 hl3 hf hpos;(go_wp2_with fail);go_big_quiet (fail)
       (go_wp2_with fail);go_ret;exact⟨aV hf2.out.symm,be hb _⟩
     | false=>
       rw[mp,mr] at hf;obtain⟨ad,rfl,hlb,hc⟩:=HX.out hpos;have d0:=hc 0 hpos;obtain⟨m,hm⟩:∃ m,x.length=m+1:=⟨x.length-1,by omega⟩;have d1:=hc m (by omega);rw[show x.length-1=m by omega] at hf;rw[<-hb.cell (p:=ad.add 0) (by rw[aC];omega),add_zero] at d0;rw[<-hb.cell (p:=ad.add m) (by rw[aC];omega)] at d1;have hf1:q=(bO ag ((x.getD 0 0:Nat):Int)&&bO ag ((x.getD m 0:Nat):Int)&&!false):=hf;obtain⟨z0,hz0⟩:∃ z:Int,((x.getD 0 0:Nat):Int)=z:=⟨_,rfl⟩;obtain⟨z1,hz1⟩:∃ z:Int,((x.getD m 0:Nat):Int)=z:=⟨_,rfl⟩;rw[hz0] at d0 hf1;rw[hz1] at d1 hf1;obtain⟨g1,hg1⟩:=ac (bO ag z0);obtain⟨g2,hg2⟩:=ac (bO ag z1);have HIR0:=aa (fun B v W (h:OwnR B W v ag)=>HIR.out B z0 v W h);have HIR1:=aa (fun B v W (h:OwnR B W v ag)=>HIR.out B z1 v W h);rw[hg1] at hf1 HIR0;rw[hg2] at hf1 HIR1;have D0:=aa d0;have D1:=aa d1;have HLB:Hid (ad.block<wr.heap.size):=Nat.lt_of_lt_of_le hlb hsw;have HLM:Hid ((ad.add m).block<wr.heap.size):=(by unfold Hid;rw[aC];exact HLB.out);have HF:=aa hf1;have hbd:m+1<=100000000000:=(by omega);have hkm:k=m+1:=(by omega);subst hkm;rw[hm];clear hc hke hr2 hl3 hf hf1 hpos hz0 hz1 hg1 hg2 hr hl2 hl hm HIR HIL HN HS hlt hk HX HLT;have hw1:IntKind.i64.wrap ((m:Int)+1-1)=(m:Int):=(by rw[aO];omega);have hw2:IntKind.i64.wrap (m:Int)=(m:Int):=(by rw[aO];omega);have hw3:(0:Int)<=(m:Int):=(by omega);have hw4:(m:Int)<(m:Int)+1:=(by omega);have hw5:m<m+1:=(by omega);cases g1 with
       | false=>
         (go_wp2_with fail);have bN:Below wr.heap.size wr wr.drew:=(Below.refl _ wr).drew;refine wp_region_held_drew (S:=fun w'=>Below wr.heap.size wr w'/\w'.cell? ad=some (.int .i64 z0)/\w'.cell? (ad.add m)=some (.int .i64 z1)) (by kernel_rfl) ?_ (fun hHeld=>?_)
         ·exact⟨bN,(bN.cell HLB.out).trans D0.out,(bN.cell HLM.out).trans D1.out⟩
         refine bo 0 (some 30) ?v85 ?y85 ?n85;case y85=>intro w hSw;(try dsimp only at hSw);go_simp;try with_reducible rfl
         (try simp only[ay]);refine bo 1 (some 31) ?v86 ?y86 ?n86;case y86=>intro w hSw;(try dsimp only at hSw);go_simp;try with_reducible rfl
         (try simp only[ay]);refine bo 2 (some 32) ?v87 ?y87 ?n87;case y87=>intro w hSw;(try dsimp only at hSw);go_simp;try with_reducible rfl
         (try simp only[ay]);refine bo 3 (some 33) ?v88 ?y88 ?n88;case y88=>intro w hSw;(try dsimp only at hSw);go_simp;try with_reducible rfl
         (try simp only[ay]);refine bo 4 (some 34) ?v89 ?y89 ?n89;case y89=>intro w hSw;(try dsimp only at hSw);go_simp;try with_reducible rfl
         (try simp only[ay]);refine bo 5 (some 35) ?v90 ?y90 ?n90;case y90=>intro w hSw;(try dsimp only at hSw);go_simp;try with_reducible rfl
         (try simp only[ay]);refine bo 7 (some 37) ?v91 ?y91 ?n91;case y91=>intro w hSw;(try dsimp only at hSw);go_simp;try with_reducible rfl
         (try simp only[ay]);refine bo 8 (some 38) ?v92 ?y92 ?n92;case y92=>intro w hSw;(try dsimp only at hSw);go_simp;try with_reducible rfl
         (try simp only[ay]);refine bo 9 (some 39) ?v93 ?y93 ?n93;case y93=>intro w hSw;(try dsimp only at hSw);go_simp;try with_reducible rfl
         (try simp only[ay]);refine wpAnyH_ready (rs:=[6]) (by kernel_rfl) (by simp) ?_;refine AllReadyH.cons (i:=6) rfl (fun K hK=>?_) AllReadyH.nil;go_simp;refine(HRL.out _).mono ?_;rintro e wN ⟨voR,rfl,oR,bX⟩;have bN:=bN.trans (bX.mono bN.size);obtain⟨AoR,coR,rfl⟩:=oR.slice;have oR:=aa oR;clear bX;(go_wp2_with fail);refine hK.out _ _ ?_ (fun hHeld=>?_)
         ·exact⟨bN,(bN.cell HLB.out).trans D0.out,(bN.cell HLM.out).trans D1.out⟩
         clear hK K;(try simp only[ay]);refine wpAnyH_ready (rs:=[10]) (by kernel_rfl) (by simp) ?_;refine AllReadyH.cons (i:=10) rfl (fun K hK=>?_) AllReadyH.nil;go_simp;refine(HIR0.out _ _ _ oR.out).mono ?_;rintro e wN ⟨rfl,bX⟩;have bN:=bN.trans (bX.mono bN.size);clear bX;(go_wp2_with fail);refine hK.out _ _ ?_ (fun hHeld=>?_)
         ·exact⟨bN,(bN.cell HLB.out).trans D0.out,(bN.cell HLM.out).trans D1.out⟩
         clear hK K;(try simp only[ay]);refine bo 11 (some 41) ?v96 ?y96 ?n96;case y96=>intro w hSw;(try dsimp only at hSw);go_simp;try with_reducible rfl
         (try simp only[ay]);refine bo 12 (some 42) ?v97 ?y97 ?n97;case y97=>intro w hSw;(try dsimp only at hSw);go_simp;try with_reducible rfl
         (try simp only[ay]);refine mE 13 (some 43) ?n98;(try simp only[ay]);refine mE 14 (some 44) ?n99;(try simp only[ay]);refine mE 15 (some 45) ?n100;(try simp only[ay]);refine mE 16 (some 46) ?n101;(try simp only[ay]);refine mE 17 (some 47) ?n102;(try simp only[ay]);refine mE 18 (some 48) ?n103;(try simp only[ay]);refine mE 19 (some 49) ?n104;(try simp only[ay]);refine mE 20 (some 50) ?n105;(try simp only[ay]);refine bo 21 (some 51) ?v106 ?y106 ?n106;case y106=>intro w hSw;(try dsimp only at hSw);go_simp;try with_reducible rfl
         (try simp only[ay]);refine bo 22 (some 52) ?v107 ?y107 ?n107;case y107=>intro w hSw;(try dsimp only at hSw);go_simp;try with_reducible rfl
         (try simp only[ay]);refine bo 23 (some 2) ?v108 ?y108 ?n108;case y108=>intro w hSw;(try dsimp only at hSw);go_simp;try with_reducible rfl
         (try simp only[ay]);refine wpAnyH_done (by kernel_rfl) ?_ _;have bZ:=hb.trans (bN.mono hsw);clear bN;(go_wp2_with fail);go_ret;exact⟨aV (by rw[HF.out];rfl),bZ⟩
       | true=>
         (go_wp2_with fail);have bN:Below wr.heap.size wr wr.drew:=(Below.refl _ wr).drew;refine wp_region_held_drew (S:=fun w'=>Below wr.heap.size wr w'/\w'.cell? ad=some (.int .i64 z0)/\w'.cell? (ad.add m)=some (.int .i64 z1)) (by kernel_rfl) ?_ (fun hHeld=>?_)
         ·exact⟨bN,(bN.cell HLB.out).trans D0.out,(bN.cell HLM.out).trans D1.out⟩
         refine bo 0 (some 30) ?v61 ?y61 ?n61;case y61=>intro w hSw;(try dsimp only at hSw);go_simp;try with_reducible rfl
         (try simp only[ay]);refine bo 1 (some 31) ?v62 ?y62 ?n62;case y62=>intro w hSw;(try dsimp only at hSw);go_simp;try with_reducible rfl
         (try simp only[ay]);refine bo 2 (some 32) ?v63 ?y63 ?n63;case y63=>intro w hSw;(try dsimp only at hSw);go_simp;try with_reducible rfl
         (try simp only[ay]);refine bo 3 (some 33) ?v64 ?y64 ?n64;case y64=>intro w hSw;(try dsimp only at hSw);go_simp;try with_reducible rfl
         (try simp only[ay]);refine bo 4 (some 34) ?v65 ?y65 ?n65;case y65=>intro w hSw;(try dsimp only at hSw);go_simp;try with_reducible rfl
         (try simp only[ay]);refine bo 5 (some 35) ?v66 ?y66 ?n66;case y66=>intro w hSw;(try dsimp only at hSw);go_simp;try with_reducible rfl
         (try simp only[ay]);refine bo 7 (some 37) ?v67 ?y67 ?n67;case y67=>intro w hSw;(try dsimp only at hSw);go_simp;try with_reducible rfl
         (try simp only[ay]);refine bo 8 (some 38) ?v68 ?y68 ?n68;case y68=>intro w hSw;(try dsimp only at hSw);go_simp;try with_reducible rfl
         (try simp only[ay]);refine bo 9 (some 39) ?v69 ?y69 ?n69;case y69=>intro w hSw;(try dsimp only at hSw);go_simp;try with_reducible rfl
         (try simp only[ay]);refine wpAnyH_ready (rs:=[6]) (by kernel_rfl) (by simp) ?_;refine AllReadyH.cons (i:=6) rfl (fun K hK=>?_) AllReadyH.nil;go_simp;refine(HRL.out _).mono ?_;rintro e wN ⟨voR,rfl,oR,bX⟩;have bN:=bN.trans (bX.mono bN.size);obtain⟨AoR,coR,rfl⟩:=oR.slice;have oR:=aa oR;clear bX;(go_wp2_with fail);refine hK.out _ _ ?_ (fun hHeld=>?_)
         ·exact⟨bN,(bN.cell HLB.out).trans D0.out,(bN.cell HLM.out).trans D1.out⟩
         clear hK K;(try simp only[ay]);refine wpAnyH_ready (rs:=[10]) (by kernel_rfl) (by simp) ?_;refine AllReadyH.cons (i:=10) rfl (fun K hK=>?_) AllReadyH.nil;go_simp;refine(HIR0.out _ _ _ oR.out).mono ?_;rintro e wN ⟨rfl,bX⟩;have bN:=bN.trans (bX.mono bN.size);clear bX;(go_wp2_with fail);refine hK.out _ _ ?_ (fun hHeld=>?_)
         ·exact⟨bN,(bN.cell HLB.out).trans D0.out,(bN.cell HLM.out).trans D1.out⟩
         clear hK K;(try simp only[ay]);refine bo 11 (some 41) ?v72 ?y72 ?n72;case y72=>intro w hSw;(try dsimp only at hSw);go_simp;try with_reducible rfl
         (try simp only[ay]);refine bo 12 (some 42) ?v73 ?y73 ?n73;case y73=>intro w hSw;(try dsimp only at hSw);go_simp;try with_reducible rfl
         (try simp only[ay]);refine bo 14 (some 44) ?v74 ?y74 ?n74;case y74=>intro w hSw;(try dsimp only at hSw);go_simp;try with_reducible rfl
         (try simp only[ay]);refine bo 15 (some 45) ?v75 ?y75 ?n75;case y75=>intro w hSw;(try dsimp only at hSw);go_simp;try with_reducible rfl
         (try simp only[ay]);refine bo 16 (some 46) ?v76 ?y76 ?n76;case y76=>intro w hSw;(try dsimp only at hSw);go_simp;try with_reducible rfl
         (try simp only[ay]);refine bo 17 (some 47) ?v77 ?y77 ?n77;case y77=>intro w hSw;(try dsimp only at hSw);go_simp;try with_reducible rfl
         (try simp only[ay]);refine bo 18 (some 48) ?v78 ?y78 ?n78;case y78=>intro w hSw;(try dsimp only at hSw);go_simp;try with_reducible rfl
         (try simp only[ay]);refine bo 19 (some 49) ?v79 ?y79 ?n79;case y79=>intro w hSw;(try dsimp only at hSw);go_simp;try with_reducible rfl
         (try simp only[ay]);refine wpAnyH_ready (rs:=[13]) (by kernel_rfl) (by simp) ?_;refine AllReadyH.cons (i:=13) rfl (fun K hK=>?_) AllReadyH.nil;go_simp;refine(HRL.out _).mono ?_;rintro e wN ⟨voR,rfl,oR,bX⟩;have bN:=bN.trans (bX.mono bN.size);obtain⟨AoR,coR,rfl⟩:=oR.slice;have oR:=aa oR;clear bX;(go_wp2_with fail);refine hK.out _ _ ?_ (fun hHeld=>?_)
         ·exact⟨bN,(bN.cell HLB.out).trans D0.out,(bN.cell HLM.out).trans D1.out⟩
         clear hK K;(try simp only[ay]);refine wpAnyH_ready (rs:=[20]) (by kernel_rfl) (by simp) ?_;refine AllReadyH.cons (i:=20) rfl (fun K hK=>?_) AllReadyH.nil;go_simp;refine(HIR1.out _ _ _ oR.out).mono ?_;rintro e wN ⟨rfl,bX⟩;have bN:=bN.trans (bX.mono bN.size);clear bX;(go_wp2_with fail);refine hK.out _ _ ?_ (fun hHeld=>?_)
         ·exact⟨bN,(bN.cell HLB.out).trans D0.out,(bN.cell HLM.out).trans D1.out⟩
         clear hK K;(try simp only[ay]);refine bo 21 (some 51) ?v82 ?y82 ?n82;case y82=>intro w hSw;(try dsimp only at hSw);go_simp;try with_reducible rfl
         (try simp only[ay]);refine bo 22 (some 52) ?v83 ?y83 ?n83;case y83=>intro w hSw;(try dsimp only at hSw);go_simp;try with_reducible rfl
         (try simp only[ay]);refine bo 23 (some 2) ?v84 ?y84 ?n84;case y84=>intro w hSw;(try dsimp only at hSw);go_simp;try with_reducible rfl
         (try simp only[ay]);refine wpAnyH_done (by kernel_rfl) ?_ _;have bZ:=hb.trans (bN.mono hsw);clear bN;(go_wp2_with fail);go_ret;exact⟨aV (by rw[HF.out];cases g2<;>rfl),bZ⟩
end Go.Proofs.YtbgaglcgennhiaaGreatDoor
