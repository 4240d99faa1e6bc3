import Derived.Test.YtbgaglcgennhiaaGreatDoorP26
import Derived.Test.YtbgaglcgennhiaaGreatDoorP27
import Derived.Test.YtbgaglcgennhiaaGreatDoorP24
import Derived.Test.YtbgaglcgennhiaaGreatDoorP25
import Derived.Test.YtbgaglcgennhiaaGreatDoorP21
import Derived.Test.YtbgaglcgennhiaaGreatDoorP20
import Derived.Test.YtbgaglcgennhiaaGreatDoorP07
import Derived.Test.YtbgaglcgennhiaaGreatDoorP18
namespace Go.Proofs.YtbgaglcgennhiaaGreatDoor
open Go.RowKit Ct Tx
theorem aD (w:World) (q o:Nat) (u:Value):But (·=q) w (w.setCell ⟨q,o,none⟩ u) :=
 have b:=Below.setCell (p:=⟨q,o,none⟩) (Below.refl q w) (Nat.le_refl q) u
 ⟨b.os,b.tape,b.output,b.size,fun _ _ hn=>Below.heap_setCell _ _ _ _ hn⟩
theorem But.bkI {S:Nat→Prop} {a b:World} {g:Nat} {t:TypeId} {cs:Array Value} (h:But S a b) (hk:Bk a g t cs) (hn:¬ S g):Bk b g t cs:=(h.block g hk.lt hn).trans hk
theorem OwnT.butI {B q:Nat} {w w':World} {v:Value} {x:List ByteArray} (h:OwnT B w v x) (hb:But (·=q) w w') (hq:q < B):OwnT B w' v x :=
 h.kept fun j hj=>hb.block j (h.low hj).2 (by have:=(h.low hj).1;omega)
theorem gC (w:World) (q:Nat) (a b c d e f:Value):But (·=q) w (cF w q a b c d e f) :=
 (((((aD _ q 0 a).trans (aD _ q 1 b)).trans (aD _ q 2 c)).trans (aD _ q 3 d)).trans (aD _ q 4 e)).trans (aD _ q 5 f)
set_option maxHeartbeats 1000000 in
theorem qN (c:Int) (w:World):Calls Tryz.prog 115 #[.int .i64 c,.int .i64 4] w fun e w'=>(∃ m:Int,e=.returned (.int .i64 m)∧(m=0∨m=1∨m=2∨m=3))∧w'=w:=by
 obtain⟨n,hn,hn4⟩:=qi c 4 (by decide) (by decide)
 have HN4:=Lib.hid hn4;clear hn4;go_enter Tryz.func115,Tryz.ntmps115
 go_wp2_with fail
 go_ret
 exact⟨⟨(n:Int),(by show Ending.returned (.int .i64 (wrap64 ((IntKind.u64.wrap c).tmod 4)))=_;rw[hn]),by have:=HN4.out;omega⟩,rfl⟩
set_option linter.unusedSimpArgs false in
set_option maxHeartbeats 16000000 in
set_option maxRecDepth 100000 in
theorem qs (x:aZ) (gv:Value) (k:Nat) (hk:k≤1000000000) (W:World) (hg:ReadT W.heap.size W gv (ac x.groups)) (hj:x.jid.length≤1000000) (hn:x.name.length≤1000000) (hgl:x.groups.length≤1000000) (hgs:∀ g∈x.groups,g.length≤1000000) :
 Calls Tryz.prog 114 #[fp x gv,.int .i64 k] W fun e w'=>(∃ d g,e=.returned (fp d g)∧NearI d∧OwnT W.heap.size w' g (ac d.groups))∧Below W.heap.size W w':=by
 have HJ0:=Lib.hid (fun W2=>mM x.jid k hk W2 hj);have HN0:Hid (∀ W2,Calls Tryz.prog 87 #[.string (aa x.name),.int .i64 100] W2 fun e w'=>(∃ v:ByteArray,e=.returned (.string v)∧valid v.data.toList=true∧fY v.data.toList∧v.size≤(aa x.name).size∧((0:Int)≤100→line v.data.toList 100=true))∧Below W2.heap.size W2 w'):=fun W2=>dK (aa x.name) 100 W2 (by rw[Lib.size_eq];show x.name.length≤_;omega)
 have HGL:Hid (∀ (x2:List UInt8) W2,x2∈x.groups→Calls Tryz.prog 87 #[.string (aa x2),.int .i64 30] W2 fun e w'=>(∃ v:ByteArray,e=.returned (.string v)∧valid v.data.toList=true∧fY v.data.toList∧v.size≤(aa x2).size∧((0:Int)≤30→line v.data.toList 30=true))∧Below W2.heap.size W2 w'):=fun x2 W2 hx=>dK (aa x2) 30 W2 (by rw[Lib.size_eq];have:=hgs x2 hx;show x2.length≤_;omega)
 have HGR:=Lib.hid (fun u (l:List (List UInt8)) W2 (h:ReadT W2.heap.size W2 u (ac l)) (h2:l.length≤1000000)=>mI u l W2 h h2);have HMD:=Lib.hid (fun W2=>qN x.sub W2);have HG0:=Lib.hid hg
 obtain⟨GS,hGS⟩:∃ GS,x.groups=GS:=⟨_,rfl⟩
 rw[hGS] at HG0 HGL hgl;have HJX:Hid (∃ t j,(aa (mL x.jid k)).data.toList=cX t j):=⟨x.jid,k,rfl⟩
 obtain⟨J0,hJ0⟩:∃ J,aa (mL x.jid k)=J:=⟨_,rfl⟩
 rw[hJ0] at HJ0 HJX
 obtain⟨GA,gn,gcap,rfl⟩:∃ A n cap,gv=.slice A n cap:=by obtain⟨A,cap,e,_⟩:=hg;exact⟨A,_,cap,e⟩
 have hgn:gn=GS.length:=by
  obtain⟨A,cap,e,_⟩:=HG0.out
  injection e with e1 e2 e3;rw[e2];unfold ac;rw[List.length_map]
 subst hgn
 obtain⟨gn,hgn⟩:∃ n,GS.length=n:=⟨_,rfl⟩
 rw[hgn] at HG0 hgl ⊢;have HGN:=Lib.hid hgn;unfold fp gK
 obtain⟨X0,hX0⟩:∃ X,aa x.jid=X:=⟨_,rfl⟩
 obtain⟨X1,hX1⟩:∃ X,aa x.name=X:=⟨_,rfl⟩
 obtain⟨SB,hSB⟩:∃ X,x.sub=X:=⟨_,rfl⟩
 obtain⟨AK,hAK⟩:∃ X,x.ask=X:=⟨_,rfl⟩
 obtain⟨AP,hAP⟩:∃ X,x.app=X:=⟨_,rfl⟩
 rw[hX0] at HJ0;rw[hX1] at HN0;rw[hSB] at HMD;rw[hX0,hX1,hSB,hAK,hAP];clear hg hj hn hgs hgn hGS hJ0 hX0 hX1 hSB hAK hAP hk
 obtain⟨G,hG⟩:∃ G,W.heap.size=G:=⟨_,rfl⟩
 obtain⟨W1,hW1⟩:∃ W1,W.alloc (.cells #[.string X0,.string X1,.slice GA gn gcap,.int .i64 SB,.bool AK,.bool AP] 53)=W1:=⟨_,rfl⟩
 obtain⟨R,hR⟩:∃ R,W1.heap.size=R:=⟨_,rfl⟩
 obtain⟨W2,hW2⟩:∃ W2,W1.alloc (.cells #[.string ⟨#[]⟩,.string ⟨#[]⟩,.slice none 0 0,.int .i64 0,.bool false,.bool false] 53)=W2:=⟨_,rfl⟩
 have b1:Below W.heap.size W W1:=by rw[← hW1];exact(Below.refl _ _).alloc (Nat.le_refl _) _
 have b2:Below W1.heap.size W1 W2:=by rw[← hW2];exact(Below.refl _ _).alloc (Nat.le_refl _) _
 have B2:Hid (Below W.heap.size W W2):=b1.trans (b2.mono b1.size);have k1:Bk W1 G 53 #[.string X0,.string X1,.slice GA gn gcap,.int .i64 SB,.bool AK,.bool AP]:=by rw[← hW1,← hG];exact Bk.new _ _ _
 have k2:Bk W2 R 53 #[.string ⟨#[]⟩,.string ⟨#[]⟩,.slice none 0 0,.int .i64 0,.bool false,.bool false]:=by rw[← hW2,← hR];exact Bk.new _ _ _
 have KG:=Lib.hid (k1.below b2 k1.lt);have KR:=Lib.hid k2;have HWR:Hid (W.heap.size≤R):=by rw[← hR];exact b1.size
 have HGR2:Hid (G < R):=by rw[← hR];exact k1.lt
 have HX0:Hid (∀ w',Below W2.heap.size W2 w'→w'.cell? ⟨G,0,none⟩=some (.string X0)):=fun w' h=>(KG.out.below h KG.out.lt).cell 0
 have HX1:Hid (∀ w',Below W2.heap.size W2 w'→w'.cell? ⟨G,1,none⟩=some (.string X1)):=fun w' h=>(KG.out.below h KG.out.lt).cell 1
 have HX3:Hid (∀ w',Below W2.heap.size W2 w'→w'.cell? ⟨G,3,none⟩=some (.int .i64 SB)):=fun w' h=>(KG.out.below h KG.out.lt).cell 3
 clear b1 b2 k1 k2;go_enter Tryz.func114,Tryz.ntmps114
 go_upto_region 1 with fail
 (try rw[hW1]);(try rw[hR]);(try rw[hW2]);clear hW1 hW2 hR
 go_upto_region 1 with fail
 go_cut [5] from 8 to 18 (fun s wx=>∃ (D:Nat) (v0 v1:ByteArray) (m:Int),s=.pointer (some ⟨D,0,none⟩)∧Hid (Bk wx D 53 #[.string v0,.string v1,.slice none 0 0,.int .i64 m,.bool false,.bool false])∧Hid (∃ t j,v0.data.toList=cX t j)∧Hid (line v1.data.toList 100=true)∧Hid (m=0∨m=1∨m=2∨m=3)∧Hid (Below W2.heap.size W2 wx)∧Hid (W2.heap.size≤D))
 case first K1 K0 hJ1 hK0 =>
  have bN:Below W2.heap.size W2 W2.drew:=(Below.refl _ _).drew;refine wp_region_held_drew (S:=fun w'=>Below W2.heap.size W2 w'∧w'.cell? ⟨G,0,none⟩=some (.string X0)∧w'.cell? ⟨G,1,none⟩=some (.string X1)∧w'.cell? ⟨G,3,none⟩=some (.int .i64 SB)) (by kernel_rfl) ?_ (fun hHeld=>?_)
  · exact⟨bN,HX0.out _ bN,HX1.out _ bN,HX3.out _ bN⟩
  obtain⟨wd,hwd⟩:∃ z,W2.drew=z:=⟨_,rfl⟩
  rw[hwd] at bN hHeld ⊢;clear hwd;refine az 0 (some 8) ?v1 ?y1 ?n1
  case y1=>intro w hSw;(try dsimp only at hSw);go_simp;try with_reducible rfl
  try simp only[Act.put,List.setIfInBounds_toArray,List.set_cons_zero,List.set_cons_succ]
  refine az 1 (some 9) ?v2 ?y2 ?n2
  case y2=>intro w hSw;(try dsimp only at hSw);go_simp;try with_reducible rfl
  try simp only[Act.put,List.setIfInBounds_toArray,List.set_cons_zero,List.set_cons_succ]
  refine az 2 (some 10) ?v3 ?y3 ?n3
  case y3=>intro w hSw;(try dsimp only at hSw);go_simp;try with_reducible rfl
  try simp only[Act.put,List.setIfInBounds_toArray,List.set_cons_zero,List.set_cons_succ]
  refine az 4 (some 12) ?v4 ?y4 ?n4
  case y4=>intro w hSw;(try dsimp only at hSw);go_simp;try with_reducible rfl
  try simp only[Act.put,List.setIfInBounds_toArray,List.set_cons_zero,List.set_cons_succ]
  refine az 5 (some 13) ?v5 ?y5 ?n5
  case y5=>intro w hSw;(try dsimp only at hSw);go_simp;try with_reducible rfl
  try simp only[Act.put,List.setIfInBounds_toArray,List.set_cons_zero,List.set_cons_succ]
  refine az 7 (some 15) ?v6 ?y6 ?n6
  case y6=>intro w hSw;(try dsimp only at hSw);go_simp;try with_reducible rfl
  try simp only[Act.put,List.setIfInBounds_toArray,List.set_cons_zero,List.set_cons_succ]
  refine az 8 (some 16) ?v7 ?y7 ?n7
  case y7=>intro w hSw;(try dsimp only at hSw);go_simp;try with_reducible rfl
  try simp only[Act.put,List.setIfInBounds_toArray,List.set_cons_zero,List.set_cons_succ]
  refine wpAnyH_ready (rs:=[3,11]) (by kernel_rfl) (by simp) ?_;refine AllReadyH.cons (i:=3) rfl (fun K hK=>?_) (AllReadyH.cons (i:=11) rfl (fun K hK=>?_) AllReadyH.nil)
  · go_simp
    refine(HJ0.out wd).mono ?_
    rintro e wv1 ⟨rfl,bC⟩;have bN:=bN.trans (bC.mono bN.size);clear bC
    go_wp2_with fail
    refine hK.out _ _ ?_ (fun hHeld=>?_)
    · exact⟨bN,HX0.out _ bN,HX1.out _ bN,HX3.out _ bN⟩
    clear hK K
    try simp only[Act.put,List.setIfInBounds_toArray,List.set_cons_zero,List.set_cons_succ]
    refine wpAnyH_ready (rs:=[6,11]) (by kernel_rfl) (by simp) ?_;refine AllReadyH.cons (i:=6) rfl (fun K hK=>?_) (AllReadyH.cons (i:=11) rfl (fun K hK=>?_) AllReadyH.nil)
    · go_simp
      refine(HN0.out wv1).mono ?_
      rintro e wv2 ⟨⟨v1,rfl,-,-,-,hl⟩,bC⟩;have L1:=Lib.hid (hl (by decide));have bN:=bN.trans (bC.mono bN.size);clear hl bC
      go_wp2_with fail
      refine hK.out _ _ ?_ (fun hHeld=>?_)
      · exact⟨bN,HX0.out _ bN,HX1.out _ bN,HX3.out _ bN⟩
      clear hK K
      try simp only[Act.put,List.setIfInBounds_toArray,List.set_cons_zero,List.set_cons_succ]
      refine wpAnyH_ready (rs:=[9,11]) (by kernel_rfl) (by simp) ?_;refine AllReadyH.cons (i:=9) rfl (fun K hK=>?_) (AllReadyH.cons (i:=11) rfl (fun K hK=>?_) AllReadyH.nil)
      · go_simp
        refine(HMD.out wv2).mono ?_
        rintro e wm ⟨⟨m,rfl,hm⟩,hwm⟩;have HM:=Lib.hid hm;rw[hwm];clear hm hwm
        go_wp2_with fail
        refine hK.out _ _ ?_ (fun hHeld=>?_)
        · exact⟨bN,HX0.out _ bN,HX1.out _ bN,HX3.out _ bN⟩
        clear hK K
        try simp only[Act.put,List.setIfInBounds_toArray,List.set_cons_zero,List.set_cons_succ]
        refine az 10 (some 18) ?v8 ?y8 ?n8
        case y8=>intro w hSw;(try dsimp only at hSw);go_simp;try with_reducible rfl
        try simp only[Act.put,List.setIfInBounds_toArray,List.set_cons_zero,List.set_cons_succ]
        refine wpAnyH_ready (rs:=[11]) (by kernel_rfl) (by simp) ?_;refine AllReadyH.cons (i:=11) rfl (fun K hK=>?_) AllReadyH.nil;go_simp
        obtain⟨wv3,hwv3⟩:∃ z,World.alloc wv2 (.cells #[.string ⟨#[]⟩,.string ⟨#[]⟩,.slice none 0 0,.int .i64 0,.bool false,.bool false] 53)=z:=⟨_,rfl⟩
        obtain⟨D,hD⟩:∃ D,wv2.heap.size=D:=⟨_,rfl⟩
        have kD:Bk wv3 D 53 #[.string ⟨#[]⟩,.string ⟨#[]⟩,.slice none 0 0,.int .i64 0,.bool false,.bool false]:=by rw[← hwv3,← hD];exact Bk.new _ _ _
        have hDW:W2.heap.size≤D:=by rw[← hD];exact bN.size
        have bN:=bN.alloc bN.size (.cells #[.string ⟨#[]⟩,.string ⟨#[]⟩,.slice none 0 0,.int .i64 0,.bool false,.bool false] 53);rw[hwv3] at bN;(try rw[hwv3]);(try rw[hD]);clear hwv3 hD;refine hK.out _ _ ?_ (fun hHeld=>?_)
        · exact⟨bN,HX0.out _ bN,HX1.out _ bN,HX3.out _ bN⟩
        clear hK K
        try simp only[Act.put,List.setIfInBounds_toArray,List.set_cons_zero,List.set_cons_succ]
        refine wpAnyH_ready (rs:=[12]) (by kernel_rfl) (by simp) ?_;refine AllReadyH.cons (i:=12) rfl (fun K hK=>?_) AllReadyH.nil;go_simp;have y0:=kD.cell 0;have z0:=kD.free 0;have y1:=kD.cell 1;have z1:=kD.free 1;have y2:=kD.cell 2;have z2:=kD.free 2;have y3:=kD.cell 3;have z3:=kD.free 3;have y4:=kD.cell 4;have z4:=kD.free 4;have y5:=kD.cell 5;have z5:=kD.free 5;go_simp
        obtain⟨wv4,hwv4⟩:∃ z,cF wv3 D (.string J0) (.string v1) (.slice none 0 0) (.int .i64 m) (.bool false) (.bool false)=z:=⟨_,rfl⟩
        have kD:=bo kD (.string J0) (.string v1) (.slice none 0 0) (.int .i64 m) (.bool false) (.bool false);have bN:=aE bN hDW (.string J0) (.string v1) (.slice none 0 0) (.int .i64 m) (.bool false) (.bool false);refine hK.out _ _ ?_ (fun hHeld=>?_)
        · exact⟨bN,HX0.out _ bN,HX1.out _ bN,HX3.out _ bN⟩
        clear hK K
        try simp only[Act.put,List.setIfInBounds_toArray,List.set_cons_zero,List.set_cons_succ]
        refine wpAnyH_done (by kernel_rfl) ?_ _;refine hK0 _ _ (Met.intro (hJ1 _ _ ?_))
        (repeat apply Exists.intro)
        refine⟨?_,rfl⟩
        exact⟨D,J0,v1,m,rfl,kD,HJX,L1,HM,bN,hDW⟩
      · go_simp
        obtain⟨wv3,hwv3⟩:∃ z,World.alloc wv2 (.cells #[.string ⟨#[]⟩,.string ⟨#[]⟩,.slice none 0 0,.int .i64 0,.bool false,.bool false] 53)=z:=⟨_,rfl⟩
        obtain⟨D,hD⟩:∃ D,wv2.heap.size=D:=⟨_,rfl⟩
        have kD:Bk wv3 D 53 #[.string ⟨#[]⟩,.string ⟨#[]⟩,.slice none 0 0,.int .i64 0,.bool false,.bool false]:=by rw[← hwv3,← hD];exact Bk.new _ _ _
        have hDW:W2.heap.size≤D:=by rw[← hD];exact bN.size
        have bN:=bN.alloc bN.size (.cells #[.string ⟨#[]⟩,.string ⟨#[]⟩,.slice none 0 0,.int .i64 0,.bool false,.bool false] 53);rw[hwv3] at bN;(try rw[hwv3]);(try rw[hD]);clear hwv3 hD;refine hK.out _ _ ?_ (fun hHeld=>?_)
        · exact⟨bN,HX0.out _ bN,HX1.out _ bN,HX3.out _ bN⟩
        clear hK K
        try simp only[Act.put,List.setIfInBounds_toArray,List.set_cons_zero,List.set_cons_succ]
        refine wpAnyH_ready (rs:=[9]) (by kernel_rfl) (by simp) ?_;refine AllReadyH.cons (i:=9) rfl (fun K hK=>?_) AllReadyH.nil;go_simp
        refine(HMD.out wv3).mono ?_
        rintro e wm ⟨⟨m,rfl,hm⟩,hwm⟩;have HM:=Lib.hid hm;rw[hwm];clear hm hwm
        go_wp2_with fail
        refine hK.out _ _ ?_ (fun hHeld=>?_)
        · exact⟨bN,HX0.out _ bN,HX1.out _ bN,HX3.out _ bN⟩
        clear hK K
        try simp only[Act.put,List.setIfInBounds_toArray,List.set_cons_zero,List.set_cons_succ]
        refine az 10 (some 18) ?v9 ?y9 ?n9
        case y9=>intro w hSw;(try dsimp only at hSw);go_simp;try with_reducible rfl
        try simp only[Act.put,List.setIfInBounds_toArray,List.set_cons_zero,List.set_cons_succ]
        refine wpAnyH_ready (rs:=[12]) (by kernel_rfl) (by simp) ?_;refine AllReadyH.cons (i:=12) rfl (fun K hK=>?_) AllReadyH.nil;go_simp;have y0:=kD.cell 0;have z0:=kD.free 0;have y1:=kD.cell 1;have z1:=kD.free 1;have y2:=kD.cell 2;have z2:=kD.free 2;have y3:=kD.cell 3;have z3:=kD.free 3;have y4:=kD.cell 4;have z4:=kD.free 4;have y5:=kD.cell 5;have z5:=kD.free 5;go_simp
        obtain⟨wv4,hwv4⟩:∃ z,cF wv3 D (.string J0) (.string v1) (.slice none 0 0) (.int .i64 m) (.bool false) (.bool false)=z:=⟨_,rfl⟩
        have kD:=bo kD (.string J0) (.string v1) (.slice none 0 0) (.int .i64 m) (.bool false) (.bool false);have bN:=aE bN hDW (.string J0) (.string v1) (.slice none 0 0) (.int .i64 m) (.bool false) (.bool false);refine hK.out _ _ ?_ (fun hHeld=>?_)
        · exact⟨bN,HX0.out _ bN,HX1.out _ bN,HX3.out _ bN⟩
        clear hK K
        try simp only[Act.put,List.setIfInBounds_toArray,List.set_cons_zero,List.set_cons_succ]
        refine wpAnyH_done (by kernel_rfl) ?_ _;refine hK0 _ _ (Met.intro (hJ1 _ _ ?_))
        (repeat apply Exists.intro)
        refine⟨?_,rfl⟩
        exact⟨D,J0,v1,m,rfl,kD,HJX,L1,HM,bN,hDW⟩
    · go_simp
      obtain⟨wv2,hwv2⟩:∃ z,World.alloc wv1 (.cells #[.string ⟨#[]⟩,.string ⟨#[]⟩,.slice none 0 0,.int .i64 0,.bool false,.bool false] 53)=z:=⟨_,rfl⟩
      obtain⟨D,hD⟩:∃ D,wv1.heap.size=D:=⟨_,rfl⟩
      have kD:Bk wv2 D 53 #[.string ⟨#[]⟩,.string ⟨#[]⟩,.slice none 0 0,.int .i64 0,.bool false,.bool false]:=by rw[← hwv2,← hD];exact Bk.new _ _ _
      have hDW:W2.heap.size≤D:=by rw[← hD];exact bN.size
      have bN:=bN.alloc bN.size (.cells #[.string ⟨#[]⟩,.string ⟨#[]⟩,.slice none 0 0,.int .i64 0,.bool false,.bool false] 53);rw[hwv2] at bN;(try rw[hwv2]);(try rw[hD]);clear hwv2 hD;refine hK.out _ _ ?_ (fun hHeld=>?_)
      · exact⟨bN,HX0.out _ bN,HX1.out _ bN,HX3.out _ bN⟩
      clear hK K
      try simp only[Act.put,List.setIfInBounds_toArray,List.set_cons_zero,List.set_cons_succ]
      refine wpAnyH_ready (rs:=[6]) (by kernel_rfl) (by simp) ?_;refine AllReadyH.cons (i:=6) rfl (fun K hK=>?_) AllReadyH.nil;go_simp
      refine(HN0.out wv2).mono ?_
      rintro e wv3 ⟨⟨v1,rfl,-,-,-,hl⟩,bC⟩;have L1:=Lib.hid (hl (by decide));have kD:=kD.below bC kD.lt;have bN:=bN.trans (bC.mono bN.size);clear hl bC
      go_wp2_with fail
      refine hK.out _ _ ?_ (fun hHeld=>?_)
      · exact⟨bN,HX0.out _ bN,HX1.out _ bN,HX3.out _ bN⟩
      clear hK K
      try simp only[Act.put,List.setIfInBounds_toArray,List.set_cons_zero,List.set_cons_succ]
      refine wpAnyH_ready (rs:=[9]) (by kernel_rfl) (by simp) ?_;refine AllReadyH.cons (i:=9) rfl (fun K hK=>?_) AllReadyH.nil;go_simp
      refine(HMD.out wv3).mono ?_
      rintro e wm ⟨⟨m,rfl,hm⟩,hwm⟩;have HM:=Lib.hid hm;rw[hwm];clear hm hwm
      go_wp2_with fail
      refine hK.out _ _ ?_ (fun hHeld=>?_)
      · exact⟨bN,HX0.out _ bN,HX1.out _ bN,HX3.out _ bN⟩
      clear hK K
      try simp only[Act.put,List.setIfInBounds_toArray,List.set_cons_zero,List.set_cons_succ]
      refine az 10 (some 18) ?v10 ?y10 ?n10
      case y10=>intro w hSw;(try dsimp only at hSw);go_simp;try with_reducible rfl
      try simp only[Act.put,List.setIfInBounds_toArray,List.set_cons_zero,List.set_cons_succ]
      refine wpAnyH_ready (rs:=[12]) (by kernel_rfl) (by simp) ?_;refine AllReadyH.cons (i:=12) rfl (fun K hK=>?_) AllReadyH.nil;go_simp;have y0:=kD.cell 0;have z0:=kD.free 0;have y1:=kD.cell 1;have z1:=kD.free 1;have y2:=kD.cell 2;have z2:=kD.free 2;have y3:=kD.cell 3;have z3:=kD.free 3;have y4:=kD.cell 4;have z4:=kD.free 4;have y5:=kD.cell 5;have z5:=kD.free 5;go_simp
      obtain⟨wv4,hwv4⟩:∃ z,cF wv3 D (.string J0) (.string v1) (.slice none 0 0) (.int .i64 m) (.bool false) (.bool false)=z:=⟨_,rfl⟩
      have kD:=bo kD (.string J0) (.string v1) (.slice none 0 0) (.int .i64 m) (.bool false) (.bool false);have bN:=aE bN hDW (.string J0) (.string v1) (.slice none 0 0) (.int .i64 m) (.bool false) (.bool false);refine hK.out _ _ ?_ (fun hHeld=>?_)
      · exact⟨bN,HX0.out _ bN,HX1.out _ bN,HX3.out _ bN⟩
      clear hK K
      try simp only[Act.put,List.setIfInBounds_toArray,List.set_cons_zero,List.set_cons_succ]
      refine wpAnyH_done (by kernel_rfl) ?_ _;refine hK0 _ _ (Met.intro (hJ1 _ _ ?_))
      (repeat apply Exists.intro)
      refine⟨?_,rfl⟩
      exact⟨D,J0,v1,m,rfl,kD,HJX,L1,HM,bN,hDW⟩
  · go_simp
    obtain⟨wv1,hwv1⟩:∃ z,World.alloc wd (.cells #[.string ⟨#[]⟩,.string ⟨#[]⟩,.slice none 0 0,.int .i64 0,.bool false,.bool false] 53)=z:=⟨_,rfl⟩
    obtain⟨D,hD⟩:∃ D,wd.heap.size=D:=⟨_,rfl⟩
    have kD:Bk wv1 D 53 #[.string ⟨#[]⟩,.string ⟨#[]⟩,.slice none 0 0,.int .i64 0,.bool false,.bool false]:=by rw[← hwv1,← hD];exact Bk.new _ _ _
    have hDW:W2.heap.size≤D:=by rw[← hD];exact bN.size
    have bN:=bN.alloc bN.size (.cells #[.string ⟨#[]⟩,.string ⟨#[]⟩,.slice none 0 0,.int .i64 0,.bool false,.bool false] 53);rw[hwv1] at bN;(try rw[hwv1]);(try rw[hD]);clear hwv1 hD;refine hK.out _ _ ?_ (fun hHeld=>?_)
    · exact⟨bN,HX0.out _ bN,HX1.out _ bN,HX3.out _ bN⟩
    clear hK K
    try simp only[Act.put,List.setIfInBounds_toArray,List.set_cons_zero,List.set_cons_succ]
    refine wpAnyH_ready (rs:=[3]) (by kernel_rfl) (by simp) ?_;refine AllReadyH.cons (i:=3) rfl (fun K hK=>?_) AllReadyH.nil;go_simp
    refine(HJ0.out wv1).mono ?_
    rintro e wv2 ⟨rfl,bC⟩;have kD:=kD.below bC kD.lt;have bN:=bN.trans (bC.mono bN.size);clear bC
    go_wp2_with fail
    refine hK.out _ _ ?_ (fun hHeld=>?_)
    · exact⟨bN,HX0.out _ bN,HX1.out _ bN,HX3.out _ bN⟩
    clear hK K
    try simp only[Act.put,List.setIfInBounds_toArray,List.set_cons_zero,List.set_cons_succ]
    refine wpAnyH_ready (rs:=[6]) (by kernel_rfl) (by simp) ?_;refine AllReadyH.cons (i:=6) rfl (fun K hK=>?_) AllReadyH.nil;go_simp
    refine(HN0.out wv2).mono ?_
    rintro e wv3 ⟨⟨v1,rfl,-,-,-,hl⟩,bC⟩;have L1:=Lib.hid (hl (by decide));have kD:=kD.below bC kD.lt;have bN:=bN.trans (bC.mono bN.size);clear hl bC
    go_wp2_with fail
    refine hK.out _ _ ?_ (fun hHeld=>?_)
    · exact⟨bN,HX0.out _ bN,HX1.out _ bN,HX3.out _ bN⟩
    clear hK K
    try simp only[Act.put,List.setIfInBounds_toArray,List.set_cons_zero,List.set_cons_succ]
    refine wpAnyH_ready (rs:=[9]) (by kernel_rfl) (by simp) ?_;refine AllReadyH.cons (i:=9) rfl (fun K hK=>?_) AllReadyH.nil;go_simp
    refine(HMD.out wv3).mono ?_
    rintro e wm ⟨⟨m,rfl,hm⟩,hwm⟩;have HM:=Lib.hid hm;rw[hwm];clear hm hwm
    go_wp2_with fail
    refine hK.out _ _ ?_ (fun hHeld=>?_)
    · exact⟨bN,HX0.out _ bN,HX1.out _ bN,HX3.out _ bN⟩
    clear hK K
    try simp only[Act.put,List.setIfInBounds_toArray,List.set_cons_zero,List.set_cons_succ]
    refine az 10 (some 18) ?v11 ?y11 ?n11
    case y11=>intro w hSw;(try dsimp only at hSw);go_simp;try with_reducible rfl
    try simp only[Act.put,List.setIfInBounds_toArray,List.set_cons_zero,List.set_cons_succ]
    refine wpAnyH_ready (rs:=[12]) (by kernel_rfl) (by simp) ?_;refine AllReadyH.cons (i:=12) rfl (fun K hK=>?_) AllReadyH.nil;go_simp;have y0:=kD.cell 0;have z0:=kD.free 0;have y1:=kD.cell 1;have z1:=kD.free 1;have y2:=kD.cell 2;have z2:=kD.free 2;have y3:=kD.cell 3;have z3:=kD.free 3;have y4:=kD.cell 4;have z4:=kD.free 4;have y5:=kD.cell 5;have z5:=kD.free 5;go_simp
    obtain⟨wv4,hwv4⟩:∃ z,cF wv3 D (.string J0) (.string v1) (.slice none 0 0) (.int .i64 m) (.bool false) (.bool false)=z:=⟨_,rfl⟩
    have kD:=bo kD (.string J0) (.string v1) (.slice none 0 0) (.int .i64 m) (.bool false) (.bool false);have bN:=aE bN hDW (.string J0) (.string v1) (.slice none 0 0) (.int .i64 m) (.bool false) (.bool false);refine hK.out _ _ ?_ (fun hHeld=>?_)
    · exact⟨bN,HX0.out _ bN,HX1.out _ bN,HX3.out _ bN⟩
    clear hK K
    try simp only[Act.put,List.setIfInBounds_toArray,List.set_cons_zero,List.set_cons_succ]
    refine wpAnyH_done (by kernel_rfl) ?_ _;refine hK0 _ _ (Met.intro (hJ1 _ _ ?_))
    (repeat apply Exists.intro)
    refine⟨?_,rfl⟩
    exact⟨D,J0,v1,m,rfl,kD,HJX,L1,HM,bN,hDW⟩
 case rest =>
 obtain⟨D,v0,v1,m,rfl,KD,HJ4,L1,HM,BW,hDW⟩:=hcut
 have HDW:Hid (W2.heap.size≤D):=hDW;have HRW2:Hid (R < W2.heap.size):=KR.out.lt;have HB2:Hid (W.heap.size≤W2.heap.size):=B2.out.size;have HRD:Hid (R < D):=by have:=HRW2.out;have:=HDW.out;unfold Hid;omega
 clear hDW
 obtain⟨wz,hwz⟩:∃ z,z=wc:=⟨_,rfl⟩
 rw[← hwz] at KD BW ⊢;clear hwz;have KGz:=Lib.hid (KG.out.below BW.out KG.out.lt);have KRz:=Lib.hid (KR.out.below BW.out KR.out.lt);have HZB:Hid (W.heap.size≤wz.heap.size):=Nat.le_trans HB2.out BW.out.size;have HO0:Hid (OwnT wz.heap.size wz (.slice none 0 0) (ac [])):=OwnT.nil _ _;have HA0:Hid (∀ x∈([]:List (List UInt8)),line x 30=true):=fun x hx=>by cases hx
 have HB0:Hid (Below wz.heap.size wz wz):=Below.refl _ _;have HCX:Hid (∀ W',Below wz.heap.size wz W'→W'.cell? ⟨G,2,none⟩=some (.slice GA gn gcap)):=fun W' h=>(KGz.out.below h KGz.out.lt).cell 2
 have HRD0:Hid (∀ W',Below wz.heap.size wz W'→ReadT W'.heap.size W' (.slice GA gn gcap) (ac GS)):=fun W' h=>HG0.out.upon (B2.out.trans ((BW.out.trans (h.mono BW.out.size)).mono HB2.out))
 go_wp2_with fail
 go_loopw [6,7] (fun lv iv wr=>∃ (q:Nat) (lx:Value) (ys:List (List UInt8)),lv=lx∧iv=.int .i64 q∧q≤gn∧q≤4∧Hid (ys.length=q)∧Hid (OwnT wz.heap.size wr lx (ac ys))∧Hid (∀ x∈ys,line x 30=true)∧Hid (Below wz.heap.size wz wr)) (fun _ iv _=>4 - (intOf iv).toNat)
 case atStart=>exact⟨0,_,[],rfl,rfl,Nat.zero_le _,by omega,rfl,HO0,HA0,HB0⟩
 case round =>
  obtain⟨q,lx,ys,hlx,rfl,hq,hq4,YL,OY,LY,BY⟩:=hrel
  have hlx2:=hlx.symm;subst hlx2;clear hlx;have g9:=HCX.out wr BY.out
  go_upto_region 4 with fail
  go_cut [27] from 19 to 27 (fun s wx=>s=.bool (decide (q < gn)&&decide (q < 4))∧wx=wr)
  case first =>
   by_cases hlt:q < gn
   · have hltd:decide (q < gn)=true:=decide_eq_true hlt
     by_cases h4:q < 4
     · have h4d:decide (q < 4)=true:=decide_eq_true h4
       have h4i:decide ((q:Int) < 4)=true:=decide_eq_true (by omega)
       go_wp2_with fail
       go_meet
       exact⟨by rw[hltd,h4d];first | rfl | (rw[h4i];rfl),rfl⟩
     · have h4d:decide (q < 4)=false:=decide_eq_false h4
       have h4i:decide ((q:Int) < 4)=false:=decide_eq_false (by omega)
       go_wp2_with fail
       go_meet
       exact⟨by rw[hltd,h4d];first | (simp;done) | (simp;omega),rfl⟩
   · have hltd:decide (q < gn)=false:=decide_eq_false hlt
     go_wp2_with fail
     go_meet
     exact⟨by rw[hltd];rfl,rfl⟩
  case rest =>
  obtain⟨hsl9,hwc⟩:=hcut
  have hwc2:=hwc.symm;subst hwc2;clear hwc
  obtain⟨cb,hcb⟩:∃ b,(decide (q < gn)&&decide (q < 4))=b:=⟨_,rfl⟩
  rw[hcb] at hsl9;subst hsl9;cases cb with
  | true =>
    obtain⟨hlt9,h49⟩:=Bool.and_eq_true_iff.1 hcb
    have hlt:q < gn:=of_decide_eq_true hlt9;have h4:q < 4:=of_decide_eq_true h49;clear hlt9 h49 hcb
    obtain⟨A',cap',he,hcell⟩:=HRD0.out wr BY.out
    have hsl:(ac GS).length=gn:=by unfold ac;rw[List.length_map];exact HGN.out
    obtain⟨ad,had,hlb,hc⟩:∃ ad:Addr,GA=some ad∧ad.block < wr.heap.size∧∀ i b,(ac GS)[i]?=some b→wr.cell? (ad.add i)=some (.string b):=by
     injection he with e1 e2 e3;subst e1;exact hcell (by omega)
    subst had
    obtain⟨x,hx⟩:∃ x,GS[q]?=some x:=⟨_,List.getElem?_eq_getElem (by rw[HGN.out];exact hlt)⟩
    have cx:=hc q (aa x) (gx hx);have HLX:=Lib.hid (HGL.out x wr (List.mem_of_getElem? hx))
    obtain⟨XX,hXX⟩:∃ X,aa x=X:=⟨_,rfl⟩
    rw[hXX] at cx HLX
    obtain⟨YA,yn,ycap,rfl⟩:∃ A n cap,lx=.slice A n cap:=by obtain⟨A,cap,e⟩:=OY.out.slice;exact⟨A,_,cap,e⟩
    have ZR:Hid (wz.heap.size≤wr.heap.size):=BY.out.size;clear he hcell hsl hlb hc hx hXX
    go_wp2_with fail
    refine HLX.out.mono ?_;rintro e w5 ⟨⟨vx,rfl,-,-,-,hl⟩,b5⟩;have LX:=Lib.hid (hl (by decide));have OY5:=Lib.hid (OY.out.below b5);have Z5:Hid (wz.heap.size≤w5.heap.size):=Nat.le_trans ZR.out b5.size;have BY5:Hid (Below wz.heap.size wz w5):=BY.out.trans (b5.mono BY.out.size);have hyl:Hid ((ac ys).length≤1000000000000):=by have:=YL.out;unfold Hid ac;rw[List.length_map];omega
    clear hl b5
    go_wp2_with (at_builtin;refine ns rfl _ _ rfl wz.heap.size (.slice YA yn ycap) (ac ys) vx w5 rfl OY5.out rfl hyl.out Z5.out ?_)
    intro v7 w7 o7 b7;have O7:Hid (OwnT wz.heap.size w7 v7 (ac (ys++[vx.data.toList]))):=by
     unfold Hid;rw[ar];show OwnT wz.heap.size w7 v7 (ac ys++[aa vx.data.toList]);rw[show aa vx.data.toList=vx from rfl];exact o7
    have B7:Hid (Below wz.heap.size wz w7):=BY5.out.trans b7;have A7:Hid (∀ x∈ys++[vx.data.toList],line x 30=true):=fun x hx=>by
     rcases List.mem_append.1 hx with hx | hx
     · exact LY.out x hx
     · rw[List.mem_singleton] at hx;rw[hx];exact LX.out
    clear o7 b7
    go_wp2_with fail
    go_roundw
    case rel=>exact⟨q+1,_,_,rfl,by go_num,by omega,by omega,by have:=YL.out;unfold Hid;rw[List.length_append,this];rfl,O7,A7,B7⟩
    case measure=>simp[intOf];omega
  | false =>
    clear hcb;have OYZ:=Lib.hid OY;have HGC:=Lib.hid (HGR.out lx ys wr OY.out.reads (by have:=YL.out;omega));have HYL:Hid (ys.length≤4):=by have:=YL.out;unfold Hid;omega
    obtain⟨YA,yn,ycap,rfl⟩:∃ A n cap,lx=.slice A n cap:=by obtain⟨A,cap,e⟩:=OY.out.slice;exact⟨A,_,cap,e⟩
    clear OYZ
    go_wp2_with fail
    refine HGC.out.mono ?_;rintro e w8 ⟨⟨u,rfl,ou⟩,b8⟩;have BY8:Hid (Below wz.heap.size wz w8):=BY.out.trans (b8.mono BY.out.size);have KD8:=KD.out.below BY8.out KD.out.lt;have KR8:=KRz.out.below BY8.out KRz.out.lt;have HDz:Hid (D < wr.heap.size):=Nat.lt_of_lt_of_le KD.out.lt BY.out.size;have HRz:Hid (R < wr.heap.size):=Nat.lt_of_lt_of_le KRz.out.lt BY.out.size
    obtain⟨UA,un,ucap,rfl⟩:∃ A n cap,u=.slice A n cap:=by obtain⟨A,cap,e⟩:=ou.slice;exact⟨A,_,cap,e⟩
    have c9:w8.cell? ⟨D,2,none⟩=some (.slice none 0 0):=KD8.cell 2;have f9:w8.frozen? ⟨D,2,none⟩=false:=KD8.free 2
    obtain⟨w9,hw9⟩:∃ w9,w8.setCell ⟨D,2,none⟩ (.slice UA un ucap)=w9:=⟨_,rfl⟩
    have KD9:Bk w9 D 53 #[.string v0,.string v1,.slice UA un ucap,.int .i64 m,.bool false,.bool false]:=by rw[← hw9];exact KD8.put 2 _
    have but9:But (·=D) w8 w9:=by rw[← hw9];exact aD _ _ _ _
    have KR9:Bk w9 R 53 #[.string ⟨#[]⟩,.string ⟨#[]⟩,.slice none 0 0,.int .i64 0,.bool false,.bool false]:=but9.bkI KR8 (fun e=>by have:=HRD.out;omega);have KG8:=KGz.out.below BY8.out KGz.out.lt;have KG9:Bk w9 G 53 #[.string X0,.string X1,.slice GA gn gcap,.int .i64 SB,.bool AK,.bool AP]:=but9.bkI KG8 (fun e=>by have:=HRD.out;have:=HGR2.out;omega);have ou9:OwnT wr.heap.size w9 (.slice UA un ucap) (ac (ag ys)):=ou.butI but9 HDz.out;have BZ9:Hid (Below W.heap.size W w9):=by
     have h8:Below W.heap.size W w8:=B2.out.trans ((BW.out.trans (BY8.out.mono BW.out.size)).mono HB2.out);rw[← hw9];exact h8.setCell (p:=⟨D,2,none⟩) (show W.heap.size≤D by have:=HB2.out;have:=HDW.out;omega) _
    have OU9:=Lib.hid ou9;have KDX:=Lib.hid KD9;have KRX:=Lib.hid KR9;have KGX:=Lib.hid KG9;have HNE:Hid (D≠R):=by have:=HRD.out;unfold Hid;omega
    have HNG:Hid (G≠D):=by have:=HRD.out;have:=HGR2.out;unfold Hid;omega
    clear b8 ou ou9 KD8 KR8 but9 KD9 KR9 KG8 KG9 g9
    go_upto_region 8 with fail
    (try rw[hw9]);clear hw9 c9 f9;have g4:w9.cell? ⟨G,4,none⟩=some (.bool AK):=KGX.out.cell 4;have d3:w9.cell? ⟨D,3,none⟩=some (.int .i64 m):=KDX.out.cell 3;have d4:w9.cell? ⟨D,4,none⟩=some (.bool false):=KDX.out.cell 4;have x4:w9.frozen? ⟨D,4,none⟩=false:=KDX.out.free 4
    go_upto_region 8 with fail
    go_cut [53] from 42 to 54 (fun _ wx=>∃ ak:Bool,Hid (Bk wx D 53 #[.string v0,.string v1,.slice UA un ucap,.int .i64 m,.bool ak,.bool false])∧Hid (Bk wx R 53 #[.string ⟨#[]⟩,.string ⟨#[]⟩,.slice none 0 0,.int .i64 0,.bool false,.bool false])∧Hid (Bk wx G 53 #[.string X0,.string X1,.slice GA gn gcap,.int .i64 SB,.bool AK,.bool AP])∧Hid (OwnT wr.heap.size wx (.slice UA un ucap) (ac (ag ys)))∧Hid (ak=true→m=0∨m=2)∧Hid (Below W.heap.size W wx))
    case first =>
     have fin:∀ ak:Bool,(ak=true→m=0∨m=2)→∃ a2:Bool,Hid (Bk (w9.setCell ⟨D,4,none⟩ (.bool ak)) D 53 #[.string v0,.string v1,.slice UA un ucap,.int .i64 m,.bool a2,.bool false])∧Hid (Bk (w9.setCell ⟨D,4,none⟩ (.bool ak)) R 53 #[.string ⟨#[]⟩,.string ⟨#[]⟩,.slice none 0 0,.int .i64 0,.bool false,.bool false])∧Hid (Bk (w9.setCell ⟨D,4,none⟩ (.bool ak)) G 53 #[.string X0,.string X1,.slice GA gn gcap,.int .i64 SB,.bool AK,.bool AP])∧Hid (OwnT wr.heap.size (w9.setCell ⟨D,4,none⟩ (.bool ak)) (.slice UA un ucap) (ac (ag ys)))∧Hid (a2=true→m=0∨m=2)∧Hid (Below W.heap.size W (w9.setCell ⟨D,4,none⟩ (.bool ak))):=fun ak hk =>
      ⟨ak,KDX.out.put 4 _,(aD _ _ _ _:But (·=D) w9 _).bkI KRX.out (fun e=>HNE.out e.symm),(aD _ _ _ _:But (·=D) w9 _).bkI KGX.out (fun e=>HNG.out e),OU9.out.butI (aD _ _ _ _:But (·=D) w9 _) HDz.out,hk,BZ9.out.setCell (p:=⟨D,4,none⟩) (show W.heap.size≤D by have:=HB2.out;have:=HDW.out;omega) _⟩
     have FIN:=Lib.hid fin;clear fin;cases AK with
     | false =>
       go_wp2_with fail
       go_meet;exact FIN.out _ (by simp)
     | true =>
       have hm:=HM.out;rcases hm with hm | hm | hm | hm<;>(subst hm;go_wp2_with fail;go_meet;exact FIN.out _ (by simp))
    case rest =>
    obtain⟨ak,KDA,KRA,KGA,OUA,HAK,BA⟩:=hcut
    clear g4 d3 d4 x4
    obtain⟨wa,hwa⟩:∃ z,z=wc:=⟨_,rfl⟩
    rw[← hwa] at KDA KRA KGA OUA BA ⊢;clear hwa;have g5:wa.cell? ⟨G,5,none⟩=some (.bool AP):=KGA.out.cell 5;have d3:wa.cell? ⟨D,3,none⟩=some (.int .i64 m):=KDA.out.cell 3;have d5:wa.cell? ⟨D,5,none⟩=some (.bool false):=KDA.out.cell 5;have x5:wa.frozen? ⟨D,5,none⟩=false:=KDA.out.free 5
    go_upto_region 9 with fail
    go_cut [66] from 55 to 67 (fun _ wx=>∃ ap:Bool,Hid (Bk wx D 53 #[.string v0,.string v1,.slice UA un ucap,.int .i64 m,.bool ak,.bool ap])∧Hid (Bk wx R 53 #[.string ⟨#[]⟩,.string ⟨#[]⟩,.slice none 0 0,.int .i64 0,.bool false,.bool false])∧Hid (OwnT wr.heap.size wx (.slice UA un ucap) (ac (ag ys)))∧Hid (ap=true→m=0∨m=1)∧Hid (Below W.heap.size W wx))
    case first =>
     have fin:∀ ap:Bool,(ap=true→m=0∨m=1)→∃ a2:Bool,Hid (Bk (wa.setCell ⟨D,5,none⟩ (.bool ap)) D 53 #[.string v0,.string v1,.slice UA un ucap,.int .i64 m,.bool ak,.bool a2])∧Hid (Bk (wa.setCell ⟨D,5,none⟩ (.bool ap)) R 53 #[.string ⟨#[]⟩,.string ⟨#[]⟩,.slice none 0 0,.int .i64 0,.bool false,.bool false])∧Hid (OwnT wr.heap.size (wa.setCell ⟨D,5,none⟩ (.bool ap)) (.slice UA un ucap) (ac (ag ys)))∧Hid (a2=true→m=0∨m=1)∧Hid (Below W.heap.size W (wa.setCell ⟨D,5,none⟩ (.bool ap))):=fun ap hk =>
      ⟨ap,KDA.out.put 5 _,(aD _ _ _ _:But (·=D) wa _).bkI KRA.out (fun e=>HNE.out e.symm),OUA.out.butI (aD _ _ _ _:But (·=D) wa _) HDz.out,hk,BA.out.setCell (p:=⟨D,5,none⟩) (show W.heap.size≤D by have:=HB2.out;have:=HDW.out;omega) _⟩
     have FIN:=Lib.hid fin;clear fin;cases AP with
     | false =>
       go_wp2_with fail
       go_meet;exact FIN.out _ (by simp)
     | true =>
       have hm:=HM.out;rcases hm with hm | hm | hm | hm<;>(subst hm;go_wp2_with fail;go_meet;exact FIN.out _ (by simp))
    case rest =>
    obtain⟨ap,KDP,KRP,OUP,HAP,BP⟩:=hcut
    clear g5 d3 d5 x5
    obtain⟨wb,hwb⟩:∃ z,z=wc:=⟨_,rfl⟩
    rw[← hwb] at KDP KRP OUP BP ⊢;clear hwb;have d0:wb.cell? ⟨D,0,none⟩=some (.string v0):=KDP.out.cell 0;have d1:wb.cell? ⟨D,1,none⟩=some (.string v1):=KDP.out.cell 1;have d2:wb.cell? ⟨D,2,none⟩=some (.slice UA un ucap):=KDP.out.cell 2;have d3:wb.cell? ⟨D,3,none⟩=some (.int .i64 m):=KDP.out.cell 3;have d4:wb.cell? ⟨D,4,none⟩=some (.bool ak):=KDP.out.cell 4;have d5:wb.cell? ⟨D,5,none⟩=some (.bool ap):=KDP.out.cell 5;have r0:wb.cell? ⟨R,0,none⟩=some (.string ⟨#[]⟩):=KRP.out.cell 0;have x0:wb.frozen? ⟨R,0,none⟩=false:=KRP.out.free 0;have r1:wb.cell? ⟨R,1,none⟩=some (.string ⟨#[]⟩):=KRP.out.cell 1;have x1:wb.frozen? ⟨R,1,none⟩=false:=KRP.out.free 1;have r2:wb.cell? ⟨R,2,none⟩=some (.slice none 0 0):=KRP.out.cell 2;have x2:wb.frozen? ⟨R,2,none⟩=false:=KRP.out.free 2;have r3:wb.cell? ⟨R,3,none⟩=some (.int .i64 0):=KRP.out.cell 3;have x3:wb.frozen? ⟨R,3,none⟩=false:=KRP.out.free 3;have r4:wb.cell? ⟨R,4,none⟩=some (.bool false):=KRP.out.cell 4;have x4:wb.frozen? ⟨R,4,none⟩=false:=KRP.out.free 4;have r5:wb.cell? ⟨R,5,none⟩=some (.bool false):=KRP.out.cell 5;have x5:wb.frozen? ⟨R,5,none⟩=false:=KRP.out.free 5;have HNE2:D≠R:=HNE.out
    go_wp2_with fail
    obtain⟨wf,hwf⟩:∃ wf,cF wb R (.string v0) (.string v1) (.slice UA un ucap) (.int .i64 m) (.bool ak) (.bool ap)=wf:=⟨_,rfl⟩
    have kf:Bk wf R 53 #[.string v0,.string v1,.slice UA un ucap,.int .i64 m,.bool ak,.bool ap]:=by rw[← hwf];exact bo KRP.out _ _ _ _ _ _
    have butf:But (·=R) wb wf:=by rw[← hwf];exact gC _ _ _ _ _ _ _ _
    have BF:Hid (Below W.heap.size W wf):=by rw[← hwf];exact aE BP.out HWR.out _ _ _ _ _ _
    have j0:wf.cell? ⟨R,0,none⟩=some (.string v0):=kf.cell 0;have j1:wf.cell? ⟨R,1,none⟩=some (.string v1):=kf.cell 1;have j2:wf.cell? ⟨R,2,none⟩=some (.slice UA un ucap):=kf.cell 2;have j3:wf.cell? ⟨R,3,none⟩=some (.int .i64 m):=kf.cell 3;have j4:wf.cell? ⟨R,4,none⟩=some (.bool ak):=kf.cell 4;have j5:wf.cell? ⟨R,5,none⟩=some (.bool ap):=kf.cell 5;show bodyPost _ _ _ _ _ (cF wb R (.string v0) (.string v1) (.slice UA un ucap) (.int .i64 m) (.bool ak) (.bool ap));rw[hwf];refine bodyPost_ret (v:=.agg #[.string v0,.string v1,.slice UA un ucap,.int .i64 m,.bool ak,.bool ap]) (by simp[results,Tryz.results114,go_sem,j0,j1,j2,j3,j4,j5]) rfl ?_
    refine⟨⟨{ jid:=v0.data.toList,name:=v1.data.toList,groups:=ag ys,sub:=m,ask:=ak,app:=ap },.slice UA un ucap,?_,⟨HJ4.out,L1.out,⟨ys,rfl,HYL.out,LY.out⟩,HM.out,HAK.out,HAP.out⟩,(OUP.out.butI butf HRz.out).less (Nat.le_trans HZB.out BY.out.size)⟩,by first | exact BF.out | (rw[← hG];exact BF.out)⟩
    rfl
end Go.Proofs.YtbgaglcgennhiaaGreatDoor
