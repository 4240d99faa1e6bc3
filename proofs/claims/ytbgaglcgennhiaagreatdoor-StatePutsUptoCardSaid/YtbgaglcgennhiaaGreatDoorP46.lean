import Derived.Test.YtbgaglcgennhiaaGreatDoorP45
import Derived.Test.YtbgaglcgennhiaaGreatDoorP40
import Derived.Test.YtbgaglcgennhiaaGreatDoorP30
section
namespace Go.Proofs.YtbgaglcgennhiaaGreatDoor
open Go.RowKit Tx Ct
theorem vl {w:World} {v:Value} {l:List (List UInt8)} (h:ReadT w.heap.size w v (ac l)):RowV jL 1 w.heap.size w v l:=by
 have hll:(ac l).length=l.length:=List.length_map _
 by_cases h0:0 < l.length
 · obtain⟨b,off,cap,rfl,hb,hc⟩:=h.flat (by omega)
   refine⟨_,cap,by rw[hll],fun _=>⟨b,off,rfl,hb,fun i p hp c u hu=>?_⟩⟩
   have hc0:c=0:=by have:=(List.getElem?_eq_some_iff.1 hu).1;simp[jL] at this;exact this
   subst hc0;obtain rfl:Value.string (aa p)=u:=by simpa [jL] using hu
   have hi:=(List.getElem?_eq_some_iff.1 hp).1;rw[Nat.mul_one,Nat.add_zero,hc i (by omega)]
   have:(ac l).getD i ByteArray.empty=aa p:=by
    rw[List.getD_eq_getElem?_getD];unfold ac;rw[List.getElem?_map,hp];rfl
   rw[this]
 · obtain rfl:l=[]:=List.length_eq_zero_iff.1 (by omega)
   obtain⟨A,cap,rfl,_⟩:=h
   exact⟨A,cap,rfl,fun h=>absurd h (by simp)⟩
theorem io (v:Value) (l:List (aZ × bm)) (w:World) (hO:Okw w) (hR:ReadI w.heap.size w v l) (hl:l.length≤1000000) (hs:∀ p∈l,wJ p.1) :
 Calls Tryz.prog 125 #[.agg #[.int .i64 60,.func (.func 167) #[] #[],.func (.func 168) #[] #[]],v] w fun e w'=>e=.returned (.bool (aw 60 j6 nP l))∧Below w.heap.size w w' :=
 mc 60 (by decide) _ _ (Go.Proofs.enters_of Tryz.func167 (by kernel_rfl) rfl) (Go.Proofs.enters_of Tryz.func168 (by kernel_rfl) rfl) j6 nP v l w hR.row hl
  (fun W hW x hx y hy=>tX x y W (hO.below hW) (by have:=(hs x hx).jid;omega) (by have:=(hs y hy).jid;omega))
  (fun W hW x hx=>by
   obtain⟨_,_,_,_,hT⟩:=hR
   have h:=hs x hx;exact om x.1 (sl x.2) W (hO.below hW) ((hT x hx).upon hW) h.jid (by have:=h.name;omega) (by have:=h.groups;omega) (fun g hg=>by have:=h.each g hg;omega))
theorem iU (v:Value) (l:List (List UInt8)) (w:World) (hO:Okw w) (hR:ReadT w.heap.size w v (ac l)) (hl:l.length≤1000000) (hs:∀ p∈l,p.length≤100000000) :
 Calls Tryz.prog 126 #[.agg #[.int .i64 60,.func (.func 83) #[] #[],.func (.func 84) #[] #[]],v] w fun e w'=>e=.returned (.bool (aw 60 Jd.lessL bL l))∧Below w.heap.size w w' :=
 mD 60 (by decide) _ _ (Go.Proofs.enters_of Tryz.func83 (by kernel_rfl) rfl) (Go.Proofs.enters_of Tryz.func84 (by kernel_rfl) rfl) Jd.lessL bL v l w (vl hR) hl
  (fun W hW x hx y hy=>kR (aa x) (aa y) W (hO.below hW) (by rw[Lib.size_eq];have:=hs x hx;show x.length≤_;omega) (by rw[Lib.size_eq];have:=hs y hy;show y.length≤_;omega))
  (fun W hW x hx=>ro x W (hO.below hW) (hs x hx))
set_option maxHeartbeats 8000000 in
set_option maxRecDepth 100000 in
theorem rL (u:aC) (w:World) (hO:Okw w) (hT:Tabs w) (hI:InU w u) (hs:lK u) :
 Calls Tryz.prog 96 #[.agg (af u).toArray] w fun e w'=>e=.returned (.bool (pe u))∧Below w.heap.size w w':=by
 have hfu:pe u=(dB u.name&&line u.pw 100&&aw 60 j6 nP u.items&&aw 60 Jd.lessL bL u.pend&&!u.items.any (fr u)):=rfl
 obtain⟨W1,hW1⟩:∃ W1,w.alloc (.cells (af u).toArray 28)=W1:=⟨_,rfl⟩
 obtain⟨p,hp⟩:∃ G,w.heap.size=G:=⟨_,rfl⟩
 have k1:Bk W1 p 28 (af u).toArray:=by rw[← hW1,← hp];exact Bk.new _ _ _
 have b1:Below w.heap.size w W1:=by rw[← hW1];exact(Below.refl _ _).alloc (Nat.le_refl _) _
 have hO1:=hO.below b1;have hT1:=hT.below b1;have hI1:=hI.upon b1;have HA1:∀ W,Below W1.heap.size W1 W→Calls Tryz.prog 122 #[.string (aa u.name)] W fun e w'=>e=.returned (.bool (dB u.name))∧Below W.heap.size W w':=fun W hW=>oZ u.name W (hT1.below hW) hs.name
 have HA2:∀ W,Below W1.heap.size W1 W→Calls Tryz.prog 123 #[.string (aa u.pw),.int .i64 100] W fun e w'=>e=.returned (.bool (line u.pw 100))∧Below W.heap.size W w':=fun W hW=>nk (aa u.pw) 100 W (hT1.below hW) (by rw[Lib.size_eq];have:=hs.pw;show u.pw.length≤_;omega)
 have HA3:∀ W,Below W1.heap.size W1 W→Calls Tryz.prog 125 #[.agg #[.int .i64 60,.func (.func 167) #[] #[],.func (.func 168) #[] #[]],sl u.iv] W fun e w'=>e=.returned (.bool (aw 60 j6 nP u.items))∧Below W.heap.size W w':=fun W hW =>
  io (sl u.iv) u.items W (hO1.below hW) (hI1.upon hW).1 hs.items hs.eachI
 have HA4:∀ W,Below W1.heap.size W1 W→Calls Tryz.prog 126 #[.agg #[.int .i64 60,.func (.func 83) #[] #[],.func (.func 84) #[] #[]],sl u.pv] W fun e w'=>e=.returned (.bool (aw 60 Jd.lessL bL u.pend))∧Below W.heap.size W w':=fun W hW =>
  iU (sl u.pv) u.pend W (hO1.below hW) (hI1.upon hW).2 hs.pend hs.eachP
 have HA5:∀ W,Below W1.heap.size W1 W→Calls Tryz.prog 127 #[sl u.iv,.func (.func 128) #[] #[.pointer (some ⟨p,0,none⟩)]] W fun e w'=>e=.returned (.bool (u.items.any (fr u)))∧Below W.heap.size W w':=fun W hW =>
  ss (sl u.iv) u.items u p W (hI1.upon hW).1.row hs.items (k1.below hW k1.lt) (hI1.upon hW).2 hs.pend
 obtain⟨r1,hr1⟩:∃ b,dB u.name=b:=⟨_,rfl⟩
 obtain⟨r2,hr2⟩:∃ b,line u.pw 100=b:=⟨_,rfl⟩
 obtain⟨r3,hr3⟩:∃ b,aw 60 j6 nP u.items=b:=⟨_,rfl⟩
 obtain⟨r4,hr4⟩:∃ b,aw 60 Jd.lessL bL u.pend=b:=⟨_,rfl⟩
 obtain⟨r5,hr5⟩:∃ b,u.items.any (fr u)=b:=⟨_,rfl⟩
 rw[hr1,hr2,hr3,hr4,hr5] at hfu;rw[hr1] at HA1;rw[hr2] at HA2;rw[hr3] at HA3;rw[hr4] at HA4;rw[hr5] at HA5;rw[hfu];clear hfu hr1 hr2 hr3 hr4 hr5 hO hT hI hs hO1 hT1 hI1
 obtain⟨uj,um,uis,⟨A,n,c⟩,ups,⟨D,e,f⟩⟩:=u
 have eu:(af ⟨uj,um,uis,⟨A,n,c⟩,ups,⟨D,e,f⟩⟩).toArray=#[.string (aa uj),.string (aa um),.slice A n c,.slice D e f]:=rfl;have es1:sl (A,n,c)=.slice A n c:=rfl;have es2:sl (D,e,f)=.slice D e f:=rfl;rw[eu] at hW1 k1 ⊢;dsimp only at HA1 HA2 HA3 HA4 HA5;rw[es1] at HA3 HA5;rw[es2] at HA4
 obtain⟨X,hX⟩:∃ X,aa uj=X:=⟨_,rfl⟩
 obtain⟨M,hM⟩:∃ X,aa um=X:=⟨_,rfl⟩
 rw[hX] at HA1;rw[hM] at HA2;rw[hX,hM] at hW1 k1 ⊢;clear eu es1 es2 hX hM;have HI0:=fun (W:World) (_:Below W1.heap.size W1 W)=>nY W
 have HW0:=fun (W:World) (_:Below W1.heap.size W1 W)=>ma W
 have B1:=Lib.hid b1;have K1:=Lib.hid k1;have HW1:=Lib.hid hW1;have HP:=Lib.hid hp;have H5:=Lib.hid HA5;have HSZ:Hid (w.heap.size≤W1.heap.size):=b1.size;clear b1 k1 hW1 hp HA5;have c0:∀ v:Sy.Bel W1,v.v.cell? ⟨p,0,none⟩=some (.string X):=fun v=>(K1.out.below v.h K1.out.lt).cell 0
 have c1:∀ v:Sy.Bel W1,v.v.cell? ⟨p,1,none⟩=some (.string M):=fun v=>(K1.out.below v.h K1.out.lt).cell 1
 have c2:∀ v:Sy.Bel W1,v.v.cell? ⟨p,2,none⟩=some (.slice A n c):=fun v=>(K1.out.below v.h K1.out.lt).cell 2
 have c3:∀ v:Sy.Bel W1,v.v.cell? ⟨p,3,none⟩=some (.slice D e f):=fun v=>(K1.out.below v.h K1.out.lt).cell 3
 have g1:=fun v:Sy.Bel W1=>HA1 v.v v.h
 have g2:=fun v:Sy.Bel W1=>HA2 v.v v.h
 have g3:=fun v:Sy.Bel W1=>HA3 v.v v.h
 have g4:=fun v:Sy.Bel W1=>HA4 v.v v.h
 have g5:=fun v:Sy.Bel W1=>HI0 v.v v.h
 have g6:=fun v:Sy.Bel W1=>HW0 v.v v.h
 clear HA1 HA2 HA3 HA4 HI0 HW0;cases r1 with
 | false =>
   go_enter Tryz.func96,Tryz.ntmps96
   go_upto_region 1 with fail
   (try rw[HW1.out]);(try rw[HP.out]);refine Sy.wp_region_quiet_bel (by kernel_rfl) (by kernel_rfl) ?_
   repeat (go_big_quiet_step (first | (go_at_call 122;exact Sy.Calls.bel_of (g1 _)) | (go_at_call 123;exact Sy.Calls.bel_of (g2 _)) | (go_at_call 125;exact Sy.Calls.bel_of (g3 _)) | (go_at_call 126;exact Sy.Calls.bel_of (g4 _)) | (go_at_call 124;exact Sy.Calls.bel_of (g5 _)) | (go_at_call 50;exact Sy.Calls.bel_of (g6 _))))
   refine wpQuiet_nil ?_;intro w2 hw';have hb2:Below W1.heap.size W1 w2:=by obtain⟨v,rfl⟩:=hw';exact v.h
   clear hw' c0 c1 c2 c3 g1 g2 g3 g4 g5 g6
   go_wp2_with fail
   go_ret
   exact⟨by simp,B1.out.trans (hb2.mono HSZ.out)⟩
 | true =>
   cases r2 with
   | false =>
     go_enter Tryz.func96,Tryz.ntmps96
     go_upto_region 1 with fail
     (try rw[HW1.out]);(try rw[HP.out]);refine Sy.wp_region_quiet_bel (by kernel_rfl) (by kernel_rfl) ?_
     repeat (go_big_quiet_step (first | (go_at_call 122;exact Sy.Calls.bel_of (g1 _)) | (go_at_call 123;exact Sy.Calls.bel_of (g2 _)) | (go_at_call 125;exact Sy.Calls.bel_of (g3 _)) | (go_at_call 126;exact Sy.Calls.bel_of (g4 _)) | (go_at_call 124;exact Sy.Calls.bel_of (g5 _)) | (go_at_call 50;exact Sy.Calls.bel_of (g6 _))))
     refine wpQuiet_nil ?_;intro w2 hw';have hb2:Below W1.heap.size W1 w2:=by obtain⟨v,rfl⟩:=hw';exact v.h
     clear hw' c0 c1 c2 c3 g1 g2 g3 g4 g5 g6
     go_wp2_with fail
     go_ret
     exact⟨by simp,B1.out.trans (hb2.mono HSZ.out)⟩
   | true =>
     cases r3 with
     | false =>
       go_enter Tryz.func96,Tryz.ntmps96
       go_upto_region 1 with fail
       (try rw[HW1.out]);(try rw[HP.out]);refine Sy.wp_region_quiet_bel (by kernel_rfl) (by kernel_rfl) ?_
       repeat (go_big_quiet_step (first | (go_at_call 122;exact Sy.Calls.bel_of (g1 _)) | (go_at_call 123;exact Sy.Calls.bel_of (g2 _)) | (go_at_call 125;exact Sy.Calls.bel_of (g3 _)) | (go_at_call 126;exact Sy.Calls.bel_of (g4 _)) | (go_at_call 124;exact Sy.Calls.bel_of (g5 _)) | (go_at_call 50;exact Sy.Calls.bel_of (g6 _))))
       refine wpQuiet_nil ?_;intro w2 hw';have hb2:Below W1.heap.size W1 w2:=by obtain⟨v,rfl⟩:=hw';exact v.h
       clear hw' c0 c1 c2 c3 g1 g2 g3 g4 g5 g6
       go_wp2_with fail
       go_ret
       exact⟨by simp,B1.out.trans (hb2.mono HSZ.out)⟩
     | true =>
       cases r4 with
       | false =>
         go_enter Tryz.func96,Tryz.ntmps96
         go_upto_region 1 with fail
         (try rw[HW1.out]);(try rw[HP.out]);refine Sy.wp_region_quiet_bel (by kernel_rfl) (by kernel_rfl) ?_
         repeat (go_big_quiet_step (first | (go_at_call 122;exact Sy.Calls.bel_of (g1 _)) | (go_at_call 123;exact Sy.Calls.bel_of (g2 _)) | (go_at_call 125;exact Sy.Calls.bel_of (g3 _)) | (go_at_call 126;exact Sy.Calls.bel_of (g4 _)) | (go_at_call 124;exact Sy.Calls.bel_of (g5 _)) | (go_at_call 50;exact Sy.Calls.bel_of (g6 _))))
         refine wpQuiet_nil ?_;intro w2 hw';have hb2:Below W1.heap.size W1 w2:=by obtain⟨v,rfl⟩:=hw';exact v.h
         clear hw' c0 c1 c2 c3 g1 g2 g3 g4 g5 g6
         go_wp2_with fail
         go_ret
         exact⟨by simp,B1.out.trans (hb2.mono HSZ.out)⟩
       | true =>
         go_enter Tryz.func96,Tryz.ntmps96
         go_upto_region 1 with fail
         (try rw[HW1.out]);(try rw[HP.out]);refine Sy.wp_region_quiet_bel (by kernel_rfl) (by kernel_rfl) ?_
         repeat (go_big_quiet_step (first | (go_at_call 122;exact Sy.Calls.bel_of (g1 _)) | (go_at_call 123;exact Sy.Calls.bel_of (g2 _)) | (go_at_call 125;exact Sy.Calls.bel_of (g3 _)) | (go_at_call 126;exact Sy.Calls.bel_of (g4 _)) | (go_at_call 124;exact Sy.Calls.bel_of (g5 _)) | (go_at_call 50;exact Sy.Calls.bel_of (g6 _))))
         refine wpQuiet_nil ?_;intro w2 hw';have hb2:Below W1.heap.size W1 w2:=by obtain⟨v,rfl⟩:=hw';exact v.h
         clear hw' c0 c1 c2 c3 g1 g2 g3 g4 g5 g6;have d2:w2.cell? ⟨p,2,none⟩=some (.slice A n c):=(K1.out.below hb2 K1.out.lt).cell 2;have H52:=Lib.hid (H5.out w2 hb2);have B2:=Lib.hid (B1.out.trans (hb2.mono HSZ.out));clear hb2
         go_wp2_with fail
         refine H52.out.mono ?_;rintro e w3 ⟨rfl,b3⟩
         go_wp2_with fail
         go_ret
         exact⟨by simp,B2.out.trans (b3.mono B2.out.size)⟩
set_option maxHeartbeats 4000000 in
theorem oN (h:aK) (w:World) (hO:Okw w) (hT:Tabs w) (hI:ReadU w (sl h.uv) h.users) (hs:iD h) :
 Calls Tryz.prog 65 #[.agg (aA h).toArray] w fun e w'=>e=.returned (.bool (ti h))∧Below w.heap.size w w':=by
 have hfu:ti h=(jZ h.name&&jK h.users):=rfl
 obtain⟨W1,hW1⟩:∃ W1,w.alloc (.cells (aA h).toArray 47)=W1:=⟨_,rfl⟩
 obtain⟨p,hp⟩:∃ G,w.heap.size=G:=⟨_,rfl⟩
 have k1:Bk W1 p 47 (aA h).toArray:=by rw[← hW1,← hp];exact Bk.new _ _ _
 have b1:Below w.heap.size w W1:=by rw[← hW1];exact(Below.refl _ _).alloc (Nat.le_refl _) _
 have hO1:=hO.below b1;have hT1:=hT.below b1;have hI1:=hI.upon b1;have HA1:∀ W,Below W1.heap.size W1 W→Calls Tryz.prog 66 #[.string (aa h.name)] W fun e w'=>e=.returned (.bool (jZ h.name))∧Below W.heap.size W w':=fun W hW=>mO h.name W (hO1.below hW) hs.name
 have HA2:∀ W,Below W1.heap.size W1 W→Calls Tryz.prog 68 #[.agg #[.int .i64 20,.func (.func 95) #[] #[],.func (.func 96) #[] #[]],sl h.uv] W fun e w'=>e=.returned (.bool (jK h.users))∧Below W.heap.size W w':=fun W hW =>
  mt 20 (by decide) _ _ (Go.Proofs.enters_of Tryz.func95 (by kernel_rfl) rfl) (Go.Proofs.enters_of Tryz.func96 (by kernel_rfl) rfl) wS pe (sl h.uv) h.users W (hI1.upon hW).1 hs.users
   (fun W2 _ x _ y _=>ve x y W2)
   (fun W2 hW2 x hx=>rL x W2 ((hO1.below hW).below hW2) ((hT1.below hW).below hW2) (((hI1.upon hW).upon hW2).2 x hx) (hs.each x hx))
 obtain⟨r1,hr1⟩:∃ b,jZ h.name=b:=⟨_,rfl⟩
 obtain⟨r2,hr2⟩:∃ b,jK h.users=b:=⟨_,rfl⟩
 rw[hr1,hr2] at hfu;rw[hr1] at HA1;rw[hr2] at HA2;rw[hfu];clear hfu hr1 hr2 hO hT hI hs hO1 hT1 hI1
 obtain⟨uj,uis,⟨A,n,c⟩⟩:=h
 have eu:(aA ⟨uj,uis,⟨A,n,c⟩⟩).toArray=#[.string (aa uj),.slice A n c]:=rfl;have es1:sl (A,n,c)=.slice A n c:=rfl;rw[eu] at hW1 k1 ⊢;dsimp only at HA1 HA2;rw[es1] at HA2
 obtain⟨X,hX⟩:∃ X,aa uj=X:=⟨_,rfl⟩
 rw[hX] at HA1;rw[hX] at hW1 k1 ⊢;clear eu es1 hX;have HI0:=fun (W:World) (_:Below W1.heap.size W1 W)=>ol W
 have B1:=Lib.hid b1;have K1:=Lib.hid k1;have HW1:=Lib.hid hW1;have HP:=Lib.hid hp;have HSZ:Hid (w.heap.size≤W1.heap.size):=b1.size;clear b1 k1 hW1 hp;have c0:∀ v:Sy.Bel W1,v.v.cell? ⟨p,0,none⟩=some (.string X):=fun v=>(K1.out.below v.h K1.out.lt).cell 0
 have c1:∀ v:Sy.Bel W1,v.v.cell? ⟨p,1,none⟩=some (.slice A n c):=fun v=>(K1.out.below v.h K1.out.lt).cell 1
 have g1:=fun v:Sy.Bel W1=>HA1 v.v v.h
 have g2:=fun v:Sy.Bel W1=>HA2 v.v v.h
 have g3:=fun v:Sy.Bel W1=>HI0 v.v v.h
 clear HA1 HA2 HI0;cases r1 with
 | false =>
   go_enter Tryz.func65,Tryz.ntmps65
   go_upto_region 1 with fail
   (try rw[HW1.out]);(try rw[HP.out]);refine Sy.wp_region_quiet_bel (by kernel_rfl) (by kernel_rfl) ?_
   repeat (go_big_quiet_step (first | (go_at_call 66;exact Sy.Calls.bel_of (g1 _)) | (go_at_call 68;exact Sy.Calls.bel_of (g2 _)) | (go_at_call 67;exact Sy.Calls.bel_of (g3 _))))
   refine wpQuiet_nil ?_;intro w2 hw';have hb2:Below W1.heap.size W1 w2:=by obtain⟨v,rfl⟩:=hw';exact v.h
   clear hw' c0 c1 g1 g2 g3
   go_wp2_with fail
   go_ret
   exact⟨by simp,B1.out.trans (hb2.mono HSZ.out)⟩
 | true =>
   go_enter Tryz.func65,Tryz.ntmps65
   go_upto_region 1 with fail
   (try rw[HW1.out]);(try rw[HP.out]);refine Sy.wp_region_quiet_bel (by kernel_rfl) (by kernel_rfl) ?_
   repeat (go_big_quiet_step (first | (go_at_call 66;exact Sy.Calls.bel_of (g1 _)) | (go_at_call 68;exact Sy.Calls.bel_of (g2 _)) | (go_at_call 67;exact Sy.Calls.bel_of (g3 _))))
   refine wpQuiet_nil ?_;intro w2 hw';have hb2:Below W1.heap.size W1 w2:=by obtain⟨v,rfl⟩:=hw';exact v.h
   clear hw' c0 c1 g1 g2 g3
   go_wp2_with fail
   go_ret
   exact⟨by simp,B1.out.trans (hb2.mono HSZ.out)⟩
set_option maxHeartbeats 4000000 in
theorem oK (v:Value) (l:List aK) (w:World) (hO:Okw w) (hT:Tabs w) (hR:ReadH w v l) (hl:l.length≤1000000) (hs:∀ h∈l,iD h) :
 Calls Tryz.prog 18 #[.agg #[v]] w fun e w'=>e=.returned (.bool (fB l))∧Below w.heap.size w w':=by
 obtain⟨W1,hW1⟩:∃ W1,w.alloc (.cells #[v] 24)=W1:=⟨_,rfl⟩
 obtain⟨p,hp⟩:∃ G,w.heap.size=G:=⟨_,rfl⟩
 have k1:Bk W1 p 24 #[v]:=by rw[← hW1,← hp];exact Bk.new _ _ _
 have b1:Below w.heap.size w W1:=by rw[← hW1];exact(Below.refl _ _).alloc (Nat.le_refl _) _
 have hO1:=hO.below b1;have hT1:=hT.below b1;have hR1:=hR.upon b1;have HA2:∀ W,Below W1.heap.size W1 W→Calls Tryz.prog 36 #[.agg #[.int .i64 5,.func (.func 64) #[] #[],.func (.func 65) #[] #[]],v] W fun e w'=>e=.returned (.bool (fB l))∧Below W.heap.size W w':=fun W hW =>
  mG 5 (by decide) _ _ (Go.Proofs.enters_of Tryz.func64 (by kernel_rfl) rfl) (Go.Proofs.enters_of Tryz.func65 (by kernel_rfl) rfl) wT ti v l W (hR1.upon hW).1 hl
   (fun W2 _ x _ y _=>uy x y W2)
   (fun W2 hW2 x hx=>oN x W2 ((hO1.below hW).below hW2) ((hT1.below hW).below hW2) (((hR1.upon hW).upon hW2).2 x hx) (hs x hx))
 obtain⟨r,hr⟩:∃ b,fB l=b:=⟨_,rfl⟩
 rw[hr] at HA2;rw[hr]
 obtain⟨A,n,c,rfl⟩:∃ A n c,v=.slice A n c:=by obtain⟨⟨A,cap,hv,_⟩,_⟩:=hR;exact⟨A,_,cap,hv⟩
 have HI0:=fun (W:World) (_:Below W1.heap.size W1 W)=>oa W
 have B1:=Lib.hid b1;have K1:=Lib.hid k1;have HW1:=Lib.hid hW1;have HP:=Lib.hid hp;have HSZ:Hid (w.heap.size≤W1.heap.size):=b1.size;clear b1 k1 hW1 hp hr hO hT hR hs hO1 hT1 hR1 hl;have c0:∀ v:Sy.Bel W1,v.v.cell? ⟨p,0,none⟩=some (.slice A n c):=fun v=>(K1.out.below v.h K1.out.lt).cell 0
 have g1:=fun v:Sy.Bel W1=>HI0 v.v v.h
 have g2:=fun v:Sy.Bel W1=>HA2 v.v v.h
 clear HA2 HI0;go_enter Tryz.func18,Tryz.ntmps18
 go_upto_region 1 with fail
 (try rw[HW1.out]);(try rw[HP.out]);refine Sy.wp_region_quiet_bel (by kernel_rfl) (by kernel_rfl) ?_
 repeat (go_big_quiet_step (first | (go_at_call 35;exact Sy.Calls.bel_of (g1 _)) | (go_at_call 36;exact Sy.Calls.bel_of (g2 _))))
 refine wpQuiet_nil ?_;intro w2 hw';have hb2:Below W1.heap.size W1 w2:=by obtain⟨v,rfl⟩:=hw';exact v.h
 clear hw' c0 g1 g2
 go_wp2_with fail
 go_ret
 exact⟨rfl,B1.out.trans (hb2.mono HSZ.out)⟩
end Go.Proofs.YtbgaglcgennhiaaGreatDoor
end
section
namespace Go.Proofs.YtbgaglcgennhiaaGreatDoor
open Go.RowKit Go.Sort Tx Ct
structure OneS (B:Nat) (W:World) (ib pb ub hb:Nat):Prop where
 ki:Bk W ib 53 #[.string ⟨#[98,64,104]⟩,.string ⟨#[]⟩,.slice none 0 0,.int .i64 0,.bool false,.bool false,.string ⟨#[99,64,104]⟩,.string ⟨#[]⟩,.slice none 0 0,.int .i64 2,.bool false,.bool false]
 kp:Bk W pb 9 #[.string ⟨#[100,64,104]⟩]
 ku:Bk W ub 28 #[.string ⟨#[97]⟩,.string ⟨#[112]⟩,.slice (some ⟨ib,0,none⟩) 2 2,.slice (some ⟨pb,0,none⟩) 1 1]
 kh:Bk W hb 47 #[.string ⟨#[104]⟩,.slice (some ⟨ub,0,none⟩) 1 1]
 low:B≤ib
 ip:ib < pb
 pu:pb < ub
 uh:ub < hb
set_option maxHeartbeats 4000000 in
theorem lO (w:World):Calls Tryz.prog 28 #[] w fun e w'=>∃ ib pb ub hb,e=.returned (.agg #[.slice (some ⟨hb,0,none⟩) 1 1])∧OneS w.heap.size w' ib pb ub hb∧Below w.heap.size w w':=by
 obtain⟨W0,hW0⟩:∃ W,w.alloc (.cells #[.slice none 0 0] 24)=W:=⟨_,rfl⟩
 obtain⟨rb,hrb⟩:∃ b,w.heap.size=b:=⟨_,rfl⟩
 have K0:Bk W0 rb 24 #[.slice none 0 0]:=by rw[← hW0,← hrb];exact Bk.new _ _ _
 have z0:W0.heap.size=rb+1:=by rw[← hW0,World.size_alloc,hrb]
 have B0:Below rb w W0:=by rw[← hW0,← hrb];exact(Below.refl _ _).alloc (Nat.le_refl _) _
 obtain⟨ib,hib⟩:∃ b,rb+1=b:=⟨_,rfl⟩
 obtain⟨pb,hpb⟩:∃ b,ib+1=b:=⟨_,rfl⟩
 obtain⟨ub,hub⟩:∃ b,pb+1=b:=⟨_,rfl⟩
 obtain⟨hb,hhb⟩:∃ b,ub+1=b:=⟨_,rfl⟩
 obtain⟨W1,hW1⟩:∃ W,W0.alloc (.cells #[.string ⟨#[98,64,104]⟩,.string ⟨#[]⟩,.slice none 0 0,.int .i64 0,.bool false,.bool false,.string ⟨#[99,64,104]⟩,.string ⟨#[]⟩,.slice none 0 0,.int .i64 2,.bool false,.bool false] 53)=W:=⟨_,rfl⟩
 have s0:W0.heap.size=ib:=by rw[z0,hib]
 have K1:Bk W1 ib 53 #[.string ⟨#[98,64,104]⟩,.string ⟨#[]⟩,.slice none 0 0,.int .i64 0,.bool false,.bool false,.string ⟨#[99,64,104]⟩,.string ⟨#[]⟩,.slice none 0 0,.int .i64 2,.bool false,.bool false]:=by rw[← hW1,← s0];exact Bk.new _ _ _
 have z1:W1.heap.size=ib+1:=by rw[← hW1,World.size_alloc,s0]
 have B1:Below rb w W1:=by rw[← hW1];exact B0.alloc (by omega) _
 obtain⟨W2,hW2⟩:∃ W,W1.alloc (.cells #[.string ⟨#[100,64,104]⟩] 9)=W:=⟨_,rfl⟩
 have s1:W1.heap.size=pb:=by rw[z1,hpb]
 have K2:Bk W2 pb 9 #[.string ⟨#[100,64,104]⟩]:=by rw[← hW2,← s1];exact Bk.new _ _ _
 have z2:W2.heap.size=pb+1:=by rw[← hW2,World.size_alloc,s1]
 have B2:Below rb w W2:=by rw[← hW2];exact B1.alloc (by omega) _
 obtain⟨W3,hW3⟩:∃ W,W2.alloc (.cells #[.string ⟨#[97]⟩,.string ⟨#[112]⟩,.slice (some ⟨ib,0,none⟩) 2 2,.slice (some ⟨pb,0,none⟩) 1 1] 28)=W:=⟨_,rfl⟩
 have s2:W2.heap.size=ub:=by rw[z2,hub]
 have K3:Bk W3 ub 28 #[.string ⟨#[97]⟩,.string ⟨#[112]⟩,.slice (some ⟨ib,0,none⟩) 2 2,.slice (some ⟨pb,0,none⟩) 1 1]:=by rw[← hW3,← s2];exact Bk.new _ _ _
 have z3:W3.heap.size=ub+1:=by rw[← hW3,World.size_alloc,s2]
 have B3:Below rb w W3:=by rw[← hW3];exact B2.alloc (by omega) _
 obtain⟨W4,hW4⟩:∃ W,W3.alloc (.cells #[.string ⟨#[104]⟩,.slice (some ⟨ub,0,none⟩) 1 1] 47)=W:=⟨_,rfl⟩
 have s3:W3.heap.size=hb:=by rw[z3,hhb]
 have K4:Bk W4 hb 47 #[.string ⟨#[104]⟩,.slice (some ⟨ub,0,none⟩) 1 1]:=by rw[← hW4,← s3];exact Bk.new _ _ _
 have z4:W4.heap.size=hb+1:=by rw[← hW4,World.size_alloc,s3]
 have B4:Below rb w W4:=by rw[← hW4];exact B3.alloc (by omega) _
 have k0:Bk W4 rb 24 #[.slice none 0 0]:=by rw[← hW4,← hW3,← hW2,← hW1];exact(((K0.alloc _).alloc _).alloc _).alloc _
 have k1:Bk W4 ib 53 #[.string ⟨#[98,64,104]⟩,.string ⟨#[]⟩,.slice none 0 0,.int .i64 0,.bool false,.bool false,.string ⟨#[99,64,104]⟩,.string ⟨#[]⟩,.slice none 0 0,.int .i64 2,.bool false,.bool false]:=by rw[← hW4,← hW3,← hW2];exact((K1.alloc _).alloc _).alloc _
 have k2:Bk W4 pb 9 #[.string ⟨#[100,64,104]⟩]:=by rw[← hW4,← hW3];exact(K2.alloc _).alloc _
 have k3:Bk W4 ub 28 #[.string ⟨#[97]⟩,.string ⟨#[112]⟩,.slice (some ⟨ib,0,none⟩) 2 2,.slice (some ⟨pb,0,none⟩) 1 1]:=by rw[← hW4];exact K3.alloc _
 have c0:W4.cell? ⟨rb,0,none⟩=some (.slice none 0 0):=k0.cell 0;have f0:W4.frozen? ⟨rb,0,none⟩=false:=k0.free 0;have R5:=Lib.hid (cE k0 (.slice (some ⟨hb,0,none⟩) 1 1));have B5:Hid (Below w.heap.size w (ct W4 rb (.slice (some ⟨hb,0,none⟩) 1 1))):=bp (by rw[hrb];exact B4) (by omega) _;have O5:Hid (OneS w.heap.size (ct W4 rb (.slice (some ⟨hb,0,none⟩) 1 1)) ib pb ub hb) :=
  ⟨k1.far (p:=⟨rb,0,none⟩) (by show ib≠rb;omega) _,k2.far (p:=⟨rb,0,none⟩) (by show pb≠rb;omega) _,k3.far (p:=⟨rb,0,none⟩) (by show ub≠rb;omega) _,K4.far (p:=⟨rb,0,none⟩) (by show hb≠rb;omega) _,by omega,by omega,by omega,by omega⟩
 obtain⟨w5,hw5⟩:∃ z,ct W4 rb (.slice (some ⟨hb,0,none⟩) 1 1)=z:=⟨_,rfl⟩
 rw[hw5] at R5 B5 O5;clear k0 k1 k2 k3 K0 K1 K2 K3 K4 B0 B1 B2 B3 B4;go_enter Tryz.func28,Tryz.ntmps28
 go_wp2_with fail
 (try rw[hw5]);have j0:w5.cell? ⟨rb,0,none⟩=some (.slice (some ⟨hb,0,none⟩) 1 1):=R5.out.cell 0;refine bodyPost_ret (v:=.agg #[.slice (some ⟨hb,0,none⟩) 1 1]) (by simp[results,Tryz.results28,go_sem,j0]) rfl ?_
 exact⟨ib,pb,ub,hb,rfl,O5.out,B5.out⟩
def oO (ib pb:Nat):aC:=qO [97] [112] [98,64,104] [99,64,104] false [[100,64,104]] (none,0,0) (none,0,0) (some ⟨ib,0,none⟩,2,2) (some ⟨pb,0,none⟩,1,1)
def eL (ib pb ub:Nat):aK:=⟨[104],[oO ib pb],(some ⟨ub,0,none⟩,1,1)⟩
theorem vk (a b:aZ) (ha:a.groups=[]) (hb:b.groups=[]):NoG [(a,none,0,0),(b,none,0,0)]:=fun p hp=>by
 rcases List.mem_cons.1 hp with rfl | hp
 · exact⟨ha,rfl⟩
 · obtain rfl:=List.mem_singleton.1 hp
   exact⟨hb,rfl⟩
theorem OneS.reads {B:Nat} {W:World} {ib pb ub hb:Nat} (h:OneS B W ib pb ub hb):ReadH W (.slice (some ⟨hb,0,none⟩) 1 1) [eL ib pb ub]:=by
 have rI:RowB aq 6 53 W ib (oO ib pb).items:=fh h.ki rfl (fun _=>rfl);have rP:RowB jL 1 9 W pb (oO ib pb).pend:=fh h.kp rfl (fun _=>rfl);have rU:RowB af 4 28 W ub [oO ib pb]:=fh h.ku rfl (fun _=>rfl);have rH:RowB aA 2 47 W hb [eL ib pb ub]:=fh h.kh rfl (fun _=>rfl)
 refine⟨rH.row rH.lt 1 1 rfl,fun x hx=>?_⟩
 obtain rfl:=List.mem_singleton.1 hx
 refine⟨rU.row rU.lt 1 1 rfl,fun u hu=>?_⟩
 obtain rfl:=List.mem_singleton.1 hu
 exact⟨iS (rI.row rI.lt 2 2 rfl) (vk _ _ rfl rfl),rp (rP.row rP.lt 1 1 rfl)⟩
theorem tB (j:List UInt8) (s:Int) (a b:Bool) (hj:j.length≤1000):wJ (ug j s a b):=⟨Nat.le_trans hj (by decide),Nat.zero_le _,Nat.zero_le _,fun g hg=>absurd hg (by simp[ug])⟩
theorem ul (n pw j0 j1:List UInt8) (app:Bool) (ps:List (List UInt8)) (q0 q1 iv pv:bm) (h1:n.length≤1000) (h2:pw.length≤1000) (h3:j0.length≤1000) (h4:j1.length≤1000) (h5:ps.length≤1000) (h6:∀ t∈ps,t.length≤1000):lK (qO n pw j0 j1 app ps q0 q1 iv pv):=by
 refine⟨Nat.le_trans h1 (by decide),Nat.le_trans h2 (by decide),by simp[qO],fun p hp=>?_,Nat.le_trans h5 (by decide),fun t ht=>Nat.le_trans (h6 t ht) (by decide)⟩
 have hp2:p∈[(ug j0 0 false false,q0),(ug j1 2 false app,q1)]:=hp;rcases List.mem_cons.1 hp2 with rfl | hp2
 · exact tB _ _ _ _ h3
 · obtain rfl:=List.mem_singleton.1 hp2
   exact tB _ _ _ _ h4
theorem kV (ib pb ub:Nat):∀ h∈[eL ib pb ub],iD h:=fun h hh=>by
 obtain rfl:=List.mem_singleton.1 hh
 refine⟨by simp[eL],by simp[eL],fun u hu=>?_⟩
 have hu2:u∈[oO ib pb]:=hu;obtain rfl:=List.mem_singleton.1 hu2;exact ul _ _ _ _ _ _ _ _ _ _ (by decide) (by decide) (by decide) (by decide) (by decide) (fun t ht=>by obtain rfl:=List.mem_singleton.1 ht;decide)
theorem kP {ib pb ub i k:Nat} {s:List UInt8} {h:aK} {u:aC} (hf:FirstU [eL ib pb ub] s i k h u):i=0∧k=0∧h=eL ib pb ub∧u=oO ib pb:=by
 have hi:=(List.getElem?_eq_some_iff.1 hf.host).1;obtain rfl:i=0:=by simpa using hi
 obtain rfl:eL ib pb ub=h:=by simpa using hf.host
 have hk:=(List.getElem?_eq_some_iff.1 hf.user).1;obtain rfl:k=0:=by simpa [eL] using hk
 exact⟨rfl,rfl,rfl,by simpa [eL] using hf.user.symm⟩
theorem sR {ib pb ub:Nat}:¬ NoU [eL ib pb ub] [97,64,104]:=fun h=>h _ List.mem_cons_self _ List.mem_cons_self rfl
theorem nN {α:Type} {l:List α} (h:l.length=1):∃ x,l=[x]:=List.length_eq_one_iff.1 h
theorem uM {ib pb ub:Nat} {u:aC} {l':List aK} (hu:u=⟨[],[113],[],(none,0,0),[],(none,0,0)⟩) (h:l'.map cK=lM [eL ib pb ub] 0 0 (eL ib pb ub) (oO ib pb) u):∃ h' u',l'=[h']∧h'.users=[u']∧u'.name=[97]∧u'.pw=[113]:=by
 subst hu;have hl:l'.length=1:=by
  have:=congrArg List.length h
  simpa [lM] using this
 obtain⟨h',rfl⟩:=nN hl
 have h2:cK h'=([104],[([97],[113],[],[])]):=by
  have:[cK h']=[([104],[([97],[113],[],[])])]:=h
  exact(List.cons.inj this).1
 have h3:h'.users.map cG=[([97],[113],[],[])]:=congrArg Prod.snd h2;have hl2:h'.users.length=1:=by
  have:=congrArg List.length h3
  simpa using this
 obtain⟨u',hu'⟩:=nN hl2
 rw[hu'] at h3;have h4:cG u'=([97],[113],[],[]):=(List.cons.inj h3).1
 exact⟨h',u',rfl,hu',congrArg Prod.fst h4,congrArg (fun z=>z.2.1) h4⟩
set_option maxHeartbeats 8000000 in
set_option maxRecDepth 100000 in
theorem tN (w:World) (hO:Okw w) (hT:Tabs w):Calls Tryz.prog 11 #[] w fun e w'=>e=.returned (.bool true)∧Below w.heap.size w w':=by
 have HO:=Lib.hid hO;have HT:=Lib.hid hT;clear hO hT;go_enter Tryz.func11,Tryz.ntmps11
 go_wp2_with fail
 refine(lO _).mono ?_
 rintro e w1 ⟨ib,pb,ub,hb,rfl,o1,b1⟩;have B1:=Lib.hid b1;have HF1:=Lib.hid (ko (.slice (some ⟨hb,0,none⟩) 1 1) [eL ib pb ub] [97,64,104] w1 o1.reads (by simp) (kV ib pb ub) (by simp));clear b1 o1
 go_wp2_with fail
 refine HF1.out.mono ?_;rintro e w2 ⟨b2,h2⟩;have B2:=Lib.hid (B1.out.trans (b2.mono B1.out.size));clear b2;rcases h2 with ⟨hno,_⟩ | ⟨i,k,h,u,y,hf,rfl,hpl,_⟩
 · exact absurd hno sR
 obtain⟨_,_,_,rfl⟩:=kP hf
 clear hf;have hpw:y.pw=[112]:=congrArg (fun z=>z.2.1) hpl;clear hpl
 obtain⟨yj,ym,yis,⟨A2,n2,c2⟩,yps,⟨D2,m2,d2⟩⟩:=y
 have hpw2:ym=[112]:=hpw;subst hpw2
 obtain⟨YJ,hYJ⟩:∃ J,aa yj=J:=⟨_,rfl⟩
 have eY:(af (⟨yj,[112],yis,⟨A2,n2,c2⟩,yps,⟨D2,m2,d2⟩⟩:aC)).toArray=#[.string YJ,.string ⟨#[112]⟩,.slice A2 n2 c2,.slice D2 m2 d2]:=by rw[← hYJ];rfl
 rw[eY];clear eY hYJ hpw
 obtain⟨W3,hW3⟩:∃ W,w2.alloc (.cells #[.string ⟨#[]⟩,.string ⟨#[]⟩,.slice none 0 0,.slice none 0 0] 28)=W:=⟨_,rfl⟩
 obtain⟨p,hp⟩:∃ b,w2.heap.size=b:=⟨_,rfl⟩
 have K3:Hid (Bk W3 p 28 #[.string ⟨#[]⟩,.string ⟨#[]⟩,.slice none 0 0,.slice none 0 0]):=by rw[← hW3,← hp];exact Bk.new _ _ _
 have b3:Below w2.heap.size w2 W3:=by rw[← hW3];exact(Below.refl _ _).alloc (Nat.le_refl _) _
 have HPW:Hid (w2.heap.size≤p):=by rw[← hp];exact Nat.le_refl _
 have z0:W3.cell? ⟨p,0,none⟩=some (.string ⟨#[]⟩):=K3.out.cell 0;have zf0:W3.frozen? ⟨p,0,none⟩=false:=K3.out.free 0;have z1:W3.cell? ⟨p,1,none⟩=some (.string ⟨#[]⟩):=K3.out.cell 1;have zf1:W3.frozen? ⟨p,1,none⟩=false:=K3.out.free 1;have z2:W3.cell? ⟨p,2,none⟩=some (.slice none 0 0):=K3.out.cell 2;have zf2:W3.frozen? ⟨p,2,none⟩=false:=K3.out.free 2;have z3:W3.cell? ⟨p,3,none⟩=some (.slice none 0 0):=K3.out.cell 3;have zf3:W3.frozen? ⟨p,3,none⟩=false:=K3.out.free 3;have K4:=Lib.hid (aF K3.out (.string YJ) (.string ⟨#[112]⟩) (.slice A2 n2 c2) (.slice D2 m2 d2));have B34:=Lib.hid (aj b3 HPW.out (.string YJ) (.string ⟨#[112]⟩) (.slice A2 n2 c2) (.slice D2 m2 d2))
 obtain⟨w4,hw4⟩:∃ z,bj W3 p (.string YJ) (.string ⟨#[112]⟩) (.slice A2 n2 c2) (.slice D2 m2 d2)=z:=⟨_,rfl⟩
 rw[hw4] at K4 B34;have B4:Hid (Below w.heap.size w w4):=B2.out.trans (B34.out.mono B2.out.size);clear b3
 go_upto_region 2 with fail
 (try rw[hw4]);clear hW3 hw4 z0 zf0 z1 zf1 z2 zf2 z3 zf3 hp
 go_wp2_with fail
 refine(lO _).mono ?_
 rintro e w5 ⟨ib2,pb2,ub2,hb2,rfl,o5,b5⟩;have B5:Hid (Below w.heap.size w w5):=B4.out.trans (b5.mono B4.out.size);have K5:=Lib.hid (K4.out.below b5 K4.out.lt);have HP5:=Lib.hid (ms (.slice (some ⟨hb2,0,none⟩) 1 1) [eL ib2 pb2 ub2] [97,64,104] ⟨[],[113],[],(none,0,0),[],(none,0,0)⟩ w5 o5.reads (by simp) (kV ib2 pb2 ub2) (by simp)
  ⟨iS ⟨none,0,rfl,fun h=>absurd h (by simp)⟩ (fun p hp=>absurd hp (by simp)),gL w5 _ 0⟩ ⟨by simp,by simp,by simp,fun p hp=>absurd hp (by simp),by simp,fun p hp=>absurd hp (by simp)⟩)
 have eU:(af (⟨[],[113],[],(none,0,0),[],(none,0,0)⟩:aC)).toArray=#[.string ⟨#[]⟩,.string ⟨#[113]⟩,.slice none 0 0,.slice none 0 0]:=rfl;rw[eU] at HP5;clear b5 o5 eU
 go_wp2_with fail
 refine HP5.out.mono ?_;rintro e w6 ⟨b6,A,n,c,l',hr6,h6⟩;have B6:Hid (Below w.heap.size w w6):=B5.out.trans (b6.mono B5.out.size);have K6:=Lib.hid (K5.out.below b6 K5.out.lt);clear b6;rcases h6 with ⟨hno,_⟩ | ⟨i,k,h,u,hf,rfl,hpl⟩
 · exact absurd hno sR
 obtain⟨rfl,rfl,rfl,rfl⟩:=kP hf
 obtain⟨h',u',rfl,hus,hn1,hn2⟩:=uM rfl hpl
 obtain⟨⟨AA,cap,hv,hcA⟩,hU6⟩:=hr6
 have hv2:Value.slice A n c=.slice AA 1 cap:=hv;injection hv2 with v1 v2 v3;subst v1 v2 v3
 obtain⟨gb,go,rfl,hgb,hgc⟩:=hcA (by simp)
 have hcell1:=hgc 0 h' rfl 1 _ rfl;have hU7:=hU6 h' List.mem_cons_self
 obtain⟨⟨AU,capU,hvU,hcU⟩,_⟩:=hU7
 rw[hus] at hvU hcU
 obtain⟨xb,xo,rfl,hxb,hxc⟩:=hcU (by simp)
 have hx0:=hxc 0 u' rfl 0 _ rfl;have hx1:=hxc 0 u' rfl 1 _ rfl;rw[hvU] at hcell1;have hg1:Hid (w6.cell? ⟨gb,go+1,none⟩=some (.slice (some ⟨xb,xo,none⟩) 1 capU)):=by
  have e:go+0*2+1=go+1:=by omega
  rw[e] at hcell1;exact hcell1
 have hg2:Hid (w6.cell? ⟨xb,xo,none⟩=some (.string ⟨#[97]⟩)):=by
  have e:xo+0*4+0=xo:=by omega
  rw[e,hn1] at hx0;exact hx0
 have hg3:Hid (w6.cell? ⟨xb,xo+1,none⟩=some (.string ⟨#[113]⟩)):=by
  have e:xo+0*4+1=xo+1:=by omega
  rw[e,hn2] at hx1;exact hx1
 have HLT:Hid (gb < w6.heap.size∧xb < w6.heap.size):=⟨hgb,hxb⟩;clear hf hpl hv hcA hU6 hgc hcell1 hvU hcU hxc hx0 hx1 hus hn1 hn2 hgb hxb HF1 HP5
 obtain⟨W7,hW7⟩:∃ W,w6.alloc (.cells #[.slice none 0 0] 24)=W:=⟨_,rfl⟩
 obtain⟨q,hq⟩:∃ b,w6.heap.size=b:=⟨_,rfl⟩
 have K7:Hid (Bk W7 q 24 #[.slice none 0 0]):=by rw[← hW7,← hq];exact Bk.new _ _ _
 have b7:Below w6.heap.size w6 W7:=by rw[← hW7];exact(Below.refl _ _).alloc (Nat.le_refl _) _
 have HQW:Hid (w6.heap.size≤q):=by rw[← hq];exact Nat.le_refl _
 have z0:W7.cell? ⟨q,0,none⟩=some (.slice none 0 0):=K7.out.cell 0;have zf0:W7.frozen? ⟨q,0,none⟩=false:=K7.out.free 0;have K8:=Lib.hid (cE K7.out (.slice (some ⟨gb,go,none⟩) 1 c));have B68:=Lib.hid (bp b7 HQW.out (.slice (some ⟨gb,go,none⟩) 1 c))
 obtain⟨w8,hw8⟩:∃ z,ct W7 q (.slice (some ⟨gb,go,none⟩) 1 c)=z:=⟨_,rfl⟩
 rw[hw8] at K8 B68;have B8:Hid (Below w.heap.size w w8):=B6.out.trans (B68.out.mono B6.out.size);have KU8:=Lib.hid (K6.out.below B68.out K6.out.lt);clear b7
 go_upto_region 3 with fail
 (try rw[hw8]);clear hW7 hw8 z0 zf0 hq
 go_wp2_with fail
 refine(lO _).mono ?_
 rintro e w9 ⟨ib3,pb3,ub3,hb3,rfl,o9,b9⟩;have B9:Hid (Below w.heap.size w w9):=B8.out.trans (b9.mono B8.out.size);have HR9:=Lib.hid (oK (.slice (some ⟨hb3,0,none⟩) 1 1) [eL ib3 pb3 ub3] w9 (HO.out.below B9.out) (HT.out.below B9.out) o9.reads (by simp) (kV ib3 pb3 ub3));have hro:fB [eL ib3 pb3 ub3]=true:=lc _ _ _ _ _;rw[hro] at HR9;have HB89:=Lib.hid b9;clear b9 o9 hro
 go_wp2_with fail
 refine HR9.out.mono ?_;rintro e w10 ⟨rfl,b10⟩;have B10:Hid (Below w.heap.size w w10):=B9.out.trans (b10.mono B9.out.size);have B810:Below w8.heap.size w8 w10:=HB89.out.trans (b10.mono HB89.out.size);have B610:Below w6.heap.size w6 w10:=B68.out.trans (B810.mono B68.out.size);have e1:w10.cell? ⟨p,1,none⟩=some (.string ⟨#[112]⟩):=(KU8.out.below B810 KU8.out.lt).cell 1;have e2:w10.cell? ⟨q,0,none⟩=some (.slice (some ⟨gb,go,none⟩) 1 c):=(K8.out.below B810 K8.out.lt).cell 0;have e3:w10.cell? ⟨gb,go+1,none⟩=some (.slice (some ⟨xb,xo,none⟩) 1 capU):=by rw[B610.cell (p:=⟨gb,go+1,none⟩) HLT.out.1];exact hg1.out
 have e4:w10.cell? ⟨xb,xo,none⟩=some (.string ⟨#[97]⟩):=by rw[B610.cell (p:=⟨xb,xo,none⟩) HLT.out.2];exact hg2.out
 have e5:w10.cell? ⟨xb,xo+1,none⟩=some (.string ⟨#[113]⟩):=by rw[B610.cell (p:=⟨xb,xo+1,none⟩) HLT.out.2];exact hg3.out
 clear b10 B810 B610
 go_wp2_with fail
 go_ret
 exact⟨rfl,B10.out⟩
end Go.Proofs.YtbgaglcgennhiaaGreatDoor
end
