import Derived.Test.YtbgaglcgennhiaaGreatDoorQ40
set_option maxHeartbeats 8000000
set_option maxRecDepth 100000
namespace Go.Proofs.YtbgaglcgennhiaaGreatDoor
open Go.RowKit Tx Ct
theorem zn {w:World} {v:Value} {l:List (List UInt8)} (h:ReadT w.heap.size w v (al l)):RowV lU 1 w.heap.size w v l:=by
 have hll:(al l).length=l.length:=cr _;by_cases h0:0<l.length
 ·obtain⟨b,off,cap,rfl,hb,hc⟩:=h.flat (by omega);refine⟨_,cap,by rw[hll],fun _=>⟨b,off,rfl,hb,fun i p hp c u hu=>?_⟩⟩;have hc0:c=0:=(by have:=(cD hu).1;simp[lU] at this;exact this);subst hc0;obtain rfl:Value.string (ae p)=u:=(by simpa [lU] using hu);have hi:=(cD hp).1;rw[Nat.mul_one,Nat.add_zero,hc i (by omega)];have:(al l).getD i ByteArray.empty=ae p:=(by rw[List.getD_eq_getElem?_getD];unfold al;rw[List.getElem?_map,hp];rfl);rw[this]
 ·obtain rfl:l=[]:=eB (by omega);obtain⟨A,cap,rfl,_⟩:=h;exact⟨A,cap,rfl,fun h=>absurd h (by simp)⟩
theorem jR (v:Value) (l:List (bj × bB)) (w:World) (hO:Okw w) (hR:ReadI w.heap.size w v l) (hl:l.length<=1000000) (hs:∀ p∈l,Ax p.1):
 Calls Tryz.prog 125 #[.agg #[.int .i64 60,.func (.func 167) #[] #[],.func (.func 168) #[] #[]],v] w fun e w'=>e=.returned (.bool (aA 60 k9 nn l))/\Below w.heap.size w w':=
 pK 60 (by decide) _ _ (enters_of Tryz.func167 (by kernel_rfl) rfl) (enters_of Tryz.func168 (by kernel_rfl) rfl) k9 nn v l w hR.row hl
  (fun W hW x hx y hy=>xh x y W (hO.below hW) (by have:=(hs x hx).jid;omega) (by have:=(hs y hy).jid;omega))
  (fun W hW x hx=>by obtain⟨_,_,_,_,hT⟩:=hR;have h:=hs x hx;exact q9 x.1 (sl x.2) W (hO.below hW) ((hT x hx).upon hW) h.jid (by have:=h.name;omega) (by have:=h.groups;omega) (fun g hg=>by have:=h.each g hg;omega))
theorem lP (v:Value) (l:List (List UInt8)) (w:World) (hO:Okw w) (hR:ReadT w.heap.size w v (al l)) (hl:l.length<=1000000) (hs:∀ p∈l,p.length<=100000000):
 Calls Tryz.prog 126 #[.agg #[.int .i64 60,.func (.func 83) #[] #[],.func (.func 84) #[] #[]],v] w fun e w'=>e=.returned (.bool (aA 60 Jd.lessL bR l))/\Below w.heap.size w w':=
 pL 60 (by decide) _ _ (enters_of Tryz.func83 (by kernel_rfl) rfl) (enters_of Tryz.func84 (by kernel_rfl) rfl) Jd.lessL bR v l w (zn hR) hl
  (fun W hW x hx y hy=>i6 (ae x) (ae y) W (hO.below hW) (by rw[bS];have:=hs x hx;show x.length<=_;omega) (by rw[bS];have:=hs y hy;show y.length<=_;omega))
  (fun W hW x hx=>uG x W (hO.below hW) (hs x hx))
theorem uO (u:bk) (w:World) (hO:Okw w) (hT:Tabs w) (hI:InU w u) (hs:nZ u):
 Calls Tryz.prog 96 #[.agg (ao u).toArray] w fun e w'=>e=.returned (.bool (mZ u))/\Below w.heap.size w w':=by
 have hfu:mZ u=(dW u.name&&line u.pw 100&&aA 60 k9 nn u.items&&aA 60 Jd.lessL bR u.pend&&!u.items.any (fz u)):=rfl;obtain⟨W1,hW1⟩:=ac (w.alloc (.cells (ao u).toArray 28));obtain⟨p,hp⟩:=ac w.heap.size;have k1:Bk W1 p 28 (ao u).toArray:=by rw[<-hW1,<-hp];exact Bk.new _ _ _
 have b1:Below w.heap.size w W1:=by rw[<-hW1];exact bp _ _
 have hO1:=hO.below b1;have hT1:=hT.below b1;have hI1:=hI.upon b1;have HA1:∀ W,Below W1.heap.size W1 W->Calls Tryz.prog 122 #[.string (ae u.name)] W fun e w'=>e=.returned (.bool (dW u.name))/\Below W.heap.size W w':=fun W hW=>r6 u.name W (hT1.below hW) hs.name
 have HA2:∀ W,Below W1.heap.size W1 W->Calls Tryz.prog 123 #[.string (ae u.pw),.int .i64 100] W fun e w'=>e=.returned (.bool (line u.pw 100))/\Below W.heap.size W w':=fun W hW=>pf (ae u.pw) 100 W (hT1.below hW) (by rw[bS];have:=hs.pw;show u.pw.length<=_;omega)
 have HA3:∀ W,Below W1.heap.size W1 W->Calls Tryz.prog 125 #[.agg #[.int .i64 60,.func (.func 167) #[] #[],.func (.func 168) #[] #[]],sl u.iv] W fun e w'=>e=.returned (.bool (aA 60 k9 nn u.items))/\Below W.heap.size W w':=fun W hW=>jR (sl u.iv) u.items W (hO1.below hW) (hI1.upon hW).1 hs.items hs.eachI
 have HA4:∀ W,Below W1.heap.size W1 W->Calls Tryz.prog 126 #[.agg #[.int .i64 60,.func (.func 83) #[] #[],.func (.func 84) #[] #[]],sl u.pv] W fun e w'=>e=.returned (.bool (aA 60 Jd.lessL bR u.pend))/\Below W.heap.size W w':=fun W hW=>lP (sl u.pv) u.pend W (hO1.below hW) (hI1.upon hW).2 hs.pend hs.eachP
 have HA5:∀ W,Below W1.heap.size W1 W->Calls Tryz.prog 127 #[sl u.iv,.func (.func 128) #[] #[.pointer (some ⟨p,0,none⟩)]] W fun e w'=>e=.returned (.bool (u.items.any (fz u)))/\Below W.heap.size W w':=fun W hW=>xW (sl u.iv) u.items u p W (hI1.upon hW).1.row hs.items (k1.below hW k1.lt) (hI1.upon hW).2 hs.pend
 obtain⟨r1,hr1⟩:=ac (dW u.name);obtain⟨r2,hr2⟩:=ac (line u.pw 100);obtain⟨r3,hr3⟩:=ac (aA 60 k9 nn u.items);obtain⟨r4,hr4⟩:=ac (aA 60 Jd.lessL bR u.pend);obtain⟨r5,hr5⟩:=ac (u.items.any (fz u));rw[hr1,hr2,hr3,hr4,hr5] at hfu;rw[hr1] at HA1;rw[hr2] at HA2;rw[hr3] at HA3;rw[hr4] at HA4;rw[hr5] at HA5;rw[hfu];clear hfu hr1 hr2 hr3 hr4 hr5 hO hT hI hs hO1 hT1 hI1;obtain⟨uj,um,uis,⟨A,n,c⟩,ups,⟨D,e,f⟩⟩:=u;have eu:(ao ⟨uj,um,uis,⟨A,n,c⟩,ups,⟨D,e,f⟩⟩).toArray=#[.string (ae uj),.string (ae um),.slice A n c,.slice D e f]:=rfl;have es1:sl (A,n,c)=.slice A n c:=rfl;have es2:sl (D,e,f)=.slice D e f:=rfl;rw[eu] at hW1 k1 ⊢;dsimp only at HA1 HA2 HA3 HA4 HA5;rw[es1] at HA3 HA5;rw[es2] at HA4;obtain⟨X,hX⟩:=ac (ae uj);obtain⟨M,hM⟩:=ac (ae um);rw[hX] at HA1;rw[hM] at HA2;rw[hX,hM] at hW1 k1 ⊢;clear eu es1 es2 hX hM;have HI0:=fun (W:World) (_:Below W1.heap.size W1 W)=>rX W
 have HW0:=fun (W:World) (_:Below W1.heap.size W1 W)=>iO W
 have B1:=aa b1;have K1:=aa k1;have HW1:=aa hW1;have HP:=aa hp;have H5:=aa HA5;have HSZ:Hid (w.heap.size<=W1.heap.size):=b1.size;clear b1 k1 hW1 hp HA5;have c0:∀ v:Sy.Bel W1,v.v.cell? ⟨p,0,none⟩=some (.string X):=fun v=>(K1.out.below v.h K1.out.lt).cell 0
 have c1:∀ v:Sy.Bel W1,v.v.cell? ⟨p,1,none⟩=some (.string M):=fun v=>(K1.out.below v.h K1.out.lt).cell 1
 have c2:∀ v:Sy.Bel W1,v.v.cell? ⟨p,2,none⟩=some (.slice A n c):=fun v=>(K1.out.below v.h K1.out.lt).cell 2
 have c3:∀ v:Sy.Bel W1,v.v.cell? ⟨p,3,none⟩=some (.slice D e f):=fun v=>(K1.out.below v.h K1.out.lt).cell 3
 have g1:=fun v:Sy.Bel W1=>HA1 v.v v.h
 have g2:=fun v:Sy.Bel W1=>HA2 v.v v.h
 have g3:=fun v:Sy.Bel W1=>HA3 v.v v.h
 have g4:=fun v:Sy.Bel W1=>HA4 v.v v.h
 have g5:=fun v:Sy.Bel W1=>HI0 v.v v.h
 have g6:=fun v:Sy.Bel W1=>HW0 v.v v.h
 clear HA1 HA2 HA3 HA4 HI0 HW0;cases r1 with
 | false=>
   go_enter Tryz.func96,Tryz.ntmps96;(go_upto_region 1 with fail);(try rw[HW1.out]);(try rw[HP.out]);refine ew ?_
   repeat (go_big_quiet_step (first|(go_at_call 122;exact Sy.Calls.bel_of (g1 _))|(go_at_call 123;exact Sy.Calls.bel_of (g2 _))|(go_at_call 125;exact Sy.Calls.bel_of (g3 _))|(go_at_call 126;exact Sy.Calls.bel_of (g4 _))|(go_at_call 124;exact Sy.Calls.bel_of (g5 _))|(go_at_call 50;exact Sy.Calls.bel_of (g6 _))))
   refine wpQuiet_nil ?_;intro w2 hw';have hb2:Below W1.heap.size W1 w2:=(by obtain⟨v,rfl⟩:=hw';exact v.h);clear hw' c0 c1 c2 c3 g1 g2 g3 g4 g5 g6;(go_wp2_with fail);go_ret;exact⟨by simp,B1.out.trans (hb2.mono HSZ.out)⟩
 | true=>
   cases r2 with
   | false=>
     go_enter Tryz.func96,Tryz.ntmps96;(go_upto_region 1 with fail);(try rw[HW1.out]);(try rw[HP.out]);refine ew ?_
     repeat (go_big_quiet_step (first|(go_at_call 122;exact Sy.Calls.bel_of (g1 _))|(go_at_call 123;exact Sy.Calls.bel_of (g2 _))|(go_at_call 125;exact Sy.Calls.bel_of (g3 _))|(go_at_call 126;exact Sy.Calls.bel_of (g4 _))|(go_at_call 124;exact Sy.Calls.bel_of (g5 _))|(go_at_call 50;exact Sy.Calls.bel_of (g6 _))))
     refine wpQuiet_nil ?_;intro w2 hw';have hb2:Below W1.heap.size W1 w2:=(by obtain⟨v,rfl⟩:=hw';exact v.h);clear hw' c0 c1 c2 c3 g1 g2 g3 g4 g5 g6;(go_wp2_with fail);go_ret;exact⟨by simp,B1.out.trans (hb2.mono HSZ.out)⟩
   | true=>
     cases r3 with
     | false=>
       go_enter Tryz.func96,Tryz.ntmps96;(go_upto_region 1 with fail);(try rw[HW1.out]);(try rw[HP.out]);refine ew ?_
       repeat (go_big_quiet_step (first|(go_at_call 122;exact Sy.Calls.bel_of (g1 _))|(go_at_call 123;exact Sy.Calls.bel_of (g2 _))|(go_at_call 125;exact Sy.Calls.bel_of (g3 _))|(go_at_call 126;exact Sy.Calls.bel_of (g4 _))|(go_at_call 124;exact Sy.Calls.bel_of (g5 _))|(go_at_call 50;exact Sy.Calls.bel_of (g6 _))))
       refine wpQuiet_nil ?_;intro w2 hw';have hb2:Below W1.heap.size W1 w2:=(by obtain⟨v,rfl⟩:=hw';exact v.h);clear hw' c0 c1 c2 c3 g1 g2 g3 g4 g5 g6;(go_wp2_with fail);go_ret;exact⟨by simp,B1.out.trans (hb2.mono HSZ.out)⟩
     | true=>
       cases r4 with
       | false=>
         go_enter Tryz.func96,Tryz.ntmps96;(go_upto_region 1 with fail);(try rw[HW1.out]);(try rw[HP.out]);refine ew ?_
         repeat (go_big_quiet_step (first|(go_at_call 122;exact Sy.Calls.bel_of (g1 _))|(go_at_call 123;exact Sy.Calls.bel_of (g2 _))|(go_at_call 125;exact Sy.Calls.bel_of (g3 _))|(go_at_call 126;exact Sy.Calls.bel_of (g4 _))|(go_at_call 124;exact Sy.Calls.bel_of (g5 _))|(go_at_call 50;exact Sy.Calls.bel_of (g6 _))))
         refine wpQuiet_nil ?_;intro w2 hw';have hb2:Below W1.heap.size W1 w2:=(by obtain⟨v,rfl⟩:=hw';exact v.h);clear hw' c0 c1 c2 c3 g1 g2 g3 g4 g5 g6;(go_wp2_with fail);go_ret;exact⟨by simp,B1.out.trans (hb2.mono HSZ.out)⟩
       | true=>
         go_enter Tryz.func96,Tryz.ntmps96;(go_upto_region 1 with fail);(try rw[HW1.out]);(try rw[HP.out]);refine ew ?_
         repeat (go_big_quiet_step (first|(go_at_call 122;exact Sy.Calls.bel_of (g1 _))|(go_at_call 123;exact Sy.Calls.bel_of (g2 _))|(go_at_call 125;exact Sy.Calls.bel_of (g3 _))|(go_at_call 126;exact Sy.Calls.bel_of (g4 _))|(go_at_call 124;exact Sy.Calls.bel_of (g5 _))|(go_at_call 50;exact Sy.Calls.bel_of (g6 _))))
         refine wpQuiet_nil ?_;intro w2 hw';have hb2:Below W1.heap.size W1 w2:=(by obtain⟨v,rfl⟩:=hw';exact v.h);clear hw' c0 c1 c2 c3 g1 g2 g3 g4 g5 g6;have d2:w2.cell? ⟨p,2,none⟩=some (.slice A n c):=(K1.out.below hb2 K1.out.lt).cell 2;have H52:=aa (H5.out w2 hb2);have B2:=aa (B1.out.trans (hb2.mono HSZ.out));clear hb2;(go_wp2_with fail);refine H52.out.mono ?_;rintro e w3 ⟨rfl,b3⟩;(go_wp2_with fail);go_ret;exact⟨by simp,B2.out.trans (b3.mono B2.out.size)⟩
theorem rS (h:aN) (w:World) (hO:Okw w) (hT:Tabs w) (hI:ReadU w (sl h.uv) h.users) (hs:gS h):
 Calls Tryz.prog 65 #[.agg (aw h).toArray] w fun e w'=>e=.returned (.bool (tk h))/\Below w.heap.size w w':=by
 have hfu:tk h=(jL h.name&&jf h.users):=rfl;obtain⟨W1,hW1⟩:=ac (w.alloc (.cells (aw h).toArray 47));obtain⟨p,hp⟩:=ac w.heap.size;have k1:Bk W1 p 47 (aw h).toArray:=by rw[<-hW1,<-hp];exact Bk.new _ _ _
 have b1:Below w.heap.size w W1:=by rw[<-hW1];exact bp _ _
 have hO1:=hO.below b1;have hT1:=hT.below b1;have hI1:=hI.upon b1;have HA1:∀ W,Below W1.heap.size W1 W->Calls Tryz.prog 66 #[.string (ae h.name)] W fun e w'=>e=.returned (.bool (jL h.name))/\Below W.heap.size W w':=fun W hW=>pR h.name W (hO1.below hW) hs.name
 have HA2:∀ W,Below W1.heap.size W1 W->Calls Tryz.prog 68 #[.agg #[.int .i64 20,.func (.func 95) #[] #[],.func (.func 96) #[] #[]],sl h.uv] W fun e w'=>e=.returned (.bool (jf h.users))/\Below W.heap.size W w':=fun W hW=>
  pM 20 (by decide) _ _ (enters_of Tryz.func95 (by kernel_rfl) rfl) (enters_of Tryz.func96 (by kernel_rfl) rfl) yG mZ (sl h.uv) h.users W (hI1.upon hW).1 hs.users
   (fun W2 _ x _ y _=>sM x y W2)
   (fun W2 hW2 x hx=>uO x W2 ((hO1.below hW).below hW2) ((hT1.below hW).below hW2) (((hI1.upon hW).upon hW2).2 x hx) (hs.each x hx))
 obtain⟨r1,hr1⟩:=ac (jL h.name);obtain⟨r2,hr2⟩:=ac (jf h.users);rw[hr1,hr2] at hfu;rw[hr1] at HA1;rw[hr2] at HA2;rw[hfu];clear hfu hr1 hr2 hO hT hI hs hO1 hT1 hI1;obtain⟨uj,uis,⟨A,n,c⟩⟩:=h;have eu:(aw ⟨uj,uis,⟨A,n,c⟩⟩).toArray=#[.string (ae uj),.slice A n c]:=rfl;have es1:sl (A,n,c)=.slice A n c:=rfl;rw[eu] at hW1 k1 ⊢;dsimp only at HA1 HA2;rw[es1] at HA2;obtain⟨X,hX⟩:=ac (ae uj);rw[hX] at HA1;rw[hX] at hW1 k1 ⊢;clear eu es1 hX;have HI0:=fun (W:World) (_:Below W1.heap.size W1 W)=>lO W
 have B1:=aa b1;have K1:=aa k1;have HW1:=aa hW1;have HP:=aa hp;have HSZ:Hid (w.heap.size<=W1.heap.size):=b1.size;clear b1 k1 hW1 hp;have c0:∀ v:Sy.Bel W1,v.v.cell? ⟨p,0,none⟩=some (.string X):=fun v=>(K1.out.below v.h K1.out.lt).cell 0
 have c1:∀ v:Sy.Bel W1,v.v.cell? ⟨p,1,none⟩=some (.slice A n c):=fun v=>(K1.out.below v.h K1.out.lt).cell 1
 have g1:=fun v:Sy.Bel W1=>HA1 v.v v.h
 have g2:=fun v:Sy.Bel W1=>HA2 v.v v.h
 have g3:=fun v:Sy.Bel W1=>HI0 v.v v.h
 clear HA1 HA2 HI0;cases r1 with
 | false=>
   go_enter Tryz.func65,Tryz.ntmps65;(go_upto_region 1 with fail);(try rw[HW1.out]);(try rw[HP.out]);refine ew ?_
   repeat (go_big_quiet_step (first|(go_at_call 66;exact Sy.Calls.bel_of (g1 _))|(go_at_call 68;exact Sy.Calls.bel_of (g2 _))|(go_at_call 67;exact Sy.Calls.bel_of (g3 _))))
   refine wpQuiet_nil ?_;intro w2 hw';have hb2:Below W1.heap.size W1 w2:=(by obtain⟨v,rfl⟩:=hw';exact v.h);clear hw' c0 c1 g1 g2 g3;(go_wp2_with fail);go_ret;exact⟨by simp,B1.out.trans (hb2.mono HSZ.out)⟩
 | true=>
   go_enter Tryz.func65,Tryz.ntmps65;(go_upto_region 1 with fail);(try rw[HW1.out]);(try rw[HP.out]);refine ew ?_
   repeat (go_big_quiet_step (first|(go_at_call 66;exact Sy.Calls.bel_of (g1 _))|(go_at_call 68;exact Sy.Calls.bel_of (g2 _))|(go_at_call 67;exact Sy.Calls.bel_of (g3 _))))
   refine wpQuiet_nil ?_;intro w2 hw';have hb2:Below W1.heap.size W1 w2:=(by obtain⟨v,rfl⟩:=hw';exact v.h);clear hw' c0 c1 g1 g2 g3;(go_wp2_with fail);go_ret;exact⟨by simp,B1.out.trans (hb2.mono HSZ.out)⟩
theorem lG (v:Value) (l:List aN) (w:World) (hO:Okw w) (hT:Tabs w) (hR:ReadH w v l) (hl:l.length<=1000000) (hs:∀ h∈l,gS h):
 Calls Tryz.prog 18 #[.agg #[v]] w fun e w'=>e=.returned (.bool (fp l))/\Below w.heap.size w w':=by
 obtain⟨W1,hW1⟩:=ac (w.alloc (.cells #[v] 24));obtain⟨p,hp⟩:=ac w.heap.size;have k1:Bk W1 p 24 #[v]:=by rw[<-hW1,<-hp];exact Bk.new _ _ _
 have b1:Below w.heap.size w W1:=by rw[<-hW1];exact bp _ _
 have hO1:=hO.below b1;have hT1:=hT.below b1;have hR1:=hR.upon b1;have HA2:∀ W,Below W1.heap.size W1 W->Calls Tryz.prog 36 #[.agg #[.int .i64 5,.func (.func 64) #[] #[],.func (.func 65) #[] #[]],v] W fun e w'=>e=.returned (.bool (fp l))/\Below W.heap.size W w':=fun W hW=>
  pJ 5 (by decide) _ _ (enters_of Tryz.func64 (by kernel_rfl) rfl) (enters_of Tryz.func65 (by kernel_rfl) rfl) yF tk v l W (hR1.upon hW).1 hl
   (fun W2 _ x _ y _=>sL x y W2)
   (fun W2 hW2 x hx=>rS x W2 ((hO1.below hW).below hW2) ((hT1.below hW).below hW2) (((hR1.upon hW).upon hW2).2 x hx) (hs x hx))
 obtain⟨r,hr⟩:=ac (fp l);rw[hr] at HA2;rw[hr];obtain⟨A,n,c,rfl⟩:∃ A n c,v=.slice A n c:=by obtain⟨⟨A,cap,hv,_⟩,_⟩:=hR;exact⟨A,_,cap,hv⟩
 have HI0:=fun (W:World) (_:Below W1.heap.size W1 W)=>lw W
 have B1:=aa b1;have K1:=aa k1;have HW1:=aa hW1;have HP:=aa hp;have HSZ:Hid (w.heap.size<=W1.heap.size):=b1.size;clear b1 k1 hW1 hp hr hO hT hR hs hO1 hT1 hR1 hl;have c0:∀ v:Sy.Bel W1,v.v.cell? ⟨p,0,none⟩=some (.slice A n c):=fun v=>(K1.out.below v.h K1.out.lt).cell 0
 have g1:=fun v:Sy.Bel W1=>HI0 v.v v.h
 have g2:=fun v:Sy.Bel W1=>HA2 v.v v.h
 clear HA2 HI0;go_enter Tryz.func18,Tryz.ntmps18;go_upto_region 1 with fail
 (try rw[HW1.out]);(try rw[HP.out]);refine ew ?_
 repeat (go_big_quiet_step (first|(go_at_call 35;exact Sy.Calls.bel_of (g1 _))|(go_at_call 36;exact Sy.Calls.bel_of (g2 _))))
 refine wpQuiet_nil ?_;intro w2 hw';have hb2:Below W1.heap.size W1 w2:=by obtain⟨v,rfl⟩:=hw';exact v.h
 clear hw' c0 g1 g2;go_wp2_with fail
 go_ret;exact⟨rfl,B1.out.trans (hb2.mono HSZ.out)⟩
end Go.Proofs.YtbgaglcgennhiaaGreatDoor
