import Derived.Test.YtbgaglcgennhiaaGreatDoorP32
import Derived.BigQuiet
namespace Go.Proofs.YtbgaglcgennhiaaGreatDoor
open Go.RowKit Go.Sort Tx Ct
def EachV {α:Type} (ai:α→List Value) (k:Nat) (t:TypeId) (R:Nat→Nat→World→α→α→Prop) (l:List α) (w:World) (e:Ending) (w':World):Prop :=
 ∃ A cap l',e=.returned (.slice A l.length cap)∧l'.length=l.length∧Below w.heap.size w w' ∧
   (0 < l.length→∃ (g:Nat) (cut:Nat→Nat),A=some ⟨g,0,none⟩∧w.heap.size≤g∧RowB ai k t w' g l'∧g < cut 0∧(∀ i,cut i≤cut (i+1))∧cut l.length≤w'.heap.size∧∀ i x y,l[i]?=some x→l'[i]?=some y→R (cut i) (cut (i+1)) w' x y)
def eS {α:Type} (R:Nat→Nat→World→α→α→Prop):Prop:=∀ A C W W' x y,lV A C W W'→R A C W x y→R A C W' x y
theorem dw {A C:Nat} {W W':World} (h:Below W.heap.size W W') (hC:C≤W.heap.size):lV A C W W':=fun b _ hb=>h.block b (by omega)
structure EachR {α:Type} (ai:α→List Value) (k:Nat) (t:TypeId) (R:Nat→Nat→World→α→α→Prop) (l:List α) (g:Nat) (i:Nat) (D:List α) (cut:Nat→Nat) (W:World):Prop where
 len:D.length=l.length
 row:RowB ai k t W g D
 rest:∀ j,i≤j→D[j]?=l[j]?
 low:g < cut 0
 mono:∀ j,cut j≤cut (j+1)
 top:cut i≤W.heap.size
 same:∀ j,i≤j→cut j=cut i
 done:∀ j x y,j < i→l[j]?=some x→D[j]?=some y→R (cut j) (cut (j+1)) W x y
theorem EachR.start {α:Type} {ai:α→List Value} {k:Nat} {t:TypeId} {R:Nat→Nat→World→α→α→Prop} {l:List α} {g:Nat} {W:World} (h:RowB ai k t W g l):EachR ai k t R l g 0 l (fun _=>W.heap.size) W :=
 ⟨rfl,h,fun _ _=>rfl,h.lt,fun _=>Nat.le_refl _,Nat.le_refl _,fun _ _=>rfl,fun _ _ _ hj=>absurd hj (Nat.not_lt_zero _)⟩
theorem EachR.below {α:Type} {ai:α→List Value} {k:Nat} {t:TypeId} {R:Nat→Nat→World→α→α→Prop} {l:List α} {g i:Nat} {D:List α} {cut:Nat→Nat} {W W':World} (hR:eS R) (h:EachR ai k t R l g i D cut W) (hb:Below W.heap.size W W'):EachR ai k t R l g i D cut W' :=
 ⟨h.len,h.row.below hb,h.rest,h.low,h.mono,Nat.le_trans h.top hb.size,h.same,fun j x y hj hx hy=>hR _ _ _ _ _ _ (dw hb (Nat.le_trans (bY h.mono (show j+1≤i from hj)) h.top)) (h.done j x y hj hx hy)⟩
def no {α:Type} (R:Nat→Nat→World→α→α→Prop):Prop:=∀ A A' C C' W x y,A'≤A→C≤C'→R A C W x y→R A' C' W x y
theorem EachR.next {α:Type} {ai:α→List Value} {k:Nat} {t:TypeId} {R:Nat→Nat→World→α→α→Prop} {l:List α} {g i:Nat} {D:List α} {cut:Nat→Nat} {W W':World} (hR:eS R) (hW:no R) (hk:∀ x,(ai x).length=k) (h:EachR ai k t R l g i D cut W) (hb:Below W.heap.size W W') (hi:i < l.length) {x y:α} (hx:l[i]?=some x) (hy:R W.heap.size W'.heap.size W' x y) :
 EachR ai k t R l g (i+1) (D.set i y) (fun j=>if j≤i then cut j else W'.heap.size) (W'.setCells g (i*k) (ai y)):=by
 have h':=h.below hR hb;have hs:W.heap.size≤W'.heap.size:=hb.size;have hg:∀ A C:Nat,g < A→lV A C W' (W'.setCells g (i*k) (ai y)):=fun A C hA b hb1 _=>a5 g _ _ _ b (by omega)
 have ht:=h.top
 refine⟨by rw[List.length_set];exact h.len,h'.row.put hk i y,fun j hj=>?_,?_,fun j=>?_,?_,fun j hj=>?_,fun j x' y' hj hx' hy'=>?_⟩
 · rw[List.getElem?_set_ne (by omega)]
   exact h.rest j (by omega)
 · try dsimp only
   rw[if_pos (Nat.zero_le _)];exact h.low
 · try dsimp only
   rcases Nat.lt_trichotomy j i with hj | hj | hj
   · rw[if_pos (by omega),if_pos (by omega)]
     exact h.mono j
   · subst hj
     rw[if_pos (Nat.le_refl _),if_neg (by omega)];omega
   · rw[if_neg (by omega),if_neg (by omega)]
     exact Nat.le_refl _
 · try dsimp only
   rw[if_neg (by omega),bz];exact Nat.le_refl _
 · try dsimp only
   rw[if_neg (by omega),if_neg (by omega)]
 · try dsimp only
   have hgj:g < cut j:=Nat.lt_of_lt_of_le h.low (bY h.mono (Nat.zero_le j));rcases Nat.lt_or_ge j i with hj2 | hj2
   · rw[List.getElem?_set_ne (by omega)] at hy'
     rw[if_pos (by omega),if_pos (by omega)];exact hR _ _ _ _ _ _ (hg _ _ hgj) (h'.done j x' y' hj2 hx' hy')
   · obtain rfl:j=i:=by omega
     rw[if_pos (Nat.le_refl _),if_neg (by omega)];rw[hx] at hx';obtain rfl:=Option.some.inj hx';have hDl:j < D.length:=by rw[h.len];exact hi
     rw[List.getElem?_set_self hDl] at hy';obtain rfl:=Option.some.inj hy';exact hR _ _ _ _ _ _ (hg _ _ hgj) (hW _ _ _ _ _ _ _ ht (Nat.le_refl _) hy)
set_option maxHeartbeats 8000000 in
set_option maxRecDepth 100000 in
theorem qT (R:Nat→Nat→World→(aZ × bm)→(aZ × bm)→Prop) (hRS:eS R) (hRW:no R) (gT:Nat) (egT:∀ args w,(callFunc gT args).run Tryz.prog w=.ok (.enter gT args) w) (v:Value) (l:List (aZ × bm)) (w:World) (hR:RowV aq 6 w.heap.size w v l) (hl:l.length≤1000000)
 (hT:∀ W,Below w.heap.size w W→∀ x∈l,Calls Tryz.prog gT #[.agg (aq x).toArray] W fun e w'=>∃ y,e=.returned (.agg (aq y).toArray)∧R W.heap.size w'.heap.size w' x y∧Below W.heap.size W w') :
 Calls Tryz.prog 59 #[v,.func (.func gT) #[] #[]] w fun e w'=>EachV aq 6 53 R l w e w':=by
 have HC:=Lib.hid (mN v l w hR hl)
 obtain⟨va,vn,vc,rfl⟩:∃ a n c,v=.slice a n c:=by obtain⟨A,cap,hv,_⟩:=hR;exact⟨A,_,cap,hv⟩
 have HT:=Lib.hid hT
 obtain⟨n,hn⟩:∃ n,l.length=n:=⟨_,rfl⟩
 have HN:=Lib.hid hn;unfold gP at HC;rw[hn] at hl HC;clear hR hT hn
 by_cases h0:0 < n
 · go_enter Tryz.func59,Tryz.ntmps59
   go_wp2_with fail
   refine HC.out.mono ?_;rintro e w1 ⟨A,cap,rfl,b1,h1⟩
   obtain⟨g,rfl,hge,hrow⟩:=h1 h0
   have HB1:=Lib.hid b1;have HGE:=Lib.hid hge;have HS1:Hid (EachR aq 6 53 R l g 0 l (fun _=>w1.heap.size) w1):=EachR.start hrow;clear HC b1 h1 hge hrow
   go_wp2_with fail
   go_loopw [6,7,12] (fun xv yv iv wr=>∃ (u6 u7:Value) (i:Nat) (D:List (aZ × bm)) (cut:Nat→Nat),xv=u6∧yv=u7∧iv=.int .i64 (i:Nat)∧i≤n∧Hid (EachR aq 6 53 R l g i D cut wr)∧Hid (Below w.heap.size w wr)) (fun _ _ iv _=>n - (intOf iv).toNat)
   case atStart=>exact⟨_,_,0,l,_,rfl,rfl,rfl,Nat.zero_le _,HS1.out,HB1.out⟩
   case round =>
    clear HS1 HB1
    obtain⟨u6,u7,i,D,cut,hu6,hu7,rfl,hi,HE,BW⟩:=hrel
    have hu62:=hu6.symm;have hu72:=hu7.symm;clear hu6 hu7;subst hu62 hu72
    by_cases hin:i < n
    · have hiz:(i:Int) < (n:Int):=by omega
      have hi00:(0:Int)≤(i:Int):=by omega
      obtain⟨x,hx⟩:∃ p,l[i]?=some p:=⟨_,List.getElem?_eq_getElem (by rw[HN.out];exact hin)⟩
      have HX:=Lib.hid hx;have HMX:Hid (x∈l):=List.mem_of_getElem? hx;have hdx:D[i]?=some x:=by rw[HE.out.rest i (Nat.le_refl _)];exact hx
      have CC:=fun c u hu=>(HE.out.row.cell hdx (c:=c) (u:=u) hu).1
      have HF:=fun (W:World) (hW:Below w.heap.size w W)=>HT.out W hW x HMX.out
      have HFR:Hid (∀ c,c < 6→∃ u,wr.cell? ⟨g,i*6+c,none⟩=some u):=fun c hc=>⟨_,CC c _ (List.getElem?_eq_getElem (show c < (aq x).length from hc))⟩
      have HNX:=fun (W W':World) (y:aZ × bm) (h1:EachR aq 6 53 R l g i D cut W) (hb:Below W.heap.size W W') (hy:R W.heap.size W'.heap.size W' x y)=>EachR.next (ai:=aq) (k:=6) hRS hRW (fun _=>rfl) h1 hb (by rw[HN.out];exact hin) hx hy
      obtain⟨P,hP⟩:∃ P,i*6=P:=⟨_,rfl⟩
      rw[hP] at CC HFR HNX;have HPH:=Lib.hid hP;clear hx hdx
      obtain⟨x',hxx⟩:∃ x',x=x':=⟨_,rfl⟩
      have HXX:=Lib.hid hxx;rw[hxx] at CC HF HNX;clear hxx
      obtain⟨⟨xj,xm,xg,xs,xk,xa⟩,xA,xn,xc⟩:=x'
      obtain⟨xJ,hxJ⟩:∃ J,aa xj=J:=⟨_,rfl⟩
      obtain⟨xM,hxM⟩:∃ J,aa xm=J:=⟨_,rfl⟩
      have ex:aq (⟨⟨xj,xm,xg,xs,xk,xa⟩,xA,xn,xc⟩:aZ × bm)=[.string xJ,.string xM,.slice xA xn xc,.int .i64 xs,.bool xk,.bool xa]:=by rw[← hxJ];rw[← hxM];rfl
      rw[ex] at CC HF;clear ex hxJ hxM;have p0:wr.cell? ⟨g,P,none⟩=some (.string xJ):=CC 0 _ rfl;have p1:wr.cell? ⟨g,P+1,none⟩=some (.string xM):=CC 1 _ rfl;have p2:wr.cell? ⟨g,P+2,none⟩=some (.slice xA xn xc):=CC 2 _ rfl;have p3:wr.cell? ⟨g,P+3,none⟩=some (.int .i64 xs):=CC 3 _ rfl;have p4:wr.cell? ⟨g,P+4,none⟩=some (.bool xk):=CC 4 _ rfl;have p5:wr.cell? ⟨g,P+5,none⟩=some (.bool xa):=CC 5 _ rfl
      obtain⟨W3,hW3⟩:∃ W,wr.alloc (.cells #[.string ⟨#[]⟩,.string ⟨#[]⟩,.slice none 0 0,.int .i64 0,.bool false,.bool false] 53)=W:=⟨_,rfl⟩
      obtain⟨p,hp⟩:∃ b,wr.heap.size=b:=⟨_,rfl⟩
      have K3:Hid (Bk W3 p 53 #[.string ⟨#[]⟩,.string ⟨#[]⟩,.slice none 0 0,.int .i64 0,.bool false,.bool false]):=by rw[← hW3,← hp];exact Bk.new _ _ _
      have b3:Below wr.heap.size wr W3:=by rw[← hW3];exact(Below.refl _ _).alloc (Nat.le_refl _) _
      have HPW:Hid (wr.heap.size≤p):=by rw[← hp];exact Nat.le_refl _
      have z0:W3.cell? ⟨p,0,none⟩=some (.string ⟨#[]⟩):=K3.out.cell 0;have zf0:W3.frozen? ⟨p,0,none⟩=false:=K3.out.free 0;have z1:W3.cell? ⟨p,1,none⟩=some (.string ⟨#[]⟩):=K3.out.cell 1;have zf1:W3.frozen? ⟨p,1,none⟩=false:=K3.out.free 1;have z2:W3.cell? ⟨p,2,none⟩=some (.slice none 0 0):=K3.out.cell 2;have zf2:W3.frozen? ⟨p,2,none⟩=false:=K3.out.free 2;have z3:W3.cell? ⟨p,3,none⟩=some (.int .i64 0):=K3.out.cell 3;have zf3:W3.frozen? ⟨p,3,none⟩=false:=K3.out.free 3;have z4:W3.cell? ⟨p,4,none⟩=some (.bool false):=K3.out.cell 4;have zf4:W3.frozen? ⟨p,4,none⟩=false:=K3.out.free 4;have z5:W3.cell? ⟨p,5,none⟩=some (.bool false):=K3.out.cell 5;have zf5:W3.frozen? ⟨p,5,none⟩=false:=K3.out.free 5;have K4:=Lib.hid (bo K3.out (.string xJ) (.string xM) (.slice xA xn xc) (.int .i64 xs) (.bool xk) (.bool xa));have B34:=Lib.hid (aE b3 HPW.out (.string xJ) (.string xM) (.slice xA xn xc) (.int .i64 xs) (.bool xk) (.bool xa))
      obtain⟨w4,hw4⟩:∃ z,cF W3 p (.string xJ) (.string xM) (.slice xA xn xc) (.int .i64 xs) (.bool xk) (.bool xa)=z:=⟨_,rfl⟩
      rw[hw4] at K4 B34;have HNX2:=Lib.hid HNX;have B4:Hid (Below w.heap.size w w4):=BW.out.trans (B34.out.mono BW.out.size);have HF4:=Lib.hid (HF w4 B4.out);have HE4:=Lib.hid (HE.out.below hRS B34.out);have HGW:Hid (g < wr.heap.size):=HE.out.row.lt;clear b3 HF CC HNX
      go_upto_region 5 with fail
      (try rw[hw4]);clear hW3 hw4 z0 zf0 p0 z1 zf1 p1 z2 zf2 p2 z3 zf3 p3 z4 zf4 p4 z5 zf5 p5;have e0:w4.cell? ⟨p,0,none⟩=some (.string xJ):=K4.out.cell 0;have e1:w4.cell? ⟨p,1,none⟩=some (.string xM):=K4.out.cell 1;have e2:w4.cell? ⟨p,2,none⟩=some (.slice xA xn xc):=K4.out.cell 2;have e3:w4.cell? ⟨p,3,none⟩=some (.int .i64 xs):=K4.out.cell 3;have e4:w4.cell? ⟨p,4,none⟩=some (.bool xk):=K4.out.cell 4;have e5:w4.cell? ⟨p,5,none⟩=some (.bool xa):=K4.out.cell 5
      go_wp2_with fail
      refine HF4.out.mono ?_;rintro e w5 ⟨y,rfl,hRy,b5⟩;have HRY:=Lib.hid hRy;have B5:=Lib.hid b5;have S6:=Lib.hid (HNX2.out w4 w5 y HE4.out B5.out HRY.out);have HFZ:Hid (∀ c,c < 6→(∃ u,w5.cell? ⟨g,P+c,none⟩=some u)∧w5.frozen? ⟨g,P+c,none⟩=false):=fun c hc=>by
       obtain⟨u,hu⟩:=HFR.out c hc
       have hg4:g < w4.heap.size:=Nat.lt_of_lt_of_le HGW.out B34.out.size
       refine⟨⟨u,?_⟩,?_⟩
       · rw[B5.out.cell (p:=⟨g,P+c,none⟩) hg4,B34.out.cell (p:=⟨g,P+c,none⟩) HGW.out]
         exact hu
       · have hr:=(HE4.out.below hRS B5.out).row
         obtain⟨cur,hk,_⟩:=hr
         exact hk.free _
      clear hRy b5 HRY
      obtain⟨n0,d0⟩:∃ u,w5.cell? ⟨g,P,none⟩=some u:=(HFZ.out 0 (by decide)).1
      have f0:w5.frozen? ⟨g,P,none⟩=false:=(HFZ.out 0 (by decide)).2
      obtain⟨n1,d1⟩:∃ u,w5.cell? ⟨g,P+1,none⟩=some u:=(HFZ.out 1 (by decide)).1
      have f1:w5.frozen? ⟨g,P+1,none⟩=false:=(HFZ.out 1 (by decide)).2
      obtain⟨n2,d2⟩:∃ u,w5.cell? ⟨g,P+2,none⟩=some u:=(HFZ.out 2 (by decide)).1
      have f2:w5.frozen? ⟨g,P+2,none⟩=false:=(HFZ.out 2 (by decide)).2
      obtain⟨n3,d3⟩:∃ u,w5.cell? ⟨g,P+3,none⟩=some u:=(HFZ.out 3 (by decide)).1
      have f3:w5.frozen? ⟨g,P+3,none⟩=false:=(HFZ.out 3 (by decide)).2
      obtain⟨n4,d4⟩:∃ u,w5.cell? ⟨g,P+4,none⟩=some u:=(HFZ.out 4 (by decide)).1
      have f4:w5.frozen? ⟨g,P+4,none⟩=false:=(HFZ.out 4 (by decide)).2
      obtain⟨n5,d5⟩:∃ u,w5.cell? ⟨g,P+5,none⟩=some u:=(HFZ.out 5 (by decide)).1
      have f5:w5.frozen? ⟨g,P+5,none⟩=false:=(HFZ.out 5 (by decide)).2;clear HFZ e0 e1 e2 e3 e4 e5
      obtain⟨y',hyy⟩:∃ y',y=y':=⟨_,rfl⟩
      rw[hyy] at S6 ⊢;clear hyy
      obtain⟨⟨yj,ym,yg,ys,yk,ya⟩,yA,yn,yc⟩:=y'
      obtain⟨yJ,hyJ⟩:∃ J,aa yj=J:=⟨_,rfl⟩
      obtain⟨yM,hyM⟩:∃ J,aa ym=J:=⟨_,rfl⟩
      have ey:aq (⟨⟨yj,ym,yg,ys,yk,ya⟩,yA,yn,yc⟩:aZ × bm)=[.string yJ,.string yM,.slice yA yn yc,.int .i64 ys,.bool yk,.bool ya]:=by rw[← hyJ];rw[← hyM];rfl
      have B6:Hid (Below w.heap.size w (w5.setCells g P [.string yJ,.string yM,.slice yA yn yc,.int .i64 ys,.bool yk,.bool ya])):=by
       have h1:Below w.heap.size w w5:=B4.out.trans (B5.out.mono B4.out.size);exact cd g HGE.out [.string yJ,.string yM,.slice yA yn yc,.int .i64 ys,.bool yk,.bool ya] P w5 h1
      have HAG:Hid ((aq (⟨⟨yj,ym,yg,ys,yk,ya⟩,yA,yn,yc⟩:aZ × bm)).toArray=#[.string yJ,.string yM,.slice yA yn yc,.int .i64 ys,.bool yk,.bool ya]):=by unfold Hid;rw[ey]
      rw[ey] at S6;clear ey hyJ hyM;rw[HAG.out]
      go_wp2_with fail
      go_roundw
      case rel=>exact⟨_,_,i+1,_,_,rfl,rfl,by go_num,by omega,S6,B6⟩
      case measure=>simp[intOf];omega
    · have hiz:¬ (i:Int) < (n:Int):=by omega
      go_wp2_with fail
      go_ret;have hin2:i=n:=by omega
      subst hin2
      exact⟨some ⟨g,0,none⟩,cap,D,by rw[HN.out];rfl,HE.out.len,BW.out,fun _=>⟨g,cut,rfl,HGE.out,HE.out.row,HE.out.low,HE.out.mono,by rw[HN.out];exact HE.out.top,fun j x y hx hy=>HE.out.done j x y (by have:=(List.getElem?_eq_some_iff.1 hx).1;rw[HN.out] at this;exact this) hx hy⟩⟩
 · obtain rfl:n=0:=by omega
   go_enter Tryz.func59,Tryz.ntmps59
   go_wp2_with fail
   refine HC.out.mono ?_;rintro e w1 ⟨A,cap,rfl,b1,_⟩;clear HC
   go_wp2_with fail
   go_loopw [6,7,12] (fun xv yv iv wr=>∃ (u6 u7:Value),xv=u6∧yv=u7∧iv=.int .i64 0∧wr=w1) (fun _ _ _ _=>0)
   case atStart=>exact⟨_,_,rfl,rfl,rfl,rfl⟩
   case round =>
    obtain⟨u6,u7,hu6,hu7,rfl,rfl⟩:=hrel
    go_wp2_with fail
    go_ret
    exact⟨A,cap,[],by rw[HN.out];rfl,by rw[HN.out];rfl,b1,fun h=>absurd h (by rw[HN.out];exact Nat.lt_irrefl _)⟩
set_option maxHeartbeats 8000000 in
set_option maxRecDepth 100000 in
theorem qD (R:Nat→Nat→World→(aC)→(aC)→Prop) (hRS:eS R) (hRW:no R) (gT:Nat) (egT:∀ args w,(callFunc gT args).run Tryz.prog w=.ok (.enter gT args) w) (v:Value) (l:List (aC)) (w:World) (hR:RowV af 4 w.heap.size w v l) (hl:l.length≤1000000)
 (hT:∀ W,Below w.heap.size w W→∀ x∈l,Calls Tryz.prog gT #[.agg (af x).toArray] W fun e w'=>∃ y,e=.returned (.agg (af y).toArray)∧R W.heap.size w'.heap.size w' x y∧Below W.heap.size W w') :
 Calls Tryz.prog 63 #[v,.func (.func gT) #[] #[]] w fun e w'=>EachV af 4 28 R l w e w':=by
 have HC:=Lib.hid (mf v l w hR hl)
 obtain⟨va,vn,vc,rfl⟩:∃ a n c,v=.slice a n c:=by obtain⟨A,cap,hv,_⟩:=hR;exact⟨A,_,cap,hv⟩
 have HT:=Lib.hid hT
 obtain⟨n,hn⟩:∃ n,l.length=n:=⟨_,rfl⟩
 have HN:=Lib.hid hn;unfold gP at HC;rw[hn] at hl HC;clear hR hT hn
 by_cases h0:0 < n
 · go_enter Tryz.func63,Tryz.ntmps63
   go_wp2_with fail
   refine HC.out.mono ?_;rintro e w1 ⟨A,cap,rfl,b1,h1⟩
   obtain⟨g,rfl,hge,hrow⟩:=h1 h0
   have HB1:=Lib.hid b1;have HGE:=Lib.hid hge;have HS1:Hid (EachR af 4 28 R l g 0 l (fun _=>w1.heap.size) w1):=EachR.start hrow;clear HC b1 h1 hge hrow
   go_wp2_with fail
   go_loopw [6,7,12] (fun xv yv iv wr=>∃ (u6 u7:Value) (i:Nat) (D:List (aC)) (cut:Nat→Nat),xv=u6∧yv=u7∧iv=.int .i64 (i:Nat)∧i≤n∧Hid (EachR af 4 28 R l g i D cut wr)∧Hid (Below w.heap.size w wr)) (fun _ _ iv _=>n - (intOf iv).toNat)
   case atStart=>exact⟨_,_,0,l,_,rfl,rfl,rfl,Nat.zero_le _,HS1.out,HB1.out⟩
   case round =>
    clear HS1 HB1
    obtain⟨u6,u7,i,D,cut,hu6,hu7,rfl,hi,HE,BW⟩:=hrel
    have hu62:=hu6.symm;have hu72:=hu7.symm;clear hu6 hu7;subst hu62 hu72
    by_cases hin:i < n
    · have hiz:(i:Int) < (n:Int):=by omega
      have hi00:(0:Int)≤(i:Int):=by omega
      obtain⟨x,hx⟩:∃ p,l[i]?=some p:=⟨_,List.getElem?_eq_getElem (by rw[HN.out];exact hin)⟩
      have HX:=Lib.hid hx;have HMX:Hid (x∈l):=List.mem_of_getElem? hx;have hdx:D[i]?=some x:=by rw[HE.out.rest i (Nat.le_refl _)];exact hx
      have CC:=fun c u hu=>(HE.out.row.cell hdx (c:=c) (u:=u) hu).1
      have HF:=fun (W:World) (hW:Below w.heap.size w W)=>HT.out W hW x HMX.out
      have HFR:Hid (∀ c,c < 4→∃ u,wr.cell? ⟨g,i*4+c,none⟩=some u):=fun c hc=>⟨_,CC c _ (List.getElem?_eq_getElem (show c < (af x).length from hc))⟩
      have HNX:=fun (W W':World) (y:aC) (h1:EachR af 4 28 R l g i D cut W) (hb:Below W.heap.size W W') (hy:R W.heap.size W'.heap.size W' x y)=>EachR.next (ai:=af) (k:=4) hRS hRW (fun _=>rfl) h1 hb (by rw[HN.out];exact hin) hx hy
      obtain⟨P,hP⟩:∃ P,i*4=P:=⟨_,rfl⟩
      rw[hP] at CC HFR HNX;have HPH:=Lib.hid hP;clear hx hdx
      obtain⟨x',hxx⟩:∃ x',x=x':=⟨_,rfl⟩
      have HXX:=Lib.hid hxx;rw[hxx] at CC HF HNX;clear hxx
      obtain⟨xj,xm,xis,⟨xA,xn,xc⟩,xps,⟨xD,xe,xf⟩⟩:=x'
      obtain⟨xJ,hxJ⟩:∃ J,aa xj=J:=⟨_,rfl⟩
      obtain⟨xM,hxM⟩:∃ J,aa xm=J:=⟨_,rfl⟩
      have ex:af (⟨xj,xm,xis,⟨xA,xn,xc⟩,xps,⟨xD,xe,xf⟩⟩:aC)=[.string xJ,.string xM,.slice xA xn xc,.slice xD xe xf]:=by rw[← hxJ];rw[← hxM];rfl
      rw[ex] at CC HF;clear ex hxJ hxM;have p0:wr.cell? ⟨g,P,none⟩=some (.string xJ):=CC 0 _ rfl;have p1:wr.cell? ⟨g,P+1,none⟩=some (.string xM):=CC 1 _ rfl;have p2:wr.cell? ⟨g,P+2,none⟩=some (.slice xA xn xc):=CC 2 _ rfl;have p3:wr.cell? ⟨g,P+3,none⟩=some (.slice xD xe xf):=CC 3 _ rfl
      obtain⟨W3,hW3⟩:∃ W,wr.alloc (.cells #[.string ⟨#[]⟩,.string ⟨#[]⟩,.slice none 0 0,.slice none 0 0] 28)=W:=⟨_,rfl⟩
      obtain⟨p,hp⟩:∃ b,wr.heap.size=b:=⟨_,rfl⟩
      have K3:Hid (Bk W3 p 28 #[.string ⟨#[]⟩,.string ⟨#[]⟩,.slice none 0 0,.slice none 0 0]):=by rw[← hW3,← hp];exact Bk.new _ _ _
      have b3:Below wr.heap.size wr W3:=by rw[← hW3];exact(Below.refl _ _).alloc (Nat.le_refl _) _
      have HPW:Hid (wr.heap.size≤p):=by rw[← hp];exact Nat.le_refl _
      have z0:W3.cell? ⟨p,0,none⟩=some (.string ⟨#[]⟩):=K3.out.cell 0;have zf0:W3.frozen? ⟨p,0,none⟩=false:=K3.out.free 0;have z1:W3.cell? ⟨p,1,none⟩=some (.string ⟨#[]⟩):=K3.out.cell 1;have zf1:W3.frozen? ⟨p,1,none⟩=false:=K3.out.free 1;have z2:W3.cell? ⟨p,2,none⟩=some (.slice none 0 0):=K3.out.cell 2;have zf2:W3.frozen? ⟨p,2,none⟩=false:=K3.out.free 2;have z3:W3.cell? ⟨p,3,none⟩=some (.slice none 0 0):=K3.out.cell 3;have zf3:W3.frozen? ⟨p,3,none⟩=false:=K3.out.free 3;have K4:=Lib.hid (aF K3.out (.string xJ) (.string xM) (.slice xA xn xc) (.slice xD xe xf));have B34:=Lib.hid (aj b3 HPW.out (.string xJ) (.string xM) (.slice xA xn xc) (.slice xD xe xf))
      obtain⟨w4,hw4⟩:∃ z,bj W3 p (.string xJ) (.string xM) (.slice xA xn xc) (.slice xD xe xf)=z:=⟨_,rfl⟩
      rw[hw4] at K4 B34;have HNX2:=Lib.hid HNX;have B4:Hid (Below w.heap.size w w4):=BW.out.trans (B34.out.mono BW.out.size);have HF4:=Lib.hid (HF w4 B4.out);have HE4:=Lib.hid (HE.out.below hRS B34.out);have HGW:Hid (g < wr.heap.size):=HE.out.row.lt;clear b3 HF CC HNX
      go_upto_region 5 with fail
      (try rw[hw4]);clear hW3 hw4 z0 zf0 p0 z1 zf1 p1 z2 zf2 p2 z3 zf3 p3;have e0:w4.cell? ⟨p,0,none⟩=some (.string xJ):=K4.out.cell 0;have e1:w4.cell? ⟨p,1,none⟩=some (.string xM):=K4.out.cell 1;have e2:w4.cell? ⟨p,2,none⟩=some (.slice xA xn xc):=K4.out.cell 2;have e3:w4.cell? ⟨p,3,none⟩=some (.slice xD xe xf):=K4.out.cell 3
      go_wp2_with fail
      refine HF4.out.mono ?_;rintro e w5 ⟨y,rfl,hRy,b5⟩;have HRY:=Lib.hid hRy;have B5:=Lib.hid b5;have S6:=Lib.hid (HNX2.out w4 w5 y HE4.out B5.out HRY.out);have HFZ:Hid (∀ c,c < 4→(∃ u,w5.cell? ⟨g,P+c,none⟩=some u)∧w5.frozen? ⟨g,P+c,none⟩=false):=fun c hc=>by
       obtain⟨u,hu⟩:=HFR.out c hc
       have hg4:g < w4.heap.size:=Nat.lt_of_lt_of_le HGW.out B34.out.size
       refine⟨⟨u,?_⟩,?_⟩
       · rw[B5.out.cell (p:=⟨g,P+c,none⟩) hg4,B34.out.cell (p:=⟨g,P+c,none⟩) HGW.out]
         exact hu
       · have hr:=(HE4.out.below hRS B5.out).row
         obtain⟨cur,hk,_⟩:=hr
         exact hk.free _
      clear hRy b5 HRY
      obtain⟨n0,d0⟩:∃ u,w5.cell? ⟨g,P,none⟩=some u:=(HFZ.out 0 (by decide)).1
      have f0:w5.frozen? ⟨g,P,none⟩=false:=(HFZ.out 0 (by decide)).2
      obtain⟨n1,d1⟩:∃ u,w5.cell? ⟨g,P+1,none⟩=some u:=(HFZ.out 1 (by decide)).1
      have f1:w5.frozen? ⟨g,P+1,none⟩=false:=(HFZ.out 1 (by decide)).2
      obtain⟨n2,d2⟩:∃ u,w5.cell? ⟨g,P+2,none⟩=some u:=(HFZ.out 2 (by decide)).1
      have f2:w5.frozen? ⟨g,P+2,none⟩=false:=(HFZ.out 2 (by decide)).2
      obtain⟨n3,d3⟩:∃ u,w5.cell? ⟨g,P+3,none⟩=some u:=(HFZ.out 3 (by decide)).1
      have f3:w5.frozen? ⟨g,P+3,none⟩=false:=(HFZ.out 3 (by decide)).2;clear HFZ e0 e1 e2 e3
      obtain⟨y',hyy⟩:∃ y',y=y':=⟨_,rfl⟩
      rw[hyy] at S6 ⊢;clear hyy
      obtain⟨yj,ym,yis,⟨yA,yn,yc⟩,yps,⟨yD,ye,yf⟩⟩:=y'
      obtain⟨yJ,hyJ⟩:∃ J,aa yj=J:=⟨_,rfl⟩
      obtain⟨yM,hyM⟩:∃ J,aa ym=J:=⟨_,rfl⟩
      have ey:af (⟨yj,ym,yis,⟨yA,yn,yc⟩,yps,⟨yD,ye,yf⟩⟩:aC)=[.string yJ,.string yM,.slice yA yn yc,.slice yD ye yf]:=by rw[← hyJ];rw[← hyM];rfl
      have B6:Hid (Below w.heap.size w (w5.setCells g P [.string yJ,.string yM,.slice yA yn yc,.slice yD ye yf])):=by
       have h1:Below w.heap.size w w5:=B4.out.trans (B5.out.mono B4.out.size);exact cd g HGE.out [.string yJ,.string yM,.slice yA yn yc,.slice yD ye yf] P w5 h1
      have HAG:Hid ((af (⟨yj,ym,yis,⟨yA,yn,yc⟩,yps,⟨yD,ye,yf⟩⟩:aC)).toArray=#[.string yJ,.string yM,.slice yA yn yc,.slice yD ye yf]):=by unfold Hid;rw[ey]
      rw[ey] at S6;clear ey hyJ hyM;rw[HAG.out]
      go_wp2_with fail
      go_roundw
      case rel=>exact⟨_,_,i+1,_,_,rfl,rfl,by go_num,by omega,S6,B6⟩
      case measure=>simp[intOf];omega
    · have hiz:¬ (i:Int) < (n:Int):=by omega
      go_wp2_with fail
      go_ret;have hin2:i=n:=by omega
      subst hin2
      exact⟨some ⟨g,0,none⟩,cap,D,by rw[HN.out];rfl,HE.out.len,BW.out,fun _=>⟨g,cut,rfl,HGE.out,HE.out.row,HE.out.low,HE.out.mono,by rw[HN.out];exact HE.out.top,fun j x y hx hy=>HE.out.done j x y (by have:=(List.getElem?_eq_some_iff.1 hx).1;rw[HN.out] at this;exact this) hx hy⟩⟩
 · obtain rfl:n=0:=by omega
   go_enter Tryz.func63,Tryz.ntmps63
   go_wp2_with fail
   refine HC.out.mono ?_;rintro e w1 ⟨A,cap,rfl,b1,_⟩;clear HC
   go_wp2_with fail
   go_loopw [6,7,12] (fun xv yv iv wr=>∃ (u6 u7:Value),xv=u6∧yv=u7∧iv=.int .i64 0∧wr=w1) (fun _ _ _ _=>0)
   case atStart=>exact⟨_,_,rfl,rfl,rfl,rfl⟩
   case round =>
    obtain⟨u6,u7,hu6,hu7,rfl,rfl⟩:=hrel
    go_wp2_with fail
    go_ret
    exact⟨A,cap,[],by rw[HN.out];rfl,by rw[HN.out];rfl,b1,fun h=>absurd h (by rw[HN.out];exact Nat.lt_irrefl _)⟩
set_option maxHeartbeats 8000000 in
set_option maxRecDepth 100000 in
theorem r6 (R:Nat→Nat→World→(aK)→(aK)→Prop) (hRS:eS R) (hRW:no R) (gT:Nat) (egT:∀ args w,(callFunc gT args).run Tryz.prog w=.ok (.enter gT args) w) (v:Value) (l:List (aK)) (w:World) (hR:RowV aA 2 w.heap.size w v l) (hl:l.length≤1000000)
 (hT:∀ W,Below w.heap.size w W→∀ x∈l,Calls Tryz.prog gT #[.agg (aA x).toArray] W fun e w'=>∃ y,e=.returned (.agg (aA y).toArray)∧R W.heap.size w'.heap.size w' x y∧Below W.heap.size W w') :
 Calls Tryz.prog 33 #[v,.func (.func gT) #[] #[]] w fun e w'=>EachV aA 2 47 R l w e w':=by
 have HC:=Lib.hid (mb v l w hR hl)
 obtain⟨va,vn,vc,rfl⟩:∃ a n c,v=.slice a n c:=by obtain⟨A,cap,hv,_⟩:=hR;exact⟨A,_,cap,hv⟩
 have HT:=Lib.hid hT
 obtain⟨n,hn⟩:∃ n,l.length=n:=⟨_,rfl⟩
 have HN:=Lib.hid hn;unfold gP at HC;rw[hn] at hl HC;clear hR hT hn
 by_cases h0:0 < n
 · go_enter Tryz.func33,Tryz.ntmps33
   go_wp2_with fail
   refine HC.out.mono ?_;rintro e w1 ⟨A,cap,rfl,b1,h1⟩
   obtain⟨g,rfl,hge,hrow⟩:=h1 h0
   have HB1:=Lib.hid b1;have HGE:=Lib.hid hge;have HS1:Hid (EachR aA 2 47 R l g 0 l (fun _=>w1.heap.size) w1):=EachR.start hrow;clear HC b1 h1 hge hrow
   go_wp2_with fail
   go_loopw [6,7,12] (fun xv yv iv wr=>∃ (u6 u7:Value) (i:Nat) (D:List (aK)) (cut:Nat→Nat),xv=u6∧yv=u7∧iv=.int .i64 (i:Nat)∧i≤n∧Hid (EachR aA 2 47 R l g i D cut wr)∧Hid (Below w.heap.size w wr)) (fun _ _ iv _=>n - (intOf iv).toNat)
   case atStart=>exact⟨_,_,0,l,_,rfl,rfl,rfl,Nat.zero_le _,HS1.out,HB1.out⟩
   case round =>
    clear HS1 HB1
    obtain⟨u6,u7,i,D,cut,hu6,hu7,rfl,hi,HE,BW⟩:=hrel
    have hu62:=hu6.symm;have hu72:=hu7.symm;clear hu6 hu7;subst hu62 hu72
    by_cases hin:i < n
    · have hiz:(i:Int) < (n:Int):=by omega
      have hi00:(0:Int)≤(i:Int):=by omega
      obtain⟨x,hx⟩:∃ p,l[i]?=some p:=⟨_,List.getElem?_eq_getElem (by rw[HN.out];exact hin)⟩
      have HX:=Lib.hid hx;have HMX:Hid (x∈l):=List.mem_of_getElem? hx;have hdx:D[i]?=some x:=by rw[HE.out.rest i (Nat.le_refl _)];exact hx
      have CC:=fun c u hu=>(HE.out.row.cell hdx (c:=c) (u:=u) hu).1
      have HF:=fun (W:World) (hW:Below w.heap.size w W)=>HT.out W hW x HMX.out
      have HFR:Hid (∀ c,c < 2→∃ u,wr.cell? ⟨g,i*2+c,none⟩=some u):=fun c hc=>⟨_,CC c _ (List.getElem?_eq_getElem (show c < (aA x).length from hc))⟩
      have HNX:=fun (W W':World) (y:aK) (h1:EachR aA 2 47 R l g i D cut W) (hb:Below W.heap.size W W') (hy:R W.heap.size W'.heap.size W' x y)=>EachR.next (ai:=aA) (k:=2) hRS hRW (fun _=>rfl) h1 hb (by rw[HN.out];exact hin) hx hy
      obtain⟨P,hP⟩:∃ P,i*2=P:=⟨_,rfl⟩
      rw[hP] at CC HFR HNX;have HPH:=Lib.hid hP;clear hx hdx
      obtain⟨x',hxx⟩:∃ x',x=x':=⟨_,rfl⟩
      have HXX:=Lib.hid hxx;rw[hxx] at CC HF HNX;clear hxx
      obtain⟨xj,xus,xA,xn,xc⟩:=x'
      obtain⟨xJ,hxJ⟩:∃ J,aa xj=J:=⟨_,rfl⟩
      have ex:aA (⟨xj,xus,xA,xn,xc⟩:aK)=[.string xJ,.slice xA xn xc]:=by rw[← hxJ];rfl
      rw[ex] at CC HF;clear ex hxJ;have p0:wr.cell? ⟨g,P,none⟩=some (.string xJ):=CC 0 _ rfl;have p1:wr.cell? ⟨g,P+1,none⟩=some (.slice xA xn xc):=CC 1 _ rfl
      obtain⟨W3,hW3⟩:∃ W,wr.alloc (.cells #[.string ⟨#[]⟩,.slice none 0 0] 47)=W:=⟨_,rfl⟩
      obtain⟨p,hp⟩:∃ b,wr.heap.size=b:=⟨_,rfl⟩
      have K3:Hid (Bk W3 p 47 #[.string ⟨#[]⟩,.slice none 0 0]):=by rw[← hW3,← hp];exact Bk.new _ _ _
      have b3:Below wr.heap.size wr W3:=by rw[← hW3];exact(Below.refl _ _).alloc (Nat.le_refl _) _
      have HPW:Hid (wr.heap.size≤p):=by rw[← hp];exact Nat.le_refl _
      have z0:W3.cell? ⟨p,0,none⟩=some (.string ⟨#[]⟩):=K3.out.cell 0;have zf0:W3.frozen? ⟨p,0,none⟩=false:=K3.out.free 0;have z1:W3.cell? ⟨p,1,none⟩=some (.slice none 0 0):=K3.out.cell 1;have zf1:W3.frozen? ⟨p,1,none⟩=false:=K3.out.free 1;have K4:=Lib.hid (dv K3.out (.string xJ) (.slice xA xn xc));have B34:=Lib.hid (cn b3 HPW.out (.string xJ) (.slice xA xn xc))
      obtain⟨w4,hw4⟩:∃ z,dE W3 p (.string xJ) (.slice xA xn xc)=z:=⟨_,rfl⟩
      rw[hw4] at K4 B34;have HNX2:=Lib.hid HNX;have B4:Hid (Below w.heap.size w w4):=BW.out.trans (B34.out.mono BW.out.size);have HF4:=Lib.hid (HF w4 B4.out);have HE4:=Lib.hid (HE.out.below hRS B34.out);have HGW:Hid (g < wr.heap.size):=HE.out.row.lt;clear b3 HF CC HNX
      go_upto_region 5 with fail
      (try rw[hw4]);clear hW3 hw4 z0 zf0 p0 z1 zf1 p1;have e0:w4.cell? ⟨p,0,none⟩=some (.string xJ):=K4.out.cell 0;have e1:w4.cell? ⟨p,1,none⟩=some (.slice xA xn xc):=K4.out.cell 1
      go_wp2_with fail
      refine HF4.out.mono ?_;rintro e w5 ⟨y,rfl,hRy,b5⟩;have HRY:=Lib.hid hRy;have B5:=Lib.hid b5;have S6:=Lib.hid (HNX2.out w4 w5 y HE4.out B5.out HRY.out);have HFZ:Hid (∀ c,c < 2→(∃ u,w5.cell? ⟨g,P+c,none⟩=some u)∧w5.frozen? ⟨g,P+c,none⟩=false):=fun c hc=>by
       obtain⟨u,hu⟩:=HFR.out c hc
       have hg4:g < w4.heap.size:=Nat.lt_of_lt_of_le HGW.out B34.out.size
       refine⟨⟨u,?_⟩,?_⟩
       · rw[B5.out.cell (p:=⟨g,P+c,none⟩) hg4,B34.out.cell (p:=⟨g,P+c,none⟩) HGW.out]
         exact hu
       · have hr:=(HE4.out.below hRS B5.out).row
         obtain⟨cur,hk,_⟩:=hr
         exact hk.free _
      clear hRy b5 HRY
      obtain⟨n0,d0⟩:∃ u,w5.cell? ⟨g,P,none⟩=some u:=(HFZ.out 0 (by decide)).1
      have f0:w5.frozen? ⟨g,P,none⟩=false:=(HFZ.out 0 (by decide)).2
      obtain⟨n1,d1⟩:∃ u,w5.cell? ⟨g,P+1,none⟩=some u:=(HFZ.out 1 (by decide)).1
      have f1:w5.frozen? ⟨g,P+1,none⟩=false:=(HFZ.out 1 (by decide)).2;clear HFZ e0 e1
      obtain⟨y',hyy⟩:∃ y',y=y':=⟨_,rfl⟩
      rw[hyy] at S6 ⊢;clear hyy
      obtain⟨yj,yus,yA,yn,yc⟩:=y'
      obtain⟨yJ,hyJ⟩:∃ J,aa yj=J:=⟨_,rfl⟩
      have ey:aA (⟨yj,yus,yA,yn,yc⟩:aK)=[.string yJ,.slice yA yn yc]:=by rw[← hyJ];rfl
      have B6:Hid (Below w.heap.size w (w5.setCells g P [.string yJ,.slice yA yn yc])):=by
       have h1:Below w.heap.size w w5:=B4.out.trans (B5.out.mono B4.out.size);exact cd g HGE.out [.string yJ,.slice yA yn yc] P w5 h1
      have HAG:Hid ((aA (⟨yj,yus,yA,yn,yc⟩:aK)).toArray=#[.string yJ,.slice yA yn yc]):=by unfold Hid;rw[ey]
      rw[ey] at S6;clear ey hyJ;rw[HAG.out]
      go_wp2_with fail
      go_roundw
      case rel=>exact⟨_,_,i+1,_,_,rfl,rfl,by go_num,by omega,S6,B6⟩
      case measure=>simp[intOf];omega
    · have hiz:¬ (i:Int) < (n:Int):=by omega
      go_wp2_with fail
      go_ret;have hin2:i=n:=by omega
      subst hin2
      exact⟨some ⟨g,0,none⟩,cap,D,by rw[HN.out];rfl,HE.out.len,BW.out,fun _=>⟨g,cut,rfl,HGE.out,HE.out.row,HE.out.low,HE.out.mono,by rw[HN.out];exact HE.out.top,fun j x y hx hy=>HE.out.done j x y (by have:=(List.getElem?_eq_some_iff.1 hx).1;rw[HN.out] at this;exact this) hx hy⟩⟩
 · obtain rfl:n=0:=by omega
   go_enter Tryz.func33,Tryz.ntmps33
   go_wp2_with fail
   refine HC.out.mono ?_;rintro e w1 ⟨A,cap,rfl,b1,_⟩;clear HC
   go_wp2_with fail
   go_loopw [6,7,12] (fun xv yv iv wr=>∃ (u6 u7:Value),xv=u6∧yv=u7∧iv=.int .i64 0∧wr=w1) (fun _ _ _ _=>0)
   case atStart=>exact⟨_,_,rfl,rfl,rfl,rfl⟩
   case round =>
    obtain⟨u6,u7,hu6,hu7,rfl,rfl⟩:=hrel
    go_wp2_with fail
    go_ret
    exact⟨A,cap,[],by rw[HN.out];rfl,by rw[HN.out];rfl,b1,fun h=>absurd h (by rw[HN.out];exact Nat.lt_irrefl _)⟩
end Go.Proofs.YtbgaglcgennhiaaGreatDoor
