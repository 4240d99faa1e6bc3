import Derived.Test.YtbgaglcgennhiaaGreatDoorP36
import Derived.Test.YtbgaglcgennhiaaGreatDoorP30
namespace Go.Proofs.YtbgaglcgennhiaaGreatDoor
open Go.RowKit Go.Sort Tx Ct
set_option maxHeartbeats 2000000 in
theorem fF (x y:aC) (w:World) (h:cG x=cG y) (hx:InU w x) (hy:InU w y) (hs:lK x) :
 Calls Tryz.prog 22 #[.agg (af x).toArray,.agg (af y).toArray] w fun e w'=>e=.returned (.bool true)∧Below w.heap.size w w':=by
 have e1:x.name=y.name:=congrArg Prod.fst h;have e2:x.pw=y.pw:=congrArg (fun z=>z.2.1) h;have e3:x.items.map (·.1)=y.items.map (·.1):=congrArg (fun z=>z.2.2.1) h;have e4:x.pend=y.pend:=congrArg (fun z=>z.2.2.2) h;have HI0:=fun (W:World) (hW:Below w.heap.size w W)=>na (sl x.iv) (sl y.iv) x.items y.items W (hx.upon hW).1 (hy.upon hW).1 e3 hs.items (fun p hp=>by have:=(hs.eachI p hp).groups;omega)
 have HP0:∀ W,Below w.heap.size w W→Calls Tryz.prog 23 #[sl x.pv,sl y.pv] W fun e w'=>e=.returned (.bool true)∧Below W.heap.size W w':=fun W hW=>by
  have hy2:=(hy.upon hW).2;rw[← e4] at hy2
  have:=jf W.heap.size (sl x.pv) (sl y.pv) (ac x.pend) (ac x.pend) W (hx.upon hW).2 hy2 (by unfold ac;rw[List.length_map];have:=hs.pend;omega) (by unfold ac;rw[List.length_map];have:=hs.pend;omega)
  rw[decide_eq_true rfl] at this;exact this
 obtain⟨xj,xm,xis,⟨xA,xn,xc⟩,xps,⟨xD,xe,xf⟩⟩:=x
 obtain⟨yj,ym,yis,⟨yA,yn,yc⟩,yps,⟨yD,ye,yf⟩⟩:=y
 have e1':xj=yj:=e1;have e2':xm=ym:=e2;subst e1' e2';clear h hx hy hs e1 e2 e3 e4;dsimp only[sl] at HI0 HP0
 obtain⟨X,hX⟩:∃ X,aa xj=X:=⟨_,rfl⟩
 obtain⟨M,hM⟩:∃ X,aa xm=X:=⟨_,rfl⟩
 have ex:(af (⟨xj,xm,xis,⟨xA,xn,xc⟩,xps,⟨xD,xe,xf⟩⟩:aC)).toArray=#[.string X,.string M,.slice xA xn xc,.slice xD xe xf]:=by rw[← hX,← hM];rfl
 have ey:(af (⟨xj,xm,yis,⟨yA,yn,yc⟩,yps,⟨yD,ye,yf⟩⟩:aC)).toArray=#[.string X,.string M,.slice yA yn yc,.slice yD ye yf]:=by rw[← hX,← hM];rfl
 rw[ex,ey];clear ex ey hX hM
 obtain⟨W1,hW1⟩:∃ W1,w.alloc (.cells #[.string X,.string M,.slice xA xn xc,.slice xD xe xf] 28)=W1:=⟨_,rfl⟩
 obtain⟨p,hp⟩:∃ G,w.heap.size=G:=⟨_,rfl⟩
 have k1:Bk W1 p 28 #[.string X,.string M,.slice xA xn xc,.slice xD xe xf]:=by rw[← hW1,← hp];exact Bk.new _ _ _
 have b1:Below w.heap.size w W1:=by rw[← hW1];exact(Below.refl _ _).alloc (Nat.le_refl _) _
 obtain⟨W2,hW2⟩:∃ W1',W1.alloc (.cells #[.string X,.string M,.slice yA yn yc,.slice yD ye yf] 28)=W1':=⟨_,rfl⟩
 obtain⟨q,hq⟩:∃ G,W1.heap.size=G:=⟨_,rfl⟩
 have k2:Bk W2 q 28 #[.string X,.string M,.slice yA yn yc,.slice yD ye yf]:=by rw[← hW2,← hq];exact Bk.new _ _ _
 have b2:Below W1.heap.size W1 W2:=by rw[← hW2];exact(Below.refl _ _).alloc (Nat.le_refl _) _
 have B2:Hid (Below w.heap.size w W2):=b1.trans (b2.mono b1.size);have K1:=Lib.hid (k1.below b2 k1.lt);have K2:=Lib.hid k2;have HP:=Lib.hid hp;have HI2:=Lib.hid (HI0 W2 B2.out);have HP2:=Lib.hid HP0;have t1:(X.toList==X.toList)=true:=by simp
 have t2:(M.toList==M.toList)=true:=by simp
 have c0:W2.cell? ⟨p,0,none⟩=some (.string X):=K1.out.cell 0;have d0:W2.cell? ⟨q,0,none⟩=some (.string X):=K2.out.cell 0;have c1:W2.cell? ⟨p,1,none⟩=some (.string M):=K1.out.cell 1;have d1:W2.cell? ⟨q,1,none⟩=some (.string M):=K2.out.cell 1;have c2:W2.cell? ⟨p,2,none⟩=some (.slice xA xn xc):=K1.out.cell 2;have d2:W2.cell? ⟨q,2,none⟩=some (.slice yA yn yc):=K2.out.cell 2;have c3:W2.cell? ⟨p,3,none⟩=some (.slice xD xe xf):=K1.out.cell 3;have d3:W2.cell? ⟨q,3,none⟩=some (.slice yD ye yf):=K2.out.cell 3;clear k1 k2 b1 b2 HI0 HP0;go_enter Tryz.func22,Tryz.ntmps22
 go_wp2_with fail
 refine HI2.out.mono ?_;rintro e w3 ⟨rfl,b3⟩;have B3:Hid (Below w.heap.size w w3):=B2.out.trans (b3.mono B2.out.size);have m3:w3.cell? ⟨p,3,none⟩=some (.slice xD xe xf):=(K1.out.below b3 K1.out.lt).cell 3;have n3:w3.cell? ⟨q,3,none⟩=some (.slice yD ye yf):=(K2.out.below b3 K2.out.lt).cell 3;have HP3:=Lib.hid (HP2.out w3 B3.out);clear b3 c0 d0 c1 d1 c2 d2 c3 d3
 go_wp2_with fail
 refine HP3.out.mono ?_;rintro e w4 ⟨rfl,b4⟩;have B4:Hid (Below w.heap.size w w4):=B3.out.trans (b4.mono B3.out.size);clear b4
 go_wp2_with fail
 go_ret
 exact⟨rfl,by first | exact B4.out | (rw[← HP.out];exact B4.out)⟩
set_option maxHeartbeats 4000000 in
theorem pG (v u:Value) (l l2:List aC) (w:World) (h1:RowV af 4 w.heap.size w v l) (h2:RowV af 4 w.heap.size w u l2) (r1:∀ p∈l,InU w p) (r2:∀ p∈l2,InU w p) (hm:l.map cG=l2.map cG) (hl:l.length≤1000000) (hs:∀ p∈l,lK p) :
 Calls Tryz.prog 76 #[v,u,.func (.func 22) #[] #[]] w fun e w'=>e=.returned (.bool true)∧Below w.heap.size w w':=by
 obtain⟨A1,cap1,rfl,hA1⟩:=h1
 obtain⟨A2,cap2,rfl,hA2⟩:=h2
 have hll:l2.length=l.length:=by have:=congrArg List.length hm;simpa using this.symm
 rw[hll] at hA2 ⊢
 obtain⟨n,hn⟩:∃ n,l.length=n:=⟨_,rfl⟩
 have HN:=Lib.hid hn;rw[hn] at hA1 hA2 hl ⊢;have HA1:=Lib.hid hA1;have HA2:=Lib.hid hA2;have HT1:=Lib.hid r1;have HT2:=Lib.hid r2;have HMM:=Lib.hid hm;have HSM:=Lib.hid hs;have hnn:((n:Int) != (n:Int))=false:=by simp
 clear hA1 hA2 r1 r2 hm hs hn hll;go_enter Tryz.func76,Tryz.ntmps76
 go_wp2_with fail
 go_loopw [7] (fun i wr=>∃ (k:Nat),k≤n∧i=.int .i64 k∧Hid (Below w.heap.size w wr)) (fun i _=>n - (intOf i).toNat)
 case atStart=>exact⟨0,Nat.zero_le _,rfl,Below.refl _ _⟩
 case round =>
  obtain⟨k,hk,rfl,BW⟩:=hrel
  by_cases hkn:k < n
  · have hkz:(k:Int) < (n:Int):=by omega
    have hk0:(0:Int)≤(k:Int):=by omega
    obtain⟨b1,o1,rfl,hb1,hc1⟩:=HA1.out (by omega)
    obtain⟨b2,o2,rfl,hb2,hc2⟩:=HA2.out (by omega)
    obtain⟨x,hx⟩:∃ p,l[k]?=some p:=⟨_,List.getElem?_eq_getElem (by rw[HN.out];exact hkn)⟩
    obtain⟨y,hx2,hpl⟩:=bJ HMM.out hx
    have hm1:x∈l:=List.mem_of_getElem? hx;have hm2:y∈l2:=List.mem_of_getElem? hx2;have BWW:∀ W,Below wr.heap.size wr W→Below w.heap.size w W:=fun W hW=>BW.out.trans (hW.mono BW.out.size)
    have hcal0:∀ p:Sy.Bel wr,Calls Tryz.prog 22 #[.agg (af x).toArray,.agg (af y).toArray] p.v fun e w'=>e=.returned (.bool true)∧Below p.v.heap.size p.v w':=fun p =>
     fF x y p.v hpl.symm ((HT1.out _ hm1).upon (BWW p.v p.h)) ((HT2.out _ hm2).upon (BWW p.v p.h)) (HSM.out _ hm1)
    obtain⟨P,hP⟩:∃ P,o1+k*4=P:=⟨_,rfl⟩
    obtain⟨Q,hQ⟩:∃ P,o2+k*4=P:=⟨_,rfl⟩
    have cx:=fun c u hu=>hc1 k x hx c u hu
    have cy:=fun c u hu=>hc2 k y hx2 c u hu
    rw[hP] at cx;rw[hQ] at cy;clear hpl hx hx2 hm1 hm2 hc1 hc2
    obtain⟨xj,xm,xis,⟨xA,xn,xc⟩,xps,⟨xD,xe,xf⟩⟩:=x
    obtain⟨yj,ym,yis,⟨yA,yn,yc⟩,yps,⟨yD,ye,yf⟩⟩:=y
    obtain⟨xX,hxX⟩:∃ J,aa xj=J:=⟨_,rfl⟩
    obtain⟨xM,hxM⟩:∃ J,aa xm=J:=⟨_,rfl⟩
    have ex:af (⟨xj,xm,xis,⟨xA,xn,xc⟩,xps,⟨xD,xe,xf⟩⟩:aC)=[.string xX,.string xM,.slice xA xn xc,.slice xD xe xf]:=by rw[← hxX];rw[← hxM];rfl
    rw[ex] at cx hcal0
    obtain⟨yX,hyX⟩:∃ J,aa yj=J:=⟨_,rfl⟩
    obtain⟨yM,hyM⟩:∃ J,aa ym=J:=⟨_,rfl⟩
    have ey:af (⟨yj,ym,yis,⟨yA,yn,yc⟩,yps,⟨yD,ye,yf⟩⟩:aC)=[.string yX,.string yM,.slice yA yn yc,.slice yD ye yf]:=by rw[← hyX];rw[← hyM];rfl
    rw[ey] at cy hcal0;have hcal:∀ p:Sy.Bel wr,Calls Tryz.prog 22 (#[.agg #[.string xX,.string xM,.slice xA xn xc,.slice xD xe xf],.agg #[.string yX,.string yM,.slice yA yn yc,.slice yD ye yf]]++#[]) p.v fun e w'=>e=.returned (.bool true)∧Below p.v.heap.size p.v w':=hcal0
    have q0:∀ v:Sy.Bel wr,v.v.cell? ⟨b1,P,none⟩=some (.string xX):=fun v=>by rw[(BWW v.v v.h).cell (p:=⟨b1,P,none⟩) hb1];exact cx 0 _ rfl
    have r0:∀ v:Sy.Bel wr,v.v.cell? ⟨b2,Q,none⟩=some (.string yX):=fun v=>by rw[(BWW v.v v.h).cell (p:=⟨b2,Q,none⟩) hb2];exact cy 0 _ rfl
    have q1:∀ v:Sy.Bel wr,v.v.cell? ⟨b1,P+1,none⟩=some (.string xM):=fun v=>by rw[(BWW v.v v.h).cell (p:=⟨b1,P+1,none⟩) hb1];exact cx 1 _ rfl
    have r1:∀ v:Sy.Bel wr,v.v.cell? ⟨b2,Q+1,none⟩=some (.string yM):=fun v=>by rw[(BWW v.v v.h).cell (p:=⟨b2,Q+1,none⟩) hb2];exact cy 1 _ rfl
    have q2:∀ v:Sy.Bel wr,v.v.cell? ⟨b1,P+2,none⟩=some (.slice xA xn xc):=fun v=>by rw[(BWW v.v v.h).cell (p:=⟨b1,P+2,none⟩) hb1];exact cx 2 _ rfl
    have r2:∀ v:Sy.Bel wr,v.v.cell? ⟨b2,Q+2,none⟩=some (.slice yA yn yc):=fun v=>by rw[(BWW v.v v.h).cell (p:=⟨b2,Q+2,none⟩) hb2];exact cy 2 _ rfl
    have q3:∀ v:Sy.Bel wr,v.v.cell? ⟨b1,P+3,none⟩=some (.slice xD xe xf):=fun v=>by rw[(BWW v.v v.h).cell (p:=⟨b1,P+3,none⟩) hb1];exact cx 3 _ rfl
    have r3:∀ v:Sy.Bel wr,v.v.cell? ⟨b2,Q+3,none⟩=some (.slice yD ye yf):=fun v=>by rw[(BWW v.v v.h).cell (p:=⟨b2,Q+3,none⟩) hb2];exact cy 3 _ rfl
    clear ex ey hxX hxM hyX hyM cx cy BWW hb1 hb2 hcal0;have egN:=Go.Proofs.enters_of Tryz.func22 (by kernel_rfl) rfl
    go_wp2_with fail
    refine Sy.wp_region_quiet_bel (by kernel_rfl) (by kernel_rfl) ?_
    repeat (go_big_quiet_step (first | (go_at_call 22;exact Sy.Calls.bel_of (hcal _)) | (go_at_fn 22;exact Sy.Calls.bel_of (hcal _))))
    refine wpQuiet_nil ?_;intro w5 hw';have hb5:Below wr.heap.size wr w5:=by obtain⟨v,rfl⟩:=hw';exact v.h
    have B5:Hid (Below w.heap.size w w5):=BW.out.trans (hb5.mono BW.out.size);clear hw' hb5 hcal hP hQ q0 r0 q1 r1 q2 r2 q3 r3
    go_wp2_with fail
    go_roundw
    case rel=>exact⟨k+1,by omega,by go_num,B5⟩
    case measure=>simp[intOf];omega
  · have hkz:¬ (k:Int) < (n:Int):=by omega
    go_wp2_with fail
    go_ret
    exact⟨rfl,BW.out⟩
def InH (w:World) (h:aK):Prop:=ReadU w (sl h.uv) h.users
theorem InH.upon {w W:World} {h:aK} (hh:InH w h) (hb:Below w.heap.size w W):InH W h:=ReadU.upon hh hb
set_option maxHeartbeats 2000000 in
theorem nZ (x y:aK) (w:World) (h:cK x=cK y) (hx:InH w x) (hy:InH w y) (hs:iD x) :
 Calls Tryz.prog 43 #[.agg (aA x).toArray,.agg (aA y).toArray] w fun e w'=>e=.returned (.bool true)∧Below w.heap.size w w':=by
 have e1:=dx h;have e3:=cT h;have HI0:=fun (W:World) (hW:Below w.heap.size w W)=>pG (sl x.uv) (sl y.uv) x.users y.users W (hx.upon hW).1 (hy.upon hW).1 (hx.upon hW).2 (hy.upon hW).2 e3 hs.users hs.each
 obtain⟨xj,xus,⟨xA,xn,xc⟩⟩:=x
 obtain⟨yj,yus,⟨yA,yn,yc⟩⟩:=y
 have e1':xj=yj:=e1;subst e1';clear h hx hy hs e1 e3;dsimp only[sl] at HI0
 obtain⟨X,hX⟩:∃ X,aa xj=X:=⟨_,rfl⟩
 have ex:(aA (⟨xj,xus,⟨xA,xn,xc⟩⟩:aK)).toArray=#[.string X,.slice xA xn xc]:=by rw[← hX];rfl
 have ey:(aA (⟨xj,yus,⟨yA,yn,yc⟩⟩:aK)).toArray=#[.string X,.slice yA yn yc]:=by rw[← hX];rfl
 rw[ex,ey];clear ex ey hX
 obtain⟨W1,hW1⟩:∃ W1,w.alloc (.cells #[.string X,.slice xA xn xc] 47)=W1:=⟨_,rfl⟩
 obtain⟨p,hp⟩:∃ G,w.heap.size=G:=⟨_,rfl⟩
 have k1:Bk W1 p 47 #[.string X,.slice xA xn xc]:=by rw[← hW1,← hp];exact Bk.new _ _ _
 have b1:Below w.heap.size w W1:=by rw[← hW1];exact(Below.refl _ _).alloc (Nat.le_refl _) _
 obtain⟨W2,hW2⟩:∃ W1',W1.alloc (.cells #[.string X,.slice yA yn yc] 47)=W1':=⟨_,rfl⟩
 obtain⟨q,hq⟩:∃ G,W1.heap.size=G:=⟨_,rfl⟩
 have k2:Bk W2 q 47 #[.string X,.slice yA yn yc]:=by rw[← hW2,← hq];exact Bk.new _ _ _
 have b2:Below W1.heap.size W1 W2:=by rw[← hW2];exact(Below.refl _ _).alloc (Nat.le_refl _) _
 have B2:Hid (Below w.heap.size w W2):=b1.trans (b2.mono b1.size);have K1:=Lib.hid (k1.below b2 k1.lt);have K2:=Lib.hid k2;have HP:=Lib.hid hp;have HI2:=Lib.hid (HI0 W2 B2.out);have t1:(X.toList==X.toList)=true:=by simp
 have c0:W2.cell? ⟨p,0,none⟩=some (.string X):=K1.out.cell 0;have d0:W2.cell? ⟨q,0,none⟩=some (.string X):=K2.out.cell 0;have c1:W2.cell? ⟨p,1,none⟩=some (.slice xA xn xc):=K1.out.cell 1;have d1:W2.cell? ⟨q,1,none⟩=some (.slice yA yn yc):=K2.out.cell 1;clear k1 k2 b1 b2 HI0;go_enter Tryz.func43,Tryz.ntmps43
 go_wp2_with fail
 refine HI2.out.mono ?_;rintro e w3 ⟨rfl,b3⟩;have B3:Hid (Below w.heap.size w w3):=B2.out.trans (b3.mono B2.out.size);clear b3
 go_wp2_with fail
 go_ret
 exact⟨rfl,by first | exact B3.out | (rw[← HP.out];exact B3.out)⟩
set_option maxHeartbeats 4000000 in
theorem oh (v u:Value) (l l2:List aK) (w:World) (h1:RowV aA 2 w.heap.size w v l) (h2:RowV aA 2 w.heap.size w u l2) (r1:∀ p∈l,InH w p) (r2:∀ p∈l2,InH w p) (hm:l.map cK=l2.map cK) (hl:l.length≤1000000) (hs:∀ p∈l,iD p) :
 Calls Tryz.prog 42 #[v,u,.func (.func 43) #[] #[]] w fun e w'=>e=.returned (.bool true)∧Below w.heap.size w w':=by
 obtain⟨A1,cap1,rfl,hA1⟩:=h1
 obtain⟨A2,cap2,rfl,hA2⟩:=h2
 have hll:l2.length=l.length:=by have:=congrArg List.length hm;simpa using this.symm
 rw[hll] at hA2 ⊢
 obtain⟨n,hn⟩:∃ n,l.length=n:=⟨_,rfl⟩
 have HN:=Lib.hid hn;rw[hn] at hA1 hA2 hl ⊢;have HA1:=Lib.hid hA1;have HA2:=Lib.hid hA2;have HT1:=Lib.hid r1;have HT2:=Lib.hid r2;have HMM:=Lib.hid hm;have HSM:=Lib.hid hs;have hnn:((n:Int) != (n:Int))=false:=by simp
 clear hA1 hA2 r1 r2 hm hs hn hll;go_enter Tryz.func42,Tryz.ntmps42
 go_wp2_with fail
 go_loopw [7] (fun i wr=>∃ (k:Nat),k≤n∧i=.int .i64 k∧Hid (Below w.heap.size w wr)) (fun i _=>n - (intOf i).toNat)
 case atStart=>exact⟨0,Nat.zero_le _,rfl,Below.refl _ _⟩
 case round =>
  obtain⟨k,hk,rfl,BW⟩:=hrel
  by_cases hkn:k < n
  · have hkz:(k:Int) < (n:Int):=by omega
    have hk0:(0:Int)≤(k:Int):=by omega
    obtain⟨b1,o1,rfl,hb1,hc1⟩:=HA1.out (by omega)
    obtain⟨b2,o2,rfl,hb2,hc2⟩:=HA2.out (by omega)
    obtain⟨x,hx⟩:∃ p,l[k]?=some p:=⟨_,List.getElem?_eq_getElem (by rw[HN.out];exact hkn)⟩
    obtain⟨y,hx2,hpl⟩:=bJ HMM.out hx
    have hm1:x∈l:=List.mem_of_getElem? hx;have hm2:y∈l2:=List.mem_of_getElem? hx2;have BWW:∀ W,Below wr.heap.size wr W→Below w.heap.size w W:=fun W hW=>BW.out.trans (hW.mono BW.out.size)
    have hcal0:∀ p:Sy.Bel wr,Calls Tryz.prog 43 #[.agg (aA x).toArray,.agg (aA y).toArray] p.v fun e w'=>e=.returned (.bool true)∧Below p.v.heap.size p.v w':=fun p =>
     nZ x y p.v hpl.symm ((HT1.out _ hm1).upon (BWW p.v p.h)) ((HT2.out _ hm2).upon (BWW p.v p.h)) (HSM.out _ hm1)
    obtain⟨P,hP⟩:∃ P,o1+k*2=P:=⟨_,rfl⟩
    obtain⟨Q,hQ⟩:∃ P,o2+k*2=P:=⟨_,rfl⟩
    have cx:=fun c u hu=>hc1 k x hx c u hu
    have cy:=fun c u hu=>hc2 k y hx2 c u hu
    rw[hP] at cx;rw[hQ] at cy;clear hpl hx hx2 hm1 hm2 hc1 hc2
    obtain⟨xj,xus,⟨xA,xn,xc⟩⟩:=x
    obtain⟨yj,yus,⟨yA,yn,yc⟩⟩:=y
    obtain⟨xX,hxX⟩:∃ J,aa xj=J:=⟨_,rfl⟩
    have ex:aA (⟨xj,xus,⟨xA,xn,xc⟩⟩:aK)=[.string xX,.slice xA xn xc]:=by rw[← hxX];rfl
    rw[ex] at cx hcal0
    obtain⟨yX,hyX⟩:∃ J,aa yj=J:=⟨_,rfl⟩
    have ey:aA (⟨yj,yus,⟨yA,yn,yc⟩⟩:aK)=[.string yX,.slice yA yn yc]:=by rw[← hyX];rfl
    rw[ey] at cy hcal0;have hcal:∀ p:Sy.Bel wr,Calls Tryz.prog 43 (#[.agg #[.string xX,.slice xA xn xc],.agg #[.string yX,.slice yA yn yc]]++#[]) p.v fun e w'=>e=.returned (.bool true)∧Below p.v.heap.size p.v w':=hcal0
    have q0:∀ v:Sy.Bel wr,v.v.cell? ⟨b1,P,none⟩=some (.string xX):=fun v=>by rw[(BWW v.v v.h).cell (p:=⟨b1,P,none⟩) hb1];exact cx 0 _ rfl
    have r0:∀ v:Sy.Bel wr,v.v.cell? ⟨b2,Q,none⟩=some (.string yX):=fun v=>by rw[(BWW v.v v.h).cell (p:=⟨b2,Q,none⟩) hb2];exact cy 0 _ rfl
    have q1:∀ v:Sy.Bel wr,v.v.cell? ⟨b1,P+1,none⟩=some (.slice xA xn xc):=fun v=>by rw[(BWW v.v v.h).cell (p:=⟨b1,P+1,none⟩) hb1];exact cx 1 _ rfl
    have r1:∀ v:Sy.Bel wr,v.v.cell? ⟨b2,Q+1,none⟩=some (.slice yA yn yc):=fun v=>by rw[(BWW v.v v.h).cell (p:=⟨b2,Q+1,none⟩) hb2];exact cy 1 _ rfl
    clear ex ey hxX hyX cx cy BWW hb1 hb2 hcal0;have egN:=Go.Proofs.enters_of Tryz.func43 (by kernel_rfl) rfl
    go_wp2_with fail
    refine Sy.wp_region_quiet_bel (by kernel_rfl) (by kernel_rfl) ?_
    repeat (go_big_quiet_step (first | (go_at_call 43;exact Sy.Calls.bel_of (hcal _)) | (go_at_fn 43;exact Sy.Calls.bel_of (hcal _))))
    refine wpQuiet_nil ?_;intro w5 hw';have hb5:Below wr.heap.size wr w5:=by obtain⟨v,rfl⟩:=hw';exact v.h
    have B5:Hid (Below w.heap.size w w5):=BW.out.trans (hb5.mono BW.out.size);clear hw' hb5 hcal hP hQ q0 r0 q1 r1
    go_wp2_with fail
    go_roundw
    case rel=>exact⟨k+1,by omega,by go_num,B5⟩
    case measure=>simp[intOf];omega
  · have hkz:¬ (k:Int) < (n:Int):=by omega
    go_wp2_with fail
    go_ret
    exact⟨rfl,BW.out⟩
set_option maxHeartbeats 2000000 in
theorem oC (v u:Value) (l l2:List aK) (w:World) (hx:ReadH w v l) (hy:ReadH w u l2) (hm:l.map cK=l2.map cK) (hl:l.length≤1000000) (hs:∀ h∈l,iD h) :
 Calls Tryz.prog 20 #[.agg #[v],.agg #[u]] w fun e w'=>e=.returned (.bool true)∧Below w.heap.size w w':=by
 have HI0:=fun (W:World) (hW:Below w.heap.size w W)=>oh v u l l2 W (hx.upon hW).1 (hy.upon hW).1 (hx.upon hW).2 (hy.upon hW).2 hm hl hs
 obtain⟨xA,xn,xc,rfl⟩:∃ A n c,v=.slice A n c:=by obtain⟨⟨A,cap,hv,_⟩,_⟩:=hx;exact⟨A,_,cap,hv⟩
 obtain⟨yA,yn,yc,rfl⟩:∃ A n c,u=.slice A n c:=by obtain⟨⟨A,cap,hv,_⟩,_⟩:=hy;exact⟨A,_,cap,hv⟩
 clear hx hy hm hl hs
 obtain⟨W1,hW1⟩:∃ W1,w.alloc (.cells #[.slice xA xn xc] 24)=W1:=⟨_,rfl⟩
 obtain⟨p,hp⟩:∃ G,w.heap.size=G:=⟨_,rfl⟩
 have k1:Bk W1 p 24 #[.slice xA xn xc]:=by rw[← hW1,← hp];exact Bk.new _ _ _
 have b1:Below w.heap.size w W1:=by rw[← hW1];exact(Below.refl _ _).alloc (Nat.le_refl _) _
 obtain⟨W2,hW2⟩:∃ W1',W1.alloc (.cells #[.slice yA yn yc] 24)=W1':=⟨_,rfl⟩
 obtain⟨q,hq⟩:∃ G,W1.heap.size=G:=⟨_,rfl⟩
 have k2:Bk W2 q 24 #[.slice yA yn yc]:=by rw[← hW2,← hq];exact Bk.new _ _ _
 have b2:Below W1.heap.size W1 W2:=by rw[← hW2];exact(Below.refl _ _).alloc (Nat.le_refl _) _
 have B2:Hid (Below w.heap.size w W2):=b1.trans (b2.mono b1.size);have K1:=Lib.hid (k1.below b2 k1.lt);have K2:=Lib.hid k2;have HP:=Lib.hid hp;have HI2:=Lib.hid (HI0 W2 B2.out);have c0:W2.cell? ⟨p,0,none⟩=some (.slice xA xn xc):=K1.out.cell 0;have d0:W2.cell? ⟨q,0,none⟩=some (.slice yA yn yc):=K2.out.cell 0;clear k1 k2 b1 b2 HI0;go_enter Tryz.func20,Tryz.ntmps20
 go_wp2_with fail
 refine HI2.out.mono ?_;rintro e w3 ⟨rfl,b3⟩;have B3:Hid (Below w.heap.size w w3):=B2.out.trans (b3.mono B2.out.size);clear b3
 go_wp2_with fail
 go_ret
 exact⟨rfl,by first | exact B3.out | (rw[← HP.out];exact B3.out)⟩
end Go.Proofs.YtbgaglcgennhiaaGreatDoor
