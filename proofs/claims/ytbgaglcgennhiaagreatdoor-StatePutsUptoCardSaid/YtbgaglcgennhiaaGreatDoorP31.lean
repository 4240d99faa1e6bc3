import Derived.Test.YtbgaglcgennhiaaGreatDoorP30
import Derived.Test.YtbgaglcgennhiaaGreatDoorP03
import Derived.Deep.DeepCutAuto
import Derived.Deep.RegionWith
import Derived.BigRegion
import Derived.BigQuiet
namespace Go.Proofs.YtbgaglcgennhiaaGreatDoor
open Go.RowKit Tx Ct
abbrev dE (w:World) (g:Nat) (a b:Value):World:=(w.setCell ⟨g,0,none⟩ a).setCell ⟨g,1,none⟩ b
theorem dv {w:World} {g:Nat} {t:TypeId} {x0 x1:Value} (h:Bk w g t #[x0,x1]) (a b:Value):Bk (dE w g a b) g t #[a,b]:=by
 have:=(h.put 0 a).put 1 b
 simpa [dE] using this
theorem cn {w0 w:World} {B g:Nat} (h:Below B w0 w) (hg:B≤g) (a b:Value):Below B w0 (dE w g a b) :=
 (h.setCell (p:=⟨g,0,none⟩) hg _).setCell (p:=⟨g,1,none⟩) hg _
abbrev bj (w:World) (g:Nat) (a b c d:Value):World:=(((w.setCell ⟨g,0,none⟩ a).setCell ⟨g,1,none⟩ b).setCell ⟨g,2,none⟩ c).setCell ⟨g,3,none⟩ d
theorem aF {w:World} {g:Nat} {t:TypeId} {x0 x1 x2 x3:Value} (h:Bk w g t #[x0,x1,x2,x3]) (a b c d:Value):Bk (bj w g a b c d) g t #[a,b,c,d]:=by
 have:=(((h.put 0 a).put 1 b).put 2 c).put 3 d
 simpa [bj] using this
theorem aj {w0 w:World} {B g:Nat} (h:Below B w0 w) (hg:B≤g) (a b c d:Value):Below B w0 (bj w g a b c d) :=
 (((h.setCell (p:=⟨g,0,none⟩) hg _).setCell (p:=⟨g,1,none⟩) hg _).setCell (p:=⟨g,2,none⟩) hg _).setCell (p:=⟨g,3,none⟩) hg _
abbrev ct (w:World) (g:Nat) (a:Value):World:=w.setCell ⟨g,0,none⟩ a
theorem cE {w:World} {g:Nat} {t:TypeId} {x0:Value} (h:Bk w g t #[x0]) (a:Value):Bk (ct w g a) g t #[a]:=by
 have:=h.put 0 a
 simpa [ct] using this
theorem bp {w0 w:World} {B g:Nat} (h:Below B w0 w) (hg:B≤g) (a:Value):Below B w0 (ct w g a):=h.setCell (p:=⟨g,0,none⟩) hg _
def jL (x:List UInt8):List Value:=[.string (aa x)]
set_option maxHeartbeats 8000000 in
set_option maxRecDepth 100000 in
theorem mG (most:Nat) (hm:most≤1000) (gB gF:Nat) (egB:∀ args w,(callFunc gB args).run Tryz.prog w=.ok (.enter gB args) w) (egF:∀ args w,(callFunc gF args).run Tryz.prog w=.ok (.enter gF args) w)
 (lt:aK→aK→Bool) (ok:aK→Bool) (v:Value) (l:List (aK)) (w:World) (hR:RowV aA 2 w.heap.size w v l) (hl:l.length≤1000000)
 (hB:∀ W,Below w.heap.size w W→∀ x∈l,∀ y∈l,Calls Tryz.prog gB #[.agg (aA x).toArray,.agg (aA y).toArray] W fun e w'=>e=.returned (.bool (lt x y))∧Below W.heap.size W w')
 (hF:∀ W,Below w.heap.size w W→∀ x∈l,Calls Tryz.prog gF #[.agg (aA x).toArray] W fun e w'=>e=.returned (.bool (ok x))∧Below W.heap.size W w') :
 Calls Tryz.prog 36 #[.agg #[.int .i64 (most:Nat),.func (.func gB) #[] #[],.func (.func gF) #[] #[]],v] w fun e w'=>e=.returned (.bool (aw most lt ok l))∧Below w.heap.size w w':=by
 obtain⟨A,cap,rfl,hA⟩:=hR
 obtain⟨n,hn⟩:∃ n,l.length=n:=⟨_,rfl⟩
 have HN:=Lib.hid hn;have HA:Hid (0 < n→∃ b off,A=some ⟨b,off,none⟩∧∀ W,Below w.heap.size w W→∀ i p,l[i]?=some p→∀ c u,(aA p)[c]?=some u→W.cell? ⟨b,off+i*2+c,none⟩=some u):=fun h0=>by
  obtain⟨b,off,ha,hb,hc⟩:=hA (by omega)
  exact⟨b,off,ha,fun W hW i p hp c u hu=>by rw[hW.cell (p:=⟨b,off+i*2+c,none⟩) hb];exact hc i p hp c u hu⟩
 have HB:=Lib.hid hB;have HF:=Lib.hid hF;have HNO:Hid (∀ i,i < n→aT lt ok l i=false→aw most lt ok l=false):=fun i hi h=>fm i (by omega) h
 have HYES:Hid (n≤most→(∀ i,i < n→aT lt ok l i=true)→aw most lt ok l=true):=fun h1 h2=>dX (by omega) (fun i hi=>h2 i (by omega))
 have HMANY:Hid (most < n→aw most lt ok l=false):=fun h=>dF (by omega)
 rw[hn] at hl ⊢
 obtain⟨r,hr⟩:∃ r,aw most lt ok l=r:=⟨_,rfl⟩
 rw[hr] at HNO HYES HMANY ⊢
 obtain⟨W1,hW1⟩:∃ W1,w.alloc (.cells #[.int .i64 (most:Nat),.func (.func gB) #[] #[],.func (.func gF) #[] #[]] 68)=W1:=⟨_,rfl⟩
 obtain⟨kb,hkb⟩:∃ b,w.heap.size=b:=⟨_,rfl⟩
 have K1:Bk W1 kb 68 #[.int .i64 (most:Nat),.func (.func gB) #[] #[],.func (.func gF) #[] #[]]:=by rw[← hW1,← hkb];exact Bk.new _ _ _
 have b1:Below w.heap.size w W1:=by rw[← hW1];exact(Below.refl _ _).alloc (Nat.le_refl _) _
 have q0:W1.cell? ⟨kb,0,none⟩=some (.int .i64 (most:Nat)):=K1.cell 0;have KW:Hid (∀ W,Below W1.heap.size W1 W→W.cell? ⟨kb,0,none⟩=some (.int .i64 (most:Nat))∧W.cell? ⟨kb,1,none⟩=some (.func (.func gB) #[] #[])∧W.cell? ⟨kb,2,none⟩=some (.func (.func gF) #[] #[])):=fun W hW =>
  have K:=K1.below hW K1.lt
  ⟨K.cell 0,K.cell 1,K.cell 2⟩
 have B1:=Lib.hid b1;have HW1:=Lib.hid hW1;have HKB:=Lib.hid hkb;clear hA hn hr hW1 hkb K1 b1 hB hF
 by_cases hmn:n≤most
 · have hmz:¬ (most:Int) < (n:Int):=by omega
   go_enter Tryz.func36,Tryz.ntmps36
   go_upto_region 1 with fail
   (try rw[HW1.out]);(try rw[HKB.out])
   go_wp2_with fail
   go_loopw [5,6,14] (fun av bv iv wr=>∃ (u5 u6:Value) (i:Nat),av=u5∧bv=u6∧iv=.int .i64 (i:Nat)∧i≤n∧Hid (∀ j,j < i→aT lt ok l j=true)∧Hid (Below W1.heap.size W1 wr)) (fun _ _ iv _=>n - (intOf iv).toNat)
   case atStart=>exact⟨_,_,0,rfl,rfl,rfl,Nat.zero_le _,fun j hj=>absurd hj (Nat.not_lt_zero _),Below.refl _ _⟩
   case round =>
    obtain⟨u5,u6,i,hu5,hu6,rfl,hi,HOK,BW⟩:=hrel
    have hu52:=hu5.symm;have hu62:=hu6.symm;clear hu5 hu6;subst hu52 hu62;have BWW:Hid (Below w.heap.size w wr):=B1.out.trans (BW.out.mono B1.out.size)
    by_cases hin:i < n
    · obtain⟨b,off,rfl,hc⟩:=HA.out (by omega)
      obtain⟨x,hx⟩:∃ p,l[i]?=some p:=⟨_,List.getElem?_eq_getElem (by rw[HN.out];exact hin)⟩
      have hxe:l[i]! = x:=by rw[List.getElem!_eq_getElem?_getD,hx];rfl
      have hmx:x∈l:=List.mem_of_getElem? hx;have HXE:=Lib.hid hxe;have HMX:=Lib.hid hmx;have HXI:=Lib.hid hx
      by_cases hi0:0 < i
      · obtain⟨q,hq⟩:∃ q,i - 1=q:=⟨_,rfl⟩
        have wq:IntKind.i64.wrap ((i:Int) - 1)=(q:Int):=by rw[IntKind.wrap_i64];omega
        have hqz:(q:Int) < (n:Int):=by omega
        have hq0:(0:Int)≤(q:Int):=by omega
        have hiz:(i:Int) < (n:Int):=by omega
        have hi00:(0:Int)≤(i:Int):=by omega
        have hi0z:(0:Int) < (i:Int):=by omega
        have hi0d:decide ((0:Int) < (i:Int))=true:=decide_eq_true hi0z
        obtain⟨y,hy⟩:∃ p,l[q]?=some p:=⟨_,List.getElem?_eq_getElem (by rw[HN.out];omega)⟩
        have hye:l[q]! = y:=by rw[List.getElem!_eq_getElem?_getD,hy];rfl
        have hmy:y∈l:=List.mem_of_getElem? hy;have HS:Hid (aT lt ok l i=(lt y x&&ok x)):=by
         unfold Hid aT;rw[decide_eq_false (by omega),Bool.false_or,hq,hye,hxe]
        have hcB0:=fun (W:World) (hW:Below w.heap.size w W)=>HB.out W hW y hmy x hmx
        have hcF0:=fun (W:World) (hW:Below w.heap.size w W)=>HF.out W hW x hmx
        have hcx:=fun W hW c u hu=>hc W hW i x hx c u hu
        have hcy:=fun W hW c u hu=>hc W hW q y hy c u hu
        obtain⟨P,hP⟩:∃ P,off+i*2=P:=⟨_,rfl⟩
        obtain⟨Q,hQ⟩:∃ P,off+q*2=P:=⟨_,rfl⟩
        rw[hP] at hcx;rw[hQ] at hcy
        obtain⟨b1,hb1⟩:∃ b,lt y x=b:=⟨_,rfl⟩
        obtain⟨b2,hb2⟩:∃ b,ok x=b:=⟨_,rfl⟩
        rw[hb1,hb2] at HS;rw[hb1] at hcB0;rw[hb2] at hcF0;clear hb1 hb2 hx hy hxe hye hmx hmy hc hq HXE HMX HXI
        obtain⟨xj,xus,xA,xn,xc⟩:=x
        obtain⟨xJ,hxJ⟩:∃ J,aa xj=J:=⟨_,rfl⟩
        have ex:aA (⟨xj,xus,xA,xn,xc⟩:aK)=[.string xJ,.slice xA xn xc]:=by rw[← hxJ];rfl
        rw[ex] at hcx hcF0 hcB0;clear ex hxJ
        obtain⟨yj,yus,yA,yn,yc⟩:=y
        obtain⟨yJ,hyJ⟩:∃ J,aa yj=J:=⟨_,rfl⟩
        have ey:aA (⟨yj,yus,yA,yn,yc⟩:aK)=[.string yJ,.slice yA yn yc]:=by rw[← hyJ];rfl
        rw[ey] at hcy hcB0;clear ey hyJ;have p0:wr.cell? ⟨b,P,none⟩=some (.string xJ):=hcx wr BWW.out 0 _ rfl;have p1:wr.cell? ⟨b,P+1,none⟩=some (.slice xA xn xc):=hcx wr BWW.out 1 _ rfl
        obtain⟨W3,hW3⟩:∃ W,wr.alloc (.cells #[.string ⟨#[]⟩,.slice none 0 0] 47)=W:=⟨_,rfl⟩
        obtain⟨p,hp⟩:∃ b,wr.heap.size=b:=⟨_,rfl⟩
        have K3:Hid (Bk W3 p 47 #[.string ⟨#[]⟩,.slice none 0 0]):=by rw[← hW3,← hp];exact Bk.new _ _ _
        have b3:Below wr.heap.size wr W3:=by rw[← hW3];exact(Below.refl _ _).alloc (Nat.le_refl _) _
        have HPW:Hid (wr.heap.size≤p):=by rw[← hp];exact Nat.le_refl _
        have z0:W3.cell? ⟨p,0,none⟩=some (.string ⟨#[]⟩):=K3.out.cell 0;have zf0:W3.frozen? ⟨p,0,none⟩=false:=K3.out.free 0;have z1:W3.cell? ⟨p,1,none⟩=some (.slice none 0 0):=K3.out.cell 1;have zf1:W3.frozen? ⟨p,1,none⟩=false:=K3.out.free 1;have K4:=Lib.hid (dv K3.out (.string xJ) (.slice xA xn xc));have B34:=Lib.hid (cn b3 HPW.out (.string xJ) (.slice xA xn xc))
        obtain⟨w4,hw4⟩:∃ z,dE W3 p (.string xJ) (.slice xA xn xc)=z:=⟨_,rfl⟩
        rw[hw4] at K4 B34;have B4:Hid (Below w.heap.size w w4):=BWW.out.trans (B34.out.mono BWW.out.size);have B41:Hid (Below W1.heap.size W1 w4):=BW.out.trans (B34.out.mono BW.out.size);clear b3 hcx
        go_upto_region 6 with fail
        (try rw[hw4]);clear hW3 hw4 z0 zf0 p0 z1 zf1 p1;have cx0:∀ v:Sy.Bel w4,v.v.cell? ⟨p,0,none⟩=some (.string xJ):=fun v=>(K4.out.below v.h K4.out.lt).cell 0
        have cx1:∀ v:Sy.Bel w4,v.v.cell? ⟨p,1,none⟩=some (.slice xA xn xc):=fun v=>(K4.out.below v.h K4.out.lt).cell 1
        have HY:=Lib.hid hcy;clear hcy;have BC:∀ v:Sy.Bel w4,Below w.heap.size w v.v:=fun v=>B4.out.trans (v.h.mono B4.out.size)
        have BC1:∀ v:Sy.Bel w4,Below W1.heap.size W1 v.v:=fun v=>B41.out.trans (v.h.mono B41.out.size)
        have cy0:∀ v:Sy.Bel w4,v.v.cell? ⟨b,Q,none⟩=some (.string yJ):=fun v=>HY.out v.v (BC v) 0 _ rfl
        have cy1:∀ v:Sy.Bel w4,v.v.cell? ⟨b,Q+1,none⟩=some (.slice yA yn yc):=fun v=>HY.out v.v (BC v) 1 _ rfl
        have ck1:∀ v:Sy.Bel w4,v.v.cell? ⟨kb,1,none⟩=some (.func (.func gB) #[] #[]):=fun v=>(KW.out _ (BC1 v)).2.1
        have ck2:∀ v:Sy.Bel w4,v.v.cell? ⟨kb,2,none⟩=some (.func (.func gF) #[] #[]):=fun v=>(KW.out _ (BC1 v)).2.2
        have hcB:∀ v:Sy.Bel w4,Calls Tryz.prog gB (#[.agg #[.string yJ,.slice yA yn yc],.agg #[.string xJ,.slice xA xn xc]]++#[]) v.v fun e w'=>e=.returned (.bool b1)∧Below v.v.heap.size v.v w':=fun v=>hcB0 v.v (BC v)
        have hcF:∀ v:Sy.Bel w4,Calls Tryz.prog gF (#[.agg #[.string xJ,.slice xA xn xc]]++#[]) v.v fun e w'=>e=.returned (.bool b2)∧Below v.v.heap.size v.v w':=fun v=>hcF0 v.v (BC v)
        clear hcB0 hcF0 BC BC1;cases b1 with
        | false =>
          have HR:=Lib.hid (HNO.out i hin (by rw[HS.out];rfl));refine Sy.wp_region_quiet_bel (by kernel_rfl) (by kernel_rfl) ?_
          repeat (go_big_quiet_step (first | (go_at_fn gB;exact Sy.Calls.bel_of (hcB _)) | (go_at_fn gF;exact Sy.Calls.bel_of (hcF _))))
          refine wpQuiet_nil ?_;intro w2 hw';have hb2:Below w4.heap.size w4 w2:=by obtain⟨v,rfl⟩:=hw';exact v.h
          clear hw' cx0 cx1 cy0 cy1 ck1 ck2 hcB hcF
          go_wp2_with fail
          go_ret
          exact⟨by cases HR.out;rfl,(B4.out.trans (hb2.mono B4.out.size))⟩
        | true =>
          refine Sy.wp_region_quiet_bel (by kernel_rfl) (by kernel_rfl) ?_
          repeat (go_big_quiet_step (first | (go_at_fn gB;exact Sy.Calls.bel_of (hcB _)) | (go_at_fn gF;exact Sy.Calls.bel_of (hcF _))))
          refine wpQuiet_nil ?_;intro w2 hw';have hb2:Below w4.heap.size w4 w2:=by obtain⟨v,rfl⟩:=hw';exact v.h
          clear hw' cx0 cx1 cy0 cy1 ck1 ck2 hcB hcF;cases b2 with
          | false =>
            have HR:=Lib.hid (HNO.out i hin (by rw[HS.out];rfl))
            go_wp2_with fail
            go_ret
            exact⟨by cases HR.out;rfl,(B4.out.trans (hb2.mono B4.out.size))⟩
          | true =>
            have BN:Hid (Below W1.heap.size W1 w2):=B41.out.trans (hb2.mono B41.out.size);have HOK2:Hid (∀ j,j < i+1→aT lt ok l j=true):=fun j hj=>by
             rcases Nat.lt_or_ge j i with h | h
             · exact HOK.out j h
             · obtain rfl:j=i:=by omega
               rw[HS.out];rfl
            clear hb2
            go_wp2_with fail
            go_roundw
            case rel=>exact⟨_,_,i+1,rfl,rfl,by go_num,by omega,HOK2,BN⟩
            case measure=>simp[intOf];omega
      · obtain⟨z,hz⟩:∃ z:Int,(i:Int)=z:=⟨_,rfl⟩
        have hS:aT lt ok l i=ok x:=by
         unfold aT;rw[decide_eq_true (by omega),Bool.true_or,Bool.true_and,hxe]
        have HS:=Lib.hid hS;have hcF0:=fun (W:World) (hW:Below w.heap.size w W)=>HF.out W hW x hmx
        have hcx:=fun W hW c u hu=>hc W hW i x hx c u hu
        rw[hz];have hi00:0≤z:=by omega
        have hi0d:decide (0 < z)=false:=decide_eq_false (by omega);have hiz:z < (n:Int):=by omega
        have hi3:z.toNat=i:=by omega
        have wz:IntKind.i64.wrap (z+1)=z+1:=by rw[IntKind.wrap_i64];omega
        have HZ:=Lib.hid hz;have HIN:=Lib.hid hin
        obtain⟨P,hP⟩:∃ P,off+i*2=P:=⟨_,rfl⟩
        rw[hP] at hcx
        obtain⟨b2,hb2⟩:∃ b,ok x=b:=⟨_,rfl⟩
        rw[hb2] at HS hcF0;clear hb2 hx hxe hmx hc hS hi hi0 hz hin HXE HMX HXI
        obtain⟨xj,xus,xA,xn,xc⟩:=x
        obtain⟨xJ,hxJ⟩:∃ J,aa xj=J:=⟨_,rfl⟩
        have ex:aA (⟨xj,xus,xA,xn,xc⟩:aK)=[.string xJ,.slice xA xn xc]:=by rw[← hxJ];rfl
        rw[ex] at hcx hcF0;clear ex hxJ;have p0:wr.cell? ⟨b,P,none⟩=some (.string xJ):=hcx wr BWW.out 0 _ rfl;have p1:wr.cell? ⟨b,P+1,none⟩=some (.slice xA xn xc):=hcx wr BWW.out 1 _ rfl
        obtain⟨W3,hW3⟩:∃ W,wr.alloc (.cells #[.string ⟨#[]⟩,.slice none 0 0] 47)=W:=⟨_,rfl⟩
        obtain⟨p,hp⟩:∃ b,wr.heap.size=b:=⟨_,rfl⟩
        have K3:Hid (Bk W3 p 47 #[.string ⟨#[]⟩,.slice none 0 0]):=by rw[← hW3,← hp];exact Bk.new _ _ _
        have b3:Below wr.heap.size wr W3:=by rw[← hW3];exact(Below.refl _ _).alloc (Nat.le_refl _) _
        have HPW:Hid (wr.heap.size≤p):=by rw[← hp];exact Nat.le_refl _
        have z0:W3.cell? ⟨p,0,none⟩=some (.string ⟨#[]⟩):=K3.out.cell 0;have zf0:W3.frozen? ⟨p,0,none⟩=false:=K3.out.free 0;have z1:W3.cell? ⟨p,1,none⟩=some (.slice none 0 0):=K3.out.cell 1;have zf1:W3.frozen? ⟨p,1,none⟩=false:=K3.out.free 1;have K4:=Lib.hid (dv K3.out (.string xJ) (.slice xA xn xc));have B34:=Lib.hid (cn b3 HPW.out (.string xJ) (.slice xA xn xc))
        obtain⟨w4,hw4⟩:∃ z,dE W3 p (.string xJ) (.slice xA xn xc)=z:=⟨_,rfl⟩
        rw[hw4] at K4 B34;have B4:Hid (Below w.heap.size w w4):=BWW.out.trans (B34.out.mono BWW.out.size);have B41:Hid (Below W1.heap.size W1 w4):=BW.out.trans (B34.out.mono BW.out.size);clear b3 hcx
        go_upto_region 6 with fail
        (try rw[hw4]);clear hW3 hw4 z0 zf0 p0 z1 zf1 p1;have cx0:∀ v:Sy.Bel w4,v.v.cell? ⟨p,0,none⟩=some (.string xJ):=fun v=>(K4.out.below v.h K4.out.lt).cell 0
        have cx1:∀ v:Sy.Bel w4,v.v.cell? ⟨p,1,none⟩=some (.slice xA xn xc):=fun v=>(K4.out.below v.h K4.out.lt).cell 1
        have BC:∀ v:Sy.Bel w4,Below w.heap.size w v.v:=fun v=>B4.out.trans (v.h.mono B4.out.size)
        have BC1:∀ v:Sy.Bel w4,Below W1.heap.size W1 v.v:=fun v=>B41.out.trans (v.h.mono B41.out.size)
        have ck2:∀ v:Sy.Bel w4,v.v.cell? ⟨kb,2,none⟩=some (.func (.func gF) #[] #[]):=fun v=>(KW.out _ (BC1 v)).2.2
        have hcF:∀ v:Sy.Bel w4,Calls Tryz.prog gF (#[.agg #[.string xJ,.slice xA xn xc]]++#[]) v.v fun e w'=>e=.returned (.bool b2)∧Below v.v.heap.size v.v w':=fun v=>hcF0 v.v (BC v)
        clear hcF0 BC BC1;refine Sy.wp_region_quiet_bel (by kernel_rfl) (by kernel_rfl) ?_
        repeat (go_big_quiet_step ((go_at_fn gF;exact Sy.Calls.bel_of (hcF _))))
        refine wpQuiet_nil ?_;intro w2 hw';have hb2:Below w4.heap.size w4 w2:=by obtain⟨v,rfl⟩:=hw';exact v.h
        clear hw' cx0 cx1 ck2 hcF;cases b2 with
        | false =>
          have HR:=Lib.hid (HNO.out i HIN.out (by rw[HS.out]))
          go_wp2_with fail
          go_ret
          exact⟨by cases HR.out;rfl,(B4.out.trans (hb2.mono B4.out.size))⟩
        | true =>
          have BN:Hid (Below W1.heap.size W1 w2):=B41.out.trans (hb2.mono B41.out.size);have HOK2:Hid (∀ j,j < i+1→aT lt ok l j=true):=fun j hj=>by
           rcases Nat.lt_or_ge j i with h | h
           · exact HOK.out j h
           · obtain rfl:j=i:=by omega
             exact HS.out
          clear hb2
          go_wp2_with fail
          go_roundw
          case rel=>exact⟨_,_,i+1,rfl,rfl,by rw[← HZ.out];go_num,HIN.out,HOK2,BN⟩
          case measure=>have:=HZ.out;have:=HIN.out;simp[intOf];omega
    · have HR:=Lib.hid (HYES.out hmn (fun j hj=>HOK.out j (by omega)))
      have hiz:¬ (i:Int) < (n:Int):=by omega
      go_wp2_with fail
      go_ret
      exact⟨by cases HR.out;rfl,BWW.out⟩
 · have hmz:(most:Int) < (n:Int):=by omega
   have HR:=Lib.hid (HMANY.out (by omega));go_enter Tryz.func36,Tryz.ntmps36
   go_upto_region 1 with fail
   (try rw[HW1.out]);(try rw[HKB.out])
   go_wp2_with fail
   go_ret
   exact⟨by cases HR.out;rfl,B1.out⟩
set_option maxHeartbeats 8000000 in
set_option maxRecDepth 100000 in
theorem mt (most:Nat) (hm:most≤1000) (gB gF:Nat) (egB:∀ args w,(callFunc gB args).run Tryz.prog w=.ok (.enter gB args) w) (egF:∀ args w,(callFunc gF args).run Tryz.prog w=.ok (.enter gF args) w)
 (lt:aC→aC→Bool) (ok:aC→Bool) (v:Value) (l:List (aC)) (w:World) (hR:RowV af 4 w.heap.size w v l) (hl:l.length≤1000000)
 (hB:∀ W,Below w.heap.size w W→∀ x∈l,∀ y∈l,Calls Tryz.prog gB #[.agg (af x).toArray,.agg (af y).toArray] W fun e w'=>e=.returned (.bool (lt x y))∧Below W.heap.size W w')
 (hF:∀ W,Below w.heap.size w W→∀ x∈l,Calls Tryz.prog gF #[.agg (af x).toArray] W fun e w'=>e=.returned (.bool (ok x))∧Below W.heap.size W w') :
 Calls Tryz.prog 68 #[.agg #[.int .i64 (most:Nat),.func (.func gB) #[] #[],.func (.func gF) #[] #[]],v] w fun e w'=>e=.returned (.bool (aw most lt ok l))∧Below w.heap.size w w':=by
 obtain⟨A,cap,rfl,hA⟩:=hR
 obtain⟨n,hn⟩:∃ n,l.length=n:=⟨_,rfl⟩
 have HN:=Lib.hid hn;have HA:Hid (0 < n→∃ b off,A=some ⟨b,off,none⟩∧∀ W,Below w.heap.size w W→∀ i p,l[i]?=some p→∀ c u,(af p)[c]?=some u→W.cell? ⟨b,off+i*4+c,none⟩=some u):=fun h0=>by
  obtain⟨b,off,ha,hb,hc⟩:=hA (by omega)
  exact⟨b,off,ha,fun W hW i p hp c u hu=>by rw[hW.cell (p:=⟨b,off+i*4+c,none⟩) hb];exact hc i p hp c u hu⟩
 have HB:=Lib.hid hB;have HF:=Lib.hid hF;have HNO:Hid (∀ i,i < n→aT lt ok l i=false→aw most lt ok l=false):=fun i hi h=>fm i (by omega) h
 have HYES:Hid (n≤most→(∀ i,i < n→aT lt ok l i=true)→aw most lt ok l=true):=fun h1 h2=>dX (by omega) (fun i hi=>h2 i (by omega))
 have HMANY:Hid (most < n→aw most lt ok l=false):=fun h=>dF (by omega)
 rw[hn] at hl ⊢
 obtain⟨r,hr⟩:∃ r,aw most lt ok l=r:=⟨_,rfl⟩
 rw[hr] at HNO HYES HMANY ⊢
 obtain⟨W1,hW1⟩:∃ W1,w.alloc (.cells #[.int .i64 (most:Nat),.func (.func gB) #[] #[],.func (.func gF) #[] #[]] 95)=W1:=⟨_,rfl⟩
 obtain⟨kb,hkb⟩:∃ b,w.heap.size=b:=⟨_,rfl⟩
 have K1:Bk W1 kb 95 #[.int .i64 (most:Nat),.func (.func gB) #[] #[],.func (.func gF) #[] #[]]:=by rw[← hW1,← hkb];exact Bk.new _ _ _
 have b1:Below w.heap.size w W1:=by rw[← hW1];exact(Below.refl _ _).alloc (Nat.le_refl _) _
 have q0:W1.cell? ⟨kb,0,none⟩=some (.int .i64 (most:Nat)):=K1.cell 0;have KW:Hid (∀ W,Below W1.heap.size W1 W→W.cell? ⟨kb,0,none⟩=some (.int .i64 (most:Nat))∧W.cell? ⟨kb,1,none⟩=some (.func (.func gB) #[] #[])∧W.cell? ⟨kb,2,none⟩=some (.func (.func gF) #[] #[])):=fun W hW =>
  have K:=K1.below hW K1.lt
  ⟨K.cell 0,K.cell 1,K.cell 2⟩
 have B1:=Lib.hid b1;have HW1:=Lib.hid hW1;have HKB:=Lib.hid hkb;clear hA hn hr hW1 hkb K1 b1 hB hF
 by_cases hmn:n≤most
 · have hmz:¬ (most:Int) < (n:Int):=by omega
   go_enter Tryz.func68,Tryz.ntmps68
   go_upto_region 1 with fail
   (try rw[HW1.out]);(try rw[HKB.out])
   go_wp2_with fail
   go_loopw [5,6,14] (fun av bv iv wr=>∃ (u5 u6:Value) (i:Nat),av=u5∧bv=u6∧iv=.int .i64 (i:Nat)∧i≤n∧Hid (∀ j,j < i→aT lt ok l j=true)∧Hid (Below W1.heap.size W1 wr)) (fun _ _ iv _=>n - (intOf iv).toNat)
   case atStart=>exact⟨_,_,0,rfl,rfl,rfl,Nat.zero_le _,fun j hj=>absurd hj (Nat.not_lt_zero _),Below.refl _ _⟩
   case round =>
    obtain⟨u5,u6,i,hu5,hu6,rfl,hi,HOK,BW⟩:=hrel
    have hu52:=hu5.symm;have hu62:=hu6.symm;clear hu5 hu6;subst hu52 hu62;have BWW:Hid (Below w.heap.size w wr):=B1.out.trans (BW.out.mono B1.out.size)
    by_cases hin:i < n
    · obtain⟨b,off,rfl,hc⟩:=HA.out (by omega)
      obtain⟨x,hx⟩:∃ p,l[i]?=some p:=⟨_,List.getElem?_eq_getElem (by rw[HN.out];exact hin)⟩
      have hxe:l[i]! = x:=by rw[List.getElem!_eq_getElem?_getD,hx];rfl
      have hmx:x∈l:=List.mem_of_getElem? hx;have HXE:=Lib.hid hxe;have HMX:=Lib.hid hmx;have HXI:=Lib.hid hx
      by_cases hi0:0 < i
      · obtain⟨q,hq⟩:∃ q,i - 1=q:=⟨_,rfl⟩
        have wq:IntKind.i64.wrap ((i:Int) - 1)=(q:Int):=by rw[IntKind.wrap_i64];omega
        have hqz:(q:Int) < (n:Int):=by omega
        have hq0:(0:Int)≤(q:Int):=by omega
        have hiz:(i:Int) < (n:Int):=by omega
        have hi00:(0:Int)≤(i:Int):=by omega
        have hi0z:(0:Int) < (i:Int):=by omega
        have hi0d:decide ((0:Int) < (i:Int))=true:=decide_eq_true hi0z
        obtain⟨y,hy⟩:∃ p,l[q]?=some p:=⟨_,List.getElem?_eq_getElem (by rw[HN.out];omega)⟩
        have hye:l[q]! = y:=by rw[List.getElem!_eq_getElem?_getD,hy];rfl
        have hmy:y∈l:=List.mem_of_getElem? hy;have HS:Hid (aT lt ok l i=(lt y x&&ok x)):=by
         unfold Hid aT;rw[decide_eq_false (by omega),Bool.false_or,hq,hye,hxe]
        have hcB0:=fun (W:World) (hW:Below w.heap.size w W)=>HB.out W hW y hmy x hmx
        have hcF0:=fun (W:World) (hW:Below w.heap.size w W)=>HF.out W hW x hmx
        have hcx:=fun W hW c u hu=>hc W hW i x hx c u hu
        have hcy:=fun W hW c u hu=>hc W hW q y hy c u hu
        obtain⟨P,hP⟩:∃ P,off+i*4=P:=⟨_,rfl⟩
        obtain⟨Q,hQ⟩:∃ P,off+q*4=P:=⟨_,rfl⟩
        rw[hP] at hcx;rw[hQ] at hcy
        obtain⟨b1,hb1⟩:∃ b,lt y x=b:=⟨_,rfl⟩
        obtain⟨b2,hb2⟩:∃ b,ok x=b:=⟨_,rfl⟩
        rw[hb1,hb2] at HS;rw[hb1] at hcB0;rw[hb2] at hcF0;clear hb1 hb2 hx hy hxe hye hmx hmy hc hq HXE HMX HXI
        obtain⟨xj,xm,xis,⟨xA,xn,xc⟩,xps,⟨xD,xe,xf⟩⟩:=x
        obtain⟨xJ,hxJ⟩:∃ J,aa xj=J:=⟨_,rfl⟩
        obtain⟨xM,hxM⟩:∃ J,aa xm=J:=⟨_,rfl⟩
        have ex:af (⟨xj,xm,xis,⟨xA,xn,xc⟩,xps,⟨xD,xe,xf⟩⟩:aC)=[.string xJ,.string xM,.slice xA xn xc,.slice xD xe xf]:=by rw[← hxJ];rw[← hxM];rfl
        rw[ex] at hcx hcF0 hcB0;clear ex hxJ hxM
        obtain⟨yj,ym,yis,⟨yA,yn,yc⟩,yps,⟨yD,ye,yf⟩⟩:=y
        obtain⟨yJ,hyJ⟩:∃ J,aa yj=J:=⟨_,rfl⟩
        obtain⟨yM,hyM⟩:∃ J,aa ym=J:=⟨_,rfl⟩
        have ey:af (⟨yj,ym,yis,⟨yA,yn,yc⟩,yps,⟨yD,ye,yf⟩⟩:aC)=[.string yJ,.string yM,.slice yA yn yc,.slice yD ye yf]:=by rw[← hyJ];rw[← hyM];rfl
        rw[ey] at hcy hcB0;clear ey hyJ hyM;have p0:wr.cell? ⟨b,P,none⟩=some (.string xJ):=hcx wr BWW.out 0 _ rfl;have p1:wr.cell? ⟨b,P+1,none⟩=some (.string xM):=hcx wr BWW.out 1 _ rfl;have p2:wr.cell? ⟨b,P+2,none⟩=some (.slice xA xn xc):=hcx wr BWW.out 2 _ rfl;have p3:wr.cell? ⟨b,P+3,none⟩=some (.slice xD xe xf):=hcx wr BWW.out 3 _ rfl
        obtain⟨W3,hW3⟩:∃ W,wr.alloc (.cells #[.string ⟨#[]⟩,.string ⟨#[]⟩,.slice none 0 0,.slice none 0 0] 28)=W:=⟨_,rfl⟩
        obtain⟨p,hp⟩:∃ b,wr.heap.size=b:=⟨_,rfl⟩
        have K3:Hid (Bk W3 p 28 #[.string ⟨#[]⟩,.string ⟨#[]⟩,.slice none 0 0,.slice none 0 0]):=by rw[← hW3,← hp];exact Bk.new _ _ _
        have b3:Below wr.heap.size wr W3:=by rw[← hW3];exact(Below.refl _ _).alloc (Nat.le_refl _) _
        have HPW:Hid (wr.heap.size≤p):=by rw[← hp];exact Nat.le_refl _
        have z0:W3.cell? ⟨p,0,none⟩=some (.string ⟨#[]⟩):=K3.out.cell 0;have zf0:W3.frozen? ⟨p,0,none⟩=false:=K3.out.free 0;have z1:W3.cell? ⟨p,1,none⟩=some (.string ⟨#[]⟩):=K3.out.cell 1;have zf1:W3.frozen? ⟨p,1,none⟩=false:=K3.out.free 1;have z2:W3.cell? ⟨p,2,none⟩=some (.slice none 0 0):=K3.out.cell 2;have zf2:W3.frozen? ⟨p,2,none⟩=false:=K3.out.free 2;have z3:W3.cell? ⟨p,3,none⟩=some (.slice none 0 0):=K3.out.cell 3;have zf3:W3.frozen? ⟨p,3,none⟩=false:=K3.out.free 3;have K4:=Lib.hid (aF K3.out (.string xJ) (.string xM) (.slice xA xn xc) (.slice xD xe xf));have B34:=Lib.hid (aj b3 HPW.out (.string xJ) (.string xM) (.slice xA xn xc) (.slice xD xe xf))
        obtain⟨w4,hw4⟩:∃ z,bj W3 p (.string xJ) (.string xM) (.slice xA xn xc) (.slice xD xe xf)=z:=⟨_,rfl⟩
        rw[hw4] at K4 B34;have B4:Hid (Below w.heap.size w w4):=BWW.out.trans (B34.out.mono BWW.out.size);have B41:Hid (Below W1.heap.size W1 w4):=BW.out.trans (B34.out.mono BW.out.size);clear b3 hcx
        go_upto_region 6 with fail
        (try rw[hw4]);clear hW3 hw4 z0 zf0 p0 z1 zf1 p1 z2 zf2 p2 z3 zf3 p3;have cx0:∀ v:Sy.Bel w4,v.v.cell? ⟨p,0,none⟩=some (.string xJ):=fun v=>(K4.out.below v.h K4.out.lt).cell 0
        have cx1:∀ v:Sy.Bel w4,v.v.cell? ⟨p,1,none⟩=some (.string xM):=fun v=>(K4.out.below v.h K4.out.lt).cell 1
        have cx2:∀ v:Sy.Bel w4,v.v.cell? ⟨p,2,none⟩=some (.slice xA xn xc):=fun v=>(K4.out.below v.h K4.out.lt).cell 2
        have cx3:∀ v:Sy.Bel w4,v.v.cell? ⟨p,3,none⟩=some (.slice xD xe xf):=fun v=>(K4.out.below v.h K4.out.lt).cell 3
        have HY:=Lib.hid hcy;clear hcy;have BC:∀ v:Sy.Bel w4,Below w.heap.size w v.v:=fun v=>B4.out.trans (v.h.mono B4.out.size)
        have BC1:∀ v:Sy.Bel w4,Below W1.heap.size W1 v.v:=fun v=>B41.out.trans (v.h.mono B41.out.size)
        have cy0:∀ v:Sy.Bel w4,v.v.cell? ⟨b,Q,none⟩=some (.string yJ):=fun v=>HY.out v.v (BC v) 0 _ rfl
        have cy1:∀ v:Sy.Bel w4,v.v.cell? ⟨b,Q+1,none⟩=some (.string yM):=fun v=>HY.out v.v (BC v) 1 _ rfl
        have cy2:∀ v:Sy.Bel w4,v.v.cell? ⟨b,Q+2,none⟩=some (.slice yA yn yc):=fun v=>HY.out v.v (BC v) 2 _ rfl
        have cy3:∀ v:Sy.Bel w4,v.v.cell? ⟨b,Q+3,none⟩=some (.slice yD ye yf):=fun v=>HY.out v.v (BC v) 3 _ rfl
        have ck1:∀ v:Sy.Bel w4,v.v.cell? ⟨kb,1,none⟩=some (.func (.func gB) #[] #[]):=fun v=>(KW.out _ (BC1 v)).2.1
        have ck2:∀ v:Sy.Bel w4,v.v.cell? ⟨kb,2,none⟩=some (.func (.func gF) #[] #[]):=fun v=>(KW.out _ (BC1 v)).2.2
        have hcB:∀ v:Sy.Bel w4,Calls Tryz.prog gB (#[.agg #[.string yJ,.string yM,.slice yA yn yc,.slice yD ye yf],.agg #[.string xJ,.string xM,.slice xA xn xc,.slice xD xe xf]]++#[]) v.v fun e w'=>e=.returned (.bool b1)∧Below v.v.heap.size v.v w':=fun v=>hcB0 v.v (BC v)
        have hcF:∀ v:Sy.Bel w4,Calls Tryz.prog gF (#[.agg #[.string xJ,.string xM,.slice xA xn xc,.slice xD xe xf]]++#[]) v.v fun e w'=>e=.returned (.bool b2)∧Below v.v.heap.size v.v w':=fun v=>hcF0 v.v (BC v)
        clear hcB0 hcF0 BC BC1;cases b1 with
        | false =>
          have HR:=Lib.hid (HNO.out i hin (by rw[HS.out];rfl));refine Sy.wp_region_quiet_bel (by kernel_rfl) (by kernel_rfl) ?_
          repeat (go_big_quiet_step (first | (go_at_fn gB;exact Sy.Calls.bel_of (hcB _)) | (go_at_fn gF;exact Sy.Calls.bel_of (hcF _))))
          refine wpQuiet_nil ?_;intro w2 hw';have hb2:Below w4.heap.size w4 w2:=by obtain⟨v,rfl⟩:=hw';exact v.h
          clear hw' cx0 cx1 cx2 cx3 cy0 cy1 cy2 cy3 ck1 ck2 hcB hcF
          go_wp2_with fail
          go_ret
          exact⟨by cases HR.out;rfl,(B4.out.trans (hb2.mono B4.out.size))⟩
        | true =>
          refine Sy.wp_region_quiet_bel (by kernel_rfl) (by kernel_rfl) ?_
          repeat (go_big_quiet_step (first | (go_at_fn gB;exact Sy.Calls.bel_of (hcB _)) | (go_at_fn gF;exact Sy.Calls.bel_of (hcF _))))
          refine wpQuiet_nil ?_;intro w2 hw';have hb2:Below w4.heap.size w4 w2:=by obtain⟨v,rfl⟩:=hw';exact v.h
          clear hw' cx0 cx1 cx2 cx3 cy0 cy1 cy2 cy3 ck1 ck2 hcB hcF;cases b2 with
          | false =>
            have HR:=Lib.hid (HNO.out i hin (by rw[HS.out];rfl))
            go_wp2_with fail
            go_ret
            exact⟨by cases HR.out;rfl,(B4.out.trans (hb2.mono B4.out.size))⟩
          | true =>
            have BN:Hid (Below W1.heap.size W1 w2):=B41.out.trans (hb2.mono B41.out.size);have HOK2:Hid (∀ j,j < i+1→aT lt ok l j=true):=fun j hj=>by
             rcases Nat.lt_or_ge j i with h | h
             · exact HOK.out j h
             · obtain rfl:j=i:=by omega
               rw[HS.out];rfl
            clear hb2
            go_wp2_with fail
            go_roundw
            case rel=>exact⟨_,_,i+1,rfl,rfl,by go_num,by omega,HOK2,BN⟩
            case measure=>simp[intOf];omega
      · obtain⟨z,hz⟩:∃ z:Int,(i:Int)=z:=⟨_,rfl⟩
        have hS:aT lt ok l i=ok x:=by
         unfold aT;rw[decide_eq_true (by omega),Bool.true_or,Bool.true_and,hxe]
        have HS:=Lib.hid hS;have hcF0:=fun (W:World) (hW:Below w.heap.size w W)=>HF.out W hW x hmx
        have hcx:=fun W hW c u hu=>hc W hW i x hx c u hu
        rw[hz];have hi00:0≤z:=by omega
        have hi0d:decide (0 < z)=false:=decide_eq_false (by omega);have hiz:z < (n:Int):=by omega
        have hi3:z.toNat=i:=by omega
        have wz:IntKind.i64.wrap (z+1)=z+1:=by rw[IntKind.wrap_i64];omega
        have HZ:=Lib.hid hz;have HIN:=Lib.hid hin
        obtain⟨P,hP⟩:∃ P,off+i*4=P:=⟨_,rfl⟩
        rw[hP] at hcx
        obtain⟨b2,hb2⟩:∃ b,ok x=b:=⟨_,rfl⟩
        rw[hb2] at HS hcF0;clear hb2 hx hxe hmx hc hS hi hi0 hz hin HXE HMX HXI
        obtain⟨xj,xm,xis,⟨xA,xn,xc⟩,xps,⟨xD,xe,xf⟩⟩:=x
        obtain⟨xJ,hxJ⟩:∃ J,aa xj=J:=⟨_,rfl⟩
        obtain⟨xM,hxM⟩:∃ J,aa xm=J:=⟨_,rfl⟩
        have ex:af (⟨xj,xm,xis,⟨xA,xn,xc⟩,xps,⟨xD,xe,xf⟩⟩:aC)=[.string xJ,.string xM,.slice xA xn xc,.slice xD xe xf]:=by rw[← hxJ];rw[← hxM];rfl
        rw[ex] at hcx hcF0;clear ex hxJ hxM;have p0:wr.cell? ⟨b,P,none⟩=some (.string xJ):=hcx wr BWW.out 0 _ rfl;have p1:wr.cell? ⟨b,P+1,none⟩=some (.string xM):=hcx wr BWW.out 1 _ rfl;have p2:wr.cell? ⟨b,P+2,none⟩=some (.slice xA xn xc):=hcx wr BWW.out 2 _ rfl;have p3:wr.cell? ⟨b,P+3,none⟩=some (.slice xD xe xf):=hcx wr BWW.out 3 _ rfl
        obtain⟨W3,hW3⟩:∃ W,wr.alloc (.cells #[.string ⟨#[]⟩,.string ⟨#[]⟩,.slice none 0 0,.slice none 0 0] 28)=W:=⟨_,rfl⟩
        obtain⟨p,hp⟩:∃ b,wr.heap.size=b:=⟨_,rfl⟩
        have K3:Hid (Bk W3 p 28 #[.string ⟨#[]⟩,.string ⟨#[]⟩,.slice none 0 0,.slice none 0 0]):=by rw[← hW3,← hp];exact Bk.new _ _ _
        have b3:Below wr.heap.size wr W3:=by rw[← hW3];exact(Below.refl _ _).alloc (Nat.le_refl _) _
        have HPW:Hid (wr.heap.size≤p):=by rw[← hp];exact Nat.le_refl _
        have z0:W3.cell? ⟨p,0,none⟩=some (.string ⟨#[]⟩):=K3.out.cell 0;have zf0:W3.frozen? ⟨p,0,none⟩=false:=K3.out.free 0;have z1:W3.cell? ⟨p,1,none⟩=some (.string ⟨#[]⟩):=K3.out.cell 1;have zf1:W3.frozen? ⟨p,1,none⟩=false:=K3.out.free 1;have z2:W3.cell? ⟨p,2,none⟩=some (.slice none 0 0):=K3.out.cell 2;have zf2:W3.frozen? ⟨p,2,none⟩=false:=K3.out.free 2;have z3:W3.cell? ⟨p,3,none⟩=some (.slice none 0 0):=K3.out.cell 3;have zf3:W3.frozen? ⟨p,3,none⟩=false:=K3.out.free 3;have K4:=Lib.hid (aF K3.out (.string xJ) (.string xM) (.slice xA xn xc) (.slice xD xe xf));have B34:=Lib.hid (aj b3 HPW.out (.string xJ) (.string xM) (.slice xA xn xc) (.slice xD xe xf))
        obtain⟨w4,hw4⟩:∃ z,bj W3 p (.string xJ) (.string xM) (.slice xA xn xc) (.slice xD xe xf)=z:=⟨_,rfl⟩
        rw[hw4] at K4 B34;have B4:Hid (Below w.heap.size w w4):=BWW.out.trans (B34.out.mono BWW.out.size);have B41:Hid (Below W1.heap.size W1 w4):=BW.out.trans (B34.out.mono BW.out.size);clear b3 hcx
        go_upto_region 6 with fail
        (try rw[hw4]);clear hW3 hw4 z0 zf0 p0 z1 zf1 p1 z2 zf2 p2 z3 zf3 p3;have cx0:∀ v:Sy.Bel w4,v.v.cell? ⟨p,0,none⟩=some (.string xJ):=fun v=>(K4.out.below v.h K4.out.lt).cell 0
        have cx1:∀ v:Sy.Bel w4,v.v.cell? ⟨p,1,none⟩=some (.string xM):=fun v=>(K4.out.below v.h K4.out.lt).cell 1
        have cx2:∀ v:Sy.Bel w4,v.v.cell? ⟨p,2,none⟩=some (.slice xA xn xc):=fun v=>(K4.out.below v.h K4.out.lt).cell 2
        have cx3:∀ v:Sy.Bel w4,v.v.cell? ⟨p,3,none⟩=some (.slice xD xe xf):=fun v=>(K4.out.below v.h K4.out.lt).cell 3
        have BC:∀ v:Sy.Bel w4,Below w.heap.size w v.v:=fun v=>B4.out.trans (v.h.mono B4.out.size)
        have BC1:∀ v:Sy.Bel w4,Below W1.heap.size W1 v.v:=fun v=>B41.out.trans (v.h.mono B41.out.size)
        have ck2:∀ v:Sy.Bel w4,v.v.cell? ⟨kb,2,none⟩=some (.func (.func gF) #[] #[]):=fun v=>(KW.out _ (BC1 v)).2.2
        have hcF:∀ v:Sy.Bel w4,Calls Tryz.prog gF (#[.agg #[.string xJ,.string xM,.slice xA xn xc,.slice xD xe xf]]++#[]) v.v fun e w'=>e=.returned (.bool b2)∧Below v.v.heap.size v.v w':=fun v=>hcF0 v.v (BC v)
        clear hcF0 BC BC1;refine Sy.wp_region_quiet_bel (by kernel_rfl) (by kernel_rfl) ?_
        repeat (go_big_quiet_step ((go_at_fn gF;exact Sy.Calls.bel_of (hcF _))))
        refine wpQuiet_nil ?_;intro w2 hw';have hb2:Below w4.heap.size w4 w2:=by obtain⟨v,rfl⟩:=hw';exact v.h
        clear hw' cx0 cx1 cx2 cx3 ck2 hcF;cases b2 with
        | false =>
          have HR:=Lib.hid (HNO.out i HIN.out (by rw[HS.out]))
          go_wp2_with fail
          go_ret
          exact⟨by cases HR.out;rfl,(B4.out.trans (hb2.mono B4.out.size))⟩
        | true =>
          have BN:Hid (Below W1.heap.size W1 w2):=B41.out.trans (hb2.mono B41.out.size);have HOK2:Hid (∀ j,j < i+1→aT lt ok l j=true):=fun j hj=>by
           rcases Nat.lt_or_ge j i with h | h
           · exact HOK.out j h
           · obtain rfl:j=i:=by omega
             exact HS.out
          clear hb2
          go_wp2_with fail
          go_roundw
          case rel=>exact⟨_,_,i+1,rfl,rfl,by rw[← HZ.out];go_num,HIN.out,HOK2,BN⟩
          case measure=>have:=HZ.out;have:=HIN.out;simp[intOf];omega
    · have HR:=Lib.hid (HYES.out hmn (fun j hj=>HOK.out j (by omega)))
      have hiz:¬ (i:Int) < (n:Int):=by omega
      go_wp2_with fail
      go_ret
      exact⟨by cases HR.out;rfl,BWW.out⟩
 · have hmz:(most:Int) < (n:Int):=by omega
   have HR:=Lib.hid (HMANY.out (by omega));go_enter Tryz.func68,Tryz.ntmps68
   go_upto_region 1 with fail
   (try rw[HW1.out]);(try rw[HKB.out])
   go_wp2_with fail
   go_ret
   exact⟨by cases HR.out;rfl,B1.out⟩
set_option maxHeartbeats 8000000 in
set_option maxRecDepth 100000 in
theorem mc (most:Nat) (hm:most≤1000) (gB gF:Nat) (egB:∀ args w,(callFunc gB args).run Tryz.prog w=.ok (.enter gB args) w) (egF:∀ args w,(callFunc gF args).run Tryz.prog w=.ok (.enter gF args) w)
 (lt:aZ × bm→aZ × bm→Bool) (ok:aZ × bm→Bool) (v:Value) (l:List (aZ × bm)) (w:World) (hR:RowV aq 6 w.heap.size w v l) (hl:l.length≤1000000)
 (hB:∀ W,Below w.heap.size w W→∀ x∈l,∀ y∈l,Calls Tryz.prog gB #[.agg (aq x).toArray,.agg (aq y).toArray] W fun e w'=>e=.returned (.bool (lt x y))∧Below W.heap.size W w')
 (hF:∀ W,Below w.heap.size w W→∀ x∈l,Calls Tryz.prog gF #[.agg (aq x).toArray] W fun e w'=>e=.returned (.bool (ok x))∧Below W.heap.size W w') :
 Calls Tryz.prog 125 #[.agg #[.int .i64 (most:Nat),.func (.func gB) #[] #[],.func (.func gF) #[] #[]],v] w fun e w'=>e=.returned (.bool (aw most lt ok l))∧Below w.heap.size w w':=by
 obtain⟨A,cap,rfl,hA⟩:=hR
 obtain⟨n,hn⟩:∃ n,l.length=n:=⟨_,rfl⟩
 have HN:=Lib.hid hn;have HA:Hid (0 < n→∃ b off,A=some ⟨b,off,none⟩∧∀ W,Below w.heap.size w W→∀ i p,l[i]?=some p→∀ c u,(aq p)[c]?=some u→W.cell? ⟨b,off+i*6+c,none⟩=some u):=fun h0=>by
  obtain⟨b,off,ha,hb,hc⟩:=hA (by omega)
  exact⟨b,off,ha,fun W hW i p hp c u hu=>by rw[hW.cell (p:=⟨b,off+i*6+c,none⟩) hb];exact hc i p hp c u hu⟩
 have HB:=Lib.hid hB;have HF:=Lib.hid hF;have HNO:Hid (∀ i,i < n→aT lt ok l i=false→aw most lt ok l=false):=fun i hi h=>fm i (by omega) h
 have HYES:Hid (n≤most→(∀ i,i < n→aT lt ok l i=true)→aw most lt ok l=true):=fun h1 h2=>dX (by omega) (fun i hi=>h2 i (by omega))
 have HMANY:Hid (most < n→aw most lt ok l=false):=fun h=>dF (by omega)
 rw[hn] at hl ⊢
 obtain⟨r,hr⟩:∃ r,aw most lt ok l=r:=⟨_,rfl⟩
 rw[hr] at HNO HYES HMANY ⊢
 obtain⟨W1,hW1⟩:∃ W1,w.alloc (.cells #[.int .i64 (most:Nat),.func (.func gB) #[] #[],.func (.func gF) #[] #[]] 141)=W1:=⟨_,rfl⟩
 obtain⟨kb,hkb⟩:∃ b,w.heap.size=b:=⟨_,rfl⟩
 have K1:Bk W1 kb 141 #[.int .i64 (most:Nat),.func (.func gB) #[] #[],.func (.func gF) #[] #[]]:=by rw[← hW1,← hkb];exact Bk.new _ _ _
 have b1:Below w.heap.size w W1:=by rw[← hW1];exact(Below.refl _ _).alloc (Nat.le_refl _) _
 have q0:W1.cell? ⟨kb,0,none⟩=some (.int .i64 (most:Nat)):=K1.cell 0;have KW:Hid (∀ W,Below W1.heap.size W1 W→W.cell? ⟨kb,0,none⟩=some (.int .i64 (most:Nat))∧W.cell? ⟨kb,1,none⟩=some (.func (.func gB) #[] #[])∧W.cell? ⟨kb,2,none⟩=some (.func (.func gF) #[] #[])):=fun W hW =>
  have K:=K1.below hW K1.lt
  ⟨K.cell 0,K.cell 1,K.cell 2⟩
 have B1:=Lib.hid b1;have HW1:=Lib.hid hW1;have HKB:=Lib.hid hkb;clear hA hn hr hW1 hkb K1 b1 hB hF
 by_cases hmn:n≤most
 · have hmz:¬ (most:Int) < (n:Int):=by omega
   go_enter Tryz.func125,Tryz.ntmps125
   go_upto_region 1 with fail
   (try rw[HW1.out]);(try rw[HKB.out])
   go_wp2_with fail
   go_loopw [5,6,14] (fun av bv iv wr=>∃ (u5 u6:Value) (i:Nat),av=u5∧bv=u6∧iv=.int .i64 (i:Nat)∧i≤n∧Hid (∀ j,j < i→aT lt ok l j=true)∧Hid (Below W1.heap.size W1 wr)) (fun _ _ iv _=>n - (intOf iv).toNat)
   case atStart=>exact⟨_,_,0,rfl,rfl,rfl,Nat.zero_le _,fun j hj=>absurd hj (Nat.not_lt_zero _),Below.refl _ _⟩
   case round =>
    obtain⟨u5,u6,i,hu5,hu6,rfl,hi,HOK,BW⟩:=hrel
    have hu52:=hu5.symm;have hu62:=hu6.symm;clear hu5 hu6;subst hu52 hu62;have BWW:Hid (Below w.heap.size w wr):=B1.out.trans (BW.out.mono B1.out.size)
    by_cases hin:i < n
    · obtain⟨b,off,rfl,hc⟩:=HA.out (by omega)
      obtain⟨x,hx⟩:∃ p,l[i]?=some p:=⟨_,List.getElem?_eq_getElem (by rw[HN.out];exact hin)⟩
      have hxe:l[i]! = x:=by rw[List.getElem!_eq_getElem?_getD,hx];rfl
      have hmx:x∈l:=List.mem_of_getElem? hx;have HXE:=Lib.hid hxe;have HMX:=Lib.hid hmx;have HXI:=Lib.hid hx
      by_cases hi0:0 < i
      · obtain⟨q,hq⟩:∃ q,i - 1=q:=⟨_,rfl⟩
        have wq:IntKind.i64.wrap ((i:Int) - 1)=(q:Int):=by rw[IntKind.wrap_i64];omega
        have hqz:(q:Int) < (n:Int):=by omega
        have hq0:(0:Int)≤(q:Int):=by omega
        have hiz:(i:Int) < (n:Int):=by omega
        have hi00:(0:Int)≤(i:Int):=by omega
        have hi0z:(0:Int) < (i:Int):=by omega
        have hi0d:decide ((0:Int) < (i:Int))=true:=decide_eq_true hi0z
        obtain⟨y,hy⟩:∃ p,l[q]?=some p:=⟨_,List.getElem?_eq_getElem (by rw[HN.out];omega)⟩
        have hye:l[q]! = y:=by rw[List.getElem!_eq_getElem?_getD,hy];rfl
        have hmy:y∈l:=List.mem_of_getElem? hy;have HS:Hid (aT lt ok l i=(lt y x&&ok x)):=by
         unfold Hid aT;rw[decide_eq_false (by omega),Bool.false_or,hq,hye,hxe]
        have hcB0:=fun (W:World) (hW:Below w.heap.size w W)=>HB.out W hW y hmy x hmx
        have hcF0:=fun (W:World) (hW:Below w.heap.size w W)=>HF.out W hW x hmx
        have hcx:=fun W hW c u hu=>hc W hW i x hx c u hu
        have hcy:=fun W hW c u hu=>hc W hW q y hy c u hu
        obtain⟨P,hP⟩:∃ P,off+i*6=P:=⟨_,rfl⟩
        obtain⟨Q,hQ⟩:∃ P,off+q*6=P:=⟨_,rfl⟩
        rw[hP] at hcx;rw[hQ] at hcy
        obtain⟨b1,hb1⟩:∃ b,lt y x=b:=⟨_,rfl⟩
        obtain⟨b2,hb2⟩:∃ b,ok x=b:=⟨_,rfl⟩
        rw[hb1,hb2] at HS;rw[hb1] at hcB0;rw[hb2] at hcF0;clear hb1 hb2 hx hy hxe hye hmx hmy hc hq HXE HMX HXI
        obtain⟨⟨xj,xm,xg,xs,xk,xa⟩,xA,xn,xc⟩:=x
        obtain⟨xJ,hxJ⟩:∃ J,aa xj=J:=⟨_,rfl⟩
        obtain⟨xM,hxM⟩:∃ J,aa xm=J:=⟨_,rfl⟩
        have ex:aq (⟨⟨xj,xm,xg,xs,xk,xa⟩,xA,xn,xc⟩:aZ × bm)=[.string xJ,.string xM,.slice xA xn xc,.int .i64 xs,.bool xk,.bool xa]:=by rw[← hxJ];rw[← hxM];rfl
        rw[ex] at hcx hcF0 hcB0;clear ex hxJ hxM
        obtain⟨⟨yj,ym,yg,ys,yk,ya⟩,yA,yn,yc⟩:=y
        obtain⟨yJ,hyJ⟩:∃ J,aa yj=J:=⟨_,rfl⟩
        obtain⟨yM,hyM⟩:∃ J,aa ym=J:=⟨_,rfl⟩
        have ey:aq (⟨⟨yj,ym,yg,ys,yk,ya⟩,yA,yn,yc⟩:aZ × bm)=[.string yJ,.string yM,.slice yA yn yc,.int .i64 ys,.bool yk,.bool ya]:=by rw[← hyJ];rw[← hyM];rfl
        rw[ey] at hcy hcB0;clear ey hyJ hyM;have p0:wr.cell? ⟨b,P,none⟩=some (.string xJ):=hcx wr BWW.out 0 _ rfl;have p1:wr.cell? ⟨b,P+1,none⟩=some (.string xM):=hcx wr BWW.out 1 _ rfl;have p2:wr.cell? ⟨b,P+2,none⟩=some (.slice xA xn xc):=hcx wr BWW.out 2 _ rfl;have p3:wr.cell? ⟨b,P+3,none⟩=some (.int .i64 xs):=hcx wr BWW.out 3 _ rfl;have p4:wr.cell? ⟨b,P+4,none⟩=some (.bool xk):=hcx wr BWW.out 4 _ rfl;have p5:wr.cell? ⟨b,P+5,none⟩=some (.bool xa):=hcx wr BWW.out 5 _ rfl
        obtain⟨W3,hW3⟩:∃ W,wr.alloc (.cells #[.string ⟨#[]⟩,.string ⟨#[]⟩,.slice none 0 0,.int .i64 0,.bool false,.bool false] 53)=W:=⟨_,rfl⟩
        obtain⟨p,hp⟩:∃ b,wr.heap.size=b:=⟨_,rfl⟩
        have K3:Hid (Bk W3 p 53 #[.string ⟨#[]⟩,.string ⟨#[]⟩,.slice none 0 0,.int .i64 0,.bool false,.bool false]):=by rw[← hW3,← hp];exact Bk.new _ _ _
        have b3:Below wr.heap.size wr W3:=by rw[← hW3];exact(Below.refl _ _).alloc (Nat.le_refl _) _
        have HPW:Hid (wr.heap.size≤p):=by rw[← hp];exact Nat.le_refl _
        have z0:W3.cell? ⟨p,0,none⟩=some (.string ⟨#[]⟩):=K3.out.cell 0;have zf0:W3.frozen? ⟨p,0,none⟩=false:=K3.out.free 0;have z1:W3.cell? ⟨p,1,none⟩=some (.string ⟨#[]⟩):=K3.out.cell 1;have zf1:W3.frozen? ⟨p,1,none⟩=false:=K3.out.free 1;have z2:W3.cell? ⟨p,2,none⟩=some (.slice none 0 0):=K3.out.cell 2;have zf2:W3.frozen? ⟨p,2,none⟩=false:=K3.out.free 2;have z3:W3.cell? ⟨p,3,none⟩=some (.int .i64 0):=K3.out.cell 3;have zf3:W3.frozen? ⟨p,3,none⟩=false:=K3.out.free 3;have z4:W3.cell? ⟨p,4,none⟩=some (.bool false):=K3.out.cell 4;have zf4:W3.frozen? ⟨p,4,none⟩=false:=K3.out.free 4;have z5:W3.cell? ⟨p,5,none⟩=some (.bool false):=K3.out.cell 5;have zf5:W3.frozen? ⟨p,5,none⟩=false:=K3.out.free 5;have K4:=Lib.hid (bo K3.out (.string xJ) (.string xM) (.slice xA xn xc) (.int .i64 xs) (.bool xk) (.bool xa));have B34:=Lib.hid (aE b3 HPW.out (.string xJ) (.string xM) (.slice xA xn xc) (.int .i64 xs) (.bool xk) (.bool xa))
        obtain⟨w4,hw4⟩:∃ z,cF W3 p (.string xJ) (.string xM) (.slice xA xn xc) (.int .i64 xs) (.bool xk) (.bool xa)=z:=⟨_,rfl⟩
        rw[hw4] at K4 B34;have B4:Hid (Below w.heap.size w w4):=BWW.out.trans (B34.out.mono BWW.out.size);have B41:Hid (Below W1.heap.size W1 w4):=BW.out.trans (B34.out.mono BW.out.size);clear b3 hcx
        go_upto_region 6 with fail
        (try rw[hw4]);clear hW3 hw4 z0 zf0 p0 z1 zf1 p1 z2 zf2 p2 z3 zf3 p3 z4 zf4 p4 z5 zf5 p5;have cx0:∀ v:Sy.Bel w4,v.v.cell? ⟨p,0,none⟩=some (.string xJ):=fun v=>(K4.out.below v.h K4.out.lt).cell 0
        have cx1:∀ v:Sy.Bel w4,v.v.cell? ⟨p,1,none⟩=some (.string xM):=fun v=>(K4.out.below v.h K4.out.lt).cell 1
        have cx2:∀ v:Sy.Bel w4,v.v.cell? ⟨p,2,none⟩=some (.slice xA xn xc):=fun v=>(K4.out.below v.h K4.out.lt).cell 2
        have cx3:∀ v:Sy.Bel w4,v.v.cell? ⟨p,3,none⟩=some (.int .i64 xs):=fun v=>(K4.out.below v.h K4.out.lt).cell 3
        have cx4:∀ v:Sy.Bel w4,v.v.cell? ⟨p,4,none⟩=some (.bool xk):=fun v=>(K4.out.below v.h K4.out.lt).cell 4
        have cx5:∀ v:Sy.Bel w4,v.v.cell? ⟨p,5,none⟩=some (.bool xa):=fun v=>(K4.out.below v.h K4.out.lt).cell 5
        have HY:=Lib.hid hcy;clear hcy;have BC:∀ v:Sy.Bel w4,Below w.heap.size w v.v:=fun v=>B4.out.trans (v.h.mono B4.out.size)
        have BC1:∀ v:Sy.Bel w4,Below W1.heap.size W1 v.v:=fun v=>B41.out.trans (v.h.mono B41.out.size)
        have cy0:∀ v:Sy.Bel w4,v.v.cell? ⟨b,Q,none⟩=some (.string yJ):=fun v=>HY.out v.v (BC v) 0 _ rfl
        have cy1:∀ v:Sy.Bel w4,v.v.cell? ⟨b,Q+1,none⟩=some (.string yM):=fun v=>HY.out v.v (BC v) 1 _ rfl
        have cy2:∀ v:Sy.Bel w4,v.v.cell? ⟨b,Q+2,none⟩=some (.slice yA yn yc):=fun v=>HY.out v.v (BC v) 2 _ rfl
        have cy3:∀ v:Sy.Bel w4,v.v.cell? ⟨b,Q+3,none⟩=some (.int .i64 ys):=fun v=>HY.out v.v (BC v) 3 _ rfl
        have cy4:∀ v:Sy.Bel w4,v.v.cell? ⟨b,Q+4,none⟩=some (.bool yk):=fun v=>HY.out v.v (BC v) 4 _ rfl
        have cy5:∀ v:Sy.Bel w4,v.v.cell? ⟨b,Q+5,none⟩=some (.bool ya):=fun v=>HY.out v.v (BC v) 5 _ rfl
        have ck1:∀ v:Sy.Bel w4,v.v.cell? ⟨kb,1,none⟩=some (.func (.func gB) #[] #[]):=fun v=>(KW.out _ (BC1 v)).2.1
        have ck2:∀ v:Sy.Bel w4,v.v.cell? ⟨kb,2,none⟩=some (.func (.func gF) #[] #[]):=fun v=>(KW.out _ (BC1 v)).2.2
        have hcB:∀ v:Sy.Bel w4,Calls Tryz.prog gB (#[.agg #[.string yJ,.string yM,.slice yA yn yc,.int .i64 ys,.bool yk,.bool ya],.agg #[.string xJ,.string xM,.slice xA xn xc,.int .i64 xs,.bool xk,.bool xa]]++#[]) v.v fun e w'=>e=.returned (.bool b1)∧Below v.v.heap.size v.v w':=fun v=>hcB0 v.v (BC v)
        have hcF:∀ v:Sy.Bel w4,Calls Tryz.prog gF (#[.agg #[.string xJ,.string xM,.slice xA xn xc,.int .i64 xs,.bool xk,.bool xa]]++#[]) v.v fun e w'=>e=.returned (.bool b2)∧Below v.v.heap.size v.v w':=fun v=>hcF0 v.v (BC v)
        clear hcB0 hcF0 BC BC1;cases b1 with
        | false =>
          have HR:=Lib.hid (HNO.out i hin (by rw[HS.out];rfl));refine Sy.wp_region_quiet_bel (by kernel_rfl) (by kernel_rfl) ?_
          repeat (go_big_quiet_step (first | (go_at_fn gB;exact Sy.Calls.bel_of (hcB _)) | (go_at_fn gF;exact Sy.Calls.bel_of (hcF _))))
          refine wpQuiet_nil ?_;intro w2 hw';have hb2:Below w4.heap.size w4 w2:=by obtain⟨v,rfl⟩:=hw';exact v.h
          clear hw' cx0 cx1 cx2 cx3 cx4 cx5 cy0 cy1 cy2 cy3 cy4 cy5 ck1 ck2 hcB hcF
          go_wp2_with fail
          go_ret
          exact⟨by cases HR.out;rfl,(B4.out.trans (hb2.mono B4.out.size))⟩
        | true =>
          refine Sy.wp_region_quiet_bel (by kernel_rfl) (by kernel_rfl) ?_
          repeat (go_big_quiet_step (first | (go_at_fn gB;exact Sy.Calls.bel_of (hcB _)) | (go_at_fn gF;exact Sy.Calls.bel_of (hcF _))))
          refine wpQuiet_nil ?_;intro w2 hw';have hb2:Below w4.heap.size w4 w2:=by obtain⟨v,rfl⟩:=hw';exact v.h
          clear hw' cx0 cx1 cx2 cx3 cx4 cx5 cy0 cy1 cy2 cy3 cy4 cy5 ck1 ck2 hcB hcF;cases b2 with
          | false =>
            have HR:=Lib.hid (HNO.out i hin (by rw[HS.out];rfl))
            go_wp2_with fail
            go_ret
            exact⟨by cases HR.out;rfl,(B4.out.trans (hb2.mono B4.out.size))⟩
          | true =>
            have BN:Hid (Below W1.heap.size W1 w2):=B41.out.trans (hb2.mono B41.out.size);have HOK2:Hid (∀ j,j < i+1→aT lt ok l j=true):=fun j hj=>by
             rcases Nat.lt_or_ge j i with h | h
             · exact HOK.out j h
             · obtain rfl:j=i:=by omega
               rw[HS.out];rfl
            clear hb2
            go_wp2_with fail
            go_roundw
            case rel=>exact⟨_,_,i+1,rfl,rfl,by go_num,by omega,HOK2,BN⟩
            case measure=>simp[intOf];omega
      · obtain⟨z,hz⟩:∃ z:Int,(i:Int)=z:=⟨_,rfl⟩
        have hS:aT lt ok l i=ok x:=by
         unfold aT;rw[decide_eq_true (by omega),Bool.true_or,Bool.true_and,hxe]
        have HS:=Lib.hid hS;have hcF0:=fun (W:World) (hW:Below w.heap.size w W)=>HF.out W hW x hmx
        have hcx:=fun W hW c u hu=>hc W hW i x hx c u hu
        rw[hz];have hi00:0≤z:=by omega
        have hi0d:decide (0 < z)=false:=decide_eq_false (by omega);have hiz:z < (n:Int):=by omega
        have hi3:z.toNat=i:=by omega
        have wz:IntKind.i64.wrap (z+1)=z+1:=by rw[IntKind.wrap_i64];omega
        have HZ:=Lib.hid hz;have HIN:=Lib.hid hin
        obtain⟨P,hP⟩:∃ P,off+i*6=P:=⟨_,rfl⟩
        rw[hP] at hcx
        obtain⟨b2,hb2⟩:∃ b,ok x=b:=⟨_,rfl⟩
        rw[hb2] at HS hcF0;clear hb2 hx hxe hmx hc hS hi hi0 hz hin HXE HMX HXI
        obtain⟨⟨xj,xm,xg,xs,xk,xa⟩,xA,xn,xc⟩:=x
        obtain⟨xJ,hxJ⟩:∃ J,aa xj=J:=⟨_,rfl⟩
        obtain⟨xM,hxM⟩:∃ J,aa xm=J:=⟨_,rfl⟩
        have ex:aq (⟨⟨xj,xm,xg,xs,xk,xa⟩,xA,xn,xc⟩:aZ × bm)=[.string xJ,.string xM,.slice xA xn xc,.int .i64 xs,.bool xk,.bool xa]:=by rw[← hxJ];rw[← hxM];rfl
        rw[ex] at hcx hcF0;clear ex hxJ hxM;have p0:wr.cell? ⟨b,P,none⟩=some (.string xJ):=hcx wr BWW.out 0 _ rfl;have p1:wr.cell? ⟨b,P+1,none⟩=some (.string xM):=hcx wr BWW.out 1 _ rfl;have p2:wr.cell? ⟨b,P+2,none⟩=some (.slice xA xn xc):=hcx wr BWW.out 2 _ rfl;have p3:wr.cell? ⟨b,P+3,none⟩=some (.int .i64 xs):=hcx wr BWW.out 3 _ rfl;have p4:wr.cell? ⟨b,P+4,none⟩=some (.bool xk):=hcx wr BWW.out 4 _ rfl;have p5:wr.cell? ⟨b,P+5,none⟩=some (.bool xa):=hcx wr BWW.out 5 _ rfl
        obtain⟨W3,hW3⟩:∃ W,wr.alloc (.cells #[.string ⟨#[]⟩,.string ⟨#[]⟩,.slice none 0 0,.int .i64 0,.bool false,.bool false] 53)=W:=⟨_,rfl⟩
        obtain⟨p,hp⟩:∃ b,wr.heap.size=b:=⟨_,rfl⟩
        have K3:Hid (Bk W3 p 53 #[.string ⟨#[]⟩,.string ⟨#[]⟩,.slice none 0 0,.int .i64 0,.bool false,.bool false]):=by rw[← hW3,← hp];exact Bk.new _ _ _
        have b3:Below wr.heap.size wr W3:=by rw[← hW3];exact(Below.refl _ _).alloc (Nat.le_refl _) _
        have HPW:Hid (wr.heap.size≤p):=by rw[← hp];exact Nat.le_refl _
        have z0:W3.cell? ⟨p,0,none⟩=some (.string ⟨#[]⟩):=K3.out.cell 0;have zf0:W3.frozen? ⟨p,0,none⟩=false:=K3.out.free 0;have z1:W3.cell? ⟨p,1,none⟩=some (.string ⟨#[]⟩):=K3.out.cell 1;have zf1:W3.frozen? ⟨p,1,none⟩=false:=K3.out.free 1;have z2:W3.cell? ⟨p,2,none⟩=some (.slice none 0 0):=K3.out.cell 2;have zf2:W3.frozen? ⟨p,2,none⟩=false:=K3.out.free 2;have z3:W3.cell? ⟨p,3,none⟩=some (.int .i64 0):=K3.out.cell 3;have zf3:W3.frozen? ⟨p,3,none⟩=false:=K3.out.free 3;have z4:W3.cell? ⟨p,4,none⟩=some (.bool false):=K3.out.cell 4;have zf4:W3.frozen? ⟨p,4,none⟩=false:=K3.out.free 4;have z5:W3.cell? ⟨p,5,none⟩=some (.bool false):=K3.out.cell 5;have zf5:W3.frozen? ⟨p,5,none⟩=false:=K3.out.free 5;have K4:=Lib.hid (bo K3.out (.string xJ) (.string xM) (.slice xA xn xc) (.int .i64 xs) (.bool xk) (.bool xa));have B34:=Lib.hid (aE b3 HPW.out (.string xJ) (.string xM) (.slice xA xn xc) (.int .i64 xs) (.bool xk) (.bool xa))
        obtain⟨w4,hw4⟩:∃ z,cF W3 p (.string xJ) (.string xM) (.slice xA xn xc) (.int .i64 xs) (.bool xk) (.bool xa)=z:=⟨_,rfl⟩
        rw[hw4] at K4 B34;have B4:Hid (Below w.heap.size w w4):=BWW.out.trans (B34.out.mono BWW.out.size);have B41:Hid (Below W1.heap.size W1 w4):=BW.out.trans (B34.out.mono BW.out.size);clear b3 hcx
        go_upto_region 6 with fail
        (try rw[hw4]);clear hW3 hw4 z0 zf0 p0 z1 zf1 p1 z2 zf2 p2 z3 zf3 p3 z4 zf4 p4 z5 zf5 p5;have cx0:∀ v:Sy.Bel w4,v.v.cell? ⟨p,0,none⟩=some (.string xJ):=fun v=>(K4.out.below v.h K4.out.lt).cell 0
        have cx1:∀ v:Sy.Bel w4,v.v.cell? ⟨p,1,none⟩=some (.string xM):=fun v=>(K4.out.below v.h K4.out.lt).cell 1
        have cx2:∀ v:Sy.Bel w4,v.v.cell? ⟨p,2,none⟩=some (.slice xA xn xc):=fun v=>(K4.out.below v.h K4.out.lt).cell 2
        have cx3:∀ v:Sy.Bel w4,v.v.cell? ⟨p,3,none⟩=some (.int .i64 xs):=fun v=>(K4.out.below v.h K4.out.lt).cell 3
        have cx4:∀ v:Sy.Bel w4,v.v.cell? ⟨p,4,none⟩=some (.bool xk):=fun v=>(K4.out.below v.h K4.out.lt).cell 4
        have cx5:∀ v:Sy.Bel w4,v.v.cell? ⟨p,5,none⟩=some (.bool xa):=fun v=>(K4.out.below v.h K4.out.lt).cell 5
        have BC:∀ v:Sy.Bel w4,Below w.heap.size w v.v:=fun v=>B4.out.trans (v.h.mono B4.out.size)
        have BC1:∀ v:Sy.Bel w4,Below W1.heap.size W1 v.v:=fun v=>B41.out.trans (v.h.mono B41.out.size)
        have ck2:∀ v:Sy.Bel w4,v.v.cell? ⟨kb,2,none⟩=some (.func (.func gF) #[] #[]):=fun v=>(KW.out _ (BC1 v)).2.2
        have hcF:∀ v:Sy.Bel w4,Calls Tryz.prog gF (#[.agg #[.string xJ,.string xM,.slice xA xn xc,.int .i64 xs,.bool xk,.bool xa]]++#[]) v.v fun e w'=>e=.returned (.bool b2)∧Below v.v.heap.size v.v w':=fun v=>hcF0 v.v (BC v)
        clear hcF0 BC BC1;refine Sy.wp_region_quiet_bel (by kernel_rfl) (by kernel_rfl) ?_
        repeat (go_big_quiet_step ((go_at_fn gF;exact Sy.Calls.bel_of (hcF _))))
        refine wpQuiet_nil ?_;intro w2 hw';have hb2:Below w4.heap.size w4 w2:=by obtain⟨v,rfl⟩:=hw';exact v.h
        clear hw' cx0 cx1 cx2 cx3 cx4 cx5 ck2 hcF;cases b2 with
        | false =>
          have HR:=Lib.hid (HNO.out i HIN.out (by rw[HS.out]))
          go_wp2_with fail
          go_ret
          exact⟨by cases HR.out;rfl,(B4.out.trans (hb2.mono B4.out.size))⟩
        | true =>
          have BN:Hid (Below W1.heap.size W1 w2):=B41.out.trans (hb2.mono B41.out.size);have HOK2:Hid (∀ j,j < i+1→aT lt ok l j=true):=fun j hj=>by
           rcases Nat.lt_or_ge j i with h | h
           · exact HOK.out j h
           · obtain rfl:j=i:=by omega
             exact HS.out
          clear hb2
          go_wp2_with fail
          go_roundw
          case rel=>exact⟨_,_,i+1,rfl,rfl,by rw[← HZ.out];go_num,HIN.out,HOK2,BN⟩
          case measure=>have:=HZ.out;have:=HIN.out;simp[intOf];omega
    · have HR:=Lib.hid (HYES.out hmn (fun j hj=>HOK.out j (by omega)))
      have hiz:¬ (i:Int) < (n:Int):=by omega
      go_wp2_with fail
      go_ret
      exact⟨by cases HR.out;rfl,BWW.out⟩
 · have hmz:(most:Int) < (n:Int):=by omega
   have HR:=Lib.hid (HMANY.out (by omega));go_enter Tryz.func125,Tryz.ntmps125
   go_upto_region 1 with fail
   (try rw[HW1.out]);(try rw[HKB.out])
   go_wp2_with fail
   go_ret
   exact⟨by cases HR.out;rfl,B1.out⟩
set_option maxHeartbeats 8000000 in
set_option maxRecDepth 100000 in
theorem mD (most:Nat) (hm:most≤1000) (gB gF:Nat) (egB:∀ args w,(callFunc gB args).run Tryz.prog w=.ok (.enter gB args) w) (egF:∀ args w,(callFunc gF args).run Tryz.prog w=.ok (.enter gF args) w)
 (lt:List UInt8→List UInt8→Bool) (ok:List UInt8→Bool) (v:Value) (l:List (List UInt8)) (w:World) (hR:RowV jL 1 w.heap.size w v l) (hl:l.length≤1000000)
 (hB:∀ W,Below w.heap.size w W→∀ x∈l,∀ y∈l,Calls Tryz.prog gB #[.string (aa x),.string (aa y)] W fun e w'=>e=.returned (.bool (lt x y))∧Below W.heap.size W w')
 (hF:∀ W,Below w.heap.size w W→∀ x∈l,Calls Tryz.prog gF #[.string (aa x)] W fun e w'=>e=.returned (.bool (ok x))∧Below W.heap.size W w') :
 Calls Tryz.prog 126 #[.agg #[.int .i64 (most:Nat),.func (.func gB) #[] #[],.func (.func gF) #[] #[]],v] w fun e w'=>e=.returned (.bool (aw most lt ok l))∧Below w.heap.size w w':=by
 obtain⟨A,cap,rfl,hA⟩:=hR
 obtain⟨n,hn⟩:∃ n,l.length=n:=⟨_,rfl⟩
 have HN:=Lib.hid hn;have HA:Hid (0 < n→∃ b off,A=some ⟨b,off,none⟩∧∀ W,Below w.heap.size w W→∀ i p,l[i]?=some p→∀ c u,(jL p)[c]?=some u→W.cell? ⟨b,off+i*1+c,none⟩=some u):=fun h0=>by
  obtain⟨b,off,ha,hb,hc⟩:=hA (by omega)
  exact⟨b,off,ha,fun W hW i p hp c u hu=>by rw[hW.cell (p:=⟨b,off+i*1+c,none⟩) hb];exact hc i p hp c u hu⟩
 have HB:=Lib.hid hB;have HF:=Lib.hid hF;have HNO:Hid (∀ i,i < n→aT lt ok l i=false→aw most lt ok l=false):=fun i hi h=>fm i (by omega) h
 have HYES:Hid (n≤most→(∀ i,i < n→aT lt ok l i=true)→aw most lt ok l=true):=fun h1 h2=>dX (by omega) (fun i hi=>h2 i (by omega))
 have HMANY:Hid (most < n→aw most lt ok l=false):=fun h=>dF (by omega)
 rw[hn] at hl ⊢
 obtain⟨r,hr⟩:∃ r,aw most lt ok l=r:=⟨_,rfl⟩
 rw[hr] at HNO HYES HMANY ⊢
 obtain⟨W1,hW1⟩:∃ W1,w.alloc (.cells #[.int .i64 (most:Nat),.func (.func gB) #[] #[],.func (.func gF) #[] #[]] 83)=W1:=⟨_,rfl⟩
 obtain⟨kb,hkb⟩:∃ b,w.heap.size=b:=⟨_,rfl⟩
 have K1:Bk W1 kb 83 #[.int .i64 (most:Nat),.func (.func gB) #[] #[],.func (.func gF) #[] #[]]:=by rw[← hW1,← hkb];exact Bk.new _ _ _
 have b1:Below w.heap.size w W1:=by rw[← hW1];exact(Below.refl _ _).alloc (Nat.le_refl _) _
 have q0:W1.cell? ⟨kb,0,none⟩=some (.int .i64 (most:Nat)):=K1.cell 0;have KW:Hid (∀ W,Below W1.heap.size W1 W→W.cell? ⟨kb,0,none⟩=some (.int .i64 (most:Nat))∧W.cell? ⟨kb,1,none⟩=some (.func (.func gB) #[] #[])∧W.cell? ⟨kb,2,none⟩=some (.func (.func gF) #[] #[])):=fun W hW =>
  have K:=K1.below hW K1.lt
  ⟨K.cell 0,K.cell 1,K.cell 2⟩
 have B1:=Lib.hid b1;have HW1:=Lib.hid hW1;have HKB:=Lib.hid hkb;clear hA hn hr hW1 hkb K1 b1 hB hF
 by_cases hmn:n≤most
 · have hmz:¬ (most:Int) < (n:Int):=by omega
   go_enter Tryz.func126,Tryz.ntmps126
   go_upto_region 1 with fail
   (try rw[HW1.out]);(try rw[HKB.out])
   go_wp2_with fail
   go_loopw [5,6,14] (fun av bv iv wr=>∃ (u5 u6:Value) (i:Nat),av=u5∧bv=u6∧iv=.int .i64 (i:Nat)∧i≤n∧Hid (∀ j,j < i→aT lt ok l j=true)∧Hid (Below W1.heap.size W1 wr)) (fun _ _ iv _=>n - (intOf iv).toNat)
   case atStart=>exact⟨_,_,0,rfl,rfl,rfl,Nat.zero_le _,fun j hj=>absurd hj (Nat.not_lt_zero _),Below.refl _ _⟩
   case round =>
    obtain⟨u5,u6,i,hu5,hu6,rfl,hi,HOK,BW⟩:=hrel
    have hu52:=hu5.symm;have hu62:=hu6.symm;clear hu5 hu6;subst hu52 hu62;have BWW:Hid (Below w.heap.size w wr):=B1.out.trans (BW.out.mono B1.out.size)
    by_cases hin:i < n
    · obtain⟨b,off,rfl,hc⟩:=HA.out (by omega)
      obtain⟨x,hx⟩:∃ p,l[i]?=some p:=⟨_,List.getElem?_eq_getElem (by rw[HN.out];exact hin)⟩
      have hxe:l[i]! = x:=by rw[List.getElem!_eq_getElem?_getD,hx];rfl
      have hmx:x∈l:=List.mem_of_getElem? hx;have HXE:=Lib.hid hxe;have HMX:=Lib.hid hmx;have HXI:=Lib.hid hx
      by_cases hi0:0 < i
      · obtain⟨q,hq⟩:∃ q,i - 1=q:=⟨_,rfl⟩
        have wq:IntKind.i64.wrap ((i:Int) - 1)=(q:Int):=by rw[IntKind.wrap_i64];omega
        have hqz:(q:Int) < (n:Int):=by omega
        have hq0:(0:Int)≤(q:Int):=by omega
        have hiz:(i:Int) < (n:Int):=by omega
        have hi00:(0:Int)≤(i:Int):=by omega
        have hi0z:(0:Int) < (i:Int):=by omega
        have hi0d:decide ((0:Int) < (i:Int))=true:=decide_eq_true hi0z
        obtain⟨y,hy⟩:∃ p,l[q]?=some p:=⟨_,List.getElem?_eq_getElem (by rw[HN.out];omega)⟩
        have hye:l[q]! = y:=by rw[List.getElem!_eq_getElem?_getD,hy];rfl
        have hmy:y∈l:=List.mem_of_getElem? hy;have HS:Hid (aT lt ok l i=(lt y x&&ok x)):=by
         unfold Hid aT;rw[decide_eq_false (by omega),Bool.false_or,hq,hye,hxe]
        have hcB0:=fun (W:World) (hW:Below w.heap.size w W)=>HB.out W hW y hmy x hmx
        have hcF0:=fun (W:World) (hW:Below w.heap.size w W)=>HF.out W hW x hmx
        have hcx:=fun W hW c u hu=>hc W hW i x hx c u hu
        have hcy:=fun W hW c u hu=>hc W hW q y hy c u hu
        obtain⟨P,hP⟩:∃ P,off+i*1=P:=⟨_,rfl⟩
        obtain⟨Q,hQ⟩:∃ P,off+q*1=P:=⟨_,rfl⟩
        rw[hP] at hcx;rw[hQ] at hcy
        obtain⟨b1,hb1⟩:∃ b,lt y x=b:=⟨_,rfl⟩
        obtain⟨b2,hb2⟩:∃ b,ok x=b:=⟨_,rfl⟩
        rw[hb1,hb2] at HS;rw[hb1] at hcB0;rw[hb2] at hcF0;clear hb1 hb2 hx hy hxe hye hmx hmy hc hq HXE HMX HXI
        obtain⟨xJ,hxJ⟩:∃ J,aa x=J:=⟨_,rfl⟩
        have ex:jL x=[.string xJ]:=by rw[← hxJ];rfl
        rw[hxJ] at hcF0 hcB0;rw[ex] at hcx;clear ex hxJ;have hQ2:off+q=Q:=by omega
        obtain⟨yJ,hyJ⟩:∃ J,aa y=J:=⟨_,rfl⟩
        have ey:jL y=[.string yJ]:=by rw[← hyJ];rfl
        rw[hyJ] at hcB0;rw[ey] at hcy;clear ey hyJ;have hP2:off+i=P:=by omega
        have p0:wr.cell? ⟨b,P,none⟩=some (.string xJ):=hcx wr BWW.out 0 _ rfl
        obtain⟨w4,hw4⟩:∃ z,wr=z:=⟨_,rfl⟩
        have B4:Hid (Below w.heap.size w w4):=by rw[← hw4];exact BWW.out
        have B41:Hid (Below W1.heap.size W1 w4):=by rw[← hw4];exact BW.out
        have HW4:=Lib.hid hw4;clear hcx hw4
        go_upto_region 6 with fail
        rw[HW4.out];clear p0;have HY:=Lib.hid hcy;clear hcy;have BC:∀ v:Sy.Bel w4,Below w.heap.size w v.v:=fun v=>B4.out.trans (v.h.mono B4.out.size)
        have BC1:∀ v:Sy.Bel w4,Below W1.heap.size W1 v.v:=fun v=>B41.out.trans (v.h.mono B41.out.size)
        have cy0:∀ v:Sy.Bel w4,v.v.cell? ⟨b,Q,none⟩=some (.string yJ):=fun v=>HY.out v.v (BC v) 0 _ rfl
        have ck1:∀ v:Sy.Bel w4,v.v.cell? ⟨kb,1,none⟩=some (.func (.func gB) #[] #[]):=fun v=>(KW.out _ (BC1 v)).2.1
        have ck2:∀ v:Sy.Bel w4,v.v.cell? ⟨kb,2,none⟩=some (.func (.func gF) #[] #[]):=fun v=>(KW.out _ (BC1 v)).2.2
        have hcB:∀ v:Sy.Bel w4,Calls Tryz.prog gB (#[.string yJ,.string xJ]++#[]) v.v fun e w'=>e=.returned (.bool b1)∧Below v.v.heap.size v.v w':=fun v=>hcB0 v.v (BC v)
        have hcF:∀ v:Sy.Bel w4,Calls Tryz.prog gF (#[.string xJ]++#[]) v.v fun e w'=>e=.returned (.bool b2)∧Below v.v.heap.size v.v w':=fun v=>hcF0 v.v (BC v)
        clear hcB0 hcF0 BC BC1;cases b1 with
        | false =>
          have HR:=Lib.hid (HNO.out i hin (by rw[HS.out];rfl));refine Sy.wp_region_quiet_bel (by kernel_rfl) (by kernel_rfl) ?_
          repeat (go_big_quiet_step (first | (go_at_fn gB;exact Sy.Calls.bel_of (hcB _)) | (go_at_fn gF;exact Sy.Calls.bel_of (hcF _))))
          refine wpQuiet_nil ?_;intro w2 hw';have hb2:Below w4.heap.size w4 w2:=by obtain⟨v,rfl⟩:=hw';exact v.h
          clear hw'  cy0 ck1 ck2 hcB hcF
          go_wp2_with fail
          go_ret
          exact⟨by cases HR.out;rfl,(B4.out.trans (hb2.mono B4.out.size))⟩
        | true =>
          refine Sy.wp_region_quiet_bel (by kernel_rfl) (by kernel_rfl) ?_
          repeat (go_big_quiet_step (first | (go_at_fn gB;exact Sy.Calls.bel_of (hcB _)) | (go_at_fn gF;exact Sy.Calls.bel_of (hcF _))))
          refine wpQuiet_nil ?_;intro w2 hw';have hb2:Below w4.heap.size w4 w2:=by obtain⟨v,rfl⟩:=hw';exact v.h
          clear hw'  cy0 ck1 ck2 hcB hcF;cases b2 with
          | false =>
            have HR:=Lib.hid (HNO.out i hin (by rw[HS.out];rfl))
            go_wp2_with fail
            go_ret
            exact⟨by cases HR.out;rfl,(B4.out.trans (hb2.mono B4.out.size))⟩
          | true =>
            have BN:Hid (Below W1.heap.size W1 w2):=B41.out.trans (hb2.mono B41.out.size);have HOK2:Hid (∀ j,j < i+1→aT lt ok l j=true):=fun j hj=>by
             rcases Nat.lt_or_ge j i with h | h
             · exact HOK.out j h
             · obtain rfl:j=i:=by omega
               rw[HS.out];rfl
            clear hb2
            go_wp2_with fail
            go_roundw
            case rel=>exact⟨_,_,i+1,rfl,rfl,by go_num,by omega,HOK2,BN⟩
            case measure=>simp[intOf];omega
      · obtain⟨z,hz⟩:∃ z:Int,(i:Int)=z:=⟨_,rfl⟩
        have hS:aT lt ok l i=ok x:=by
         unfold aT;rw[decide_eq_true (by omega),Bool.true_or,Bool.true_and,hxe]
        have HS:=Lib.hid hS;have hcF0:=fun (W:World) (hW:Below w.heap.size w W)=>HF.out W hW x hmx
        have hcx:=fun W hW c u hu=>hc W hW i x hx c u hu
        rw[hz];have hi00:0≤z:=by omega
        have hi0d:decide (0 < z)=false:=decide_eq_false (by omega);have hiz:z < (n:Int):=by omega
        have hi3:z.toNat=i:=by omega
        have wz:IntKind.i64.wrap (z+1)=z+1:=by rw[IntKind.wrap_i64];omega
        have HZ:=Lib.hid hz;have HIN:=Lib.hid hin
        obtain⟨P,hP⟩:∃ P,off+i*1=P:=⟨_,rfl⟩
        rw[hP] at hcx
        obtain⟨b2,hb2⟩:∃ b,ok x=b:=⟨_,rfl⟩
        rw[hb2] at HS hcF0;clear hb2 hx hxe hmx hc hS hi hi0 hz hin HXE HMX HXI
        obtain⟨xJ,hxJ⟩:∃ J,aa x=J:=⟨_,rfl⟩
        have ex:jL x=[.string xJ]:=by rw[← hxJ];rfl
        rw[hxJ] at hcF0;rw[ex] at hcx;clear ex hxJ;have hP2:off+i=P:=by omega
        have p0:wr.cell? ⟨b,P,none⟩=some (.string xJ):=hcx wr BWW.out 0 _ rfl
        obtain⟨w4,hw4⟩:∃ z,wr=z:=⟨_,rfl⟩
        have B4:Hid (Below w.heap.size w w4):=by rw[← hw4];exact BWW.out
        have B41:Hid (Below W1.heap.size W1 w4):=by rw[← hw4];exact BW.out
        have HW4:=Lib.hid hw4;clear hcx hw4
        go_upto_region 6 with fail
        rw[HW4.out];clear p0;have BC:∀ v:Sy.Bel w4,Below w.heap.size w v.v:=fun v=>B4.out.trans (v.h.mono B4.out.size)
        have BC1:∀ v:Sy.Bel w4,Below W1.heap.size W1 v.v:=fun v=>B41.out.trans (v.h.mono B41.out.size)
        have ck2:∀ v:Sy.Bel w4,v.v.cell? ⟨kb,2,none⟩=some (.func (.func gF) #[] #[]):=fun v=>(KW.out _ (BC1 v)).2.2
        have hcF:∀ v:Sy.Bel w4,Calls Tryz.prog gF (#[.string xJ]++#[]) v.v fun e w'=>e=.returned (.bool b2)∧Below v.v.heap.size v.v w':=fun v=>hcF0 v.v (BC v)
        clear hcF0 BC BC1;refine Sy.wp_region_quiet_bel (by kernel_rfl) (by kernel_rfl) ?_
        repeat (go_big_quiet_step ((go_at_fn gF;exact Sy.Calls.bel_of (hcF _))))
        refine wpQuiet_nil ?_;intro w2 hw';have hb2:Below w4.heap.size w4 w2:=by obtain⟨v,rfl⟩:=hw';exact v.h
        clear hw'  ck2 hcF;cases b2 with
        | false =>
          have HR:=Lib.hid (HNO.out i HIN.out (by rw[HS.out]))
          go_wp2_with fail
          go_ret
          exact⟨by cases HR.out;rfl,(B4.out.trans (hb2.mono B4.out.size))⟩
        | true =>
          have BN:Hid (Below W1.heap.size W1 w2):=B41.out.trans (hb2.mono B41.out.size);have HOK2:Hid (∀ j,j < i+1→aT lt ok l j=true):=fun j hj=>by
           rcases Nat.lt_or_ge j i with h | h
           · exact HOK.out j h
           · obtain rfl:j=i:=by omega
             exact HS.out
          clear hb2
          go_wp2_with fail
          go_roundw
          case rel=>exact⟨_,_,i+1,rfl,rfl,by rw[← HZ.out];go_num,HIN.out,HOK2,BN⟩
          case measure=>have:=HZ.out;have:=HIN.out;simp[intOf];omega
    · have HR:=Lib.hid (HYES.out hmn (fun j hj=>HOK.out j (by omega)))
      have hiz:¬ (i:Int) < (n:Int):=by omega
      go_wp2_with fail
      go_ret
      exact⟨by cases HR.out;rfl,BWW.out⟩
 · have hmz:(most:Int) < (n:Int):=by omega
   have HR:=Lib.hid (HMANY.out (by omega));go_enter Tryz.func126,Tryz.ntmps126
   go_upto_region 1 with fail
   (try rw[HW1.out]);(try rw[HKB.out])
   go_wp2_with fail
   go_ret
   exact⟨by cases HR.out;rfl,B1.out⟩
end Go.Proofs.YtbgaglcgennhiaaGreatDoor
