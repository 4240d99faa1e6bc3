import Derived.Test.YtbgaglcgennhiaaGreatDoorP31
import Derived.Test.YtbgaglcgennhiaaGreatDoorP07
import Derived.Test.YtbgaglcgennhiaaGreatDoorP15
import Derived.Test.YtbgaglcgennhiaaGreatDoorP27
import Derived.Test.YtbgaglcgennhiaaGreatDoorP18
import Derived.Lib.SlicesS
namespace Go.Proofs.YtbgaglcgennhiaaGreatDoor
open Go.RowKit Tx Ct
set_option maxHeartbeats 1000000 in
theorem mO (s:List UInt8) (w:World) (hO:Okw w) (hs:s.length≤100000000) :
 Calls Tryz.prog 66 #[.string (aa s)] w fun e w'=>e=.returned (.bool (jZ s))∧Below w.heap.size w w':=by
 have HB:=Lib.hid (jl (aa s) w hO (by rw[Lib.size_eq];show s.length≤_;omega));unfold bM at HB;rw[show (aa s).data.toList=s from rfl] at HB;have hb:jZ s=decide (Jd.domL s=(s,0)):=rfl
 obtain⟨r,hr⟩:∃ r,Jd.domL s=r:=⟨_,rfl⟩
 rw[hr] at HB hb;have en:=cP r.1 s
 obtain⟨X,hX⟩:∃ X,aa s=X:=⟨_,rfl⟩
 obtain⟨Y,hY⟩:∃ X,(⟨r.1.toArray⟩:ByteArray)=X:=⟨_,rfl⟩
 rw[hX] at HB en ⊢;rw[hY] at HB;rw[show aa r.1=Y from hY] at en;clear hr hX hY hO
 by_cases h0:r.2=0
 · have hb2:Hid (jZ s=decide (r.1=s)):=by
    unfold Hid;rw[hb]
    by_cases h1:r.1=s
    · rw[decide_eq_true h1,decide_eq_true (by rw[← h1,← h0])]
    · rw[decide_eq_false h1,decide_eq_false (fun e=>h1 (congrArg Prod.fst e))]
   rw[h0] at HB
   obtain⟨c,hc⟩:∃ c,decide (r.1=s)=c:=⟨_,rfl⟩
   rw[hc] at en hb2;clear hb h0 hc;go_enter Tryz.func66,Tryz.ntmps66
   go_wp2_with fail
   refine HB.out.mono ?_;rintro e w1 ⟨rfl,b1⟩
   go_wp2_with fail
   go_ret
   exact⟨by rw[hb2.out];rfl,b1⟩
 · have hb2:Hid (jZ s=false):=by
    unfold Hid;rw[hb];exact decide_eq_false (fun e=>h0 (congrArg Prod.snd e))
   have hz:((r.2:Int)==0)=false:=by simpa using h0
   clear hb en;go_enter Tryz.func66,Tryz.ntmps66
   go_wp2_with fail
   refine HB.out.mono ?_;rintro e w1 ⟨rfl,b1⟩
   go_wp2_with fail
   go_ret
   exact⟨by rw[hb2.out];rfl,b1⟩
set_option maxHeartbeats 1000000 in
theorem ro (s:List UInt8) (w:World) (hO:Okw w) (hs:s.length≤100000000) :
 Calls Tryz.prog 84 #[.string (aa s)] w fun e w'=>e=.returned (.bool (bL s))∧Below w.heap.size w w':=by
 have HB:=Lib.hid (mg (aa s) w hO (by rw[Lib.size_eq];show s.length≤_;omega));unfold bM at HB;rw[show (aa s).data.toList=s from rfl] at HB;have hb:bL s=decide (Jd.bareL s=(s,0)):=rfl
 obtain⟨r,hr⟩:∃ r,Jd.bareL s=r:=⟨_,rfl⟩
 rw[hr] at HB hb;have en:=cP r.1 s
 obtain⟨X,hX⟩:∃ X,aa s=X:=⟨_,rfl⟩
 obtain⟨Y,hY⟩:∃ X,(⟨r.1.toArray⟩:ByteArray)=X:=⟨_,rfl⟩
 rw[hX] at HB en ⊢;rw[hY] at HB;rw[show aa r.1=Y from hY] at en;clear hr hX hY hO
 by_cases h0:r.2=0
 · have hb2:Hid (bL s=decide (r.1=s)):=by
    unfold Hid;rw[hb]
    by_cases h1:r.1=s
    · rw[decide_eq_true h1,decide_eq_true (by rw[← h1,← h0])]
    · rw[decide_eq_false h1,decide_eq_false (fun e=>h1 (congrArg Prod.fst e))]
   rw[h0] at HB
   obtain⟨c,hc⟩:∃ c,decide (r.1=s)=c:=⟨_,rfl⟩
   rw[hc] at en hb2;clear hb h0 hc;go_enter Tryz.func84,Tryz.ntmps84
   go_wp2_with fail
   refine HB.out.mono ?_;rintro e w1 ⟨rfl,b1⟩
   go_wp2_with fail
   go_ret
   exact⟨by rw[hb2.out];rfl,b1⟩
 · have hb2:Hid (bL s=false):=by
    unfold Hid;rw[hb];exact decide_eq_false (fun e=>h0 (congrArg Prod.snd e))
   have hz:((r.2:Int)==0)=false:=by simpa using h0
   clear hb en;go_enter Tryz.func84,Tryz.ntmps84
   go_wp2_with fail
   refine HB.out.mono ?_;rintro e w1 ⟨rfl,b1⟩
   go_wp2_with fail
   go_ret
   exact⟨by rw[hb2.out];rfl,b1⟩
set_option maxHeartbeats 2000000 in
theorem oZ (s:List UInt8) (w:World) (hT:Tabs w) (hs:s.length≤100000000) :
 Calls Tryz.prog 122 #[.string (aa s)] w fun e w'=>e=.returned (.bool (dB s))∧Below w.heap.size w w':=by
 have HB:=Lib.hid (nO (aa s) w hT (by rw[Lib.size_eq];show s.length≤_;omega));rw[fe] at HB;unfold bM at HB;rw[show (aa s).data.toList=s from rfl] at HB;have hb:dB s=(decide (Pr.prepL 1 s=(s,0))&&!decide (s=[])&&decide (s.length≤64)):=rfl
 obtain⟨r,hr⟩:∃ r,Pr.prepL 1 s=r:=⟨_,rfl⟩
 rw[hr] at HB hb;have en:=cP r.1 s;have hz:(aa s).size=s.length:=by rw[Lib.size_eq]
 have he:((aa s).toList=([]:List UInt8))↔s=[]:=by rw[br]
 obtain⟨X,hX⟩:∃ X,aa s=X:=⟨_,rfl⟩
 obtain⟨Y,hY⟩:∃ X,(⟨r.1.toArray⟩:ByteArray)=X:=⟨_,rfl⟩
 rw[hX] at HB en hz he ⊢;rw[hY] at HB;rw[show aa r.1=Y from hY] at en;clear hr hX hY hT
 by_cases h0:r.2=0
 · rw[h0] at HB
   by_cases h1:r.1=s
   · rw[decide_eq_true h1] at en
     rw[decide_eq_true (by rw[← h1,← h0]:r=(s,0)),Bool.true_and] at hb
     by_cases h2:s=[]
     · have e0:X.toList=[]:=he.2 h2
       have e1:(X.toList != ([]:List UInt8))=false:=by rw[e0];rfl
       have e2:(X.toList==([]:List UInt8))=true:=by rw[e0];rfl
       have e3:Y.toList.isEmpty=true:=by rw[e0] at en;simpa using en
       have hb2:Hid (dB s=false):=by unfold Hid;rw[hb,decide_eq_true h2];rfl
       clear hb he hz h0 h1 h2;go_enter Tryz.func122,Tryz.ntmps122
       go_wp2_with fail
       refine HB.out.mono ?_;rintro e w1 ⟨rfl,b1⟩
       go_wp2_with fail
       go_ret
       exact⟨by rw[hb2.out];rfl,b1⟩
     · have e0:¬ X.toList=[]:=fun h=>h2 (he.1 h)
       have e1:(X.toList != ([]:List UInt8))=true:=by simpa using e0
       have e2:(X.toList==([]:List UInt8))=false:=by simpa using e0
       rw[decide_eq_false h2] at hb;have hb2:Hid (dB s=decide (s.length≤64)):=by unfold Hid;rw[hb];rfl
       have hle:decide ((X.size:Int)≤64)=decide (s.length≤64):=by rw[hz];exact decide_eq_decide.2 (by omega)
       obtain⟨c,hc⟩:∃ c,decide (s.length≤64)=c:=⟨_,rfl⟩
       rw[hc] at hle hb2;have hXs:X.size≤100000000:=by omega
       cases c with
       | true =>
         have hz1:(X.size:Int)≤64:=of_decide_eq_true hle;have hz2:X.size≤64:=by omega
         clear hb he hz h0 h1 h2 hc;go_enter Tryz.func122,Tryz.ntmps122
         go_wp2_with fail
         refine HB.out.mono ?_;rintro e w1 ⟨rfl,b1⟩
         go_wp2_with fail
         go_ret
         exact⟨by rw[hb2.out];rfl,b1⟩
       | false =>
         have hz1:¬ (X.size:Int)≤64:=of_decide_eq_false hle;have hz2:¬ X.size≤64:=by omega
         clear hb he hz h0 h1 h2 hc;go_enter Tryz.func122,Tryz.ntmps122
         go_wp2_with fail
         refine HB.out.mono ?_;rintro e w1 ⟨rfl,b1⟩
         go_wp2_with fail
         go_ret
         exact⟨by rw[hb2.out];rfl,b1⟩
   · rw[decide_eq_false h1] at en
     have hb2:Hid (dB s=false):=by unfold Hid;rw[hb,decide_eq_false (fun e=>h1 (congrArg Prod.fst e):¬ r=(s,0))];rfl
     clear hb he hz h0 h1;go_enter Tryz.func122,Tryz.ntmps122
     go_wp2_with fail
     refine HB.out.mono ?_;rintro e w1 ⟨rfl,b1⟩
     go_wp2_with fail
     go_ret
     exact⟨by rw[hb2.out];rfl,b1⟩
 · have hz1:((r.2:Int)==0)=false:=by simpa using h0
   have hb2:Hid (dB s=false):=by unfold Hid;rw[hb,decide_eq_false (fun e=>h0 (congrArg Prod.snd e):¬ r=(s,0))];rfl
   clear hb he hz en;go_enter Tryz.func122,Tryz.ntmps122
   go_wp2_with fail
   refine HB.out.mono ?_;rintro e w1 ⟨rfl,b1⟩
   go_wp2_with fail
   go_ret
   exact⟨by rw[hb2.out];rfl,b1⟩
set_option maxHeartbeats 1000000 in
theorem uy (x y:aK) (w:World):Calls Tryz.prog 64 #[.agg (aA x).toArray,.agg (aA y).toArray] w fun e w'=>e=.returned (.bool (wT x y))∧Below w.heap.size w w':=by
 obtain⟨xj,xus,xA,xn,xc⟩:=x
 obtain⟨yj,yus,yA,yn,yc⟩:=y
 have hx:(aA ⟨xj,xus,xA,xn,xc⟩).toArray=#[.string (aa xj),.slice xA xn xc]:=rfl;have hy:(aA ⟨yj,yus,yA,yn,yc⟩).toArray=#[.string (aa yj),.slice yA yn yc]:=rfl;have hlt:wT ⟨xj,xus,xA,xn,xc⟩ ⟨yj,yus,yA,yn,yc⟩=Jd.ltL xj yj:=rfl;rw[hx,hy,hlt]
 obtain⟨W1,hW1⟩:∃ W1,w.alloc (.cells #[.string (aa xj),.slice xA xn xc] 47)=W1:=⟨_,rfl⟩
 obtain⟨p,hp⟩:∃ G,w.heap.size=G:=⟨_,rfl⟩
 have k1:Bk W1 p 47 #[.string (aa xj),.slice xA xn xc]:=by rw[← hW1,← hp];exact Bk.new _ _ _
 have b1:Below w.heap.size w W1:=by rw[← hW1];exact(Below.refl _ _).alloc (Nat.le_refl _) _
 obtain⟨W2,hW2⟩:∃ W1',W1.alloc (.cells #[.string (aa yj),.slice yA yn yc] 47)=W1':=⟨_,rfl⟩
 obtain⟨q,hq⟩:∃ G,W1.heap.size=G:=⟨_,rfl⟩
 have k2:Bk W2 q 47 #[.string (aa yj),.slice yA yn yc]:=by rw[← hW2,← hq];exact Bk.new _ _ _
 have b2:Below W1.heap.size W1 W2:=by rw[← hW2];exact(Below.refl _ _).alloc (Nat.le_refl _) _
 have B2:Hid (Below w.heap.size w W2):=b1.trans (b2.mono b1.size);have c0:W2.cell? ⟨p,0,none⟩=some (.string (aa xj)):=(k1.below b2 k1.lt).cell 0;have d0:W2.cell? ⟨q,0,none⟩=some (.string (aa yj)):=k2.cell 0;have hle:Op.bytesLess (aa xj).toList (aa yj).toList=Jd.ltL xj yj:=d7 _ _
 obtain⟨X,hX⟩:∃ X,aa xj=X:=⟨_,rfl⟩
 obtain⟨Y,hY⟩:∃ X,aa yj=X:=⟨_,rfl⟩
 obtain⟨b,hb⟩:∃ b,Jd.ltL xj yj=b:=⟨_,rfl⟩
 rw[hX] at hW1 c0 hle;rw[hY] at hW2 d0 hle;rw[hb] at hle;rw[hX,hY,hb];clear hx hy hlt k1 k2 b1 b2 hX hY hb;go_enter Tryz.func64,Tryz.ntmps64
 go_wp2_with fail
 go_ret
 exact⟨rfl,by first | exact B2.out | (rw[← hp];exact B2.out)⟩
set_option maxHeartbeats 1000000 in
theorem ve (x y:aC) (w:World):Calls Tryz.prog 95 #[.agg (af x).toArray,.agg (af y).toArray] w fun e w'=>e=.returned (.bool (wS x y))∧Below w.heap.size w w':=by
 obtain⟨xj,xm,xis,⟨xA,xn,xc⟩,xps,⟨xD,xe,xf⟩⟩:=x
 obtain⟨yj,ym,yis,⟨yA,yn,yc⟩,yps,⟨yD,ye,yf⟩⟩:=y
 have hx:(af ⟨xj,xm,xis,⟨xA,xn,xc⟩,xps,⟨xD,xe,xf⟩⟩).toArray=#[.string (aa xj),.string (aa xm),.slice xA xn xc,.slice xD xe xf]:=rfl;have hy:(af ⟨yj,ym,yis,⟨yA,yn,yc⟩,yps,⟨yD,ye,yf⟩⟩).toArray=#[.string (aa yj),.string (aa ym),.slice yA yn yc,.slice yD ye yf]:=rfl;have hlt:wS ⟨xj,xm,xis,⟨xA,xn,xc⟩,xps,⟨xD,xe,xf⟩⟩ ⟨yj,ym,yis,⟨yA,yn,yc⟩,yps,⟨yD,ye,yf⟩⟩=Jd.ltL xj yj:=rfl;rw[hx,hy,hlt]
 obtain⟨W1,hW1⟩:∃ W1,w.alloc (.cells #[.string (aa xj),.string (aa xm),.slice xA xn xc,.slice xD xe xf] 28)=W1:=⟨_,rfl⟩
 obtain⟨p,hp⟩:∃ G,w.heap.size=G:=⟨_,rfl⟩
 have k1:Bk W1 p 28 #[.string (aa xj),.string (aa xm),.slice xA xn xc,.slice xD xe xf]:=by rw[← hW1,← hp];exact Bk.new _ _ _
 have b1:Below w.heap.size w W1:=by rw[← hW1];exact(Below.refl _ _).alloc (Nat.le_refl _) _
 obtain⟨W2,hW2⟩:∃ W1',W1.alloc (.cells #[.string (aa yj),.string (aa ym),.slice yA yn yc,.slice yD ye yf] 28)=W1':=⟨_,rfl⟩
 obtain⟨q,hq⟩:∃ G,W1.heap.size=G:=⟨_,rfl⟩
 have k2:Bk W2 q 28 #[.string (aa yj),.string (aa ym),.slice yA yn yc,.slice yD ye yf]:=by rw[← hW2,← hq];exact Bk.new _ _ _
 have b2:Below W1.heap.size W1 W2:=by rw[← hW2];exact(Below.refl _ _).alloc (Nat.le_refl _) _
 have B2:Hid (Below w.heap.size w W2):=b1.trans (b2.mono b1.size);have c0:W2.cell? ⟨p,0,none⟩=some (.string (aa xj)):=(k1.below b2 k1.lt).cell 0;have d0:W2.cell? ⟨q,0,none⟩=some (.string (aa yj)):=k2.cell 0;have hle:Op.bytesLess (aa xj).toList (aa yj).toList=Jd.ltL xj yj:=d7 _ _
 obtain⟨X,hX⟩:∃ X,aa xj=X:=⟨_,rfl⟩
 obtain⟨Y,hY⟩:∃ X,aa yj=X:=⟨_,rfl⟩
 obtain⟨b,hb⟩:∃ b,Jd.ltL xj yj=b:=⟨_,rfl⟩
 rw[hX] at hW1 c0 hle;rw[hY] at hW2 d0 hle;rw[hb] at hle;rw[hX,hY,hb];clear hx hy hlt k1 k2 b1 b2 hX hY hb;go_enter Tryz.func95,Tryz.ntmps95
 go_wp2_with fail
 go_ret
 exact⟨rfl,by first | exact B2.out | (rw[← hp];exact B2.out)⟩
set_option maxHeartbeats 1000000 in
theorem tX (x y:aZ × bm) (w:World) (hO:Okw w) (hx:x.1.jid.length≤1000000000) (hy:y.1.jid.length≤1000000000):Calls Tryz.prog 167 #[.agg (aq x).toArray,.agg (aq y).toArray] w fun e w'=>e=.returned (.bool (j6 x y))∧Below w.heap.size w w':=by
 obtain⟨⟨xj,xm,xg,xs,xk,xa⟩,xA,xn,xc⟩:=x
 obtain⟨⟨yj,ym,yg,ys,yk,ya⟩,yA,yn,yc⟩:=y
 have ex:(aq ⟨⟨xj,xm,xg,xs,xk,xa⟩,xA,xn,xc⟩).toArray=#[.string (aa xj),.string (aa xm),.slice xA xn xc,.int .i64 xs,.bool xk,.bool xa]:=rfl;have ey:(aq ⟨⟨yj,ym,yg,ys,yk,ya⟩,yA,yn,yc⟩).toArray=#[.string (aa yj),.string (aa ym),.slice yA yn yc,.int .i64 ys,.bool yk,.bool ya]:=rfl;have hlt:j6 ⟨⟨xj,xm,xg,xs,xk,xa⟩,xA,xn,xc⟩ ⟨⟨yj,ym,yg,ys,yk,ya⟩,yA,yn,yc⟩=Jd.lessL xj yj:=rfl;rw[ex,ey,hlt];have hx2:xj.length≤1000000000:=hx;have hy2:yj.length≤1000000000:=hy
 obtain⟨W1,hW1⟩:∃ W1,w.alloc (.cells #[.string (aa xj),.string (aa xm),.slice xA xn xc,.int .i64 xs,.bool xk,.bool xa] 53)=W1:=⟨_,rfl⟩
 obtain⟨p,hp⟩:∃ G,w.heap.size=G:=⟨_,rfl⟩
 have k1:Bk W1 p 53 #[.string (aa xj),.string (aa xm),.slice xA xn xc,.int .i64 xs,.bool xk,.bool xa]:=by rw[← hW1,← hp];exact Bk.new _ _ _
 have b1:Below w.heap.size w W1:=by rw[← hW1];exact(Below.refl _ _).alloc (Nat.le_refl _) _
 obtain⟨W2,hW2⟩:∃ W1',W1.alloc (.cells #[.string (aa yj),.string (aa ym),.slice yA yn yc,.int .i64 ys,.bool yk,.bool ya] 53)=W1':=⟨_,rfl⟩
 obtain⟨q,hq⟩:∃ G,W1.heap.size=G:=⟨_,rfl⟩
 have k2:Bk W2 q 53 #[.string (aa yj),.string (aa ym),.slice yA yn yc,.int .i64 ys,.bool yk,.bool ya]:=by rw[← hW2,← hq];exact Bk.new _ _ _
 have b2:Below W1.heap.size W1 W2:=by rw[← hW2];exact(Below.refl _ _).alloc (Nat.le_refl _) _
 have B2:Hid (Below w.heap.size w W2):=b1.trans (b2.mono b1.size);have HL:Hid (Calls Tryz.prog 83 #[.string (aa xj),.string (aa yj)] W2 fun e w'=>e=.returned (.bool (Jd.lessL xj yj))∧Below W2.heap.size W2 w') :=
  kR (aa xj) (aa yj) W2 (hO.below B2.out) (by rw[Lib.size_eq];exact hx2) (by rw[Lib.size_eq];exact hy2)
 have c0:W2.cell? ⟨p,0,none⟩=some (.string (aa xj)):=(k1.below b2 k1.lt).cell 0;have d0:W2.cell? ⟨q,0,none⟩=some (.string (aa yj)):=k2.cell 0
 obtain⟨X,hX⟩:∃ X,aa xj=X:=⟨_,rfl⟩
 obtain⟨Y,hY⟩:∃ X,aa yj=X:=⟨_,rfl⟩
 obtain⟨b,hb⟩:∃ b,Jd.lessL xj yj=b:=⟨_,rfl⟩
 rw[hX,hY,hb] at HL;rw[hX] at hW1 c0;rw[hY] at hW2 d0;rw[hX,hY,hb];clear ex ey hlt k1 k2 b1 b2 hX hY hb hO hx hy hx2 hy2;go_enter Tryz.func167,Tryz.ntmps167
 go_wp2_with fail
 refine HL.out.mono ?_;rintro e w3 ⟨rfl,b3⟩
 go_wp2_with fail
 go_ret
 exact⟨rfl,by first | exact B2.out.trans (b3.mono B2.out.size) | (rw[← hp];exact B2.out.trans (b3.mono B2.out.size))⟩
set_option maxHeartbeats 1000000 in
theorem sW (X M:ByteArray) (A:Option Addr) (n c:Nat) (s:Int) (k a:Bool) (w:World) :
 Calls Tryz.prog 129 #[.agg #[.string X,.string M,.slice A n c,.int .i64 s,.bool k,.bool a]] w fun e w'=>e=.returned (.bool (decide (s=2)||decide (s=3)||a))∧Below w.heap.size w w':=by
 obtain⟨W1,hW1⟩:∃ W1,w.alloc (.cells #[.string X,.string M,.slice A n c,.int .i64 s,.bool k,.bool a] 53)=W1:=⟨_,rfl⟩
 obtain⟨p,hp⟩:∃ G,w.heap.size=G:=⟨_,rfl⟩
 have k1:Bk W1 p 53 #[.string X,.string M,.slice A n c,.int .i64 s,.bool k,.bool a]:=by rw[← hW1,← hp];exact Bk.new _ _ _
 have B1:Hid (Below w.heap.size w W1):=by rw[← hW1];exact(Below.refl _ _).alloc (Nat.le_refl _) _
 have c3:W1.cell? ⟨p,3,none⟩=some (.int .i64 s):=k1.cell 3;have c5:W1.cell? ⟨p,5,none⟩=some (.bool a):=k1.cell 5;have HW1:=Lib.hid hW1;have HP:=Lib.hid hp;clear hW1 hp k1
 by_cases h2:s=2
 · subst h2
   go_enter Tryz.func129,Tryz.ntmps129
   go_upto_region 1 with fail
   (try rw[HW1.out]);(try rw[HP.out])
   go_wp2_with fail
   go_ret
   exact⟨by simp,B1.out⟩
 · have e2:(s==2)=false:=by simpa using h2
   by_cases h3:s=3
   · subst h3
     go_enter Tryz.func129,Tryz.ntmps129
     go_upto_region 1 with fail
     (try rw[HW1.out]);(try rw[HP.out])
     go_wp2_with fail
     go_ret
     exact⟨by simp,B1.out⟩
   · have e3:(s==3)=false:=by simpa using h3
     have HR:Hid ((decide (s=2)||decide (s=3)||a)=a):=by unfold Hid;rw[decide_eq_false h2,decide_eq_false h3];rfl
     go_enter Tryz.func129,Tryz.ntmps129
     go_upto_region 1 with fail
     (try rw[HW1.out]);(try rw[HP.out])
     go_wp2_with fail
     go_ret
     exact⟨by rw[HR.out];rfl,B1.out⟩
theorem jV (v:Value) (l:List (List UInt8)) (x:List UInt8) (w:World) (hR:ReadT w.heap.size w v (ac l)) (hl:l.length≤1000000) :
 Calls Tryz.prog 130 #[v,.string (aa x)] w fun e w'=>e=.returned (.bool (decide (x∈l)))∧Below w.heap.size w w':=by
 have hll:(ac l).length=l.length:=List.length_map _
 by_cases h0:0 < l.length
 · obtain⟨b,off,cap,rfl,hb,hc⟩:=hR.flat (by omega)
   refine(mA b off (ac l).length cap (ac l) (aa x) w (Nat.le_refl _) (by omega) hc).mono ?_
   rintro e w' ⟨rfl,rfl⟩
   refine⟨?_,Below.refl _ _⟩
   have e:Lib.containsS ((ac l).take (ac l).length) (aa x)=decide (x∈l):=by
    rw[List.take_length,Bool.eq_iff_iff,Lib.containsS_iff,decide_eq_true_eq]
    refine⟨fun h=>?_,fun h=>List.mem_map.2 ⟨x,h,rfl⟩⟩
    obtain⟨y,hy,e⟩:=List.mem_map.1 h
    have:x=y:=by have:=congrArg (fun b:ByteArray=>b.data.toList) e;simpa using this.symm
    rw[this];exact hy
   rw[e]
 · obtain rfl:l=[]:=List.length_eq_zero_iff.1 (by omega)
   obtain⟨A,cap,rfl,_⟩:=hR
   refine(ge A cap (aa x) w).mono ?_
   rintro e w' ⟨rfl,rfl⟩
   exact⟨by simp,Below.refl _ _⟩
set_option maxHeartbeats 2000000 in
theorem rG (u:aC) (ub:Nat) (x:aZ × bm) (w:World) (hU:Bk w ub 28 (af u).toArray) (hP:ReadT w.heap.size w (sl u.pv) (ac u.pend)) (hl:u.pend.length≤1000000) :
 Calls Tryz.prog 128 #[.agg (aq x).toArray,.pointer (some ⟨ub,0,none⟩)] w fun e w'=>e=.returned (.bool (fr u x))∧Below w.heap.size w w':=by
 obtain⟨⟨xj,xm,xg,xs,xk,xa⟩,xA,xn,xc⟩:=x
 obtain⟨uj,um,uis,⟨uA,un,uc⟩,ups,⟨uD,ue,uf⟩⟩:=u
 have ex:(aq ⟨⟨xj,xm,xg,xs,xk,xa⟩,xA,xn,xc⟩).toArray=#[.string (aa xj),.string (aa xm),.slice xA xn xc,.int .i64 xs,.bool xk,.bool xa]:=rfl;have hwb:fr ⟨uj,um,uis,⟨uA,un,uc⟩,ups,⟨uD,ue,uf⟩⟩ ⟨⟨xj,xm,xg,xs,xk,xa⟩,xA,xn,xc⟩=((decide (xs=2)||decide (xs=3)||xa)&&decide (xj∈ups)):=rfl;rw[ex,hwb]
 obtain⟨W1,hW1⟩:∃ W1,w.alloc (.cells #[.string (aa xj),.string (aa xm),.slice xA xn xc,.int .i64 xs,.bool xk,.bool xa] 53)=W1:=⟨_,rfl⟩
 obtain⟨p,hp⟩:∃ G,w.heap.size=G:=⟨_,rfl⟩
 have k1:Bk W1 p 53 #[.string (aa xj),.string (aa xm),.slice xA xn xc,.int .i64 xs,.bool xk,.bool xa]:=by rw[← hW1,← hp];exact Bk.new _ _ _
 have b1:Below w.heap.size w W1:=by rw[← hW1];exact(Below.refl _ _).alloc (Nat.le_refl _) _
 have HL:=Lib.hid (sW (aa xj) (aa xm) xA xn xc xs xk xa W1);have HC:Hid (∀ W,Below W1.heap.size W1 W→Calls Tryz.prog 130 #[.slice uD ue uf,.string (aa xj)] W fun e w'=>e=.returned (.bool (decide (xj∈ups)))∧Below W.heap.size W w'):=fun W hW =>
  jV (.slice uD ue uf) ups xj W (hP.upon (b1.trans (hW.mono b1.size))) hl
 have K1:=Lib.hid k1;have HU:Hid (∀ W,Below W1.heap.size W1 W→W.cell? ⟨ub,3,none⟩=some (.slice uD ue uf)):=fun W hW=>(hU.below (b1.trans (hW.mono b1.size)) hU.lt).cell 3
 have B1:=Lib.hid b1;have HW1:=Lib.hid hW1;have HP:=Lib.hid hp
 obtain⟨X,hX⟩:∃ X,aa xj=X:=⟨_,rfl⟩
 obtain⟨M,hM⟩:∃ X,aa xm=X:=⟨_,rfl⟩
 obtain⟨r,hr⟩:∃ r,(decide (xs=2)||decide (xs=3)||xa)=r:=⟨_,rfl⟩
 obtain⟨t,ht⟩:∃ r,decide (xj∈ups)=r:=⟨_,rfl⟩
 rw[hX,hM] at HW1 K1;rw[hX,hM,hr] at HL;rw[hX,ht] at HC;rw[hX,hM,hr,ht];clear hW1 hp k1 b1 ex hwb hU hP hl hX hM hr ht;go_enter Tryz.func128,Tryz.ntmps128
 go_upto_region 1 with fail
 (try rw[HW1.out]);(try rw[HP.out]);have c0:W1.cell? ⟨p,0,none⟩=some (.string X):=K1.out.cell 0;have c1:W1.cell? ⟨p,1,none⟩=some (.string M):=K1.out.cell 1;have c2:W1.cell? ⟨p,2,none⟩=some (.slice xA xn xc):=K1.out.cell 2;have c3:W1.cell? ⟨p,3,none⟩=some (.int .i64 xs):=K1.out.cell 3;have c4:W1.cell? ⟨p,4,none⟩=some (.bool xk):=K1.out.cell 4;have c5:W1.cell? ⟨p,5,none⟩=some (.bool xa):=K1.out.cell 5
 go_wp2_with fail
 refine HL.out.mono ?_;rintro e w2 ⟨rfl,b2⟩;have B2:=Lib.hid (B1.out.trans (b2.mono B1.out.size));have HC2:=Lib.hid (HC.out w2 b2);have d0:w2.cell? ⟨p,0,none⟩=some (.string X):=(K1.out.below b2 K1.out.lt).cell 0;have d3:=HU.out w2 b2;clear c0 c1 c2 c3 c4 c5 b2;cases r with
 | false =>
   go_wp2_with fail
   go_ret
   exact⟨rfl,B2.out⟩
 | true =>
   go_wp2_with fail
   refine HC2.out.mono ?_;rintro e w3 ⟨rfl,b3⟩;have B3:=Lib.hid (B2.out.trans (b3.mono B2.out.size));clear b3
   go_wp2_with fail
   go_ret
   exact⟨by simp,B3.out⟩
theorem qC {α:Type} [Inhabited α] (p:α→Bool) (l:List α):decide (Lib.idxBy (fun _ y=>p y) l default≥0)=l.any p:=by
 have hidx:Lib.idxBy (fun (_:α) y=>p y) l default=Lib.idxByFrom (fun (_:α) y=>p y) default l 0:=rfl;rw[hidx];rcases idxByFrom_spec (fun (_:α) y=>p y) default l 0 with ⟨hm,hno⟩ | ⟨k,hk,hm,hyes,_⟩
 · rw[hm]
   have e:l.any p=false:=List.any_eq_false.2 fun x hx=>by
    obtain⟨i,hi,rfl⟩:=List.getElem_of_mem hx
    have:=hno i hi
    rw[getElem!_pos l i hi] at this;rw[this];decide
   rw[e];decide
 · rw[hm]
   have e:l.any p=true:=List.any_eq_true.2 ⟨l[k]!,by rw[getElem!_pos l k hk];exact List.getElem_mem hk,hyes⟩;rw[e];exact decide_eq_true (by omega)
set_option maxHeartbeats 1000000 in
theorem ss (v:Value) (l:List (aZ × bm)) (u:aC) (ub:Nat) (w:World) (hR:RowV aq 6 w.heap.size w v l) (hl:l.length≤1000000) (hU:Bk w ub 28 (af u).toArray) (hP:ReadT w.heap.size w (sl u.pv) (ac u.pend)) (hp:u.pend.length≤1000000) :
 Calls Tryz.prog 127 #[v,.func (.func 128) #[] #[.pointer (some ⟨ub,0,none⟩)]] w fun e w'=>e=.returned (.bool (l.any (fr u)))∧Below w.heap.size w w':=by
 obtain⟨A,cap,rfl,hA⟩:=hR
 have HI:Hid (∃ z:Int,decide (z≥0)=l.any (fr u)∧Calls Tryz.prog 169 #[.slice A l.length cap,.func (.func 128) #[] #[.pointer (some ⟨ub,0,none⟩)]] w fun e w'=>e=.returned (.int .i64 z)∧Below w.heap.size w w'):=by
  by_cases h0:0 < l.length
  · obtain⟨b,off,rfl,hb,hc⟩:=hA h0
    have hI:=AnyQ.slices_IndexFunc Tryz.idxItem 6 Tryz.isAgg53 Tryz.sizeOf53 aq (fun _=>rfl) (fr u) 128 #[.pointer (some ⟨ub,0,none⟩)] (Go.Proofs.enters_of Tryz.func128 (by kernel_rfl) rfl) b off l.length cap l w
     (fun W p hb2=>(rG u ub p W (hU.below hb2 hU.lt) (hP.upon hb2) hp).mono fun _ _ ⟨he,hw⟩=>⟨he,hb2.trans (hw.mono hb2.size)⟩) (Nat.le_refl _) (by omega) hb
     (fun i hi c u hu=>hc i _ (by rw[getElem!_pos l i hi];exact List.getElem?_eq_getElem hi) c u hu)
    rw[List.take_length] at hI
    exact⟨_,qC _ _,hI⟩
  · obtain rfl:l=[]:=List.length_eq_zero_iff.1 (by omega)
    refine⟨-1,by simp,(nB A cap _ w).mono ?_⟩
    rintro e w' ⟨rfl,rfl⟩
    exact⟨rfl,Below.refl _ _⟩
 obtain⟨z,hz,hI⟩:=HI.out
 have H:=Lib.hid hI
 obtain⟨r,hr⟩:∃ r,l.any (fr u)=r:=⟨_,rfl⟩
 rw[hr] at hz ⊢
 obtain⟨N,hN⟩:∃ N,l.length=N:=⟨_,rfl⟩
 rw[hN] at H ⊢;clear hA hl hU hP hp HI hI hr hN;go_enter Tryz.func127,Tryz.ntmps127
 go_wp2_with fail
 refine H.out.mono ?_;rintro e w1 ⟨rfl,b1⟩
 go_wp2_with fail
 go_ret
 exact⟨by rw[← hz];rfl,b1⟩
abbrev fL (w:World) (g:Nat) (a b c:Value):World:=((w.setCell ⟨g,0,none⟩ a).setCell ⟨g,1,none⟩ b).setCell ⟨g,2,none⟩ c
theorem eN {w:World} {g:Nat} {t:TypeId} {x0 x1 x2:Value} (h:Bk w g t #[x0,x1,x2]) (a b c:Value):Bk (fL w g a b c) g t #[a,b,c]:=by
 have:=((h.put 0 a).put 1 b).put 2 c
 simpa [fL] using this
theorem dp {w0 w:World} {B g:Nat} (h:Below B w0 w) (hg:B≤g) (a b c:Value):Below B w0 (fL w g a b c) :=
 ((h.setCell (p:=⟨g,0,none⟩) hg _).setCell (p:=⟨g,1,none⟩) hg _).setCell (p:=⟨g,2,none⟩) hg _
set_option maxHeartbeats 1000000 in
theorem oa (w:World):Calls Tryz.prog 35 #[] w fun e w'=>e=.returned (.agg #[.int .i64 5,.func (.func 64) #[] #[],.func (.func 65) #[] #[]])∧Below w.heap.size w w':=by
 obtain⟨W1,hW1⟩:∃ W1,w.alloc (.cells #[.int .i64 0,.nilFunc,.nilFunc] 68)=W1:=⟨_,rfl⟩
 obtain⟨p,hp⟩:∃ G,w.heap.size=G:=⟨_,rfl⟩
 have K1:Hid (Bk W1 p 68 #[.int .i64 0,.nilFunc,.nilFunc]):=by rw[← hW1,← hp];exact Bk.new _ _ _
 have B1:Below w.heap.size w W1:=by rw[← hW1];exact(Below.refl _ _).alloc (Nat.le_refl _) _
 have HPW:Hid (w.heap.size≤p):=by rw[← hp];exact Nat.le_refl _
 have K2:=Lib.hid (eN K1.out (.int .i64 5) (.func (.func 64) #[] #[]) (.func (.func 65) #[] #[]));have B2:=Lib.hid (dp B1 HPW.out (.int .i64 5) (.func (.func 64) #[] #[]) (.func (.func 65) #[] #[]))
 obtain⟨w2,hw2⟩:∃ z,fL W1 p (.int .i64 5) (.func (.func 64) #[] #[]) (.func (.func 65) #[] #[])=z:=⟨_,rfl⟩
 rw[hw2] at K2 B2;have q0:W1.cell? ⟨p,0,none⟩=some (.int .i64 0):=K1.out.cell 0;have f0:W1.frozen? ⟨p,0,none⟩=false:=K1.out.free 0;have q1:W1.cell? ⟨p,1,none⟩=some (.nilFunc):=K1.out.cell 1;have f1:W1.frozen? ⟨p,1,none⟩=false:=K1.out.free 1;have q2:W1.cell? ⟨p,2,none⟩=some (.nilFunc):=K1.out.cell 2;have f2:W1.frozen? ⟨p,2,none⟩=false:=K1.out.free 2;have HW1:=Lib.hid hW1;have HP:=Lib.hid hp;clear hW1 hp;go_enter Tryz.func35,Tryz.ntmps35
 go_upto_region 1 with fail
 (try rw[HW1.out]);(try rw[HP.out])
 go_wp2_with fail
 (try rw[hw2]);have j0:w2.cell? ⟨p,0,none⟩=some (.int .i64 5):=K2.out.cell 0;have j1:w2.cell? ⟨p,1,none⟩=some (.func (.func 64) #[] #[]):=K2.out.cell 1;have j2:w2.cell? ⟨p,2,none⟩=some (.func (.func 65) #[] #[]):=K2.out.cell 2;refine bodyPost_ret (v:=.agg #[.int .i64 5,.func (.func 64) #[] #[],.func (.func 65) #[] #[]]) (by simp[results,Tryz.results35,go_sem,j0,j1,j2]) rfl ?_
 exact⟨rfl,B2.out⟩
set_option maxHeartbeats 1000000 in
theorem ol (w:World):Calls Tryz.prog 67 #[] w fun e w'=>e=.returned (.agg #[.int .i64 20,.func (.func 95) #[] #[],.func (.func 96) #[] #[]])∧Below w.heap.size w w':=by
 obtain⟨W1,hW1⟩:∃ W1,w.alloc (.cells #[.int .i64 0,.nilFunc,.nilFunc] 95)=W1:=⟨_,rfl⟩
 obtain⟨p,hp⟩:∃ G,w.heap.size=G:=⟨_,rfl⟩
 have K1:Hid (Bk W1 p 95 #[.int .i64 0,.nilFunc,.nilFunc]):=by rw[← hW1,← hp];exact Bk.new _ _ _
 have B1:Below w.heap.size w W1:=by rw[← hW1];exact(Below.refl _ _).alloc (Nat.le_refl _) _
 have HPW:Hid (w.heap.size≤p):=by rw[← hp];exact Nat.le_refl _
 have K2:=Lib.hid (eN K1.out (.int .i64 20) (.func (.func 95) #[] #[]) (.func (.func 96) #[] #[]));have B2:=Lib.hid (dp B1 HPW.out (.int .i64 20) (.func (.func 95) #[] #[]) (.func (.func 96) #[] #[]))
 obtain⟨w2,hw2⟩:∃ z,fL W1 p (.int .i64 20) (.func (.func 95) #[] #[]) (.func (.func 96) #[] #[])=z:=⟨_,rfl⟩
 rw[hw2] at K2 B2;have q0:W1.cell? ⟨p,0,none⟩=some (.int .i64 0):=K1.out.cell 0;have f0:W1.frozen? ⟨p,0,none⟩=false:=K1.out.free 0;have q1:W1.cell? ⟨p,1,none⟩=some (.nilFunc):=K1.out.cell 1;have f1:W1.frozen? ⟨p,1,none⟩=false:=K1.out.free 1;have q2:W1.cell? ⟨p,2,none⟩=some (.nilFunc):=K1.out.cell 2;have f2:W1.frozen? ⟨p,2,none⟩=false:=K1.out.free 2;have HW1:=Lib.hid hW1;have HP:=Lib.hid hp;clear hW1 hp;go_enter Tryz.func67,Tryz.ntmps67
 go_upto_region 1 with fail
 (try rw[HW1.out]);(try rw[HP.out])
 go_wp2_with fail
 (try rw[hw2]);have j0:w2.cell? ⟨p,0,none⟩=some (.int .i64 20):=K2.out.cell 0;have j1:w2.cell? ⟨p,1,none⟩=some (.func (.func 95) #[] #[]):=K2.out.cell 1;have j2:w2.cell? ⟨p,2,none⟩=some (.func (.func 96) #[] #[]):=K2.out.cell 2;refine bodyPost_ret (v:=.agg #[.int .i64 20,.func (.func 95) #[] #[],.func (.func 96) #[] #[]]) (by simp[results,Tryz.results67,go_sem,j0,j1,j2]) rfl ?_
 exact⟨rfl,B2.out⟩
set_option maxHeartbeats 1000000 in
theorem nY (w:World):Calls Tryz.prog 124 #[] w fun e w'=>e=.returned (.agg #[.int .i64 60,.func (.func 167) #[] #[],.func (.func 168) #[] #[]])∧Below w.heap.size w w':=by
 obtain⟨W1,hW1⟩:∃ W1,w.alloc (.cells #[.int .i64 0,.nilFunc,.nilFunc] 141)=W1:=⟨_,rfl⟩
 obtain⟨p,hp⟩:∃ G,w.heap.size=G:=⟨_,rfl⟩
 have K1:Hid (Bk W1 p 141 #[.int .i64 0,.nilFunc,.nilFunc]):=by rw[← hW1,← hp];exact Bk.new _ _ _
 have B1:Below w.heap.size w W1:=by rw[← hW1];exact(Below.refl _ _).alloc (Nat.le_refl _) _
 have HPW:Hid (w.heap.size≤p):=by rw[← hp];exact Nat.le_refl _
 have K2:=Lib.hid (eN K1.out (.int .i64 60) (.func (.func 167) #[] #[]) (.func (.func 168) #[] #[]));have B2:=Lib.hid (dp B1 HPW.out (.int .i64 60) (.func (.func 167) #[] #[]) (.func (.func 168) #[] #[]))
 obtain⟨w2,hw2⟩:∃ z,fL W1 p (.int .i64 60) (.func (.func 167) #[] #[]) (.func (.func 168) #[] #[])=z:=⟨_,rfl⟩
 rw[hw2] at K2 B2;have q0:W1.cell? ⟨p,0,none⟩=some (.int .i64 0):=K1.out.cell 0;have f0:W1.frozen? ⟨p,0,none⟩=false:=K1.out.free 0;have q1:W1.cell? ⟨p,1,none⟩=some (.nilFunc):=K1.out.cell 1;have f1:W1.frozen? ⟨p,1,none⟩=false:=K1.out.free 1;have q2:W1.cell? ⟨p,2,none⟩=some (.nilFunc):=K1.out.cell 2;have f2:W1.frozen? ⟨p,2,none⟩=false:=K1.out.free 2;have HW1:=Lib.hid hW1;have HP:=Lib.hid hp;clear hW1 hp;go_enter Tryz.func124,Tryz.ntmps124
 go_upto_region 1 with fail
 (try rw[HW1.out]);(try rw[HP.out])
 go_wp2_with fail
 (try rw[hw2]);have j0:w2.cell? ⟨p,0,none⟩=some (.int .i64 60):=K2.out.cell 0;have j1:w2.cell? ⟨p,1,none⟩=some (.func (.func 167) #[] #[]):=K2.out.cell 1;have j2:w2.cell? ⟨p,2,none⟩=some (.func (.func 168) #[] #[]):=K2.out.cell 2;refine bodyPost_ret (v:=.agg #[.int .i64 60,.func (.func 167) #[] #[],.func (.func 168) #[] #[]]) (by simp[results,Tryz.results124,go_sem,j0,j1,j2]) rfl ?_
 exact⟨rfl,B2.out⟩
set_option maxHeartbeats 1000000 in
theorem ma (w:World):Calls Tryz.prog 50 #[] w fun e w'=>e=.returned (.agg #[.int .i64 60,.func (.func 83) #[] #[],.func (.func 84) #[] #[]])∧Below w.heap.size w w':=by
 obtain⟨W1,hW1⟩:∃ W1,w.alloc (.cells #[.int .i64 0,.nilFunc,.nilFunc] 83)=W1:=⟨_,rfl⟩
 obtain⟨p,hp⟩:∃ G,w.heap.size=G:=⟨_,rfl⟩
 have K1:Hid (Bk W1 p 83 #[.int .i64 0,.nilFunc,.nilFunc]):=by rw[← hW1,← hp];exact Bk.new _ _ _
 have B1:Below w.heap.size w W1:=by rw[← hW1];exact(Below.refl _ _).alloc (Nat.le_refl _) _
 have HPW:Hid (w.heap.size≤p):=by rw[← hp];exact Nat.le_refl _
 have K2:=Lib.hid (eN K1.out (.int .i64 60) (.func (.func 83) #[] #[]) (.func (.func 84) #[] #[]));have B2:=Lib.hid (dp B1 HPW.out (.int .i64 60) (.func (.func 83) #[] #[]) (.func (.func 84) #[] #[]))
 obtain⟨w2,hw2⟩:∃ z,fL W1 p (.int .i64 60) (.func (.func 83) #[] #[]) (.func (.func 84) #[] #[])=z:=⟨_,rfl⟩
 rw[hw2] at K2 B2;have q0:W1.cell? ⟨p,0,none⟩=some (.int .i64 0):=K1.out.cell 0;have f0:W1.frozen? ⟨p,0,none⟩=false:=K1.out.free 0;have q1:W1.cell? ⟨p,1,none⟩=some (.nilFunc):=K1.out.cell 1;have f1:W1.frozen? ⟨p,1,none⟩=false:=K1.out.free 1;have q2:W1.cell? ⟨p,2,none⟩=some (.nilFunc):=K1.out.cell 2;have f2:W1.frozen? ⟨p,2,none⟩=false:=K1.out.free 2;have HW1:=Lib.hid hW1;have HP:=Lib.hid hp;clear hW1 hp;go_enter Tryz.func50,Tryz.ntmps50
 go_upto_region 1 with fail
 (try rw[HW1.out]);(try rw[HP.out])
 go_wp2_with fail
 (try rw[hw2]);have j0:w2.cell? ⟨p,0,none⟩=some (.int .i64 60):=K2.out.cell 0;have j1:w2.cell? ⟨p,1,none⟩=some (.func (.func 83) #[] #[]):=K2.out.cell 1;have j2:w2.cell? ⟨p,2,none⟩=some (.func (.func 84) #[] #[]):=K2.out.cell 2;refine bodyPost_ret (v:=.agg #[.int .i64 60,.func (.func 83) #[] #[],.func (.func 84) #[] #[]]) (by simp[results,Tryz.results50,go_sem,j0,j1,j2]) rfl ?_
 exact⟨rfl,B2.out⟩
end Go.Proofs.YtbgaglcgennhiaaGreatDoor
