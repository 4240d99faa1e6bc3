import Derived.Test.YtbgaglcgennhiaaGreatDoorP27
import Derived.Test.YtbgaglcgennhiaaGreatDoorP24
import Derived.Test.YtbgaglcgennhiaaGreatDoorP28
import Derived.Test.YtbgaglcgennhiaaGreatDoorP03
import Derived.Test.YtbgaglcgennhiaaGreatDoorP14
import Derived.BigQuiet
import Derived.Test.YtbgaglcgennhiaaGreatDoorP18
import Derived.Test.YtbgaglcgennhiaaGreatDoorP26
import Derived.Lib.Strings
import Derived.Test.YtbgaglcgennhiaaGreatDoorP25
import Derived.Test.YtbgaglcgennhiaaGreatDoorP07
section
namespace Go.Proofs.YtbgaglcgennhiaaGreatDoor
open Sy Tx Ct
def vz (x y:aZ):Bool:=Jd.lessL x.jid y.jid
theorem tp (L:List bq):(an fq L).map (fun x=>x.1.1)=an vz (L.map fun x=>x.1.1):=(kB (fun x:bq=>x.1.1) (lt:=fq) (lt':=vz) (fun _ _=>rfl) L).symm
end Go.Proofs.YtbgaglcgennhiaaGreatDoor
end
section
namespace Go.Proofs.YtbgaglcgennhiaaGreatDoor
open Go.RowKit Go.Sort Sy Tx Ct
namespace Sy
variable {α:Type} [Inhabited α] {ai:α→List Value} {k:Nat} {W0 W W':World} {B:Nat} {d:Array α}
end Sy
end Go.Proofs.YtbgaglcgennhiaaGreatDoor
end
section
namespace Go.Proofs.YtbgaglcgennhiaaGreatDoor
open Go.RowKit Tx Ct
set_option maxHeartbeats 4000000 in
set_option maxRecDepth 100000 in
theorem pd (x:aZ) (g1 g2:bm) (w:World) (h1:ReadT w.heap.size w (sl g1) (ac x.groups)) (h2:ReadT w.heap.size w (sl g2) (ac x.groups)) (hl:x.groups.length≤140737488355328) :
 Calls Tryz.prog 82 #[fp x (sl g1),fp x (sl g2)] w fun e w'=>e=.returned (.bool true)∧Below w.heap.size w w':=by
 obtain⟨pA,pn,pc⟩:=g1
 obtain⟨qA,qn,qc⟩:=g2
 have HPL:Hid (∀ W,Below w.heap.size w W→Calls Tryz.prog 23 #[.slice pA pn pc,.slice qA qn qc] W fun e w'=>e=.returned (.bool true)∧Below W.heap.size W w'):=fun W hW=>by
  have:=jf W.heap.size (.slice pA pn pc) (.slice qA qn qc) (ac x.groups) (ac x.groups) W ((h1.below hW).more hW.size) ((h2.below hW).more hW.size) (by unfold ac;rw[List.length_map];exact hl) (by unfold ac;rw[List.length_map];exact hl)
  rw[decide_eq_true rfl] at this;exact this
 have e1:fp x (sl (pA,pn,pc))=.agg #[.string (aa x.jid),.string (aa x.name),.slice pA pn pc,.int .i64 x.sub,.bool x.ask,.bool x.app]:=rfl;have e2:fp x (sl (qA,qn,qc))=.agg #[.string (aa x.jid),.string (aa x.name),.slice qA qn qc,.int .i64 x.sub,.bool x.ask,.bool x.app]:=rfl;rw[e1,e2]
 obtain⟨X,hX⟩:∃ X,aa x.jid=X:=⟨_,rfl⟩
 obtain⟨M,hM⟩:∃ X,aa x.name=X:=⟨_,rfl⟩
 obtain⟨xs,hs⟩:∃ X,x.sub=X:=⟨_,rfl⟩
 obtain⟨xk,hk⟩:∃ X,x.ask=X:=⟨_,rfl⟩
 obtain⟨xa,ha⟩:∃ X,x.app=X:=⟨_,rfl⟩
 rw[hX,hM,hs,hk,ha];clear e1 e2 hX hM hs hk ha h1 h2 hl
 obtain⟨W1,hW1⟩:∃ W1,w.alloc (.cells #[.string X,.string M,.slice pA pn pc,.int .i64 xs,.bool xk,.bool xa] 53)=W1:=⟨_,rfl⟩
 obtain⟨p,hp⟩:∃ G,w.heap.size=G:=⟨_,rfl⟩
 have k1:Bk W1 p 53 #[.string X,.string M,.slice pA pn pc,.int .i64 xs,.bool xk,.bool xa]:=by rw[← hW1,← hp];exact Bk.new _ _ _
 have b1:Below w.heap.size w W1:=by rw[← hW1];exact(Below.refl _ _).alloc (Nat.le_refl _) _
 obtain⟨W2,hW2⟩:∃ W1',W1.alloc (.cells #[.string X,.string M,.slice qA qn qc,.int .i64 xs,.bool xk,.bool xa] 53)=W1':=⟨_,rfl⟩
 obtain⟨q,hq⟩:∃ G,W1.heap.size=G:=⟨_,rfl⟩
 have k2:Bk W2 q 53 #[.string X,.string M,.slice qA qn qc,.int .i64 xs,.bool xk,.bool xa]:=by rw[← hW2,← hq];exact Bk.new _ _ _
 have b2:Below W1.heap.size W1 W2:=by rw[← hW2];exact(Below.refl _ _).alloc (Nat.le_refl _) _
 have B2:Hid (Below w.heap.size w W2):=b1.trans (b2.mono b1.size);have k3:=k1.below b2 k1.lt;have HP:=Lib.hid hp;have c0:W2.cell? ⟨p,0,none⟩=some (.string X):=k3.cell 0;have d0:W2.cell? ⟨q,0,none⟩=some (.string X):=k2.cell 0;have c1:W2.cell? ⟨p,1,none⟩=some (.string M):=k3.cell 1;have d1:W2.cell? ⟨q,1,none⟩=some (.string M):=k2.cell 1;have c2:W2.cell? ⟨p,2,none⟩=some (.slice pA pn pc):=k3.cell 2;have d2:W2.cell? ⟨q,2,none⟩=some (.slice qA qn qc):=k2.cell 2;have c3:W2.cell? ⟨p,3,none⟩=some (.int .i64 xs):=k3.cell 3;have d3:W2.cell? ⟨q,3,none⟩=some (.int .i64 xs):=k2.cell 3;have c4:W2.cell? ⟨p,4,none⟩=some (.bool xk):=k3.cell 4;have d4:W2.cell? ⟨q,4,none⟩=some (.bool xk):=k2.cell 4;have c5:W2.cell? ⟨p,5,none⟩=some (.bool xa):=k3.cell 5;have d5:W2.cell? ⟨q,5,none⟩=some (.bool xa):=k2.cell 5;have t1:(X.toList==X.toList)=true:=by simp
 have t2:(M.toList==M.toList)=true:=by simp
 clear k1 k2 k3 b1 b2;go_enter Tryz.func82,Tryz.ntmps82
 go_wp2_with fail
 refine(HPL.out W2 B2.out).mono ?_
 rintro e w3 ⟨rfl,b3⟩;have BF:Hid (Below w.heap.size w w3):=B2.out.trans (b3.mono B2.out.size);clear b3
 go_wp2_with fail
 go_ret
 exact⟨rfl,by first | exact BF.out | (rw[← HP.out];exact BF.out)⟩
theorem ws {l l2:List (aZ × bm)} (hm:l.map (·.1)=l2.map (·.1)) {k:Nat} {x:aZ} {g:bm} (h:l[k]?=some (x,g)):∃ g2,l2[k]?=some (x,g2):=by
 have h2:(l2.map (·.1))[k]?=some x:=by rw[← hm,List.getElem?_map,h];rfl
 rw[List.getElem?_map] at h2
 obtain⟨⟨y,g2⟩,hy,rfl⟩:=Option.map_eq_some_iff.1 h2
 exact⟨g2,hy⟩
set_option maxHeartbeats 8000000 in
set_option maxRecDepth 100000 in
theorem oU (v u:Value) (l l2:List (aZ × bm)) (w:World) (h1:ReadI w.heap.size w v l) (h2:ReadI w.heap.size w u l2) (hm:l.map (·.1)=l2.map (·.1)) (hl:l.length≤1000000) (hg:∀ p∈l,p.1.groups.length≤140737488355328) :
 Calls Tryz.prog 81 #[v,u,.func (.func 82) #[] #[]] w fun e w'=>e=.returned (.bool true)∧Below w.heap.size w w':=by
 obtain⟨A1,cap1,rfl,hA1,hT1⟩:=h1
 obtain⟨A2,cap2,rfl,hA2,hT2⟩:=h2
 have hll:l2.length=l.length:=by have:=congrArg List.length hm;simpa using this.symm
 rw[hll] at hA2 ⊢
 obtain⟨n,hn⟩:∃ n,l.length=n:=⟨_,rfl⟩
 have HN:=Lib.hid hn;rw[hn] at hA1 hA2 hl ⊢;have HA1:=Lib.hid hA1;have HA2:=Lib.hid hA2;have HT1:=Lib.hid hT1;have HT2:=Lib.hid hT2;have HMM:=Lib.hid hm;have HGG:=Lib.hid hg;have hnn:((n:Int) != (n:Int))=false:=by simp
 clear hA1 hA2 hT1 hT2 hm hg hn hll;go_enter Tryz.func81,Tryz.ntmps81
 go_wp2_with fail
 go_loopw [7] (fun i wr=>∃ (k:Nat),k≤n∧i=.int .i64 k∧Hid (Below w.heap.size w wr)) (fun i _=>n - (intOf i).toNat)
 case atStart=>exact⟨0,Nat.zero_le _,rfl,Below.refl _ _⟩
 case round =>
  obtain⟨k,hk,rfl,BW⟩:=hrel
  by_cases hkn:k < n
  · have hkz:(k:Int) < (n:Int):=by omega
    have hk0:(0:Int)≤(k:Int):=by omega
    obtain⟨b1,o1,rfl,hb1,hc1⟩:=HA1.out (by omega)
    obtain⟨b2,o2,rfl,hb2,hc2⟩:=HA2.out (by omega)
    obtain⟨⟨x,g1⟩,hx⟩:∃ p,l[k]?=some p:=⟨_,List.getElem?_eq_getElem (by rw[HN.out];exact hkn)⟩
    obtain⟨g2,hx2⟩:=ws HMM.out hx
    have hm1:(x,g1)∈l:=List.mem_of_getElem? hx;have hm2:(x,g2)∈l2:=List.mem_of_getElem? hx2;have BWW:∀ W,Below wr.heap.size wr W→Below w.heap.size w W:=fun W hW=>BW.out.trans (hW.mono BW.out.size)
    have hcal:∀ p:Sy.Bel wr,Calls Tryz.prog 82 #[fp x (sl g1),fp x (sl g2)] p.v fun e w'=>e=.returned (.bool true)∧Below p.v.heap.size p.v w':=fun p =>
     pd x g1 g2 p.v (((HT1.out _ hm1).below (BWW p.v p.h)).more (BWW p.v p.h).size) (((HT2.out _ hm2).below (BWW p.v p.h)).more (BWW p.v p.h).size) (HGG.out _ hm1)
    obtain⟨P,hP⟩:∃ P,o1+k*6=P:=⟨_,rfl⟩
    obtain⟨Q,hQ⟩:∃ P,o2+k*6=P:=⟨_,rfl⟩
    obtain⟨xj,xm,xg,xs,xk,xa⟩:=x
    obtain⟨pA,pn,pc⟩:=g1
    obtain⟨qA,qn,qc⟩:=g2
    obtain⟨X,hX⟩:∃ J,aa xj=J:=⟨_,rfl⟩
    obtain⟨M,hM⟩:∃ J,aa xm=J:=⟨_,rfl⟩
    have e1:gK ⟨xj,xm,xg,xs,xk,xa⟩ (sl (pA,pn,pc))=[.string X,.string M,.slice pA pn pc,.int .i64 xs,.bool xk,.bool xa]:=by rw[← hX,← hM];rfl
    have e2:gK ⟨xj,xm,xg,xs,xk,xa⟩ (sl (qA,qn,qc))=[.string X,.string M,.slice qA qn qc,.int .i64 xs,.bool xk,.bool xa]:=by rw[← hX,← hM];rfl
    have q0:∀ v:Sy.Bel wr,v.v.cell? ⟨b1,P,none⟩=some (.string X):=fun v=>by rw[(BWW v.v v.h).cell (p:=⟨b1,P,none⟩) hb1,← hP];exact hc1 k _ hx 0 _ (by rw[e1];rfl)
    have r0:∀ v:Sy.Bel wr,v.v.cell? ⟨b2,Q,none⟩=some (.string X):=fun v=>by rw[(BWW v.v v.h).cell (p:=⟨b2,Q,none⟩) hb2,← hQ];exact hc2 k _ hx2 0 _ (by rw[e2];rfl)
    have q1:∀ v:Sy.Bel wr,v.v.cell? ⟨b1,P+1,none⟩=some (.string M):=fun v=>by rw[(BWW v.v v.h).cell (p:=⟨b1,P+1,none⟩) hb1,← hP];exact hc1 k _ hx 1 _ (by rw[e1];rfl)
    have r1:∀ v:Sy.Bel wr,v.v.cell? ⟨b2,Q+1,none⟩=some (.string M):=fun v=>by rw[(BWW v.v v.h).cell (p:=⟨b2,Q+1,none⟩) hb2,← hQ];exact hc2 k _ hx2 1 _ (by rw[e2];rfl)
    have q2:∀ v:Sy.Bel wr,v.v.cell? ⟨b1,P+2,none⟩=some (.slice pA pn pc):=fun v=>by rw[(BWW v.v v.h).cell (p:=⟨b1,P+2,none⟩) hb1,← hP];exact hc1 k _ hx 2 _ (by rw[e1];rfl)
    have r2:∀ v:Sy.Bel wr,v.v.cell? ⟨b2,Q+2,none⟩=some (.slice qA qn qc):=fun v=>by rw[(BWW v.v v.h).cell (p:=⟨b2,Q+2,none⟩) hb2,← hQ];exact hc2 k _ hx2 2 _ (by rw[e2];rfl)
    have q3:∀ v:Sy.Bel wr,v.v.cell? ⟨b1,P+3,none⟩=some (.int .i64 xs):=fun v=>by rw[(BWW v.v v.h).cell (p:=⟨b1,P+3,none⟩) hb1,← hP];exact hc1 k _ hx 3 _ (by rw[e1];rfl)
    have r3:∀ v:Sy.Bel wr,v.v.cell? ⟨b2,Q+3,none⟩=some (.int .i64 xs):=fun v=>by rw[(BWW v.v v.h).cell (p:=⟨b2,Q+3,none⟩) hb2,← hQ];exact hc2 k _ hx2 3 _ (by rw[e2];rfl)
    have q4:∀ v:Sy.Bel wr,v.v.cell? ⟨b1,P+4,none⟩=some (.bool xk):=fun v=>by rw[(BWW v.v v.h).cell (p:=⟨b1,P+4,none⟩) hb1,← hP];exact hc1 k _ hx 4 _ (by rw[e1];rfl)
    have r4:∀ v:Sy.Bel wr,v.v.cell? ⟨b2,Q+4,none⟩=some (.bool xk):=fun v=>by rw[(BWW v.v v.h).cell (p:=⟨b2,Q+4,none⟩) hb2,← hQ];exact hc2 k _ hx2 4 _ (by rw[e2];rfl)
    have q5:∀ v:Sy.Bel wr,v.v.cell? ⟨b1,P+5,none⟩=some (.bool xa):=fun v=>by rw[(BWW v.v v.h).cell (p:=⟨b1,P+5,none⟩) hb1,← hP];exact hc1 k _ hx 5 _ (by rw[e1];rfl)
    have r5:∀ v:Sy.Bel wr,v.v.cell? ⟨b2,Q+5,none⟩=some (.bool xa):=fun v=>by rw[(BWW v.v v.h).cell (p:=⟨b2,Q+5,none⟩) hb2,← hQ];exact hc2 k _ hx2 5 _ (by rw[e2];rfl)
    have a1:fp ⟨xj,xm,xg,xs,xk,xa⟩ (sl (pA,pn,pc))=.agg #[.string X,.string M,.slice pA pn pc,.int .i64 xs,.bool xk,.bool xa]:=by unfold fp;rw[e1]
    have a2:fp ⟨xj,xm,xg,xs,xk,xa⟩ (sl (qA,qn,qc))=.agg #[.string X,.string M,.slice qA qn qc,.int .i64 xs,.bool xk,.bool xa]:=by unfold fp;rw[e2]
    rw[a1,a2] at hcal;clear e1 e2 a1 a2 hX hM hc1 hc2 hx hx2 hm1 hm2 BWW hb1 hb2
    go_wp2_with fail
    refine Sy.wp_region_quiet_bel (by kernel_rfl) (by kernel_rfl) ?_
    repeat (go_big_quiet_step ((go_at_call 82;exact Sy.Calls.bel_of (hcal _))))
    refine wpQuiet_nil ?_;intro w5 hw';have hb5:Below wr.heap.size wr w5:=by obtain⟨v,rfl⟩:=hw';exact v.h
    have B5:Hid (Below w.heap.size w w5):=BW.out.trans (hb5.mono BW.out.size);clear hw' hb5 hcal hP hQ q0 r0 q1 r1 q2 r2 q3 r3 q4 r4 q5 r5
    go_wp2_with fail
    go_roundw
    case rel=>exact⟨k+1,by omega,by go_num,B5⟩
    case measure=>simp[intOf];omega
  · have hkz:¬ (k:Int) < (n:Int):=by omega
    go_wp2_with fail
    go_ret
    exact⟨rfl,BW.out⟩
set_option maxHeartbeats 1000000 in
theorem na (v u:Value) (l l2:List (aZ × bm)) (w:World) (h1:ReadI w.heap.size w v l) (h2:ReadI w.heap.size w u l2) (hm:l.map (·.1)=l2.map (·.1)) (hl:l.length≤1000000) (hg:∀ p∈l,p.1.groups.length≤140737488355328) :
 Calls Tryz.prog 46 #[v,u] w fun e w'=>e=.returned (.bool true)∧Below w.heap.size w w':=by
 have H:=Lib.hid (oU v u l l2 w h1 h2 hm hl hg);clear h1 h2 hm hl hg;go_enter Tryz.func46,Tryz.ntmps46
 go_wp2_with fail
 refine H.out.mono ?_;rintro e w1 ⟨rfl,b1⟩
 go_wp2_with fail
 go_ret
 exact⟨rfl,b1⟩
end Go.Proofs.YtbgaglcgennhiaaGreatDoor
end
section
namespace Go.Proofs.YtbgaglcgennhiaaGreatDoor.Ct
open Go.Proofs.YtbgaglcgennhiaaGreatDoor Tx
theorem qG {s:List UInt8} {c d:List UInt8 × List UInt8 × Bool} (hc:Jd.cutB 47 s=c) (hd:Jd.halfL c.1=d):Jd.parseL s=Jd.three (Jd.domL d.2.1) (Jd.part d.2.2 1 d.1) (Jd.part c.2.2 3 c.2.1):=by
 subst hc;subst hd;rfl
end Go.Proofs.YtbgaglcgennhiaaGreatDoor.Ct
end
section
namespace Go.Proofs.YtbgaglcgennhiaaGreatDoor
open Go.RowKit Tx Ct
def bV (x:aZ):Nat:=5+x.jid.length+x.name.length+ax x.groups
def be (l:List (aZ × bm)):Nat:=(l.map fun p=>bV p.1).sum
end Go.Proofs.YtbgaglcgennhiaaGreatDoor
end
section
namespace Go.Proofs.YtbgaglcgennhiaaGreatDoor
open Go.RowKit Go.Sort Sy Ct Tx
theorem ReadI.upon {w W:World} {v:Value} {l:List (aZ × bm)} (h:ReadI w.heap.size w v l) (hb:Below w.heap.size w W):ReadI W.heap.size W v l:=by
 obtain⟨A,cap,hv,hc,hT⟩:=h
 refine⟨A,cap,hv,fun h0=>?_,fun p hp=>(hT p hp).upon hb⟩
 obtain⟨b,off,ha,hbb,hcc⟩:=hc h0
 exact⟨b,off,ha,Nat.lt_of_lt_of_le hbb hb.size,fun i p hp c u hu=>by rw[hb.cell (p:=⟨b,off+i*6+c,none⟩) hbb];exact hcc i p hp c u hu⟩
end Go.Proofs.YtbgaglcgennhiaaGreatDoor
end
section
namespace Go.Proofs.YtbgaglcgennhiaaGreatDoor
open Go.RowKit Tx Ct
structure aC where
 name:List UInt8
 pw:List UInt8
 items:List (aZ × bm)
 iv:bm
 pend:List (List UInt8)
 pv:bm
structure aK where
 name:List UInt8
 users:List aC
 uv:bm
instance:Inhabited aC:=⟨⟨[],[],[],(none,0,0),[],(none,0,0)⟩⟩
instance:Inhabited aK:=⟨⟨[],[],(none,0,0)⟩⟩
def af (x:aC):List Value:=[.string (aa x.name),.string (aa x.pw),sl x.iv,sl x.pv]
def aA (x:aK):List Value:=[.string (aa x.name),sl x.uv]
def RowV {α:Type} (ai:α→List Value) (k B:Nat) (w:World) (v:Value) (l:List α):Prop :=
 ∃ A cap,v=.slice A l.length cap∧(0 < l.length→∃ b off,A=some ⟨b,off,none⟩∧b < B∧∀ i p,l[i]?=some p→∀ c u,(ai p)[c]?=some u→w.cell? ⟨b,off+i*k+c,none⟩=some u)
theorem RowV.upon {α:Type} {ai:α→List Value} {k:Nat} {w W:World} {v:Value} {l:List α} (h:RowV ai k w.heap.size w v l) (hb:Below w.heap.size w W):RowV ai k W.heap.size W v l:=by
 obtain⟨A,cap,hv,hc⟩:=h
 refine⟨A,cap,hv,fun h0=>?_⟩
 obtain⟨b,off,ha,hbb,hcc⟩:=hc h0
 exact⟨b,off,ha,Nat.lt_of_lt_of_le hbb hb.size,fun i p hp c u hu=>by rw[hb.cell (p:=⟨b,off+i*k+c,none⟩) hbb];exact hcc i p hp c u hu⟩
def aq (p:aZ × bm):List Value:=gK p.1 (sl p.2)
theorem ReadI.row {B:Nat} {w:World} {v:Value} {l:List (aZ × bm)} (h:ReadI B w v l):RowV aq 6 B w v l:=by
 obtain⟨A,cap,hv,hc,_⟩:=h
 exact⟨A,cap,hv,hc⟩
theorem ReadI.of_row {B:Nat} {w:World} {v:Value} {l:List (aZ × bm)} (h:RowV aq 6 B w v l) (hT:∀ p∈l,ReadT B w (sl p.2) (ac p.1.groups)):ReadI B w v l:=by
 obtain⟨A,cap,hv,hc⟩:=h
 exact⟨A,cap,hv,hc,hT⟩
def InU (w:World) (p:aC):Prop:=ReadI w.heap.size w (sl p.iv) p.items∧ReadT w.heap.size w (sl p.pv) (ac p.pend)
theorem InU.upon {w W:World} {p:aC} (h:InU w p) (hb:Below w.heap.size w W):InU W p:=⟨h.1.upon hb,h.2.upon hb⟩
def ReadU (w:World) (v:Value) (l:List aC):Prop:=RowV af 4 w.heap.size w v l∧∀ p∈l,InU w p
theorem ReadU.upon {w W:World} {v:Value} {l:List aC} (h:ReadU w v l) (hb:Below w.heap.size w W):ReadU W v l:=⟨h.1.upon hb,fun p hp=>(h.2 p hp).upon hb⟩
def ReadH (w:World) (v:Value) (l:List aK):Prop:=RowV aA 2 w.heap.size w v l∧∀ p∈l,ReadU w (sl p.uv) p.users
theorem ReadH.upon {w W:World} {v:Value} {l:List aK} (h:ReadH w v l) (hb:Below w.heap.size w W):ReadH W v l:=⟨h.1.upon hb,fun p hp=>(h.2 p hp).upon hb⟩
def aT {α:Type} [Inhabited α] (lt:α→α→Bool) (ok:α→Bool) (l:List α) (i:Nat):Bool:=(decide (i=0)||lt l[i - 1]! l[i]!)&&ok l[i]!
def aw {α:Type} [Inhabited α] (most:Nat) (lt:α→α→Bool) (ok:α→Bool) (l:List α):Bool:=decide (l.length≤most)&&(List.range l.length).all (aT lt ok l)
theorem fm {α:Type} [Inhabited α] {most:Nat} {lt:α→α→Bool} {ok:α→Bool} {l:List α} (i:Nat) (hi:i < l.length) (h:aT lt ok l i=false):aw most lt ok l=false:=by
 have:(List.range l.length).all (aT lt ok l)=false:=List.all_eq_false.2 ⟨i,List.mem_range.2 hi,by rw[h];decide⟩
 unfold aw;rw[this,Bool.and_false]
theorem dX {α:Type} [Inhabited α] {most:Nat} {lt:α→α→Bool} {ok:α→Bool} {l:List α} (hm:l.length≤most) (h:∀ i,i < l.length→aT lt ok l i=true):aw most lt ok l=true:=by
 unfold aw;rw[decide_eq_true hm,Bool.true_and];exact List.all_eq_true.2 fun i hi=>h i (List.mem_range.1 hi)
theorem dF {α:Type} [Inhabited α] {most:Nat} {lt:α→α→Bool} {ok:α→Bool} {l:List α} (hm:most < l.length):aw most lt ok l=false:=by
 unfold aw;rw[decide_eq_false (by omega)];rfl
theorem fE {α:Type} [Inhabited α] {most:Nat} {lt:α→α→Bool} {ok:α→Bool} (x:α) (hm:1≤most):aw most lt ok [x]=ok x:=by
 unfold aw;rw[decide_eq_true (by simpa using hm)]
 simp[aT,List.range_succ]
theorem oP {α:Type} [Inhabited α] {most:Nat} {lt:α→α→Bool} {ok:α→Bool} (x y:α) (hm:2≤most):aw most lt ok [x,y]=(ok x&&(lt x y&&ok y)):=by
 unfold aw;rw[decide_eq_true (by simpa using hm)]
 simp[aT,List.range_succ]
def jZ (s:List UInt8):Bool:=decide (Jd.domL s=(s,0))
def dB (s:List UInt8):Bool:=decide (Pr.prepL 1 s=(s,0))&&!decide (s=[])&&decide (s.length≤64)
def im (x:aZ):Bool:=decide (x.sub=2)||decide (x.sub=3)||x.app
def j6 (p q:aZ × bm):Bool:=Jd.lessL p.1.jid q.1.jid
def nP (p:aZ × bm):Bool:=gW p.1
def fr (u:aC) (p:aZ × bm):Bool:=im p.1&&decide (p.1.jid∈u.pend)
def pe (u:aC):Bool:=dB u.name&&line u.pw 100&&aw 60 j6 nP u.items&&aw 60 Jd.lessL bL u.pend&&!u.items.any (fr u)
def wS (x y:aC):Bool:=Jd.ltL x.name y.name
def wT (x y:aK):Bool:=Jd.ltL x.name y.name
def jK (l:List aC):Bool:=aw 20 wS pe l
def ti (h:aK):Bool:=jZ h.name&&jK h.users
def fB (l:List aK):Bool:=aw 5 wT ti l
structure wJ (x:aZ):Prop where
 jid:x.jid.length≤100000000
 name:x.name.length≤100000000
 groups:x.groups.length≤1000000
 each:∀ g∈x.groups,g.length≤100000000
structure lK (u:aC):Prop where
 name:u.name.length≤100000000
 pw:u.pw.length≤100000000
 items:u.items.length≤1000000
 eachI:∀ p∈u.items,wJ p.1
 pend:u.pend.length≤1000000
 eachP:∀ t∈u.pend,t.length≤100000000
structure iD (h:aK):Prop where
 name:h.name.length≤100000000
 users:h.users.length≤1000000
 each:∀ u∈h.users,lK u
end Go.Proofs.YtbgaglcgennhiaaGreatDoor
end
section
namespace Go.Proofs.YtbgaglcgennhiaaGreatDoor
open Go.RowKit Ct
set_option maxHeartbeats 2000000 in
theorem uu (v:Value) (l:List (List UInt8)) (x:List UInt8) (w:World) (hR:ReadT w.heap.size w v (ac l)) (hl:l.length≤1000000) :
 Calls Tryz.prog 52 #[v,.string (aa x)] w fun e w'=>e=.returned (.bool (decide (x∈l)))∧Below w.heap.size w w':=by
 obtain⟨A,cap,rfl,hcell⟩:=hR
 have hsl:(ac l).length=l.length:=by unfold ac;rw[List.length_map]
 rw[hsl] at hcell ⊢
 obtain⟨n,hn⟩:∃ n,l.length=n:=⟨_,rfl⟩
 have HN:=Lib.hid hn;rw[hn] at hcell hl ⊢;have HC:=Lib.hid hcell;have HQ:=Lib.hid (fun y=>cP y x);have hst:Hid (∀ k y,l[k]?=some y→decide (x∈l.take (k+1))=(decide (x∈l.take k)||decide (y=x))):=fun k y hy=>by
  rw[List.take_add_one,hy];simp only[Option.toList,List.mem_append,List.mem_singleton,Bool.decide_or]
  congr 1
  exact decide_eq_decide.2 ⟨Eq.symm,Eq.symm⟩
 have hyes:Hid (∀ k,decide (x∈l.take k)=true→decide (x∈l)=true):=fun k h=>decide_eq_true (List.mem_of_mem_take (of_decide_eq_true h))
 obtain⟨X,hX⟩:∃ X,aa x=X:=⟨_,rfl⟩
 rw[hX] at HQ ⊢;have h0:Hid (decide (x∈l.take 0)=false):=rfl
 obtain⟨D,hD⟩:∃ D,decide (x∈l)=D:=⟨_,rfl⟩
 rw[hD] at hyes ⊢;have HD:=Lib.hid hD;clear hcell hn hsl hX hD;go_enter Tryz.func52,Tryz.ntmps52
 go_wp2_with fail
 go_loopw [5] (fun iv wr=>∃ (k:Nat),iv=.int .i64 k∧k≤n∧Hid (decide (x∈l.take k)=false)∧Hid (Below w.heap.size w wr)) (fun iv _=>n - (intOf iv).toNat)
 case atStart=>exact⟨0,rfl,Nat.zero_le _,h0,Below.refl _ _⟩
 case round =>
  obtain⟨k,rfl,hk,HF,BW⟩:=hrel
  by_cases hlt:k < n
  · obtain⟨ad,rfl,hlb,hcell⟩:=HC.out (by omega)
    obtain⟨y,hy⟩:∃ p,l[k]?=some p:=⟨_,List.getElem?_eq_getElem (by rw[HN.out];exact hlt)⟩
    have c0:=hcell k (aa y) (by unfold ac;rw[List.getElem?_map,hy];rfl);rw[← BW.out.cell (p:=ad.add k) (by rw[au];exact hlb)] at c0;have hq:=HQ.out y;have hs2:=hst.out k y hy;rw[HF.out,Bool.false_or] at hs2
    obtain⟨Y,hY⟩:∃ X,aa y=X:=⟨_,rfl⟩
    rw[hY] at hq c0
    obtain⟨d,hd⟩:∃ d,decide (y=x)=d:=⟨_,rfl⟩
    rw[hd] at hq hs2;have HS2:=Lib.hid hs2;clear hcell hy hlb hY hd hs2;cases d with
    | true =>
      have HT:=Lib.hid (hyes.out _ HS2.out)
      go_wp2_with fail
      go_ret
      exact⟨by rw[HT.out];rfl,BW.out⟩
    | false =>
      go_wp2_with fail
      go_roundw
      case rel=>exact⟨k+1,by go_num,by omega,HS2,BW⟩
      case measure=>simp[intOf];omega
  · have hkn:l.take k=l:=List.take_of_length_le (by rw[HN.out];omega)
    have HE:=HF.out;rw[hkn,HD.out] at HE;have HEE:=Lib.hid HE;clear HE hkn
    go_wp2_with fail
    go_ret
    exact⟨by rw[HEE.out];rfl,BW.out⟩
end Go.Proofs.YtbgaglcgennhiaaGreatDoor
end
section
namespace Go.Proofs.YtbgaglcgennhiaaGreatDoor
open Tx Ct
theorem mS:Jd.domL [104]=([104],0):=Jd.dom_of (Jd.fit_prep (by decide)) (by decide) (by decide) (by decide)
theorem rm:jZ [104]=true:=decide_eq_true mS
theorem tz {k:Nat} {n:List UInt8} (h:n.all (Jd.fitB k)=true):Pr.prepL k n=(n,0):=Jd.fit_prep (List.all_eq_true.1 h)
theorem uI {n:List UInt8} (h:n.all (Jd.fitB 1)=true) (h0:n≠[]) (hl:n.length≤64):dB n=true:=by
 unfold dB;rw[tz h,decide_eq_true rfl,decide_eq_false h0,decide_eq_true hl];rfl
theorem uG {n:List UInt8} (h:n.all (Jd.fitB 1)=true) (h0:n≠[]) (hl:n.length≤64):Jd.part true 1 n=(n,0):=by
 show Jd.sizedL 64 (Pr.prepL 1 n)=_;rw[tz h];exact Jd.sized_of h0 hl
theorem lq {n:List UInt8} (h:n.all (Jd.fitB 1)=true) (h0:n≠[]) (hl:n.length≤64) (hc:Jd.cutB 47 (n++[64,104])=(n++[64,104],[],false)) (hd:Jd.halfL (n++[64,104])=(n,[104],true)):bL (n++[64,104])=true:=by
 have hp:Jd.parseL (n++[64,104])=((n,[104],[]),0):=by
  rw[qG hc hd];simp only;rw[mS,uG h h0 hl];rfl
 refine decide_eq_true ?_;rw[Jd.bare_ok hp rfl];unfold Jd.textL
 simp[h0]
theorem ia (a:List UInt8):Jd.lessL a a=false:=by
 unfold Jd.lessL;rw[Jd.lt_irr,Jd.lt_irr,Bool.and_false];rfl
def ug (j:List UInt8) (s:Int) (ask app:Bool):aZ:=⟨j,[],[],s,ask,app⟩
theorem mV (j:List UInt8) (s:Int) (ask app:Bool):gW (ug j s ask app)=(bL j&&gt s ask app):=by
 have h2:line ([]:List UInt8) 100=true:=by decide +kernel
 have h3:lY []=true:=by decide +kernel
 show (bL j&&line ([]:List UInt8) 100&&lY []&&gt s ask app)=_;rw[h2,h3,Bool.and_true,Bool.and_true]
theorem xq:bL [98,64,104]=true:=lq (n:=[98]) (by decide) (by decide) (by decide) (by decide) (by decide)
theorem wZ:bL [99,64,104]=true:=lq (n:=[99]) (by decide) (by decide) (by decide) (by decide) (by decide)
theorem wV:bL [100,64,104]=true:=lq (n:=[100]) (by decide) (by decide) (by decide) (by decide) (by decide)
theorem xr:line [112] 100=true:=by decide +kernel
theorem wM:dB [97]=true:=uI (by decide) (by decide) (by decide)
theorem ua (a b:aZ × bm):aw 60 j6 nP [a,b]=(gW a.1&&(Jd.lessL a.1.jid b.1.jid&&gW b.1)):=oP a b (by decide)
theorem uQ (n:List UInt8) (u:aC) (q:bm):fB [⟨n,[u],q⟩]=(jZ n&&pe u):=by
 unfold fB;rw[fE _ (by decide)];unfold ti jK;dsimp only;rw[fE _ (by decide)]
theorem uY (n pw:List UInt8) (is:List (aZ × bm)) (iv:bm) (ps:List (List UInt8)) (pv:bm):pe ⟨n,pw,is,iv,ps,pv⟩=(dB n&&line pw 100&&aw 60 j6 nP is&&aw 60 Jd.lessL bL ps&&!is.any (fun p=>im p.1&&decide (p.1.jid∈ps))):=rfl
def qO (n pw j0 j1:List UInt8) (app:Bool) (ps:List (List UInt8)) (q0 q1 iv pv:bm):aC:=⟨n,pw,[(ug j0 0 false false,q0),(ug j1 2 false app,q1)],iv,ps,pv⟩
theorem ur (n pw j0 j1:List UInt8) (app:Bool) (ps:List (List UInt8)) (q0 q1 iv pv:bm):pe (qO n pw j0 j1 app ps q0 q1 iv pv)=(dB n&&line pw 100&&(bL j0&&(Jd.lessL j0 j1&&(bL j1&&!app)))&&aw 60 Jd.lessL bL ps&&!decide (j1∈ps)):=by
 unfold qO;rw[uY,ua,mV,mV];have h1:gt 0 false false=true:=rfl;have h2:gt 2 false app=!app:=by cases app<;>rfl
 rw[h1,h2,Bool.and_true];have h3:([(ug j0 0 false false,q0),(ug j1 2 false app,q1)].any fun p=>im p.1&&decide (p.1.jid∈ps))=decide (j1∈ps):=by
  simp[im,ug]
 rw[h3];rfl
theorem lc (q0 q1 iv pv uv:bm):fB [⟨[104],[qO [97] [112] [98,64,104] [99,64,104] false [[100,64,104]] q0 q1 iv pv],uv⟩]=true:=by
 rw[uQ,rm,ur,wM,xr,xq,wZ,fE _ (by decide),wV]
 decide +kernel
end Go.Proofs.YtbgaglcgennhiaaGreatDoor
end
