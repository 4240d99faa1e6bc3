import Derived.Test.YtbgaglcgennhiaaGreatDoorQ33
import Derived.Test.YtbgaglcgennhiaaGreatDoorQ38
set_option maxHeartbeats 4000000
set_option maxRecDepth 100000
namespace Go.Proofs.YtbgaglcgennhiaaGreatDoor
open Go.RowKit Go.Lib Go.Sort Sy Tx Ct
def sq (l:List dv) (w:World) (e:Ending) (w':World):Prop:=∃ A cap,e=.returned (.slice A l.length cap)/\Below w.heap.size w w'/\(0<l.length->∃ g,A=some ⟨g,0,none⟩/\w.heap.size<=g/\l.length<=cap/\RowB cU 1 9 w' g l)
def vK (A C:Nat) (W:World) (v:Value) (l:List dv):Prop:=∃ a cap,v=.slice a l.length cap/\(0<l.length->∃ b,a=some ⟨b,0,none⟩/\A<=b/\b<C/\l.length<=cap/\HoldsK cU 1 W b 0 l.toArray)
def vL (lt:dv->dv->Bool) (l:List dv) (w:World) (e:Ending) (w':World):Prop:=∃ v,e=.returned v/\vK w.heap.size w'.heap.size w' v (af lt l)/\Below w.heap.size w w'
theorem Sy.St.rowHC {W0 W:World} {g:Nat} {L:List dv} (h:St cU 1 W0 g L.toArray W) (n cap:Nat) (hn:L.length=n) (hc:n<=cap) {A:Nat} (hA:A<=g):vK A W.heap.size W (.slice (some ⟨g,0,none⟩) n cap) L:=⟨some ⟨g,0,none⟩,cap,by rw[hn],fun _=>⟨g,rfl,hA,h.ltW,by rw[hn];exact hc,h.holds⟩⟩
theorem ww:∀ L:List dv,aK cU L=cX (al (L.map (·.1)))
 |[]=>by simp[aK,cX,al]
 | x::L=>by have:=ww L;unfold aK cX al at this ⊢;rw[List.flatMap_cons,this];rfl
theorem oC (v:Value) (L:List dv) (w:World) (hR:ReadT w.heap.size w v (al (L.map (·.1)))) (hl:L.length<=1000000):
 Calls Tryz.prog 61 #[v] w fun e w'=>sq L w e w':=by
 have hm:(L.map (·.1)).length=L.length:=cr _;refine(gE v (L.map (·.1)) w w.heap.size hR (by rw[hm];omega)).mono ?_;rintro e w' ⟨A,cap,rfl,ho,hb⟩;rw[hm] at ho ⊢;refine⟨A,cap,rfl,hb,fun h0=>?_⟩;have hk:∀ x:dv,(cU x).length=1:=fun _=>rfl
 have ho2:w'.ownsRow w.heap.size 9 1 (.slice A L.length cap) L.length (aK cU L):=by rw[ww];have h2:w'.ownsRow w.heap.size 9 1 (.slice A L.length cap) (al (L.map (·.1))).length (cX (al (L.map (·.1)))):=ho;rw[show (al (L.map (·.1))).length=L.length by unfold al;rw[cr,cr]] at h2;exact h2
 rcases ho2.2 with ⟨_,h1⟩|⟨g,cap2,cur,hv,hge,hh,hnc,_,hcs,htk⟩
 ·omega
 ·injection hv with h1 _ h3;refine⟨g,h1,hge,by omega,cur,hh,fun i p hp c u hu=>?_⟩;have hcl:c<1:=(cD hu).1;have hil:i<L.length:=(cD hp).1;have e1:=cC hk L i c p hp hcl;rw[hu] at e1;have e2:(cur.toList.take (L.length*1))[i*1+c]?=some u:=(by rw[htk];exact e1);rw[List.getElem?_take,if_pos (by omega),Array.getElem?_toList] at e2;exact e2
theorem rf (lt:dv->dv->Bool) (gB:Nat) (egB:∀ args w,(callFunc gB args).run Tryz.prog w=.ok (.enter gB args) w) (n kb ab g cap:Nat) (d:Array dv) (W:World)
 (hkb:kb<W.heap.size) (hab:ab<W.heap.size) (hg:g<W.heap.size) (ck:W.cell? ⟨kb,1,none⟩=some (.func (.func gB) #[] #[])) (ca:W.cell? ⟨ab,0,none⟩=some (.slice (some ⟨g,0,none⟩) n cap)) (hH:HoldsK cU 1 W g 0 d) (hd:d.size=n)
 (hB:∀ W',Below W.heap.size W W'->∀ x y:dv,Calls Tryz.prog gB #[.string (ae x.1),.string (ae y.1)] W' fun e w'=>e=.returned (.bool (lt x y))/\Below W'.heap.size W' w') (i j:Nat) (hi:i<n) (hj:j<n):
 Calls Tryz.prog 85 #[.int .i64 (i:Int),.int .i64 (j:Int),.pointer (some ⟨kb,0,none⟩),.pointer (some ⟨ab,0,none⟩)] W fun e w'=>e=.returned (.bool (lt d[i]! d[j]!))/\Below W.heap.size W w':=by
 have hcB0:∀ v:Bel W,Calls Tryz.prog gB (#[.string (ae d[i]!.1),.string (ae d[j]!.1)]++#[]) v.v fun e w'=>e=.returned (.bool (lt d[i]! d[j]!))/\Below v.v.heap.size v.v w':=fun v=>hB v.v v.h d[i]! d[j]!
 have Cx:∀ c u,(cU d[i]!)[c]?=some u->W.cell? ⟨g,i*1+c,none⟩=some u:=fun c u hu=>by have hcl:=(cD hu).1;have:=(HoldsK.cell hH (i:=i) (c:=c) (by omega) hcl).1;rw[Nat.zero_add] at this;rw[this,getElem!_pos _ c hcl,(cD hu).2]
 have Cy:∀ c u,(cU d[j]!)[c]?=some u->W.cell? ⟨g,j*1+c,none⟩=some u:=fun c u hu=>by have hcl:=(cD hu).1;have:=(HoldsK.cell hH (i:=j) (c:=c) (by omega) hcl).1;rw[Nat.zero_add] at this;rw[this,getElem!_pos _ c hcl,(cD hu).2]
 obtain⟨x,hx⟩:=ac (d[i]!);obtain⟨y,hy⟩:=ac (d[j]!);rw[hx,hy] at hcB0 ⊢;rw[hx] at Cx;rw[hy] at Cy;obtain⟨r,hr⟩:=ac (lt x y);rw[hr] at hcB0 ⊢;obtain⟨P,hP⟩:=ac (i*1);obtain⟨Q,hQ⟩:=ac (j*1);rw[hP] at Cx;rw[hQ] at Cy;clear hr hx hy hH hd hB;obtain⟨xj,xo⟩:=x;have ex:cU (⟨xj,xo⟩:dv)=[.string (ae xj)]:=rfl;rw[ex] at Cx;obtain⟨xJ,hxJ⟩:=ac (ae xj);rw[hxJ] at Cx;simp only[hxJ] at hcB0;clear ex hxJ;obtain⟨yj,yo⟩:=y;have ey:cU (⟨yj,yo⟩:dv)=[.string (ae yj)]:=rfl;rw[ey] at Cy;obtain⟨yJ,hyJ⟩:=ac (ae yj);rw[hyJ] at Cy;simp only[hyJ] at hcB0;clear ey hyJ;have hcB:∀ v:Bel W,Calls Tryz.prog gB (#[.string xJ,.string yJ]++#[]) v.v fun e w'=>e=.returned (.bool r)/\Below v.v.heap.size v.v w':=hcB0;clear hcB0;have cx0:∀ v:Bel W,v.v.cell? ⟨g,P,none⟩=some (.string xJ):=fun v=>by rw[v.h.cell (p:=⟨g,P,none⟩) hg];exact Cx 0 _ rfl
 have cy0:∀ v:Bel W,v.v.cell? ⟨g,Q,none⟩=some (.string yJ):=fun v=>by rw[v.h.cell (p:=⟨g,Q,none⟩) hg];exact Cy 0 _ rfl
 have ck1:∀ v:Bel W,v.v.cell? ⟨kb,1,none⟩=some (.func (.func gB) #[] #[]):=fun v=>by rw[v.h.cell (p:=⟨kb,1,none⟩) hkb];exact ck
 have ca1:∀ v:Bel W,v.v.cell? ⟨ab,0,none⟩=some (.slice (some ⟨g,0,none⟩) n cap):=fun v=>by rw[v.h.cell (p:=⟨ab,0,none⟩) hab];exact ca
 have hiz:(i:Int)<(n:Int):=by omega
 have hjz:(j:Int)<(n:Int):=by omega
 have hi0:(0:Int)<=(i:Int):=by omega
 have hj0:(0:Int)<=(j:Int):=by omega
 clear Cx Cy ck ca;go_enter Tryz.func85,Tryz.ntmps85;go_wp2_with fail
 refine ew ?_
 repeat (go_big_quiet_step ((go_at_fn gB;exact Calls.bel_of (hcB _))))
 refine wpQuiet_nil ?_;intro w2 hw';have hb2:Below W.heap.size W w2:=by obtain⟨v,rfl⟩:=hw';exact v.h
 clear hw';go_wp2_with fail
 go_ret;exact⟨rfl,hb2⟩
noncomputable def rV:TypeInfo:=(Tryz.prog.info? 26).get (by kernel_rfl)
noncomputable def sinfET:TypeInfo:=(Tryz.prog.info? 9).get (by kernel_rfl)
theorem Al (n:Nat) (h2:2<=n):swapperK n sinfET 24=4:=by
 have a:sinfET.hasPointers=true:=by kernel_rfl
 have b:sinfET.bytes=16:=by kernel_rfl
 have c:(n==0)=false:=by simp;omega
 have d:(n==1)=false:=by simp;omega
 simp[swapperK,a,b,c,d]
theorem zy (n c B:Nat):SwapSwapsK Tryz.prog 141 #[.slice (some ⟨B,0,none⟩) n c,typeHandle Tryz.prog 9] cU 1 B 0 n:=by intro W dk hH hsz i j hi hj;have ci:=HoldsK.cell hH (i:=i) (c:=0) (by omega) (by decide);have cj:=HoldsK.cell hH (i:=j) (c:=0) (by omega) (by decide);have:=run_swap_one (P:=Tryz.prog) true 9 sinfET (by kernel_rfl) (by kernel_rfl) (fun _=>by kernel_rfl) B 0 n c i j hi hj (.string (ae dk[i]!.1)) (.string (ae dk[j]!.1)) rfl rfl W (by simpa [cU] using ci.1) (by simpa [cU] using cj.1) (by simpa using ci.2) (by simpa using cj.2);rw[run_callFunc_extern Tryz.func141 (by kernel_rfl) (by kernel_rfl) (by kernel_rfl) (e:=Extern.ReflectliteSwapper.swap true) (by kernel_rfl),show (#[Value.int .i64 (i:Int),Value.int .i64 (j:Int)]++#[Value.slice (some ⟨B,0,none⟩) n c,typeHandle Tryz.prog 9])=#[.int .i64 i,.int .i64 j,.slice (some ⟨B,0,none⟩) n c,typeHandle Tryz.prog 9] from rfl,this];simp[World.setCells,cU,Result.andThen]
theorem jl (lt:dv->dv->Bool) (hW:Weak lt) (g:Nat) (lb:Array Value) (eg:∀ args w,(callFunc g args).run Tryz.prog w=.ok (.enter g args) w) (L:List dv) (n c:Nat) (hl:L.length=n) (h1:1<=n) (hn:n<=400000000) (B:Nat) (w:World)
 (hless:∀ (d:Array dv) (W:World),d.size=n->St cU 1 w B d W->∀ i j:Nat,i<n->j<n->Calls Tryz.prog g (#[.int .i64 (i:Int),.int .i64 (j:Int)]++lb) W fun e w'=>e=.returned (.bool (lt d[i]! d[j]!))/\Below W.heap.size W w')
 (hS:St cU 1 w B L.toArray w):
 Calls Tryz.prog 77 #[.iface 26 (.slice (some ⟨B,0,none⟩) n c),.func (.func g) #[] lb] w fun e w'=>e=.returned (.tuple #[])/\St cU 1 w B (af lt L).toArray w':=by
 rcases Nat.lt_or_ge n 2 with h2|h2
 ·obtain rfl:n=1:=(by omega);exact du hW 26 9 rV sinfET (by kernel_rfl) (by kernel_rfl) (by kernel_rfl) (by kernel_rfl) 24 (fun _=>by kernel_rfl) iU g lb eg L 1 c hl hn B w 139 (by kernel_rfl) (fun h=>absurd h (by decide)) hless hS
 ·exact du hW 26 9 rV sinfET (by kernel_rfl) (by kernel_rfl) (by kernel_rfl) (by kernel_rfl) 24 (fun _=>by kernel_rfl) iU g lb eg L n c hl hn B w 141 (by rw[Al _ h2];kernel_rfl)
   (fun _=>zy n c B) hless hS
theorem lB (p:Option Addr) (c g:Nat) (lb:Array Value) (eg:∀ args w,(callFunc g args).run Tryz.prog w=.ok (.enter g args) w) (w:World):
 Calls Tryz.prog 77 #[.iface 26 (.slice p 0 c),.func (.func g) #[] lb] w fun e w'=>e=.returned (.tuple #[])/\Below w.heap.size w w':=
 ft 26 9 rV sinfET (by kernel_rfl) (by kernel_rfl) (by kernel_rfl) (by kernel_rfl) 24 (fun _=>by kernel_rfl) p c 138 (by kernel_rfl) g lb eg w
theorem nM (lt:dv->dv->Bool) (hW:Weak lt) (most:Nat) (gB gF:Nat) (egB:∀ args w,(callFunc gB args).run Tryz.prog w=.ok (.enter gB args) w) (v:Value) (l:List dv) (w:World) (hR:ReadT w.heap.size w v (al (l.map (·.1)))) (hl:l.length<=1000000)
 (hB:∀ W',Below w.heap.size w W'->∀ x y:dv,Calls Tryz.prog gB #[.string (ae x.1),.string (ae y.1)] W' fun e w'=>e=.returned (.bool (lt x y))/\Below W'.heap.size W' w'):
 Calls Tryz.prog 51 #[.agg #[.int .i64 (most:Nat),.func (.func gB) #[] #[],.func (.func gF) #[] #[]],v] w fun e w'=>vL lt l w e w':=by
 obtain⟨W1,hW1⟩:=ac (w.alloc (.cells #[.int .i64 (most:Nat),.func (.func gB) #[] #[],.func (.func gF) #[] #[]] 83));obtain⟨kb,hkb⟩:=ac w.heap.size;have K1:Bk W1 kb 83 #[.int .i64 (most:Nat),.func (.func gB) #[] #[],.func (.func gF) #[] #[]]:=by rw[<-hW1,<-hkb];exact Bk.new _ _ _
 have b1:Below w.heap.size w W1:=by rw[<-hW1];exact bp _ _
 have HC:=aa (oC v l W1 (hR.upon b1) hl);obtain⟨va,vn,vc,rfl⟩:∃ a n c,v=.slice a n c:=by obtain⟨A,cap,hv,_⟩:=hR;exact⟨A,_,cap,hv⟩
 obtain⟨n,hn⟩:=ac l.length;have HN:=aa hn;unfold sq at HC;rw[hn] at hl HC;have HB:=aa hB;have K1':=aa K1;have B1:=aa b1;have HW1:=aa hW1;have HKB:=aa hkb;have hsl:(af lt l).length=n:=by rw[aI,hn]
 have HSL:=aa hsl;have eg2:∀ args w,(callFunc 85 args).run Tryz.prog w=.ok (.enter 85 args) w:=enters_of Tryz.func85 (by kernel_rfl) rfl;have HG:=aa eg2;clear hR hB hn hW1 hkb K1 b1 hsl eg2;go_enter Tryz.func51,Tryz.ntmps51;go_upto_region 1 with fail
 (try rw[HW1.out]);(try rw[HKB.out]);go_wp2_with fail
 refine HC.out.mono ?_;rintro e w2 ⟨A,cap,rfl,b2,h1⟩;have KK:=K1'.out.below b2 K1'.out.lt;obtain⟨W3,hW3⟩:=ac (w2.alloc (.cells #[.slice A n cap] 26));obtain⟨ab,hab⟩:=ac w2.heap.size;have A3:Hid (Bk W3 ab 26 #[.slice A n cap]):=by rw[<-hW3,<-hab];exact Bk.new _ _ _
 have b23:Below w2.heap.size w2 W3:=by rw[<-hW3];exact bp _ _
 have K3:=aa (KK.below b23 KK.lt);have B2:Below w.heap.size w w2:=B1.out.trans (b2.mono B1.out.size);have B3:Hid (Below w.heap.size w W3):=B2.trans (b23.mono B2.size);have a0:W3.cell? ⟨ab,0,none⟩=some (.slice A n cap):=A3.out.cell 0;have HQ:Hid (Calls Tryz.prog 77 #[.iface 26 (.slice A n cap),.func (.func 85) #[] #[.pointer (some ⟨kb,0,none⟩),.pointer (some ⟨ab,0,none⟩)]] W3 fun e w'=>e=.returned (.tuple #[])/\w'.cell? ⟨ab,0,none⟩=some (.slice A n cap)/\vK w.heap.size w'.heap.size w' (.slice A n cap) (af lt l)/\Below w.heap.size w w'):=by
  by_cases h0:0<n
  ·obtain⟨g,rfl,hge,hcp,hrow⟩:=h1 h0;have hg3:g<w2.heap.size:=hrow.lt;have hrow3:RowB cU 1 9 W3 g l:=hrow.below b23;have hgk:kb≠g:=(by have:=K1'.out.lt;omega);have hga:ab≠g:=(by omega);refine(jl lt hW 85 _ HG.out l n cap HN.out (by omega) (by omega) g W3 (fun d W hd hs i j hi hj=>?_) (hrow3.st iU)).mono ?_
   ·have hBW:Below w.heap.size w W:=B3.out.grown hs.grown B3.out.size (fun j hj=>by injection hj with hj;have:=B1.out.size;omega);exact rf lt gB egB n kb ab g cap d W (Nat.lt_of_lt_of_le K3.out.lt hs.grown.size) (Nat.lt_of_lt_of_le A3.out.lt hs.grown.size) hs.ltW (by rw[hs.far kb 1 K3.out.lt hgk];exact K3.out.cell 1) (by rw[hs.far ab 0 A3.out.lt hga];exact A3.out.cell 0) hs.holds hd
     (fun W' hW' x y=>HB.out W' (hBW.trans (hW'.mono hBW.size)) x y) i j hi hj
   ·rintro e w' ⟨rfl,S2⟩;refine⟨rfl,by rw[S2.far ab 0 A3.out.lt hga];exact A3.out.cell 0,S2.rowHC n cap HSL.out hcp (co B1.out.size hge),B3.out.grown S2.grown B3.out.size (fun j hj=>by injection hj with hj;have:=B1.out.size;omega)⟩
  ·obtain rfl:n=0:=(by omega);refine(lB A cap 85 _ HG.out W3).mono ?_;rintro e w' ⟨rfl,hb⟩;exact⟨rfl,by rw[hb.cell (p:=⟨ab,0,none⟩) A3.out.lt];exact A3.out.cell 0,⟨A,cap,by rw[HSL.out],fun h=>absurd h (by rw[HSL.out];omega)⟩,B3.out.trans (hb.mono B3.out.size)⟩
 have HW3:=aa hW3;have HAB:=aa hab;clear hW3 hab h1 b2 KK b23 B2 HC;go_upto_region 2 with fail
 (try rw[HW3.out]);(try rw[HAB.out]);(try rw[HW3.out]);go_wp2_with fail
 refine HQ.out.mono ?_;rintro e w4 ⟨rfl,a4,r4,b4⟩;go_wp2_with fail
 go_ret;exact⟨_,rfl,r4,b4⟩
end Go.Proofs.YtbgaglcgennhiaaGreatDoor
