import Derived.Test.YtbgaglcgennhiaaGreatDoorQ06
import Derived.Test.YtbgaglcgennhiaaGreatDoorQ32
set_option maxHeartbeats 4000000
set_option maxRecDepth 100000
namespace Go.Proofs.YtbgaglcgennhiaaGreatDoor
open Go.RowKit Go.Lib Go.Sort Sy Tx Ct
def RowIn {α:Type} (enc:α->List Value) (k A C:Nat) (W:World) (v:Value) (l:List α):Prop:=∃ a cap,v=.slice a l.length cap/\(0<l.length->∃ b,a=some ⟨b,0,none⟩/\A<=b/\b<C/\∀ i p,l[i]?=some p->∀ c u,(enc p)[c]?=some u->W.cell? ⟨b,i*k+c,none⟩=some u)
theorem RowIn.row {α:Type} {enc:α->List Value} {k A C:Nat} {W:World} {v:Value} {l:List α} (h:RowIn enc k A C W v l) {B:Nat} (hB:C<=B):RowV enc k B W v l:=by obtain⟨a,cap,rfl,hc⟩:=h;refine⟨a,cap,rfl,fun h0=>?_⟩;obtain⟨b,rfl,h1,h2,h3⟩:=hc h0;exact⟨b,0,rfl,by omega,fun i p hp c u hu=>by rw[Nat.zero_add];exact h3 i p hp c u hu⟩
theorem RowIn.upto {α:Type} {enc:α->List Value} {k A C:Nat} {W W':World} {v:Value} {l:List α} (h:RowIn enc k A C W v l) (hu:gW A C W W'):RowIn enc k A C W' v l:=by obtain⟨a,cap,rfl,hc⟩:=h;refine⟨a,cap,rfl,fun h0=>?_⟩;obtain⟨b,rfl,h1,h2,h3⟩:=hc h0;exact⟨b,rfl,h1,h2,fun i p hp c u hv=>by rw[ta (hu b h1 h2)];exact h3 i p hp c u hv⟩
theorem RowIn.wider {α:Type} {enc:α->List Value} {k A C A' C':Nat} {W:World} {v:Value} {l:List α} (h:RowIn enc k A C W v l) (hA:A'<=A) (hC:C<=C'):RowIn enc k A' C' W v l:=by obtain⟨a,cap,rfl,hc⟩:=h;refine⟨a,cap,rfl,fun h0=>?_⟩;obtain⟨b,rfl,h1,h2,h3⟩:=hc h0;exact⟨b,rfl,by omega,by omega,h3⟩
def RowH {α:Type} [Inhabited α] (enc:α->List Value) (k A C:Nat) (W:World) (v:Value) (l:List α):Prop:=∃ a cap,v=.slice a l.length cap/\(0<l.length->∃ b,a=some ⟨b,0,none⟩/\A<=b/\b<C/\HoldsK enc k W b 0 l.toArray)
theorem RowH.rowIn {α:Type} [Inhabited α] {enc:α->List Value} {k A C:Nat} {W:World} {v:Value} {l:List α} (R:Enc enc k) (h:RowH enc k A C W v l):RowIn enc k A C W v l:=by
 obtain⟨a,cap,rfl,hc⟩:=h;refine⟨a,cap,rfl,fun h0=>?_⟩;obtain⟨b,rfl,h1,h2,hH⟩:=hc h0;refine⟨b,rfl,h1,h2,fun i p hp c u hu=>?_⟩;have hil:=(cD hp).1;have hcl:=(cD hu).1;rw[R.hk] at hcl;have:=(HoldsK.cell hH (i:=i) (c:=c) (by simpa using hil) hcl).1;rw[Nat.zero_add] at this;rw[this];have e1:l.toArray[i]! = p:=by rw[getElem!_pos l.toArray i (by simpa using hil)];simpa using (cD hp).2
 rw[e1,getElem!_pos _ c (by rw[R.hk];exact hcl),(cD hu).2]
def zE {α:Type} [Inhabited α] (enc:α->List Value) (k:Nat) (lt:α->α->Bool) (l:List α) (w:World) (e:Ending) (w':World):Prop:=∃ v,e=.returned v/\RowH enc k w.heap.size w'.heap.size w' v (af lt l)/\Below w.heap.size w w'
abbrev dv:={s:List UInt8 // s.length<=1000000000}
instance:Inhabited dv:=⟨⟨[],bI _⟩⟩
def cU (p:dv):List Value:=[.string (ae p.1)]
theorem iU:Enc cU 1:=⟨fun _=>rfl,fun x v hv=>by unfold cU at hv;simp only[List.mem_cons,List.not_mem_nil,or_false] at hv;subst hv;rfl⟩
theorem encH_enc:Enc aw 2:=⟨fun _=>rfl,sO⟩
theorem encU_enc:Enc ao 4:=⟨fun _=>rfl,xz⟩
theorem RowB.st {α:Type} [Inhabited α] {enc:α->List Value} {k:Nat} {t:TypeId} {W:World} {g:Nat} {l:List α} (R:Enc enc k) (h:RowB enc k t W g l):St enc k W g l.toArray W:=by
 refine⟨World.grownBy.refl _ _,fun j hj=>?_,h.lt⟩;rw[size_flatK,List.size_toArray] at hj;have hk0:0<k:=by
  rcases Nat.eq_zero_or_pos k with h0|h0
  ·subst h0;simp at hj
  ·exact h0
 have hj2:j / k<l.length:=by rw[Nat.div_lt_iff_lt_mul hk0];exact hj
 have hj3:j % k<k:=Nat.mod_lt _ hk0;have hlen:j % k<(enc l[j / k]).length:=by rw[R.hk];exact hj3
 have:=h.cell (aQ hj2) (aQ hlen);have e1:j / k*k+j % k=j:=by rw[Nat.mul_comm];exact Nat.div_add_mod j k
 rw[e1] at this;rw[Nat.zero_add,get_flatK _ _ _ _ (by rw[List.size_toArray];exact hj)];have e2:(enc l.toArray[j / k]!)[j % k]! = (enc l[j / k])[j % k]:=by rw[getElem!_pos l.toArray (j / k) (by simpa using hj2)];simp only[List.getElem_toArray];rw[getElem!_pos (enc (l[j / k]'hj2)) (j % k) hlen]
 rw[e2];exact this
theorem Sy.St.rowH {α:Type} [Inhabited α] {enc:α->List Value} {k:Nat} {W0 W:World} {g:Nat} {L:List α} (h:St enc k W0 g L.toArray W) (n cap:Nat) (hn:L.length=n) {A:Nat} (hA:A<=g):RowH enc k A W.heap.size W (.slice (some ⟨g,0,none⟩) n cap) L:=⟨some ⟨g,0,none⟩,cap,by rw[hn],fun _=>⟨g,rfl,hA,h.ltW,h.holds⟩⟩
theorem re (lt:aN->aN->Bool) (gB:Nat) (egB:∀ args w,(callFunc gB args).run Tryz.prog w=.ok (.enter gB args) w) (n kb ab g cap:Nat) (d:Array aN) (W:World)
 (hkb:kb<W.heap.size) (hab:ab<W.heap.size) (hg:g<W.heap.size) (ck:W.cell? ⟨kb,1,none⟩=some (.func (.func gB) #[] #[])) (ca:W.cell? ⟨ab,0,none⟩=some (.slice (some ⟨g,0,none⟩) n cap)) (hH:HoldsK aw 2 W g 0 d) (hd:d.size=n)
 (hB:∀ W',Below W.heap.size W W'->∀ x y:aN,Calls Tryz.prog gB #[.agg (aw x).toArray,.agg (aw y).toArray] W' fun e w'=>e=.returned (.bool (lt x y))/\Below W'.heap.size W' w') (i j:Nat) (hi:i<n) (hj:j<n):
 Calls Tryz.prog 78 #[.int .i64 (i:Int),.int .i64 (j:Int),.pointer (some ⟨kb,0,none⟩),.pointer (some ⟨ab,0,none⟩)] W fun e w'=>e=.returned (.bool (lt d[i]! d[j]!))/\Below W.heap.size W w':=by
 have hcB0:∀ v:Bel W,Calls Tryz.prog gB (#[.agg (aw d[i]!).toArray,.agg (aw d[j]!).toArray]++#[]) v.v fun e w'=>e=.returned (.bool (lt d[i]! d[j]!))/\Below v.v.heap.size v.v w':=fun v=>hB v.v v.h d[i]! d[j]!
 have Cx:∀ c u,(aw d[i]!)[c]?=some u->W.cell? ⟨g,i*2+c,none⟩=some u:=fun c u hu=>by have hcl:=(cD hu).1;have:=(HoldsK.cell hH (i:=i) (c:=c) (by omega) hcl).1;rw[Nat.zero_add] at this;rw[this,getElem!_pos _ c hcl,(cD hu).2]
 have Cy:∀ c u,(aw d[j]!)[c]?=some u->W.cell? ⟨g,j*2+c,none⟩=some u:=fun c u hu=>by have hcl:=(cD hu).1;have:=(HoldsK.cell hH (i:=j) (c:=c) (by omega) hcl).1;rw[Nat.zero_add] at this;rw[this,getElem!_pos _ c hcl,(cD hu).2]
 obtain⟨x,hx⟩:=ac (d[i]!);obtain⟨y,hy⟩:=ac (d[j]!);rw[hx,hy] at hcB0 ⊢;rw[hx] at Cx;rw[hy] at Cy;obtain⟨r,hr⟩:=ac (lt x y);rw[hr] at hcB0 ⊢;obtain⟨P,hP⟩:=ac (i*2);obtain⟨Q,hQ⟩:=ac (j*2);rw[hP] at Cx;rw[hQ] at Cy;clear hr hx hy hH hd hB;obtain⟨xj,xus,xA,xn,xc⟩:=x;obtain⟨xJ,hxJ⟩:=ac (ae xj);have ex:aw (⟨xj,xus,xA,xn,xc⟩:aN)=[.string xJ,.slice xA xn xc]:=by rw[<-hxJ];rfl
 rw[ex] at Cx hcB0;clear ex hxJ;obtain⟨yj,yus,yA,yn,yc⟩:=y;obtain⟨yJ,hyJ⟩:=ac (ae yj);have ey:aw (⟨yj,yus,yA,yn,yc⟩:aN)=[.string yJ,.slice yA yn yc]:=by rw[<-hyJ];rfl
 rw[ey] at Cy hcB0;clear ey hyJ;have hcB:∀ v:Bel W,Calls Tryz.prog gB (#[.agg #[.string xJ,.slice xA xn xc],.agg #[.string yJ,.slice yA yn yc]]++#[]) v.v fun e w'=>e=.returned (.bool r)/\Below v.v.heap.size v.v w':=hcB0;clear hcB0;have cx0:∀ v:Bel W,v.v.cell? ⟨g,P,none⟩=some (.string xJ):=fun v=>by rw[v.h.cell (p:=⟨g,P,none⟩) hg];exact Cx 0 _ rfl
 have cx1:∀ v:Bel W,v.v.cell? ⟨g,P+1,none⟩=some (.slice xA xn xc):=fun v=>by rw[v.h.cell (p:=⟨g,P+1,none⟩) hg];exact Cx 1 _ rfl
 have cy0:∀ v:Bel W,v.v.cell? ⟨g,Q,none⟩=some (.string yJ):=fun v=>by rw[v.h.cell (p:=⟨g,Q,none⟩) hg];exact Cy 0 _ rfl
 have cy1:∀ v:Bel W,v.v.cell? ⟨g,Q+1,none⟩=some (.slice yA yn yc):=fun v=>by rw[v.h.cell (p:=⟨g,Q+1,none⟩) hg];exact Cy 1 _ rfl
 have ck1:∀ v:Bel W,v.v.cell? ⟨kb,1,none⟩=some (.func (.func gB) #[] #[]):=fun v=>by rw[v.h.cell (p:=⟨kb,1,none⟩) hkb];exact ck
 have ca1:∀ v:Bel W,v.v.cell? ⟨ab,0,none⟩=some (.slice (some ⟨g,0,none⟩) n cap):=fun v=>by rw[v.h.cell (p:=⟨ab,0,none⟩) hab];exact ca
 have hiz:(i:Int)<(n:Int):=by omega
 have hjz:(j:Int)<(n:Int):=by omega
 have hi0:(0:Int)<=(i:Int):=by omega
 have hj0:(0:Int)<=(j:Int):=by omega
 clear Cx Cy ck ca;go_enter Tryz.func78,Tryz.ntmps78;go_wp2_with fail
 refine ew ?_
 repeat (go_big_quiet_step ((go_at_fn gB;exact Calls.bel_of (hcB _))))
 refine wpQuiet_nil ?_;intro w2 hw';have hb2:Below W.heap.size W w2:=by obtain⟨v,rfl⟩:=hw';exact v.h
 clear hw';go_wp2_with fail
 go_ret;exact⟨rfl,hb2⟩
noncomputable def rT:TypeInfo:=(Tryz.prog.info? 22).get (by kernel_rfl)
noncomputable def sinfEH:TypeInfo:=(Tryz.prog.info? 47).get (by kernel_rfl)
theorem Ak (n:Nat) (h2:2<=n):swapperK n sinfEH 25=9:=by
 have a:sinfEH.hasPointers=true:=by kernel_rfl
 have b:sinfEH.bytes=40:=by kernel_rfl
 have c:(n==0)=false:=by simp;omega
 have d:(n==1)=false:=by simp;omega
 simp[swapperK,a,b,c,d]
theorem jk (lt:aN->aN->Bool) (hW:Weak lt) (g:Nat) (lb:Array Value) (eg:∀ args w,(callFunc g args).run Tryz.prog w=.ok (.enter g args) w) (L:List aN) (n c:Nat) (hl:L.length=n) (h1:1<=n) (hn:n<=400000000) (B:Nat) (w:World)
 (hless:∀ (d:Array aN) (W:World),d.size=n->St aw 2 w B d W->∀ i j:Nat,i<n->j<n->Calls Tryz.prog g (#[.int .i64 (i:Int),.int .i64 (j:Int)]++lb) W fun e w'=>e=.returned (.bool (lt d[i]! d[j]!))/\Below W.heap.size W w')
 (hS:St aw 2 w B L.toArray w):
 Calls Tryz.prog 77 #[.iface 22 (.slice (some ⟨B,0,none⟩) n c),.func (.func g) #[] lb] w fun e w'=>e=.returned (.tuple #[])/\St aw 2 w B (af lt L).toArray w':=by
 rcases Nat.lt_or_ge n 2 with h2|h2
 ·obtain rfl:n=1:=(by omega);exact du hW 22 47 rT sinfEH (by kernel_rfl) (by kernel_rfl) (by kernel_rfl) (by kernel_rfl) 25 (fun _=>by kernel_rfl) encH_enc g lb eg L 1 c hl hn B w 139 (by kernel_rfl) (fun h=>absurd h (by decide)) hless hS
 ·exact du hW 22 47 rT sinfEH (by kernel_rfl) (by kernel_rfl) (by kernel_rfl) (by kernel_rfl) 25 (fun _=>by kernel_rfl) encH_enc g lb eg L n c hl hn B w 146 (by rw[Ak _ h2];kernel_rfl)
   (fun _=>swapSwapsK_of_literal false _ (fun args W=>run_callFunc_extern Tryz.func146 (by kernel_rfl) (by kernel_rfl) (by kernel_rfl) (e:=Extern.ReflectliteSwapper.swap false) (by kernel_rfl) args W) 47 sinfEH (by kernel_rfl) aw 2 encH_enc.hk (by kernel_rfl) (fun _=>by kernel_rfl) encH_enc.h1 B 0 n c) hless hS
theorem lz (p:Option Addr) (c g:Nat) (lb:Array Value) (eg:∀ args w,(callFunc g args).run Tryz.prog w=.ok (.enter g args) w) (w:World):
 Calls Tryz.prog 77 #[.iface 22 (.slice p 0 c),.func (.func g) #[] lb] w fun e w'=>e=.returned (.tuple #[])/\Below w.heap.size w w':=
 ft 22 47 rT sinfEH (by kernel_rfl) (by kernel_rfl) (by kernel_rfl) (by kernel_rfl) 25 (fun _=>by kernel_rfl) p c 138 (by kernel_rfl) g lb eg w
theorem nL (lt:aN->aN->Bool) (hW:Weak lt) (most:Nat) (gB gF:Nat) (egB:∀ args w,(callFunc gB args).run Tryz.prog w=.ok (.enter gB args) w) (v:Value) (l:List aN) (w:World) (hR:RowV aw 2 w.heap.size w v l) (hl:l.length<=1000000)
 (hB:∀ W',Below w.heap.size w W'->∀ x y:aN,Calls Tryz.prog gB #[.agg (aw x).toArray,.agg (aw y).toArray] W' fun e w'=>e=.returned (.bool (lt x y))/\Below W'.heap.size W' w'):
 Calls Tryz.prog 44 #[.agg #[.int .i64 (most:Nat),.func (.func gB) #[] #[],.func (.func gF) #[] #[]],v] w fun e w'=>zE aw 2 lt l w e w':=by
 obtain⟨W1,hW1⟩:=ac (w.alloc (.cells #[.int .i64 (most:Nat),.func (.func gB) #[] #[],.func (.func gF) #[] #[]] 68));obtain⟨kb,hkb⟩:=ac w.heap.size;have K1:Bk W1 kb 68 #[.int .i64 (most:Nat),.func (.func gB) #[] #[],.func (.func gF) #[] #[]]:=by rw[<-hW1,<-hkb];exact Bk.new _ _ _
 have b1:Below w.heap.size w W1:=by rw[<-hW1];exact bp _ _
 have HC:=aa (jr v l W1 (hR.upon b1) hl);obtain⟨va,vn,vc,rfl⟩:∃ a n c,v=.slice a n c:=by obtain⟨A,cap,hv,_⟩:=hR;exact⟨A,_,cap,hv⟩
 obtain⟨n,hn⟩:=ac l.length;have HN:=aa hn;unfold fB at HC;rw[hn] at hl HC;have HB:=aa hB;have K1':=aa K1;have B1:=aa b1;have HW1:=aa hW1;have HKB:=aa hkb;have hsl:(af lt l).length=n:=by rw[aI,hn]
 have HSL:=aa hsl;have eg2:∀ args w,(callFunc 78 args).run Tryz.prog w=.ok (.enter 78 args) w:=enters_of Tryz.func78 (by kernel_rfl) rfl;have HG:=aa eg2;clear hR hB hn hW1 hkb K1 b1 hsl eg2;go_enter Tryz.func44,Tryz.ntmps44;go_upto_region 1 with fail
 (try rw[HW1.out]);(try rw[HKB.out]);go_wp2_with fail
 refine HC.out.mono ?_;rintro e w2 ⟨A,cap,rfl,b2,h1⟩;have KK:=K1'.out.below b2 K1'.out.lt;obtain⟨W3,hW3⟩:=ac (w2.alloc (.cells #[.slice A n cap] 22));obtain⟨ab,hab⟩:=ac w2.heap.size;have A3:Hid (Bk W3 ab 22 #[.slice A n cap]):=by rw[<-hW3,<-hab];exact Bk.new _ _ _
 have b23:Below w2.heap.size w2 W3:=by rw[<-hW3];exact bp _ _
 have K3:=aa (KK.below b23 KK.lt);have B2:Below w.heap.size w w2:=B1.out.trans (b2.mono B1.out.size);have B3:Hid (Below w.heap.size w W3):=B2.trans (b23.mono B2.size);have a0:W3.cell? ⟨ab,0,none⟩=some (.slice A n cap):=A3.out.cell 0;have HQ:Hid (Calls Tryz.prog 77 #[.iface 22 (.slice A n cap),.func (.func 78) #[] #[.pointer (some ⟨kb,0,none⟩),.pointer (some ⟨ab,0,none⟩)]] W3 fun e w'=>e=.returned (.tuple #[])/\w'.cell? ⟨ab,0,none⟩=some (.slice A n cap)/\RowH aw 2 w.heap.size w'.heap.size w' (.slice A n cap) (af lt l)/\Below w.heap.size w w'):=by
  by_cases h0:0<n
  ·obtain⟨g,rfl,hge,hrow⟩:=h1 h0;have hg3:g<w2.heap.size:=hrow.lt;have hrow3:RowB aw 2 47 W3 g l:=hrow.below b23;have hgk:kb≠g:=(by have:=K1'.out.lt;omega);have hga:ab≠g:=(by omega);refine(jk lt hW 78 _ HG.out l n cap HN.out (by omega) (by omega) g W3 (fun d W hd hs i j hi hj=>?_) (hrow3.st encH_enc)).mono ?_
   ·have hBW:Below w.heap.size w W:=B3.out.grown hs.grown B3.out.size (fun j hj=>by injection hj with hj;have:=B1.out.size;omega);exact re lt gB egB n kb ab g cap d W (Nat.lt_of_lt_of_le K3.out.lt hs.grown.size) (Nat.lt_of_lt_of_le A3.out.lt hs.grown.size) hs.ltW (by rw[hs.far kb 1 K3.out.lt hgk];exact K3.out.cell 1) (by rw[hs.far ab 0 A3.out.lt hga];exact A3.out.cell 0) hs.holds hd
     (fun W' hW' x y=>HB.out W' (hBW.trans (hW'.mono hBW.size)) x y) i j hi hj
   ·rintro e w' ⟨rfl,S2⟩;refine⟨rfl,by rw[S2.far ab 0 A3.out.lt hga];exact A3.out.cell 0,S2.rowH n cap HSL.out (co B1.out.size hge),B3.out.grown S2.grown B3.out.size (fun j hj=>by injection hj with hj;have:=B1.out.size;omega)⟩
  ·obtain rfl:n=0:=(by omega);refine(lz A cap 78 _ HG.out W3).mono ?_;rintro e w' ⟨rfl,hb⟩;exact⟨rfl,by rw[hb.cell (p:=⟨ab,0,none⟩) A3.out.lt];exact A3.out.cell 0,⟨A,cap,by rw[HSL.out],fun h=>absurd h (by rw[HSL.out];omega)⟩,B3.out.trans (hb.mono B3.out.size)⟩
 have HW3:=aa hW3;have HAB:=aa hab;clear hW3 hab h1 b2 KK b23 B2 HC;go_upto_region 2 with fail
 (try rw[HW3.out]);(try rw[HAB.out]);(try rw[HW3.out]);go_wp2_with fail
 refine HQ.out.mono ?_;rintro e w4 ⟨rfl,a4,r4,b4⟩;go_wp2_with fail
 go_ret;exact⟨_,rfl,r4,b4⟩
theorem rg (lt:bk->bk->Bool) (gB:Nat) (egB:∀ args w,(callFunc gB args).run Tryz.prog w=.ok (.enter gB args) w) (n kb ab g cap:Nat) (d:Array bk) (W:World)
 (hkb:kb<W.heap.size) (hab:ab<W.heap.size) (hg:g<W.heap.size) (ck:W.cell? ⟨kb,1,none⟩=some (.func (.func gB) #[] #[])) (ca:W.cell? ⟨ab,0,none⟩=some (.slice (some ⟨g,0,none⟩) n cap)) (hH:HoldsK ao 4 W g 0 d) (hd:d.size=n)
 (hB:∀ W',Below W.heap.size W W'->∀ x y:bk,Calls Tryz.prog gB #[.agg (ao x).toArray,.agg (ao y).toArray] W' fun e w'=>e=.returned (.bool (lt x y))/\Below W'.heap.size W' w') (i j:Nat) (hi:i<n) (hj:j<n):
 Calls Tryz.prog 107 #[.int .i64 (i:Int),.int .i64 (j:Int),.pointer (some ⟨kb,0,none⟩),.pointer (some ⟨ab,0,none⟩)] W fun e w'=>e=.returned (.bool (lt d[i]! d[j]!))/\Below W.heap.size W w':=by
 have hcB0:∀ v:Bel W,Calls Tryz.prog gB (#[.agg (ao d[i]!).toArray,.agg (ao d[j]!).toArray]++#[]) v.v fun e w'=>e=.returned (.bool (lt d[i]! d[j]!))/\Below v.v.heap.size v.v w':=fun v=>hB v.v v.h d[i]! d[j]!
 have Cx:∀ c u,(ao d[i]!)[c]?=some u->W.cell? ⟨g,i*4+c,none⟩=some u:=fun c u hu=>by have hcl:=(cD hu).1;have:=(HoldsK.cell hH (i:=i) (c:=c) (by omega) hcl).1;rw[Nat.zero_add] at this;rw[this,getElem!_pos _ c hcl,(cD hu).2]
 have Cy:∀ c u,(ao d[j]!)[c]?=some u->W.cell? ⟨g,j*4+c,none⟩=some u:=fun c u hu=>by have hcl:=(cD hu).1;have:=(HoldsK.cell hH (i:=j) (c:=c) (by omega) hcl).1;rw[Nat.zero_add] at this;rw[this,getElem!_pos _ c hcl,(cD hu).2]
 obtain⟨x,hx⟩:=ac (d[i]!);obtain⟨y,hy⟩:=ac (d[j]!);rw[hx,hy] at hcB0 ⊢;rw[hx] at Cx;rw[hy] at Cy;obtain⟨r,hr⟩:=ac (lt x y);rw[hr] at hcB0 ⊢;obtain⟨P,hP⟩:=ac (i*4);obtain⟨Q,hQ⟩:=ac (j*4);rw[hP] at Cx;rw[hQ] at Cy;clear hr hx hy hH hd hB;obtain⟨xj,xw,xis,⟨xA,xn,xc⟩,xps,⟨xD,xe,xf⟩⟩:=x;obtain⟨xJ,hxJ⟩:=ac (ae xj);obtain⟨xK,hxK⟩:=ac (ae xw);have ex:ao (⟨xj,xw,xis,(xA,xn,xc),xps,(xD,xe,xf)⟩:bk)=[.string xJ,.string xK,.slice xA xn xc,.slice xD xe xf]:=by rw[<-hxJ,<-hxK];rfl
 rw[ex] at Cx hcB0;clear ex hxJ hxK;obtain⟨yj,yw,yis,⟨yA,yn,yc⟩,yps,⟨yD,ye,yf⟩⟩:=y;obtain⟨yJ,hyJ⟩:=ac (ae yj);obtain⟨yK,hyK⟩:=ac (ae yw);have ey:ao (⟨yj,yw,yis,(yA,yn,yc),yps,(yD,ye,yf)⟩:bk)=[.string yJ,.string yK,.slice yA yn yc,.slice yD ye yf]:=by rw[<-hyJ,<-hyK];rfl
 rw[ey] at Cy hcB0;clear ey hyJ hyK;have hcB:∀ v:Bel W,Calls Tryz.prog gB (#[.agg #[.string xJ,.string xK,.slice xA xn xc,.slice xD xe xf],.agg #[.string yJ,.string yK,.slice yA yn yc,.slice yD ye yf]]++#[]) v.v fun e w'=>e=.returned (.bool r)/\Below v.v.heap.size v.v w':=hcB0;clear hcB0;have cx0:∀ v:Bel W,v.v.cell? ⟨g,P,none⟩=some (.string xJ):=fun v=>by rw[v.h.cell (p:=⟨g,P,none⟩) hg];exact Cx 0 _ rfl
 have cx1:∀ v:Bel W,v.v.cell? ⟨g,P+1,none⟩=some (.string xK):=fun v=>by rw[v.h.cell (p:=⟨g,P+1,none⟩) hg];exact Cx 1 _ rfl
 have cx2:∀ v:Bel W,v.v.cell? ⟨g,P+2,none⟩=some (.slice xA xn xc):=fun v=>by rw[v.h.cell (p:=⟨g,P+2,none⟩) hg];exact Cx 2 _ rfl
 have cx3:∀ v:Bel W,v.v.cell? ⟨g,P+3,none⟩=some (.slice xD xe xf):=fun v=>by rw[v.h.cell (p:=⟨g,P+3,none⟩) hg];exact Cx 3 _ rfl
 have cy0:∀ v:Bel W,v.v.cell? ⟨g,Q,none⟩=some (.string yJ):=fun v=>by rw[v.h.cell (p:=⟨g,Q,none⟩) hg];exact Cy 0 _ rfl
 have cy1:∀ v:Bel W,v.v.cell? ⟨g,Q+1,none⟩=some (.string yK):=fun v=>by rw[v.h.cell (p:=⟨g,Q+1,none⟩) hg];exact Cy 1 _ rfl
 have cy2:∀ v:Bel W,v.v.cell? ⟨g,Q+2,none⟩=some (.slice yA yn yc):=fun v=>by rw[v.h.cell (p:=⟨g,Q+2,none⟩) hg];exact Cy 2 _ rfl
 have cy3:∀ v:Bel W,v.v.cell? ⟨g,Q+3,none⟩=some (.slice yD ye yf):=fun v=>by rw[v.h.cell (p:=⟨g,Q+3,none⟩) hg];exact Cy 3 _ rfl
 have ck1:∀ v:Bel W,v.v.cell? ⟨kb,1,none⟩=some (.func (.func gB) #[] #[]):=fun v=>by rw[v.h.cell (p:=⟨kb,1,none⟩) hkb];exact ck
 have ca1:∀ v:Bel W,v.v.cell? ⟨ab,0,none⟩=some (.slice (some ⟨g,0,none⟩) n cap):=fun v=>by rw[v.h.cell (p:=⟨ab,0,none⟩) hab];exact ca
 have hiz:(i:Int)<(n:Int):=by omega
 have hjz:(j:Int)<(n:Int):=by omega
 have hi0:(0:Int)<=(i:Int):=by omega
 have hj0:(0:Int)<=(j:Int):=by omega
 clear Cx Cy ck ca;go_enter Tryz.func107,Tryz.ntmps107;go_wp2_with fail
 refine ew ?_
 repeat (go_big_quiet_step ((go_at_fn gB;exact Calls.bel_of (hcB _))))
 refine wpQuiet_nil ?_;intro w2 hw';have hb2:Below W.heap.size W w2:=by obtain⟨v,rfl⟩:=hw';exact v.h
 clear hw';go_wp2_with fail
 go_ret;exact⟨rfl,hb2⟩
noncomputable def rW:TypeInfo:=(Tryz.prog.info? 45).get (by kernel_rfl)
noncomputable def sinfEU:TypeInfo:=(Tryz.prog.info? 28).get (by kernel_rfl)
theorem Am (n:Nat) (h2:2<=n):swapperK n sinfEU 25=9:=by
 have a:sinfEU.hasPointers=true:=by kernel_rfl
 have b:sinfEU.bytes=80:=by kernel_rfl
 have c:(n==0)=false:=by simp;omega
 have d:(n==1)=false:=by simp;omega
 simp[swapperK,a,b,c,d]
theorem jm (lt:bk->bk->Bool) (hW:Weak lt) (g:Nat) (lb:Array Value) (eg:∀ args w,(callFunc g args).run Tryz.prog w=.ok (.enter g args) w) (L:List bk) (n c:Nat) (hl:L.length=n) (h1:1<=n) (hn:n<=400000000) (B:Nat) (w:World)
 (hless:∀ (d:Array bk) (W:World),d.size=n->St ao 4 w B d W->∀ i j:Nat,i<n->j<n->Calls Tryz.prog g (#[.int .i64 (i:Int),.int .i64 (j:Int)]++lb) W fun e w'=>e=.returned (.bool (lt d[i]! d[j]!))/\Below W.heap.size W w')
 (hS:St ao 4 w B L.toArray w):
 Calls Tryz.prog 77 #[.iface 45 (.slice (some ⟨B,0,none⟩) n c),.func (.func g) #[] lb] w fun e w'=>e=.returned (.tuple #[])/\St ao 4 w B (af lt L).toArray w':=by
 rcases Nat.lt_or_ge n 2 with h2|h2
 ·obtain rfl:n=1:=(by omega);exact du hW 45 28 rW sinfEU (by kernel_rfl) (by kernel_rfl) (by kernel_rfl) (by kernel_rfl) 25 (fun _=>by kernel_rfl) encU_enc g lb eg L 1 c hl hn B w 139 (by kernel_rfl) (fun h=>absurd h (by decide)) hless hS
 ·exact du hW 45 28 rW sinfEU (by kernel_rfl) (by kernel_rfl) (by kernel_rfl) (by kernel_rfl) 25 (fun _=>by kernel_rfl) encU_enc g lb eg L n c hl hn B w 146 (by rw[Am _ h2];kernel_rfl)
   (fun _=>swapSwapsK_of_literal false _ (fun args W=>run_callFunc_extern Tryz.func146 (by kernel_rfl) (by kernel_rfl) (by kernel_rfl) (e:=Extern.ReflectliteSwapper.swap false) (by kernel_rfl) args W) 28 sinfEU (by kernel_rfl) ao 4 encU_enc.hk (by kernel_rfl) (fun _=>by kernel_rfl) encU_enc.h1 B 0 n c) hless hS
theorem lD (p:Option Addr) (c g:Nat) (lb:Array Value) (eg:∀ args w,(callFunc g args).run Tryz.prog w=.ok (.enter g args) w) (w:World):
 Calls Tryz.prog 77 #[.iface 45 (.slice p 0 c),.func (.func g) #[] lb] w fun e w'=>e=.returned (.tuple #[])/\Below w.heap.size w w':=
 ft 45 28 rW sinfEU (by kernel_rfl) (by kernel_rfl) (by kernel_rfl) (by kernel_rfl) 25 (fun _=>by kernel_rfl) p c 138 (by kernel_rfl) g lb eg w
theorem nN (lt:bk->bk->Bool) (hW:Weak lt) (most:Nat) (gB gF:Nat) (egB:∀ args w,(callFunc gB args).run Tryz.prog w=.ok (.enter gB args) w) (v:Value) (l:List bk) (w:World) (hR:RowV ao 4 w.heap.size w v l) (hl:l.length<=1000000)
 (hB:∀ W',Below w.heap.size w W'->∀ x y:bk,Calls Tryz.prog gB #[.agg (ao x).toArray,.agg (ao y).toArray] W' fun e w'=>e=.returned (.bool (lt x y))/\Below W'.heap.size W' w'):
 Calls Tryz.prog 79 #[.agg #[.int .i64 (most:Nat),.func (.func gB) #[] #[],.func (.func gF) #[] #[]],v] w fun e w'=>zE ao 4 lt l w e w':=by
 obtain⟨W1,hW1⟩:=ac (w.alloc (.cells #[.int .i64 (most:Nat),.func (.func gB) #[] #[],.func (.func gF) #[] #[]] 95));obtain⟨kb,hkb⟩:=ac w.heap.size;have K1:Bk W1 kb 95 #[.int .i64 (most:Nat),.func (.func gB) #[] #[],.func (.func gF) #[] #[]]:=by rw[<-hW1,<-hkb];exact Bk.new _ _ _
 have b1:Below w.heap.size w W1:=by rw[<-hW1];exact bp _ _
 have HC:=aa (js v l W1 (hR.upon b1) hl);obtain⟨va,vn,vc,rfl⟩:∃ a n c,v=.slice a n c:=by obtain⟨A,cap,hv,_⟩:=hR;exact⟨A,_,cap,hv⟩
 obtain⟨n,hn⟩:=ac l.length;have HN:=aa hn;unfold fB at HC;rw[hn] at hl HC;have HB:=aa hB;have K1':=aa K1;have B1:=aa b1;have HW1:=aa hW1;have HKB:=aa hkb;have hsl:(af lt l).length=n:=by rw[aI,hn]
 have HSL:=aa hsl;have eg2:∀ args w,(callFunc 107 args).run Tryz.prog w=.ok (.enter 107 args) w:=enters_of Tryz.func107 (by kernel_rfl) rfl;have HG:=aa eg2;clear hR hB hn hW1 hkb K1 b1 hsl eg2;go_enter Tryz.func79,Tryz.ntmps79;go_upto_region 1 with fail
 (try rw[HW1.out]);(try rw[HKB.out]);go_wp2_with fail
 refine HC.out.mono ?_;rintro e w2 ⟨A,cap,rfl,b2,h1⟩;have KK:=K1'.out.below b2 K1'.out.lt;obtain⟨W3,hW3⟩:=ac (w2.alloc (.cells #[.slice A n cap] 45));obtain⟨ab,hab⟩:=ac w2.heap.size;have A3:Hid (Bk W3 ab 45 #[.slice A n cap]):=by rw[<-hW3,<-hab];exact Bk.new _ _ _
 have b23:Below w2.heap.size w2 W3:=by rw[<-hW3];exact bp _ _
 have K3:=aa (KK.below b23 KK.lt);have B2:Below w.heap.size w w2:=B1.out.trans (b2.mono B1.out.size);have B3:Hid (Below w.heap.size w W3):=B2.trans (b23.mono B2.size);have a0:W3.cell? ⟨ab,0,none⟩=some (.slice A n cap):=A3.out.cell 0;have HQ:Hid (Calls Tryz.prog 77 #[.iface 45 (.slice A n cap),.func (.func 107) #[] #[.pointer (some ⟨kb,0,none⟩),.pointer (some ⟨ab,0,none⟩)]] W3 fun e w'=>e=.returned (.tuple #[])/\w'.cell? ⟨ab,0,none⟩=some (.slice A n cap)/\RowH ao 4 w.heap.size w'.heap.size w' (.slice A n cap) (af lt l)/\Below w.heap.size w w'):=by
  by_cases h0:0<n
  ·obtain⟨g,rfl,hge,hrow⟩:=h1 h0;have hg3:g<w2.heap.size:=hrow.lt;have hrow3:RowB ao 4 28 W3 g l:=hrow.below b23;have hgk:kb≠g:=(by have:=K1'.out.lt;omega);have hga:ab≠g:=(by omega);refine(jm lt hW 107 _ HG.out l n cap HN.out (by omega) (by omega) g W3 (fun d W hd hs i j hi hj=>?_) (hrow3.st encU_enc)).mono ?_
   ·have hBW:Below w.heap.size w W:=B3.out.grown hs.grown B3.out.size (fun j hj=>by injection hj with hj;have:=B1.out.size;omega);exact rg lt gB egB n kb ab g cap d W (Nat.lt_of_lt_of_le K3.out.lt hs.grown.size) (Nat.lt_of_lt_of_le A3.out.lt hs.grown.size) hs.ltW (by rw[hs.far kb 1 K3.out.lt hgk];exact K3.out.cell 1) (by rw[hs.far ab 0 A3.out.lt hga];exact A3.out.cell 0) hs.holds hd
     (fun W' hW' x y=>HB.out W' (hBW.trans (hW'.mono hBW.size)) x y) i j hi hj
   ·rintro e w' ⟨rfl,S2⟩;refine⟨rfl,by rw[S2.far ab 0 A3.out.lt hga];exact A3.out.cell 0,S2.rowH n cap HSL.out (co B1.out.size hge),B3.out.grown S2.grown B3.out.size (fun j hj=>by injection hj with hj;have:=B1.out.size;omega)⟩
  ·obtain rfl:n=0:=(by omega);refine(lD A cap 107 _ HG.out W3).mono ?_;rintro e w' ⟨rfl,hb⟩;exact⟨rfl,by rw[hb.cell (p:=⟨ab,0,none⟩) A3.out.lt];exact A3.out.cell 0,⟨A,cap,by rw[HSL.out],fun h=>absurd h (by rw[HSL.out];omega)⟩,B3.out.trans (hb.mono B3.out.size)⟩
 have HW3:=aa hW3;have HAB:=aa hab;clear hW3 hab h1 b2 KK b23 B2 HC;go_upto_region 2 with fail
 (try rw[HW3.out]);(try rw[HAB.out]);(try rw[HW3.out]);go_wp2_with fail
 refine HQ.out.mono ?_;rintro e w4 ⟨rfl,a4,r4,b4⟩;go_wp2_with fail
 go_ret;exact⟨_,rfl,r4,b4⟩
end Go.Proofs.YtbgaglcgennhiaaGreatDoor
