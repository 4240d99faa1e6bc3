import Derived.Test.YtbgaglcgennhiaaGreatDoorQ27
import Derived.Test.YtbgaglcgennhiaaGreatDoorQ28
set_option maxHeartbeats 4000000
set_option maxRecDepth 100000
namespace Go.Proofs.YtbgaglcgennhiaaGreatDoor
section
open Go.RowKit Go.Sort Sy Tx Ct
theorem dJ (a b:List UInt8):(Jd.lessL a b=true/\Jd.lessL b a=false/\a≠b)\/(Jd.lessL a b=false/\Jd.lessL b a=true/\a≠b)\/(Jd.lessL a b=false/\Jd.lessL b a=false/\a=b):=by
 unfold Jd.lessL;rcases Jd.lt_tri (Jd.dmL a) (Jd.dmL b) with ⟨h1,h2,h3⟩|⟨h1,h2,h3⟩|⟨h1,h2,h3⟩
 ·have hn:a≠b:=(fun e=>h3 (by rw[e]));have h4:(Jd.dmL b==Jd.dmL a)=false:=(by simpa using Ne.symm h3);left;rw[h1,h2,h4];exact⟨rfl,rfl,hn⟩
 ·have hn:a≠b:=(fun e=>h3 (by rw[e]));have h4:(Jd.dmL a==Jd.dmL b)=false:=(by simpa using h3);right;left;rw[h1,h2,h4];exact⟨rfl,rfl,hn⟩
 ·rw[h1,h2,h3];simpa using Jd.lt_tri a b
theorem pe {a b c:List UInt8} (h1:Jd.lessL a b=true) (h2:Jd.lessL b c=true):Jd.lessL a c=true:=by
 unfold Jd.lessL at h1 h2 ⊢;simp only[Bool.or_eq_true,Bool.and_eq_true,beq_iff_eq] at h1 h2 ⊢;rcases h1 with h1|⟨e1,h1⟩
 ·rcases h2 with h2|⟨e2,h2⟩
  ·exact .inl (Jd.lt_trans _ _ _ h1 h2)
  ·exact .inl (by rw[<-e2];exact h1)
 ·rcases h2 with h2|⟨e2,h2⟩
  ·exact .inl (by rw[e1];exact h2)
  ·exact .inr ⟨e1.trans e2,Jd.lt_trans _ _ _ h1 h2⟩
theorem lessL_weak:Weak Jd.lessL:=by
 refine⟨fun {x y} h=>?_,fun {x z} h y=>?_⟩
 ·rcases dJ x y with ⟨_,k,_⟩|⟨k,_,_⟩|⟨k,_,_⟩
  ·exact k
  ·rw[h] at k;cases k
  ·rw[h] at k;cases k
 ·rcases dJ x y with ⟨k,_,_⟩|⟨_,k,_⟩|⟨_,_,k⟩
  ·exact .inl k
  ·exact .inr (pe k h)
  ·exact .inr (k ▸ h)
def dU (x y:ax):Bool:=Jd.lessL x.1.1.jid y.1.1.jid
theorem ltI_weak:Weak dU:=⟨fun h=>lessL_weak.asym h,fun h y=>lessL_weak.neg h y.1.1.jid⟩
def zS (x y:ax):Int:=if dU x y then -1 else if dU y x then 1 else 0
theorem zT (x y:ax):dU x y=decide (zS x y<0):=by
 unfold zS;cases dU x y with
 |true=>rfl
 |false=>cases dU y x<;>rfl
theorem lF (x y:ax) (w:World) (hO:Okw w):Calls Tryz.prog 150 #[.agg (ai x).toArray,.agg (ai y).toArray] w fun e w'=>e=.returned (.bool (dU x y))/\Below w.heap.size w w':=by
 obtain⟨⟨⟨xj,xm,xg,xs,xk,xa⟩,xA,xn,xc⟩,xo⟩:=x;obtain⟨⟨⟨yj,ym,yg,ys,yk,ya⟩,yA,yn,yc⟩,yo⟩:=y;have hx:(ai ⟨(⟨xj,xm,xg,xs,xk,xa⟩,xA,xn,xc),xo⟩).toArray=#[.string (ae xj),.string (ae xm),.slice xA xn xc,.int .i64 xs,.bool xk,.bool xa]:=rfl;have hy:(ai ⟨(⟨yj,ym,yg,ys,yk,ya⟩,yA,yn,yc),yo⟩).toArray=#[.string (ae yj),.string (ae ym),.slice yA yn yc,.int .i64 ys,.bool yk,.bool ya]:=rfl;have hlt:dU ⟨(⟨xj,xm,xg,xs,xk,xa⟩,xA,xn,xc),xo⟩ ⟨(⟨yj,ym,yg,ys,yk,ya⟩,yA,yn,yc),yo⟩=Jd.lessL xj yj:=rfl;rw[hx,hy,hlt];obtain⟨W1,hW1⟩:=ac (w.alloc (.cells #[.string (ae xj),.string (ae xm),.slice xA xn xc,.int .i64 xs,.bool xk,.bool xa] 53));obtain⟨p,hp⟩:=ac w.heap.size;have k1:Bk W1 p 53 #[.string (ae xj),.string (ae xm),.slice xA xn xc,.int .i64 xs,.bool xk,.bool xa]:=by rw[<-hW1,<-hp];exact Bk.new _ _ _
 have b1:Below w.heap.size w W1:=by rw[<-hW1];exact bp _ _
 obtain⟨W2,hW2⟩:∃ W1',W1.alloc (.cells #[.string (ae yj),.string (ae ym),.slice yA yn yc,.int .i64 ys,.bool yk,.bool ya] 53)=W1':=⟨_,rfl⟩;obtain⟨q,hq⟩:=ac W1.heap.size;have k2:Bk W2 q 53 #[.string (ae yj),.string (ae ym),.slice yA yn yc,.int .i64 ys,.bool yk,.bool ya]:=by rw[<-hW2,<-hq];exact Bk.new _ _ _
 have b2:Below W1.heap.size W1 W2:=by rw[<-hW2];exact bp _ _
 have B2:Hid (Below w.heap.size w W2):=b1.trans (b2.mono b1.size);have HL:Hid (Calls Tryz.prog 83 #[.string (ae xj),.string (ae yj)] W2 fun e w'=>e=.returned (.bool (Jd.lessL xj yj))/\Below W2.heap.size W2 w'):=rd (ae xj) (ae yj) W2 (hO.below B2.out) (by rw[bS];exact xo) (by rw[bS];exact yo);have c0:W2.cell? ⟨p,0,none⟩=some (.string (ae xj)):=(k1.below b2 k1.lt).cell 0;have d0:W2.cell? ⟨q,0,none⟩=some (.string (ae yj)):=k2.cell 0;obtain⟨X,hX⟩:=ac (ae xj);obtain⟨Y,hY⟩:=ac (ae yj);obtain⟨b,hb⟩:=ac (Jd.lessL xj yj);rw[hX,hY,hb] at HL;rw[hX] at hW1 c0;rw[hY] at hW2 d0;rw[hX,hY,hb];clear hx hy hlt k1 k2 b1 b2 hX hY hb hO;go_enter Tryz.func150,Tryz.ntmps150;go_wp2_with fail
 refine HL.out.mono ?_;rintro e w3 ⟨rfl,b3⟩;go_wp2_with fail
 go_ret;exact⟨rfl,by first|exact B2.out.trans (b3.mono B2.out.size)|(rw[<-hp];exact B2.out.trans (b3.mono B2.out.size))⟩
theorem tT (x y:ax) (w:World) (bx:Nat) (hb:w.cell? ⟨bx,0,none⟩=some (.func (.func 150) #[] #[])) (hbl:bx<w.heap.size) (hO:Okw w):
 Calls Tryz.prog 180 #[.agg (ai x).toArray,.agg (ai y).toArray,.pointer (some ⟨bx,0,none⟩)] w fun e w'=>e=.returned (.int .i64 (zS x y))/\Below w.heap.size w w':=by
 have H1:Hid (∀ W,Below w.heap.size w W->Calls Tryz.prog 150 #[.agg (ai x).toArray,.agg (ai y).toArray] W fun e w'=>e=.returned (.bool (dU x y))/\Below W.heap.size W w'):=fun W h=>lF x y W (hO.below h)
 have H2:Hid (∀ W,Below w.heap.size w W->Calls Tryz.prog 150 #[.agg (ai y).toArray,.agg (ai x).toArray] W fun e w'=>e=.returned (.bool (dU y x))/\Below W.heap.size W w'):=fun W h=>lF y x W (hO.below h)
 have hc:zS x y=if dU x y then -1 else if dU y x then 1 else 0:=rfl;obtain⟨a,ha⟩:=ac (dU x y);obtain⟨b,hb2⟩:=ac (dU y x);rw[ha] at H1 hc;rw[hb2] at H2 hc;have HCC:=aa hc;clear ha hb2 hc hO;obtain⟨⟨⟨xj,xm,xg,xs,xk,xa⟩,xA,xn,xc⟩,xo⟩:=x;obtain⟨⟨⟨yj,ym,yg,ys,yk,ya⟩,yA,yn,yc⟩,yo⟩:=y;have hx:(ai ⟨(⟨xj,xm,xg,xs,xk,xa⟩,xA,xn,xc),xo⟩).toArray=#[.string (ae xj),.string (ae xm),.slice xA xn xc,.int .i64 xs,.bool xk,.bool xa]:=rfl;have hy:(ai ⟨(⟨yj,ym,yg,ys,yk,ya⟩,yA,yn,yc),yo⟩).toArray=#[.string (ae yj),.string (ae ym),.slice yA yn yc,.int .i64 ys,.bool yk,.bool ya]:=rfl;rw[hx,hy] at H1 H2 ⊢;obtain⟨Z,hZ⟩:=ac (zS ⟨(⟨xj,xm,xg,xs,xk,xa⟩,xA,xn,xc),xo⟩ ⟨(⟨yj,ym,yg,ys,yk,ya⟩,yA,yn,yc),yo⟩);rw[hZ] at HCC ⊢;obtain⟨X,hX⟩:=ac (ae xj);obtain⟨Y,hY⟩:=ac (ae yj);obtain⟨M,hM⟩:=ac (ae xm);obtain⟨N,hN⟩:=ac (ae ym);rw[hX,hY,hM,hN] at H1 H2 ⊢;clear hx hy hZ hX hY hM hN;obtain⟨W1,hW1⟩:=ac (w.alloc (.cells #[.string X,.string M,.slice xA xn xc,.int .i64 xs,.bool xk,.bool xa] 53));obtain⟨p,hp⟩:=ac w.heap.size;have k1:Bk W1 p 53 #[.string X,.string M,.slice xA xn xc,.int .i64 xs,.bool xk,.bool xa]:=by rw[<-hW1,<-hp];exact Bk.new _ _ _
 have b1:Below w.heap.size w W1:=by rw[<-hW1];exact bp _ _
 obtain⟨W2,hW2⟩:∃ W1',W1.alloc (.cells #[.string Y,.string N,.slice yA yn yc,.int .i64 ys,.bool yk,.bool ya] 53)=W1':=⟨_,rfl⟩;obtain⟨q,hq⟩:=ac W1.heap.size;have k2:Bk W2 q 53 #[.string Y,.string N,.slice yA yn yc,.int .i64 ys,.bool yk,.bool ya]:=by rw[<-hW2,<-hq];exact Bk.new _ _ _
 have b2:Below W1.heap.size W1 W2:=by rw[<-hW2];exact bp _ _
 have B2:Hid (Below w.heap.size w W2):=b1.trans (b2.mono b1.size);have KP:=aa (k1.below b2 k1.lt);have KQ:=aa k2;have HB:Hid (∀ W,Below w.heap.size w W->W.cell? ⟨bx,0,none⟩=some (.func (.func 150) #[] #[])):=fun W h=>(h.cell (p:=⟨bx,0,none⟩) hbl).trans hb
 have HP:=aa hp;clear k1 k2 b1 b2 hb;have hb:=HB.out W2 B2.out;have c0:W2.cell? ⟨p,0,none⟩=some (.string X):=KP.out.cell 0;have c1:W2.cell? ⟨p,1,none⟩=some (.string M):=KP.out.cell 1;have c2:W2.cell? ⟨p,2,none⟩=some (.slice xA xn xc):=KP.out.cell 2;have c3:W2.cell? ⟨p,3,none⟩=some (.int .i64 xs):=KP.out.cell 3;have c4:W2.cell? ⟨p,4,none⟩=some (.bool xk):=KP.out.cell 4;have c5:W2.cell? ⟨p,5,none⟩=some (.bool xa):=KP.out.cell 5;have d0:W2.cell? ⟨q,0,none⟩=some (.string Y):=KQ.out.cell 0;have d1:W2.cell? ⟨q,1,none⟩=some (.string N):=KQ.out.cell 1;have d2:W2.cell? ⟨q,2,none⟩=some (.slice yA yn yc):=KQ.out.cell 2;have d3:W2.cell? ⟨q,3,none⟩=some (.int .i64 ys):=KQ.out.cell 3;have d4:W2.cell? ⟨q,4,none⟩=some (.bool yk):=KQ.out.cell 4;have d5:W2.cell? ⟨q,5,none⟩=some (.bool ya):=KQ.out.cell 5;go_enter Tryz.func180,Tryz.ntmps180;go_wp2_with fail
 refine(H1.out W2 B2.out).mono ?_;rintro e w3 ⟨rfl,b3⟩;have B3:Hid (Below w.heap.size w w3):=B2.out.trans (b3.mono B2.out.size);have KP3:=aa (KP.out.below b3 KP.out.lt);have KQ3:=aa (KQ.out.below b3 KQ.out.lt);clear b3 hb hW1 hW2 hq hp c0 d0 c1 d1 c2 d2 c3 d3 c4 d4 c5 d5;cases a with
 | true=>(go_wp2_with fail);go_ret;exact⟨by rw[HCC.out];rfl,by first|exact B3.out|(rw[<-HP.out];exact B3.out)⟩
 | false=>
   have hb:=HB.out w3 B3.out;have c0:w3.cell? ⟨p,0,none⟩=some (.string X):=KP3.out.cell 0;have c1:w3.cell? ⟨p,1,none⟩=some (.string M):=KP3.out.cell 1;have c2:w3.cell? ⟨p,2,none⟩=some (.slice xA xn xc):=KP3.out.cell 2;have c3:w3.cell? ⟨p,3,none⟩=some (.int .i64 xs):=KP3.out.cell 3;have c4:w3.cell? ⟨p,4,none⟩=some (.bool xk):=KP3.out.cell 4;have c5:w3.cell? ⟨p,5,none⟩=some (.bool xa):=KP3.out.cell 5;have d0:w3.cell? ⟨q,0,none⟩=some (.string Y):=KQ3.out.cell 0;have d1:w3.cell? ⟨q,1,none⟩=some (.string N):=KQ3.out.cell 1;have d2:w3.cell? ⟨q,2,none⟩=some (.slice yA yn yc):=KQ3.out.cell 2;have d3:w3.cell? ⟨q,3,none⟩=some (.int .i64 ys):=KQ3.out.cell 3;have d4:w3.cell? ⟨q,4,none⟩=some (.bool yk):=KQ3.out.cell 4;have d5:w3.cell? ⟨q,5,none⟩=some (.bool ya):=KQ3.out.cell 5;(go_wp2_with fail);refine(H2.out w3 B3.out).mono ?_;rintro e w4 ⟨rfl,b4⟩;have B4:Hid (Below w.heap.size w w4):=B3.out.trans (b4.mono B3.out.size);cases b with
   | true=>(go_wp2_with fail);go_ret;exact⟨by rw[HCC.out];rfl,by first|exact B4.out|(rw[<-HP.out];exact B4.out)⟩
   | false=>(go_wp2_with fail);go_ret;exact⟨by rw[HCC.out];rfl,by first|exact B4.out|(rw[<-HP.out];exact B4.out)⟩
theorem jO (A:Option Addr) (cap:Nat) (fv:Value) (w:World):Calls Tryz.prog 236 #[.slice A 0 cap,.int .i64 0,.int .i64 0,fv] w fun e w'=>e=.returned (.tuple #[])/\w'=w:=by
 go_enter Tryz.func236,Tryz.ntmps236;go_wp2_with fail
 refine wp_loop_rounds 1 ?_;rw[rounds_succ];go_wp2_with fail
 go_end0;exact⟨rfl,rfl⟩
theorem nT (A:Option Addr) (cap:Nat) (fv:Value) (w:World):Calls Tryz.prog 211 #[.slice A 0 cap,.int .i64 0,fv] w fun e w'=>e=.returned (.tuple #[])/\w'=w:=by
 have H:=aa (jO A cap fv w);go_enter Tryz.func211,Tryz.ntmps211;go_wp2_with fail
 refine wp_loop_rounds 1 ?_;rw[rounds_succ];go_wp2_with (go_at_call 236;refine H.out.mono ?_;rintro e w' ⟨rfl,rfl⟩)
 refine wp_loop_rounds 1 ?_;rw[rounds_succ];go_wp2_with fail
 go_end0;exact⟨rfl,rfl⟩
theorem jn (A:Option Addr) (cap:Nat) (fv:Value) (w:World):Calls Tryz.prog 179 #[.slice A 0 cap,fv] w fun e w'=>e=.returned (.tuple #[])/\w'=w:=by
 have H:=aa (nT A cap fv w);go_enter Tryz.func179,Tryz.ntmps179;go_wp2_with fail
 refine H.out.mono ?_;rintro e w' ⟨rfl,rfl⟩;go_wp2_with fail
 go_end0;exact⟨rfl,rfl⟩
theorem ne:(Tryz.prog.info? 53).map (fun i=>(i.zero,i.size,i.bytes))=some (some (.agg #[.string ⟨#[]⟩,.string ⟨#[]⟩,.slice none 0 0,.int .i64 0,.bool false,.bool false]),6,72):=by kernel_rfl
def bG (L:List ax):List Value:=L.flatMap ai
theorem eb (x:ax):(ai x).length=6:=rfl
theorem dF:∀ L:List ax,(bG L).length=L.length*6
 |[]=>rfl
 | x::L=>by have e:bG (x::L)=ai x++bG L:=rfl;rw[e,de,eb,dF L,List.length_cons];omega
theorem il:∀ (L:List ax) (i c:Nat),i<L.length->c<6->(bG L)[i*6+c]?=(ai (L.toArray[i]!))[c]?
 | x::L,0,c,_,hc=>by have e:bG (x::L)=ai x++bG L:=rfl;rw[e,Nat.zero_mul,Nat.zero_add,List.getElem?_append_left (by rw[eb];exact hc)];rfl
 | x::L,i+1,c,hi,hc=>by have e:bG (x::L)=ai x++bG L:=rfl;rw[e,List.getElem?_append_right (by rw[eb];omega),eb,show (i+1)*6+c-6=i*6+c by omega,il L i c (by simpa using hi) hc];have h1:i<L.length:=(by simpa using hi);rw[getElem!_pos _ _ (by simpa using h1),getElem!_pos _ _ (by simpa using hi)];simp
theorem ml (L:List ax):∀ u∈bG L,u.oneCell'=true:=fun u hu=>by obtain⟨x,_,hx⟩:=List.mem_flatMap.1 hu;exact encIt_enc.h1 x u hx
def sN (l:List (bj × bB)) (h:∀ p∈l,p.1.jid.length<=140737488355328):List ax:=l.pmap Subtype.mk h
theorem no (l:List (bj × bB)) (h:∀ p∈l,p.1.jid.length<=140737488355328):(sN l h).length=l.length:=List.length_pmap
theorem iE (l:List (bj × bB)) (h:∀ p∈l,p.1.jid.length<=140737488355328):(sN l h).map (·.1)=l:=by unfold sN;rw[List.map_pmap];exact(List.pmap_eq_map _).trans (List.map_id _)
theorem oA (a:Addr) (cap:Nat) (w:World):Calls Tryz.prog 92 #[.slice (some a) 0 cap] w fun e w2=>∃ A c,e=.returned (.slice A 0 c)/\Below w.heap.size w w2/\(0<0->∃ h,A=some ⟨h,0,none⟩/\0<=c/\w.heap.size<=h/\h<w2.heap.size/\St ai 6 w2 h (#[]:Array ax) w2):=by
 obtain⟨i0,hi0,hz0,hz1,hz2⟩:=info_parts ne;have q22:∀ (w:World) (a:Option Addr) (n c n' c':Nat),(binOp .eql 25 (.slice a n c) (.slice none n' c')).run Tryz.prog w=.ok (.bool a.isNone) w:=fun w a n c n' c'=>Lib.run_eql_slice_nil w _ _ a n c n' c' Tryz.underlying25
 go_enter Tryz.func92,Tryz.ntmps92;go_wp2_with (at_builtin;refine wpList_append_own _ rfl _ _ 25 rfl w.heap.size 53 i0 _ 6 72 Tryz.underlying25 hi0 hz0 hz1 hz2 rfl (by decide) _ _ _ rfl (World.ownsRow_made w #[] 0 (aq _) (bI _) rfl) a 0 cap [] rfl ?qc1 ?qc2 ?qc3 ?qc4 ?qc5 ?qc6 ?_)
 case qc1=>simp
 case qc2=>intro j u hj;simp at hj
 case qc3=>intro u hu;cases hu
 case qc4=>simp
 case qc5=>simp
 case qc6=>simp
 intro v' w1 hown hgrow hnil;go_wp2_with fail
 go_ret;have hbl:Below w.heap.size w w1:=((Below.refl _ w).alloc (aq _) _).grown hgrow (by simp) (by intro k hk;simp[Value.ownBlock] at hk;omega);rcases hown.2 with ⟨rfl,_⟩|⟨g,cap2,cur,rfl,_⟩
 ·exact⟨none,0,rfl,hbl,fun h=>absurd h (Nat.lt_irrefl _)⟩
 ·exact⟨some ⟨g,0,none⟩,cap2,by simp,hbl,fun h=>absurd h (Nat.lt_irrefl _)⟩
def vJ (L:List ax) (w:World) (e:Ending) (w':World):Prop:=∃ A cap,e=.returned (.slice A L.length cap)/\Below w.heap.size w w'/\(0<L.length->∃ h W0,A=some ⟨h,0,none⟩/\L.length<=cap/\w.heap.size<=h/\h<w'.heap.size/\St ai 6 W0 h (af dU L).toArray w')
theorem nr (v:Value) (l:List (bj × bB)) (h:∀ p∈l,p.1.jid.length<=140737488355328) (w:World) (hO:Okw w) (hR:ReadI w.heap.size w v l) (hl:l.length<=1000000):
 Calls Tryz.prog 149 #[v,.func (.func 150) #[] #[]] w fun e w'=>vJ (sN l h) w e w':=by
 obtain⟨W1,hW1⟩:=ac (w.alloc (.cells #[.func (.func 150) #[] #[]] 104));obtain⟨bx,hbx⟩:=ac w.heap.size;have K1:Hid (Bk W1 bx 104 #[.func (.func 150) #[] #[]]):=by rw[<-hW1,<-hbx];exact Bk.new _ _ _
 have B1:Hid (Below bx w W1):=by rw[<-hW1,<-hbx];exact bp _ _
 have HW1:=aa hW1;have HBX:=aa hbx;have hsz:bx<=W1.heap.size:=by have:=K1.out.lt;omega
 have HO:Hid (∀ W,Below bx w W->Okw W):=fun W hW=>hO.below (by rw[hbx];exact hW)
 obtain⟨L,hL⟩:=ac (sN l h);have hLl:L.length=l.length:=by rw[<-hL];exact no l h
 have hLv:L.map (·.1)=l:=by rw[<-hL];exact iE l h
 obtain⟨n,hn⟩:=ac l.length;rw[hn] at hLl hl;have HLN:=aa hLl
 -- the copy
 have HC:Hid (Calls Tryz.prog 92 #[v] W1 fun e w2=>∃ A cap,e=.returned (.slice A n cap)/\Below W1.heap.size W1 w2/\(0<n->∃ h,A=some ⟨h,0,none⟩/\n<=cap/\W1.heap.size<=h/\h<w2.heap.size/\St ai 6 w2 h L.toArray w2)):=by
  obtain⟨A,cap,hv,hcell,_⟩:=hR;rw[hn] at hv hcell;rw[hv];obtain⟨i0,hi0,hz0,hz1,hz2⟩:=info_parts ne;by_cases h0:0<n
  ·obtain⟨b,off,rfl,hb,hc⟩:=hcell h0;refine(AnyE.slices_Clone Tryz.cloneItem i0 _ 6 72 hi0 hz0 hz1 hz2 rfl (by decide) Tryz.sizeOf53 b off n cap (bG L) W1 (by rw[dF,hLl]) (co hl (by decide)) (by omega) (fun j u hj=>?_) (ml L)).mono ?_
   ·have hj1:=(cD hj).1;rw[dF,hLl] at hj1;have hj2:j / 6<n:=(by omega);have hj3:j % 6<6:=Nat.mod_lt _ (by decide);have hj4:j / 6*6+j % 6=j:=(by omega);have e1:=il L (j / 6) (j % 6) (by omega) hj3;rw[hj4,hj] at e1;have hb1:b<bx:=(by rw[<-hbx];exact hb);rw[B1.out.cell (p:=⟨b,off+j,none⟩) hb1];have hlt2:j / 6<L.length:=(by omega);have e2:l[j / 6]?=some (L[j / 6]).1:=(by rw[<-hLv,List.getElem?_map,aQ hlt2];rfl);have e3:(ai (L.toArray[j / 6]!))[j % 6]?=(gH (L[j / 6]).1.1 (sl (L[j / 6]).1.2))[j % 6]?:=(by rw[getElem!_pos _ _ (by simpa using hlt2)];simp[ai]);rw[e3] at e1;have:=hc (j / 6) _ e2 (j % 6) u e1.symm;rw[show off+j / 6*6+j % 6=off+j by omega] at this;exact this
   ·rintro e w2 ⟨v',rfl,ho,hne,hbl⟩;rcases ho.2 with ⟨rfl,_⟩|⟨g,cap2,cur,rfl,hge,hh,hnc,_,hcs,htk⟩
    ·exact absurd rfl hne
    ·refine⟨some ⟨g,0,none⟩,cap2,rfl,hbl,fun _=>⟨g,rfl,hnc,hge,lt_of_block hh,?_⟩⟩;refine⟨⟨rfl,rfl,rfl,aq _,fun _ _ _=>rfl⟩,?_,lt_of_block hh⟩;have hK:Bk w2 g 53 cur:=hh;intro j hj;have hj1:j<n*6:=(by rw[size_flatK,List.size_toArray,hLl] at hj;exact hj);have hj4:j / 6*6+j % 6=j:=(by omega);have hjl:j<(bG L).length:=(by rw[dF,hLl];exact hj1);have e1:cur[j]?=some (bG L)[j]:=(by have h3:(cur.toList.take (n*6))[j]?=some (bG L)[j]:=(by rw[htk];exact aQ hjl);rw[List.getElem?_take,if_pos hj1,Array.getElem?_toList] at h3;exact h3);have e2:=il L (j / 6) (j % 6) (by omega) (Nat.mod_lt _ (by decide));rw[hj4,aQ hjl] at e2;rw[Nat.zero_add,hK.cell,e1,get_flatK _ _ _ _ (by rw[List.size_toArray,hLl];exact hj1)];refine⟨?_,hK.free j⟩;have hm:j % 6<(ai L.toArray[j / 6]!).length:=(by rw[eb];exact Nat.mod_lt _ (by decide));rw[aQ hm] at e2;have e5:(ai L.toArray[j / 6]!)[j % 6]! = (ai L.toArray[j / 6]!)[j % 6]:=getElem!_pos (ai L.toArray[j / 6]!) (j % 6) hm;rw[e5];exact e2
  ·have hn0:n=0:=(by omega);have hL0:L=[]:=eB (by omega);rw[hn0,hL0];cases A with
   | none=>refine(AnyE.slices_Clone_nil Tryz.cloneItem 0 cap W1).mono ?_;rintro e w2 ⟨rfl,rfl⟩;exact⟨none,0,rfl,aE _ _,fun h=>absurd h (Nat.lt_irrefl _)⟩
   |some a=>exact oA a cap W1
 unfold vJ;rw[hL,hLl];clear hR hW1 hbx hL hLv hn;go_enter Tryz.func149,Tryz.ntmps149;go_upto_region 1 with fail
 (try rw[HW1.out]);(try rw[HBX.out]);go_wp2_with fail
 refine HC.out.mono ?_;rintro e w2 ⟨A,cap,rfl,b2,h2⟩;have B2:Hid (Below bx w w2):=B1.out.trans (b2.mono hsz);have H2:=aa h2;have K2:Hid (Bk w2 bx 104 #[.func (.func 150) #[] #[]]):=K1.out.below b2 K1.out.lt;clear b2 h2;by_cases h0:0<n
 ·obtain⟨g,rfl,hnc,hge,hlt,hS⟩:=H2.out h0;have hbS:∀ D W',St ai 6 w2 g D W'->Below bx w W':=(fun D W' S'=>B2.out.trans ⟨S'.grown.os,S'.grown.tape,S'.grown.output,S'.grown.size,fun k hk=>S'.grown.block k (Nat.lt_of_lt_of_le hk (co hsz (by omega))) (by intro e;injection e with e;have:=K1.out.lt;omega)⟩);have hcmp:ob 180 #[.pointer (some ⟨bx,0,none⟩)] zS w2 g:=(fun D W' S' x y=>by have hk:=K2.out;have e3:=S'.grown.block bx hk.lt (by intro k;injection k with k;have:=K1.out.lt;omega);have e4:Bk W' bx 104 #[.func (.func 150) #[] #[]]:=e3.trans hk;exact tT x y W' bx (e4.cell 0) e4.lt (HO.out W' (hbS D W' S')));have HQ:=aa (jS dU ltI_weak zS zT 180 #[.pointer (some ⟨bx,0,none⟩)] (enters_of Tryz.func180 (by kernel_rfl) rfl) L n cap w2 w2 g hcmp HLN.out (by omega) hS);have HG:Hid (W1.heap.size<=g/\g<w2.heap.size/\n<=cap):=⟨hge,hlt,hnc⟩;have HBS:=aa hbS;clear hcmp hS hge hlt hnc H2 HC hbS;(go_wp2_with fail);refine HQ.out.mono ?_;rintro e w3 ⟨rfl,S3⟩;have HB3:=aa (HBS.out _ _ S3);have HS3:=aa S3;clear S3;(go_wp2_with fail);go_ret;exact⟨_,cap,rfl,by first|exact HB3.out|(rw[HBX.out];exact HB3.out),fun _=>⟨g,w2,rfl,HG.out.2.2,by first|(have:=HG.out;omega)|(rw[HBX.out];have:=HG.out;omega),HS3.out.ltW,HS3.out⟩⟩
 ·have hn0:n=0:=(by omega);subst hn0;have HQ:=aa (jn A cap (.func (.func 180) #[] #[.pointer (some ⟨bx,0,none⟩)]) w2);clear H2 HC;(go_wp2_with fail);refine HQ.out.mono ?_;rintro e w3 ⟨rfl,rfl⟩;(go_wp2_with fail);go_ret;exact⟨A,cap,rfl,by first|exact B2.out|(rw[HBX.out];exact B2.out),fun h=>absurd h (Nat.lt_irrefl _)⟩
end
section
open Sy Tx Ct
def oa (x y:bj):Bool:=Jd.lessL x.jid y.jid
theorem p7 (L:List ax):(af dU L).map (fun x=>x.1.1)=af oa (L.map fun x=>x.1.1):=(dP (fun x:ax=>x.1.1) (lt:=dU) (lt':=oa) (fun _ _=>rfl) L).symm
end
section
open Go.RowKit Tx Ct
theorem oB (v:Value) (l:List (List UInt8)) (w:World) (B:Nat) (hR:ReadT B w v (al l)) (hl:l.length<=8796093022208):
 Calls Tryz.prog 61 #[v] w fun e w'=>∃ A cap,e=.returned (.slice A l.length cap)/\OwnT w.heap.size w' (.slice A l.length cap) (al l)/\Below w.heap.size w w':=by
 have hll:(al l).length=l.length:=cr _;have own_reads:∀ (v':Value) (w2:World),w2.ownsRow w.heap.size 9 1 v' l.length ((al l).map Value.string)->v'≠.slice none 0 0->∃ A cap,v'=.slice A l.length cap/\OwnT w.heap.size w2 v' (al l):=fun v' w2 ho hne=>by
  have ho2:OwnT w.heap.size w2 v' (al l):=by unfold OwnT cX;rw[hll];exact ho
  obtain⟨A,cap,hA⟩:=ho2.slice;rw[hll] at hA;exact⟨A,cap,hA,ho2⟩
 by_cases h0:0<l.length
 ·obtain⟨b,off,cap,hv,hb,hc⟩:=hR.flat (by omega);rw[hv];refine(Tryz.slices_Clone_string b off (al l).length cap (al l) w (aq _) (by omega) hc).mono ?_;rintro e w2 ⟨v',rfl,ho,hne,hbl⟩;rw[List.take_length,hll] at ho;obtain⟨A,cap2,rfl,hr⟩:=own_reads v' w2 ho hne;exact⟨A,cap2,rfl,hr,hbl⟩
 ·have hl0:l=[]:=eB (by omega);subst hl0;obtain⟨A,cap,hv,_⟩:=hR;rw[hv];cases A with
  | none=>refine(Tryz.slices_Clone_string_nil 0 cap w).mono ?_;rintro e w2 ⟨rfl,rfl⟩;exact⟨none,0,rfl,OwnT.nil _ _,aE _ _⟩
  | some a=>refine(Tryz.slices_Clone_string_zero a cap w).mono ?_;rintro e w2 ⟨v',rfl,ho,hne,hbl⟩;obtain⟨A,cap2,rfl,hr⟩:=own_reads v' w2 ho hne;exact⟨A,cap2,rfl,hr,hbl⟩
theorem tV (x:bj) (gv:Value) (w:World) (hR:ReadT w.heap.size w gv (al x.groups)) (hl:x.groups.length<=8796093022208):
 Calls Tryz.prog 151 #[e9 x gv] w fun e w'=>∃ gv',e=.returned (e9 x gv')/\OwnT w.heap.size w' gv' (al x.groups)/\Below w.heap.size w w':=by
 obtain⟨A,cap,hv,_⟩:=id hR;obtain⟨n,hnn⟩:=ac ((al x.groups).length);rw[hnn] at hv;subst hv;have hgl:x.groups.length=n:=by rw[<-hnn];exact(cr _).symm
 have hai:∀ A cap,e9 x (.slice A n cap)=.agg #[.string (ae x.jid),.string (ae x.name),.slice A n cap,.int .i64 x.sub,.bool x.ask,.bool x.app]:=fun A cap=>rfl
 have HAI:=aa hai;rw[gt];obtain⟨J,hJ⟩:=ac (ae x.jid);obtain⟨N,hN⟩:=ac (ae x.name);obtain⟨s,hs2⟩:=ac x.sub;obtain⟨ask,ha⟩:=ac x.ask;obtain⟨app,hp⟩:=ac x.app;rw[hJ,hN,hs2,ha,hp] at HAI ⊢;obtain⟨W1,hW1⟩:=ac (w.alloc (.cells #[.string J,.string N,.slice A n cap,.int .i64 s,.bool ask,.bool app] 53));obtain⟨bx,hbx⟩:=ac w.heap.size;obtain⟨W2,hW2⟩:=ac (W1.alloc (.cells #[.string ⟨#[]⟩,.string ⟨#[]⟩,.slice none 0 0,.int .i64 0,.bool false,.bool false] 53));obtain⟨rb,hrb1⟩:=ac (bx+1);have hrb:W1.heap.size=rb:=by rw[<-hW1,World.size_alloc,hbx,hrb1]
 have k1:Bk W1 bx 53 #[.string J,.string N,.slice A n cap,.int .i64 s,.bool ask,.bool app]:=by rw[<-hW1,<-hbx];exact Bk.new _ _ _
 have K2:Hid (Bk W2 bx 53 #[.string J,.string N,.slice A n cap,.int .i64 s,.bool ask,.bool app]):=by rw[<-hW2];exact k1.alloc _
 have R2:Hid (Bk W2 rb 53 #[.string ⟨#[]⟩,.string ⟨#[]⟩,.slice none 0 0,.int .i64 0,.bool false,.bool false]):=by rw[<-hW2,<-hrb];exact Bk.new _ _ _
 have B2:Hid (Below w.heap.size w W2):=by rw[<-hW2,<-hW1];exact(bp _ _).alloc (by rw[World.size_alloc];omega) _
 have HNE:Hid (bx<rb/\w.heap.size<=bx):=by have:=k1.lt;unfold Hid;omega
 have HC:=aa (oB (.slice A n cap) x.groups W2 w.heap.size (hR.below B2.out) hl);rw[hgl] at HC;have HW1:=aa hW1;have HW2:=aa hW2;have HBX:=aa hbx;have HRB:=aa hrb1;have c2:W2.cell? ⟨bx,2,none⟩=some (.slice A n cap):=K2.out.cell 2;obtain⟨G,hG⟩:=ac x.groups;rw[hG] at HC ⊢;have HAI2:Hid (∀ A cap,e9 x (.slice A n cap)=.agg #[.string J,.string N,.slice A n cap,.int .i64 s,.bool ask,.bool app]):=HAI;clear hW1 hW2 hbx hrb hrb1 k1 hR hl hnn hgl hai hJ hN hs2 ha hp hG HAI;go_enter Tryz.func151,Tryz.ntmps151;go_upto_region 1 with fail
 (try rw[HW1.out]);(try rw[HBX.out]);(try rw[HRB.out]);(try rw[HW2.out]);go_wp2_with fail
 refine HC.out.mono ?_;rintro e w3 ⟨A3,cap3,rfl,hr3,b3⟩;have K3:=K2.out.below b3 K2.out.lt;have R3:=R2.out.below b3 R2.out.lt;have B3:Hid (Below w.heap.size w w3):=B2.out.trans (b3.mono B2.out.size);have f2:w3.frozen? ⟨bx,2,none⟩=false:=K3.free 2;have e2:w3.cell? ⟨bx,2,none⟩=some (.slice A n cap):=K3.cell 2;have K4:=aa (K3.put 2 (.slice A3 n cap3));have R4:=aa (R3.far (p:=⟨bx,2,none⟩) (by have:=HNE.out;show rb≠bx;omega) (.slice A3 n cap3));have B4:Hid (Below w.heap.size w (w3.setCell ⟨bx,2,none⟩ (.slice A3 n cap3))):=B3.out.setCell (p:=⟨bx,2,none⟩) HNE.out.2 _;have HR3:=aa hr3;clear K3 R3 b3 hr3 c2;go_upto_region 2 with fail
 have O4:Hid (OwnT W2.heap.size (w3.setCell ⟨bx,2,none⟩ (.slice A3 n cap3)) (.slice A3 n cap3) (al G)):=HR3.out.set K2.out.lt;obtain⟨w4,hw4⟩:=ac (w3.setCell ⟨bx,2,none⟩ (.slice A3 n cap3));rw[hw4] at K4 R4 B4 O4 ⊢;have k5:Bk w4 bx 53 #[.string J,.string N,.slice A3 n cap3,.int .i64 s,.bool ask,.bool app]:=by simpa using K4.out
 have i0:w4.cell? ⟨bx,0,none⟩=some (.string J):=k5.cell 0;have i1:w4.cell? ⟨bx,1,none⟩=some (.string N):=k5.cell 1;have i2:w4.cell? ⟨bx,2,none⟩=some (.slice A3 n cap3):=k5.cell 2;have i3:w4.cell? ⟨bx,3,none⟩=some (.int .i64 s):=k5.cell 3;have i4:w4.cell? ⟨bx,4,none⟩=some (.bool ask):=k5.cell 4;have i5:w4.cell? ⟨bx,5,none⟩=some (.bool app):=k5.cell 5;have r0:w4.cell? ⟨rb,0,none⟩=some (.string ⟨#[]⟩):=R4.out.cell 0;have g0:w4.frozen? ⟨rb,0,none⟩=false:=R4.out.free 0;have r1:w4.cell? ⟨rb,1,none⟩=some (.string ⟨#[]⟩):=R4.out.cell 1;have g1:w4.frozen? ⟨rb,1,none⟩=false:=R4.out.free 1;have r2:w4.cell? ⟨rb,2,none⟩=some (.slice none 0 0):=R4.out.cell 2;have g2:w4.frozen? ⟨rb,2,none⟩=false:=R4.out.free 2;have r3:w4.cell? ⟨rb,3,none⟩=some (.int .i64 0):=R4.out.cell 3;have g3:w4.frozen? ⟨rb,3,none⟩=false:=R4.out.free 3;have r4:w4.cell? ⟨rb,4,none⟩=some (.bool false):=R4.out.cell 4;have g4:w4.frozen? ⟨rb,4,none⟩=false:=R4.out.free 4;have r5:w4.cell? ⟨rb,5,none⟩=some (.bool false):=R4.out.cell 5;have g5:w4.frozen? ⟨rb,5,none⟩=false:=R4.out.free 5;have hrb2:rb<W2.heap.size:=R2.out.lt;have O5:Hid (OwnT W2.heap.size (cL w4 rb (.string J) (.string N) (.slice A3 n cap3) (.int .i64 s) (.bool ask) (.bool app)) (.slice A3 n cap3) (al G)):=(((((O4.out.set hrb2).set hrb2).set hrb2).set hrb2).set hrb2).set hrb2;have R5:=aa (bs R4.out (.string J) (.string N) (.slice A3 n cap3) (.int .i64 s) (.bool ask) (.bool app));have B5:=aa (aF B4.out (by have:=HNE.out;omega:w.heap.size<=rb) (.string J) (.string N) (.slice A3 n cap3) (.int .i64 s) (.bool ask) (.bool app));obtain⟨w5,hw5⟩:=ac (cL w4 rb (.string J) (.string N) (.slice A3 n cap3) (.int .i64 s) (.bool ask) (.bool app));rw[hw5] at O5 R5 B5;clear hw4 k5 f2 e2 hrb2;go_wp2_with fail
 have j0:w5.cell? ⟨rb,0,none⟩=some (.string J):=R5.out.cell 0;have j1:w5.cell? ⟨rb,1,none⟩=some (.string N):=R5.out.cell 1;have j2:w5.cell? ⟨rb,2,none⟩=some (.slice A3 n cap3):=R5.out.cell 2;have j3:w5.cell? ⟨rb,3,none⟩=some (.int .i64 s):=R5.out.cell 3;have j4:w5.cell? ⟨rb,4,none⟩=some (.bool ask):=R5.out.cell 4;have j5:w5.cell? ⟨rb,5,none⟩=some (.bool app):=R5.out.cell 5;refine bodyPost_ret (v:=.agg #[.string J,.string N,.slice A3 n cap3,.int .i64 s,.bool ask,.bool app]) (by simp[results,Tryz.results151,go_sem,j0,j1,j2,j3,j4,j5]) rfl ?_;exact⟨.slice A3 n cap3,by rw[HAI2.out],O5.out.less B2.out.size,B5.out⟩
end
section
open Go.RowKit Go.Sort Sy Tx Ct
namespace Sy
variable {α:Type} [Inhabited α] {enc:α->List Value} {k:Nat} {W0 W W':World} {B:Nat} {d:Array α}
theorem iq (d:Array α) (i j:Nat) (hi:i<d.size) (y:α):(d.setIfInBounds i y)[j]! = if j=i then y else d[j]!:=by
 by_cases h:j=i
 ·subst h;rw[if_pos rfl,getElem!_pos (d.setIfInBounds j y) j (by simpa using hi),Array.getElem_setIfInBounds_self]
 ·rw[if_neg h];by_cases hj:j<d.size
  ·rw[getElem!_pos (d.setIfInBounds i y) j (by simpa using hj),getElem!_pos d j hj];rw[Array.getElem_setIfInBounds];exact if_neg (fun e=>h e.symm)
  ·rw[getElem!_neg (d.setIfInBounds i y) j (by simpa using hj),getElem!_neg d j hj]
theorem pW (hk:∀ x,(enc x).length=k) (d:Array α) (i:Nat) (hi:i<d.size) (y:α):setMany (flatK enc k d) (i*k) (enc y)=flatK enc k (d.setIfInBounds i y):=by
 refine ext_get! (by simp) fun t ht=>?_
 have ht':t<d.size*k:=by simpa using ht
 have k0:0<k:=by
  rcases Nat.eq_zero_or_pos k with h|h
  ·subst h;simp at ht'
  ·exact h
 rw[get_setMany _ _ _ t (by simpa using ht'),get_flatK _ _ _ t ht',get_flatK _ _ _ t (by simpa using ht'),hk,iq d i _ hi];by_cases a:t / k=i
 ·rw[if_pos ((blk_iff k i t k0).2 a),if_pos a,show t-i*k=t % k from by subst a;rw[Nat.mod_eq_sub_div_mul]]
 ·rw[if_neg (fun h=>a ((blk_iff k i t k0).1 h)),if_neg a]
theorem St.put1 (h:St enc k W0 B d W) (R:Enc enc k) (i:Nat) (hi:i<d.size) (y:α):St enc k W0 B (d.setIfInBounds i y) (W.setCells B (i*k) (enc y)):=by refine⟨cP _ _ _ h.grown,?_,h.lt⟩;have a:=dV h.holds (i*k) (enc y) (by rw[R.hk,size_flatK];exact jg d k i hi);rw[Nat.zero_add,pW R.hk d i hi y] at a;exact a
end Sy
theorem uP (w:World) (g P:Nat) (a b c d e f:Value):w.setCells g P [a,b,c,d,e,f]=(((((w.setCell ⟨g,P,none⟩ a).setCell ⟨g,P+1,none⟩ b).setCell ⟨g,P+2,none⟩ c).setCell ⟨g,P+3,none⟩ d).setCell ⟨g,P+4,none⟩ e).setCell ⟨g,P+5,none⟩ f:=rfl
theorem xT {W0 W:World} {g cap:Nat} {D:Array ax} (hS:St ai 6 W0 g D W) (hT:∀ j,j<D.size->ReadT W.heap.size W (sl D[j]!.1.2) (al D[j]!.1.1.groups)):
 ReadI W.heap.size W (.slice (some ⟨g,0,none⟩) D.size cap) (D.toList.map (·.1)):=by
 refine⟨_,cap,by simp,fun _=>⟨g,0,rfl,hS.ltW,fun i p hi c u hu=>?_⟩,fun p hp=>?_⟩
 ·rw[List.getElem?_map] at hi;obtain⟨x,hx,rfl⟩:=Option.map_eq_some_iff.1 hi;rw[Array.getElem?_toList] at hx;obtain⟨hlt,rfl⟩:=Array.getElem?_eq_some_iff.1 hx;have hc:c<6:=(by have:=(cD hu).1;simpa [gH] using this);have h1:=(hS.cellI i hlt c hc).1;rw[Nat.zero_add,h1,getElem!_pos D i hlt];have hl:c<(ai D[i]).length:=(by rw[eb];exact hc);rw[getElem!_pos (ai D[i]) c hl];have hu2:(ai D[i])[c]?=some u:=hu;rw[aQ hl] at hu2;exact hu2
 ·obtain⟨x,hx,rfl⟩:=List.mem_map.1 hp;obtain⟨j,hj,rfl⟩:=List.getElem_of_mem hx;have hj2:j<D.size:=(by simpa using hj);have:=hT j hj2;rw[getElem!_pos D j hj2] at this;rw[Array.getElem_toList];exact this
end
namespace Ct
open Go.Proofs.YtbgaglcgennhiaaGreatDoor Tx
theorem tA {s:List UInt8} {c d:List UInt8 × List UInt8 × Bool} (hc:Jd.cutB 47 s=c) (hd:Jd.halfL c.1=d):Jd.parseL s=Jd.three (Jd.domL d.2.1) (Jd.part d.2.2 1 d.1) (Jd.part c.2.2 3 c.2.1):=by subst hc;subst hd;rfl
end Ct
section
open Go.RowKit Tx Ct
def cI (x:bj):Nat:=5+x.jid.length+x.name.length+aR x.groups
def cQ (l:List (bj × bB)):Nat:=(l.map fun p=>cI p.1).sum
end
section
open Tx Ct
theorem vz (j:Jd.J):(Jd.textL j).length<=j.1.length+j.2.1.length+j.2.2.length+2:=by unfold Jd.textL;rw[de];split<;>split<;>simp<;>omega
theorem mm:∀ cs:List Nat,(flat cs).length<=4*cs.length
 |[]=>by simp[flat]
 | c::cs=>by have h1:=mm cs;have h2:=(ga (n:=c)).2;rw[show c::cs=[c]++cs from rfl,bU,dx,de,de,List.length_singleton];omega
theorem i8 {t:List UInt8} {n:Nat} (h:line t n=true):t.length<=4*n:=by obtain⟨cs,h1,h2,_⟩:=fj h;rw[dK h1] at h;have h3:=of_decide_eq_true (Bool.and_eq_true_iff.1 h).2;have h4:=mm cs;rw[<-h2];omega
theorem iD (s:List UInt8) (k:Nat):(dD s k).length<=300:=by
 have h:=pi s k;unfold Jd.bareL at h;by_cases hp:(Jd.parseL (dD s k)).2=0
 ·rw[if_pos hp] at h;by_cases hr:(Jd.parseL (dD s k)).1.2.2=[]
  ·rw[if_pos hr] at h;have e:=congrArg Prod.fst h;simp only at e;have hl:=Jd.parse_len (show Jd.parseL (dD s k)=((Jd.parseL (dD s k)).1,0) from Prod.ext rfl hp);have ht:=vz (Jd.parseL (dD s k)).1;rw[e] at ht;omega
  ·rw[if_neg hr] at h;exact absurd (congrArg Prod.snd h) (by simp)
 ·rw[if_neg hp] at h;exact absurd (congrArg Prod.snd h) hp
theorem NearI.sizes {d:bj} (h:NearI d):d.jid.length<=300/\d.name.length<=400/\d.groups.length<=4/\∀ g∈d.groups,g.length<=120:=by obtain⟨s,k,hj⟩:=h.jid;obtain⟨l,hg,hl,hx⟩:=h.groups;refine⟨by rw[hj];exact iD s k,i8 (n:=100) h.name,by rw[hg];exact co (kM l) hl,fun g hm=>?_⟩;rw[hg] at hm;exact i8 (n:=30) (hx g (((eL l).2 g).1 hm).1)
end
section
open Go.RowKit Go.Sort Sy Ct Tx
theorem ReadI.upon {w W:World} {v:Value} {l:List (bj × bB)} (h:ReadI w.heap.size w v l) (hb:Below w.heap.size w W):ReadI W.heap.size W v l:=by obtain⟨A,cap,hv,hc,hT⟩:=h;refine⟨A,cap,hv,fun h0=>?_,fun p hp=>(hT p hp).upon hb⟩;obtain⟨b,off,ha,hbb,hcc⟩:=hc h0;exact⟨b,off,ha,Nat.lt_of_lt_of_le hbb hb.size,fun i p hp c u hu=>by rw[hb.cell (p:=⟨b,off+i*6+c,none⟩) hbb];exact hcc i p hp c u hu⟩
end
section
open Go.RowKit Tx Ct
structure bk where
 name:List UInt8
 pw:List UInt8
 items:List (bj × bB)
 iv:bB
 pend:List (List UInt8)
 pv:bB
structure aN where
 name:List UInt8
 users:List bk
 uv:bB
instance:Inhabited bk:=⟨⟨[],[],[],(none,0,0),[],(none,0,0)⟩⟩
instance:Inhabited aN:=⟨⟨[],[],(none,0,0)⟩⟩
def ao (x:bk):List Value:=[.string (ae x.name),.string (ae x.pw),sl x.iv,sl x.pv]
def aw (x:aN):List Value:=[.string (ae x.name),sl x.uv]
def RowV {α:Type} (enc:α->List Value) (k B:Nat) (w:World) (v:Value) (l:List α):Prop:=∃ A cap,v=.slice A l.length cap/\(0<l.length->∃ b off,A=some ⟨b,off,none⟩/\b<B/\∀ i p,l[i]?=some p->∀ c u,(enc p)[c]?=some u->w.cell? ⟨b,off+i*k+c,none⟩=some u)
theorem RowV.upon {α:Type} {enc:α->List Value} {k:Nat} {w W:World} {v:Value} {l:List α} (h:RowV enc k w.heap.size w v l) (hb:Below w.heap.size w W):RowV enc k W.heap.size W v l:=by obtain⟨A,cap,hv,hc⟩:=h;refine⟨A,cap,hv,fun h0=>?_⟩;obtain⟨b,off,ha,hbb,hcc⟩:=hc h0;exact⟨b,off,ha,Nat.lt_of_lt_of_le hbb hb.size,fun i p hp c u hu=>by rw[hb.cell (p:=⟨b,off+i*k+c,none⟩) hbb];exact hcc i p hp c u hu⟩
def az (p:bj × bB):List Value:=gH p.1 (sl p.2)
theorem ReadI.row {B:Nat} {w:World} {v:Value} {l:List (bj × bB)} (h:ReadI B w v l):RowV az 6 B w v l:=by obtain⟨A,cap,hv,hc,_⟩:=h;exact⟨A,cap,hv,hc⟩
theorem ReadI.of_row {B:Nat} {w:World} {v:Value} {l:List (bj × bB)} (h:RowV az 6 B w v l) (hT:∀ p∈l,ReadT B w (sl p.2) (al p.1.groups)):ReadI B w v l:=by obtain⟨A,cap,hv,hc⟩:=h;exact⟨A,cap,hv,hc,hT⟩
def InU (w:World) (p:bk):Prop:=ReadI w.heap.size w (sl p.iv) p.items/\ReadT w.heap.size w (sl p.pv) (al p.pend)
theorem InU.upon {w W:World} {p:bk} (h:InU w p) (hb:Below w.heap.size w W):InU W p:=⟨h.1.upon hb,h.2.upon hb⟩
def ReadU (w:World) (v:Value) (l:List bk):Prop:=RowV ao 4 w.heap.size w v l/\∀ p∈l,InU w p
theorem ReadU.upon {w W:World} {v:Value} {l:List bk} (h:ReadU w v l) (hb:Below w.heap.size w W):ReadU W v l:=⟨h.1.upon hb,fun p hp=>(h.2 p hp).upon hb⟩
def ReadH (w:World) (v:Value) (l:List aN):Prop:=RowV aw 2 w.heap.size w v l/\∀ p∈l,ReadU w (sl p.uv) p.users
theorem ReadH.upon {w W:World} {v:Value} {l:List aN} (h:ReadH w v l) (hb:Below w.heap.size w W):ReadH W v l:=⟨h.1.upon hb,fun p hp=>(h.2 p hp).upon hb⟩
def bi {α:Type} [Inhabited α] (lt:α->α->Bool) (ok:α->Bool) (l:List α) (i:Nat):Bool:=(decide (i=0)||lt l[i-1]! l[i]!)&&ok l[i]!
def aA {α:Type} [Inhabited α] (most:Nat) (lt:α->α->Bool) (ok:α->Bool) (l:List α):Bool:=decide (l.length<=most)&&(List.range l.length).all (bi lt ok l)
theorem gi {α:Type} [Inhabited α] {most:Nat} {lt:α->α->Bool} {ok:α->Bool} {l:List α} (i:Nat) (hi:i<l.length) (h:bi lt ok l i=false):aA most lt ok l=false:=by have:(List.range l.length).all (bi lt ok l)=false:=List.all_eq_false.2 ⟨i,List.mem_range.2 hi,by rw[h];decide⟩;unfold aA;rw[this,Bool.and_false]
theorem ep {α:Type} [Inhabited α] {most:Nat} {lt:α->α->Bool} {ok:α->Bool} {l:List α} (hm:l.length<=most) (h:∀ i,i<l.length->bi lt ok l i=true):aA most lt ok l=true:=by unfold aA;rw[bq hm,Bool.true_and];exact List.all_eq_true.2 fun i hi=>h i (List.mem_range.1 hi)
theorem eG {α:Type} [Inhabited α] {most:Nat} {lt:α->α->Bool} {ok:α->Bool} {l:List α} (hm:most<l.length):aA most lt ok l=false:=by unfold aA;rw[bF (by omega)];rfl
theorem gN {α:Type} [Inhabited α] {most:Nat} {lt:α->α->Bool} {ok:α->Bool} (x:α) (hm:1<=most):aA most lt ok [x]=ok x:=by unfold aA;rw[bq (by simpa using hm)];simp[bi,List.range_succ]
theorem rE {α:Type} [Inhabited α] {most:Nat} {lt:α->α->Bool} {ok:α->Bool} (x y:α) (hm:2<=most):aA most lt ok [x,y]=(ok x&&(lt x y&&ok y)):=by unfold aA;rw[bq (by simpa using hm)];simp[bi,List.range_succ]
def jL (s:List UInt8):Bool:=decide (Jd.domL s=(s,0))
def dW (s:List UInt8):Bool:=decide (Pr.prepL 1 s=(s,0))&&!decide (s=[])&&decide (s.length<=64)
def i7 (x:bj):Bool:=decide (x.sub=2)||decide (x.sub=3)||x.app
def k9 (p q:bj × bB):Bool:=Jd.lessL p.1.jid q.1.jid
def nn (p:bj × bB):Bool:=fP p.1
def fz (u:bk) (p:bj × bB):Bool:=i7 p.1&&decide (p.1.jid∈u.pend)
def mZ (u:bk):Bool:=dW u.name&&line u.pw 100&&aA 60 k9 nn u.items&&aA 60 Jd.lessL bR u.pend&&!u.items.any (fz u)
def yG (x y:bk):Bool:=Jd.ltL x.name y.name
def yF (x y:aN):Bool:=Jd.ltL x.name y.name
def jf (l:List bk):Bool:=aA 20 yG mZ l
def tk (h:aN):Bool:=jL h.name&&jf h.users
def fp (l:List aN):Bool:=aA 5 yF tk l
structure Ax (x:bj):Prop where
 jid:x.jid.length<=100000000
 name:x.name.length<=100000000
 groups:x.groups.length<=1000000
 each:∀ g∈x.groups,g.length<=100000000
structure nZ (u:bk):Prop where
 name:u.name.length<=100000000
 pw:u.pw.length<=100000000
 items:u.items.length<=1000000
 eachI:∀ p∈u.items,Ax p.1
 pend:u.pend.length<=1000000
 eachP:∀ t∈u.pend,t.length<=100000000
structure gS (h:aN):Prop where
 name:h.name.length<=100000000
 users:h.users.length<=1000000
 each:∀ u∈h.users,nZ u
end
section
open Go.RowKit Ct
theorem zm (v:Value) (l:List (List UInt8)) (x:List UInt8) (w:World) (hR:ReadT w.heap.size w v (al l)) (hl:l.length<=1000000):
 Calls Tryz.prog 52 #[v,.string (ae x)] w fun e w'=>e=.returned (.bool (decide (x∈l)))/\Below w.heap.size w w':=by
 obtain⟨A,cap,rfl,hcell⟩:=hR;have hsl:(al l).length=l.length:=by unfold al;rw[cr]
 rw[hsl] at hcell ⊢;obtain⟨n,hn⟩:=ac l.length;have HN:=aa hn;rw[hn] at hcell hl ⊢;have HC:=aa hcell;have HQ:=aa (fun y=>dE y x);have hst:Hid (∀ k y,l[k]?=some y->decide (x∈l.take (k+1))=(decide (x∈l.take k)||decide (y=x))):=fun k y hy=>by
  rw[List.take_add_one,hy];simp only[Option.toList,List.mem_append,List.mem_singleton,Bool.decide_or]
  congr 1
  exact decide_eq_decide.2 ⟨Eq.symm,Eq.symm⟩
 have hyes:Hid (∀ k,decide (x∈l.take k)=true->decide (x∈l)=true):=fun k h=>bq (List.mem_of_mem_take (of_decide_eq_true h))
 obtain⟨X,hX⟩:=ac (ae x);rw[hX] at HQ ⊢;have h0:Hid (decide (x∈l.take 0)=false):=rfl;obtain⟨D,hD⟩:=ac (decide (x∈l));rw[hD] at hyes ⊢;have HD:=aa hD;clear hcell hn hsl hX hD;go_enter Tryz.func52,Tryz.ntmps52;go_wp2_with fail
 go_loopw [5] (fun iv wr=>∃ (k:Nat),iv=.int .i64 k/\k<=n/\Hid (decide (x∈l.take k)=false)/\Hid (Below w.heap.size w wr)) (fun iv _=>n-(intOf iv).toNat)
 case atStart=>exact⟨0,rfl,bI _,h0,aE _ _⟩
 case round=>
  obtain⟨k,rfl,hk,HF,BW⟩:=hrel;by_cases hlt:k<n
  ·obtain⟨ad,rfl,hlb,hcell⟩:=HC.out (by omega);obtain⟨y,hy⟩:∃ p,l[k]?=some p:=⟨_,aQ (by rw[HN.out];exact hlt)⟩;have c0:=hcell k (ae y) (by unfold al;rw[List.getElem?_map,hy];rfl);rw[<-BW.out.cell (p:=ad.add k) (by rw[aC];exact hlb)] at c0;have hq:=HQ.out y;have hs2:=hst.out k y hy;rw[HF.out,Bool.false_or] at hs2;obtain⟨Y,hY⟩:=ac (ae y);rw[hY] at hq c0;obtain⟨d,hd⟩:=ac (decide (y=x));rw[hd] at hq hs2;have HS2:=aa hs2;clear hcell hy hlb hY hd hs2;cases d with
   | true=>have HT:=aa (hyes.out _ HS2.out);(go_wp2_with fail);go_ret;exact⟨by rw[HT.out];rfl,BW.out⟩
   | false=>
     (go_wp2_with fail);go_roundw;case rel=>exact⟨k+1,by go_num,by omega,HS2,BW⟩
     case measure=>simp[intOf];omega
  ·have hkn:l.take k=l:=List.take_of_length_le (by rw[HN.out];omega);have HE:=HF.out;rw[hkn,HD.out] at HE;have HEE:=aa HE;clear HE hkn;(go_wp2_with fail);go_ret;exact⟨by rw[HEE.out];rfl,BW.out⟩
end
section
open Tx Ct
theorem pS:Jd.domL [104]=([104],0):=Jd.dom_of (Jd.fit_prep (by decide)) (by decide) (by decide) (by decide)
theorem uJ:jL [104]=true:=bq pS
theorem rR {k:Nat} {n:List UInt8} (h:n.all (Jd.fitB k)=true):Pr.prepL k n=(n,0):=Jd.fit_prep (List.all_eq_true.1 h)
theorem Ai {n:List UInt8} (h:n.all (Jd.fitB 2)=true) (h0:n≠[]) (hl:n.length<=100) (hb:(Jd.pcs 46 n).any Jd.badB=false):jL n=true:=bq (Jd.dom_of (rR h) h0 hl hb)
theorem sU {n:List UInt8} (h:n.all (Jd.fitB 1)=true) (h0:n≠[]) (hl:n.length<=64):dW n=true:=by unfold dW;rw[rR h,bq rfl,bF h0,bq hl];rfl
theorem zr {n:List UInt8} (h:n.all (Jd.fitB 1)=true) (h0:n≠[]) (hl:n.length<=64):Jd.part true 1 n=(n,0):=by show Jd.sizedL 64 (Pr.prepL 1 n)=_;rw[rR h];exact Jd.sized_of h0 hl
theorem nF {n:List UInt8} (h:n.all (Jd.fitB 1)=true) (h0:n≠[]) (hl:n.length<=64) (hc:Jd.cutB 47 (n++[64,104])=(n++[64,104],[],false)) (hd:Jd.halfL (n++[64,104])=(n,[104],true)):bR (n++[64,104])=true:=by
 have hp:Jd.parseL (n++[64,104])=((n,[104],[]),0):=by rw[tA hc hd];simp only;rw[pS,zr h h0 hl];rfl
 refine bq ?_;rw[Jd.bare_ok hp rfl];unfold Jd.textL;simp[h0]
theorem jI (a:List UInt8):Jd.lessL a a=false:=by unfold Jd.lessL;rw[Jd.lt_irr,Jd.lt_irr,Bool.and_false];rfl
def yH (j:List UInt8) (s:Int) (ask app:Bool):bj:=⟨j,[],[],s,ask,app⟩
theorem pV (j:List UInt8) (s:Int) (ask app:Bool):fP (yH j s ask app)=(bR j&&gR s ask app):=by
 have h2:line ([]:List UInt8) 100=true:=by decide +kernel
 have h3:kN []=true:=by decide +kernel
 show (bR j&&line ([]:List UInt8) 100&&kN []&&gR s ask app)=_;rw[h2,h3,Bool.and_true,Bool.and_true]
theorem AX:bR [98,64,104]=true:=nF (n:=[98]) (by decide) (by decide) (by decide) (by decide) (by decide)
theorem AY:bR [99,64,104]=true:=nF (n:=[99]) (by decide) (by decide) (by decide) (by decide) (by decide)
theorem AZ:bR [100,64,104]=true:=nF (n:=[100]) (by decide) (by decide) (by decide) (by decide) (by decide)
theorem A6:line [112] 100=true:=by decide +kernel
theorem AQ:dW [97]=true:=sU (by decide) (by decide) (by decide)
theorem xY (a b:bj × bB):aA 60 k9 nn [a,b]=(fP a.1&&(Jd.lessL a.1.jid b.1.jid&&fP b.1)):=rE a b (by decide)
theorem zp (n:List UInt8) (u:bk) (q:bB):fp [⟨n,[u],q⟩]=(jL n&&mZ u):=by unfold fp;rw[gN _ (by decide)];unfold tk jf;dsimp only;rw[gN _ (by decide)]
theorem zo (n pw:List UInt8) (is:List (bj × bB)) (iv:bB) (ps:List (List UInt8)) (pv:bB):mZ ⟨n,pw,is,iv,ps,pv⟩=(dW n&&line pw 100&&aA 60 k9 nn is&&aA 60 Jd.lessL bR ps&&!is.any (fun p=>i7 p.1&&decide (p.1.jid∈ps))):=rfl
def tR (n pw j0 j1:List UInt8) (app:Bool) (ps:List (List UInt8)) (q0 q1 iv pv:bB):bk:=⟨n,pw,[(yH j0 0 false false,q0),(yH j1 2 false app,q1)],iv,ps,pv⟩
theorem zq (n pw j0 j1:List UInt8) (app:Bool) (ps:List (List UInt8)) (q0 q1 iv pv:bB):mZ (tR n pw j0 j1 app ps q0 q1 iv pv)=(dW n&&line pw 100&&(bR j0&&(Jd.lessL j0 j1&&(bR j1&&!app)))&&aA 60 Jd.lessL bR ps&&!decide (j1∈ps)):=by
 unfold tR;rw[zo,xY,pV,pV];have h1:gR 0 false false=true:=rfl;have h2:gR 2 false app=!app:=by cases app<;>rfl
 rw[h1,h2,Bool.and_true];have h3:([(yH j0 0 false false,q0),(yH j1 2 false app,q1)].any fun p=>i7 p.1&&decide (p.1.jid∈ps))=decide (j1∈ps):=by simp[i7,yH]
 rw[h3];rfl
theorem nH (q0 q1 iv pv uv:bB):fp [⟨[104],[tR [97] [112] [98,64,104] [99,64,104] false [[100,64,104]] q0 q1 iv pv],uv⟩]=true:=by rw[zp,uJ,zq,AQ,A6,AX,AY,gN _ (by decide),AZ];decide +kernel
end
end Go.Proofs.YtbgaglcgennhiaaGreatDoor

