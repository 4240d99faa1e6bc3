import Derived.Test.YtbgaglcgennhiaaGreatDoorQ26
set_option maxHeartbeats 16000000
set_option maxRecDepth 100000
namespace Go.Proofs.YtbgaglcgennhiaaGreatDoor
section
open Go.RowKit Go.Sort Sy Tx Ct
theorem vr (lt:ax->ax->Bool) (hW:Weak lt) (g:Nat) (cb:Array Value)
 (X A C Y:List ax) (a m b len cap N:Nat) (W0:World) (B:Nat) (D T:Array ax) (d n:Nat) (hD:(X++A++C++Y).toArray=D) (hT:(X++aj lt A C++Y).toArray=T) (IH:zO lt g cb cap W0 B N) (hN:b-a<=N) (hl:(X++A++C++Y).length=len) (hlen:len<=1000000000) (ha:X.length=a) (hm:a+A.length=m) (hb:m+C.length=b)
 (hA2:1<A.length) (hC2:1<C.length) (hUA:Up lt A) (hUC:Up lt C) (hd:(a+b) / 2=d) (hn:d+m=n):
 ∀ s e,s+e=n->a<=s->s<=m->m<=e->e<=b->(s=a\/e=b\/lt D[e]! D[s-1]! = false)->(s=m\/e=m\/lt D[e-1]! D[s]! = true) ->
   ∃ D2 D3,(∀ w',St ai 6 W0 B D w'->s<m->m<e->Calls Tryz.prog 260 #[.slice (some ⟨B,0,none⟩) len cap,.int .i64 s,.int .i64 m,.int .i64 e,.func (.func g) #[] cb] w' fun E w2=>E=.returned (.tuple #[])/\St ai 6 W0 B D2 w2) /\
     (¬ (s<m/\m<e)->D2=D) /\
     (∀ w',St ai 6 W0 B D2 w'->a<s->s<d->Calls Tryz.prog 237 #[.slice (some ⟨B,0,none⟩) len cap,.int .i64 a,.int .i64 s,.int .i64 d,.func (.func g) #[] cb] w' fun E w2=>E=.returned (.tuple #[])/\St ai 6 W0 B D3 w2) /\
     (¬ (a<s/\s<d)->D3=D2) /\
     (∀ w',St ai 6 W0 B D3 w'->d<e->e<b->Calls Tryz.prog 237 #[.slice (some ⟨B,0,none⟩) len cap,.int .i64 d,.int .i64 e,.int .i64 b,.func (.func g) #[] cb] w' fun E w2=>E=.returned (.tuple #[])/\St ai 6 W0 B T w2) /\
     (¬ (d<e/\e<b)->T=D3):=by
 have had:a<d:=by omega
 have hdb:d<b:=by omega
 intro s e hse has hsm hme heb h1 h2;have key:=nW hW X A C Y D a m b s e hD ha hm hb hUA hUC has hsm hme heb h1 h2;have eA:A=A.take (s-a)++A.drop (s-a):=(List.take_append_drop _ _).symm;have eC:C=C.take (e-m)++C.drop (e-m):=(List.take_append_drop _ _).symm;have lA1:(A.take (s-a)).length=s-a:=by rw[dL];omega
 have lA2:(A.drop (s-a)).length=m-s:=by rw[List.length_drop];omega
 have lC1:(C.take (e-m)).length=e-m:=by rw[dL];omega
 have lC2:(C.drop (e-m)).length=b-e:=by rw[List.length_drop];omega
 generalize A.take (s-a)=A1 at *;generalize A.drop (s-a)=A2 at *;generalize C.take (e-m)=C1 at *;generalize C.drop (e-m)=C2 at *;subst eA;subst eC;have uA1:Up lt A1:=(List.pairwise_append.1 hUA).1;have uA2:Up lt A2:=(List.pairwise_append.1 hUA).2.1;have uC1:Up lt C1:=(List.pairwise_append.1 hUC).1;have uC2:Up lt C2:=(List.pairwise_append.1 hUC).2.1;have lAll:X.length+A1.length+A2.length+C1.length+C2.length+Y.length=len:=by rw[<-hl];simp;omega
 refine⟨(X++A1++C1++A2++C2++Y).toArray,(X++aj lt A1 C1++A2++C2++Y).toArray,?_,?_,?_,?_,?_,?_⟩
 ·intro w' S' q1 q2;have:=pO (X++A1) A2 C1 (C2++Y) s m e len cap (.func (.func g) #[] cb) W0 w' B (by simp;omega) hlen (by simp;omega) (by omega) (by omega) (by omega) (by omega) (by rw[<-hD] at S';simpa using S');simpa using this
 ·intro q;rw[<-hD];by_cases c1:s<m
  ·have:C1=[]:=eB (by omega);subst this;simp
  ·have:A2=[]:=eB (by omega);subst this;simp
 ·intro w' S' q1 q2;have:=IH X A1 C1 (A2++C2++Y) a s d len w' (by omega) (by simp;omega) hlen ha (by omega) (by omega) (by omega) (by omega) uA1 uC1 (by simpa using S');simpa using this
 ·intro q;by_cases c1:a<s
  ·have:C1=[]:=eB (by omega);subst this;rw[bg];simp
  ·have:A1=[]:=eB (by omega);subst this;rw[aM];simp
 ·intro w' S' q1 q2;have:=IH (X++aj lt A1 C1) A2 C2 Y d e b len w' (by omega) (by simp[cS];omega) hlen (by simp[cS];omega) (by omega) (by omega) (by omega) (by omega) uA2 uC2 (by simpa using S');rw[<-hT,key];simpa using this
 ·intro q;rw[<-hT,key];by_cases c1:d<e
  ·have:C2=[]:=eB (by omega);subst this;rw[bg];simp
  ·have:A2=[]:=eB (by omega);subst this;rw[aM];simp
theorem yp (lt:ax->ax->Bool) (hW:Weak lt) (cf:ax->ax->Int) (hcf:∀ x y,lt x y=decide (cf x y<0)) (g:Nat) (cb:Array Value) (eg:∀ args w,(callFunc g args).run Tryz.prog w=.ok (.enter g args) w)
 (X A C Y:List ax) (a m b len cap N:Nat) (W0 W:World) (B:Nat) (hC:ob g cb cf W0 B) (IH:zO lt g cb cap W0 B N) (hN:b-a<=N) (hl:(X++A++C++Y).length=len) (hlen:len<=1000000000) (ha:X.length=a) (hm:a+A.length=m) (hb:m+C.length=b)
 (hA2:1<A.length) (hC2:1<C.length) (hUA:Up lt A) (hUC:Up lt C) (hS:St ai 6 W0 B (X++A++C++Y).toArray W):
 Calls Tryz.prog 237 #[.slice (some ⟨B,0,none⟩) len cap,.int .i64 a,.int .i64 m,.int .i64 b,.func (.func g) #[] cb] W fun e w'=>e=.returned (.tuple #[])/\St ai 6 W0 B (X++aj lt A C++Y).toArray w':=by
 obtain⟨D,hD⟩:=ac ((X++A++C++Y).toArray);have hDl:D.size=len:=by rw[<-hD,<-hl];simp
 have hbl:b<=len:=by rw[<-hl];simp;omega
 rw[hD] at hS;obtain⟨T,hT⟩:=ac ((X++aj lt A C++Y).toArray);rw[hT];obtain⟨d,hd⟩:=ac ((a+b) / 2);obtain⟨n,hn⟩:=ac (d+m);obtain⟨z,hz⟩:=ac (n-1);have had:a<d:=by omega
 have hdb:d<b:=by omega
 have ham:a+1<m:=by omega
 have hmb:m+1<b:=by omega
 have REST:=aa (vr lt hW g cb X A C Y a m b len cap N W0 B D T d n hD hT IH hN hl hlen ha hm hb hA2 hC2 hUA hUC hd hn);have HS:=aa hS;have HC:=aa hC;have HCF:=aa hcf;obtain⟨p,hp⟩:=ac (m-a);obtain⟨q,hq⟩:=ac (b-m);have w1:IntKind.i64.wrap ((m:Int)-(a:Int))=(p:Int):=by rw[aO];omega
 have w2:IntKind.i64.wrap ((b:Int)-(m:Int))=(q:Int):=by rw[aO];omega
 have hp1:((p:Int)==1)=false:=by simp;omega
 have hq1:((q:Int)==1)=false:=by simp;omega
 have v1:IntKind.i64.wrap ((a:Int)+(b:Int))=(a:Int)+(b:Int):=by rw[aO];omega
 have v2:IntKind.u64.wrap ((a:Int)+(b:Int))=(a:Int)+(b:Int):=by rw[IntKind.wrap_u64];omega
 have v3:((a:Int)+(b:Int)) / 2=(d:Int):=by omega
 have v4:IntKind.i64.wrap (d:Int)=(d:Int):=by rw[aO];omega
 have v4u:IntKind.u64.wrap (d:Int)=(d:Int):=by rw[IntKind.wrap_u64];omega
 have v5:IntKind.i64.wrap ((d:Int)+(m:Int))=(n:Int):=by rw[aO];omega
 have v6:IntKind.i64.wrap ((n:Int)-1)=(z:Int):=by rw[aO];omega
 obtain⟨y,hy⟩:=ac (n-b);have hbn:d<m->b<=n:=by omega
 clear hC hS hl hp hq hW hcf hUA hUC hD hT IH hN hm hb ha hA2 hC2 hd;go_enter Tryz.func237,Tryz.ntmps237;go_upto_if 140 with fail
 go_cut [20,21] (fun sv rv wx=>∃ s0 r0:Nat,sv=.int .i64 (s0:Nat)/\rv=.int .i64 (r0:Nat)/\Hid ((s0=a/\r0=m/\m<=d)\/(s0=y/\r0=d/\d<m))/\wx=W)
 case first=>
  by_cases hmd:d<m
  ·have hmz:(d:Int)<(m:Int):=(by omega);have hbn2:=hbn hmd;have v7:IntKind.i64.wrap ((n:Int)-(b:Int))=(y:Int):=(by rw[aO];omega);(go_wp2_with fail);go_meet;exact⟨y,d,rfl,rfl,.inr ⟨rfl,rfl,hmd⟩,rfl⟩
  ·have hmz:¬ (d:Int)<(m:Int):=(by omega);(go_wp2_with fail);go_meet;exact⟨a,m,rfl,rfl,.inl ⟨rfl,rfl,by omega⟩,rfl⟩
 case rest=>
 obtain⟨s0,r0,rfl,rfl,HQ,rfl⟩:=hcut;have hq0:a<=s0/\s0<=r0/\r0<=m:=by have:=HQ.out;omega
 have hnr:m<=n-r0/\n-s0<=b/\r0<=n:=by have:=HQ.out;omega
 obtain⟨hs0,hsr0,hr0⟩:=hq0;obtain⟨hnr1,hnr2,hnr3⟩:=hnr;go_wp2_with fail
 go_loopw [20,21,23] (fun sv rv cv wr=>∃ (s r:Nat) (u:Value),sv=.int .i64 (s:Nat)/\rv=.int .i64 (r:Nat)/\cv=u/\s0<=s/\s<=r/\r<=r0/\Hid (s=s0\/lt D[n-s]! D[s-1]! = false)/\Hid (r=r0\/lt D[n-1-r]! D[r]! = true)/\Hid (St ai 6 W0 B D wr)) (fun sv rv _ _=>(intOf rv).toNat-(intOf sv).toNat)
 case atStart=>exact⟨s0,r0,_,rfl,rfl,rfl,aq _,hsr0,aq _,.inl rfl,.inl rfl,HS.out⟩
 case round=>
  clear HS;obtain⟨s,r,u,rfl,rfl,rfl,h0s,hsr,hrr,H1,H2,SD⟩:=hrel;by_cases hlt:s<r
  ·as_aux_lemma=>
   have hltz:(s:Int)<(r:Int):=(by omega);obtain⟨c,hc⟩:=ac ((s+r) / 2);have x1:IntKind.i64.wrap ((s:Int)+(r:Int))=(s:Int)+(r:Int):=(by rw[aO];omega);have x2:IntKind.u64.wrap ((s:Int)+(r:Int))=(s:Int)+(r:Int):=(by rw[IntKind.wrap_u64];omega);have x3:((s:Int)+(r:Int)) / 2=(c:Int):=(by omega);have x4:IntKind.i64.wrap (c:Int)=(c:Int):=(by rw[aO];omega);have x4u:IntKind.u64.wrap (c:Int)=(c:Int):=(by rw[IntKind.wrap_u64];omega);obtain⟨k,hk⟩:=ac (z-c);have x5:IntKind.i64.wrap ((z:Int)-(c:Int))=(k:Int):=(by rw[aO];omega);have hsc:s<=c:=(by omega);have hcr:c<r:=(by omega);have hcl:c<len:=(by omega);have hkl:k<len:=(by omega);have hcm0:∀ v:Bel wr,Calls Tryz.prog g (#[.agg (ai D[k]!).toArray,.agg (ai D[c]!).toArray]++cb) v.v fun e w'=>e=.returned (.int .i64 (cf D[k]! D[c]!))/\Below v.v.heap.size v.v w':=(fun v=>HC.out D v.v (SD.out.bel v) _ _);have CC:∀ w2,Below wr.heap.size wr w2->(∀ o6,o6<6->w2.cell? ⟨B,k*6+o6,none⟩=some (ai D[k]!)[o6]!/\w2.frozen? ⟨B,k*6+o6,none⟩=false)/\(∀ o6,o6<6->w2.cell? ⟨B,c*6+o6,none⟩=some (ai D[c]!)[o6]!/\w2.frozen? ⟨B,c*6+o6,none⟩=false):=(fun w2 h2=>⟨fun o6 ho6=>(SD.out.below h2).cellI k (by rw[hDl];omega) o6 ho6,fun o6 ho6=>(SD.out.below h2).cellI c (by rw[hDl];omega) o6 ho6⟩);have hlq:=HCF.out D[k]! D[c]!;have hUQ:Hid (lt D[k]! D[c]! = false->(c+1=s0\/lt D[n-(c+1)]! D[c+1-1]! = false)):=(fun h=>.inr (by rw[show n-(c+1)=k by omega,Nat.add_sub_cancel];exact h));have hDQ:Hid (lt D[k]! D[c]! = true->(c=r0\/lt D[n-1-c]! D[c]! = true)):=(fun h=>.inr (by rw[show n-1-c=k by omega];exact h));obtain⟨s1,hs⟩:=ac (D[k]!);obtain⟨t1,ht⟩:=ac (D[c]!);have hUQ2:Hid (lt s1 t1=false->(c+1=s0\/lt D[n-(c+1)]! D[c+1-1]! = false)):=(by rw[<-hs,<-ht];exact hUQ);have hDQ2:Hid (lt s1 t1=true->(c=r0\/lt D[n-1-c]! D[c]! = true)):=(by rw[<-hs,<-ht];exact hDQ);rw[hs,ht] at hcm0 CC hlq;obtain⟨K,hK⟩:=ac (cf s1 t1);obtain⟨Lb,hLb⟩:=ac (lt s1 t1);rw[hK] at hcm0 hlq;rw[hLb] at hlq hUQ2 hDQ2;clear hK hLb hs ht;obtain⟨P,hP⟩:=ac (k*6);obtain⟨Q,hQ⟩:=ac (c*6);rw[hP,hQ] at CC;obtain⟨⟨⟨xj,xm,xg,xs,xk,xa⟩,xA,xn,xc⟩,xo⟩:=s1;obtain⟨⟨⟨yj,ym,yg,ys,yk,ya⟩,yA,yn,yc⟩,yo⟩:=t1;obtain⟨xJ,hxJ⟩:=ac (ae xj);obtain⟨xN,hxN⟩:=ac (ae xm);obtain⟨yJ,hyJ⟩:=ac (ae yj);obtain⟨yN,hyN⟩:=ac (ae ym);have eX:ai ⟨(⟨xj,xm,xg,xs,xk,xa⟩,xA,xn,xc),xo⟩=[.string xJ,.string xN,.slice xA xn xc,.int .i64 xs,.bool xk,.bool xa]:=(by rw[<-hxJ,<-hxN];rfl);have eY:ai ⟨(⟨yj,ym,yg,ys,yk,ya⟩,yA,yn,yc),yo⟩=[.string yJ,.string yN,.slice yA yn yc,.int .i64 ys,.bool yk,.bool ya]:=(by rw[<-hyJ,<-hyN];rfl);rw[eX,eY] at hcm0 CC;clear eX eY hxJ hxN hyJ hyN;have hcm:∀ v:Bel wr,Calls Tryz.prog g (#[.agg #[.string xJ,.string xN,.slice xA xn xc,.int .i64 xs,.bool xk,.bool xa],.agg #[.string yJ,.string yN,.slice yA yn yc,.int .i64 ys,.bool yk,.bool ya]]++cb) v.v fun e w'=>e=.returned (.int .i64 K)/\Below v.v.heap.size v.v w':=hcm0;clear hcm0;have cp0:∀ v:Bel wr,v.v.cell? ⟨B,P,none⟩=some (.string xJ):=(fun v=>((CC v.v v.h).1 0 (by omega)).1);have cp1:∀ v:Bel wr,v.v.cell? ⟨B,P+1,none⟩=some (.string xN):=(fun v=>((CC v.v v.h).1 1 (by omega)).1);have cp2:∀ v:Bel wr,v.v.cell? ⟨B,P+2,none⟩=some (.slice xA xn xc):=(fun v=>((CC v.v v.h).1 2 (by omega)).1);have cp3:∀ v:Bel wr,v.v.cell? ⟨B,P+3,none⟩=some (.int .i64 xs):=(fun v=>((CC v.v v.h).1 3 (by omega)).1);have cp4:∀ v:Bel wr,v.v.cell? ⟨B,P+4,none⟩=some (.bool xk):=(fun v=>((CC v.v v.h).1 4 (by omega)).1);have cp5:∀ v:Bel wr,v.v.cell? ⟨B,P+5,none⟩=some (.bool xa):=(fun v=>((CC v.v v.h).1 5 (by omega)).1);have cq0:∀ v:Bel wr,v.v.cell? ⟨B,Q,none⟩=some (.string yJ):=(fun v=>((CC v.v v.h).2 0 (by omega)).1);have cq1:∀ v:Bel wr,v.v.cell? ⟨B,Q+1,none⟩=some (.string yN):=(fun v=>((CC v.v v.h).2 1 (by omega)).1);have cq2:∀ v:Bel wr,v.v.cell? ⟨B,Q+2,none⟩=some (.slice yA yn yc):=(fun v=>((CC v.v v.h).2 2 (by omega)).1);have cq3:∀ v:Bel wr,v.v.cell? ⟨B,Q+3,none⟩=some (.int .i64 ys):=(fun v=>((CC v.v v.h).2 3 (by omega)).1);have cq4:∀ v:Bel wr,v.v.cell? ⟨B,Q+4,none⟩=some (.bool yk):=(fun v=>((CC v.v v.h).2 4 (by omega)).1);have cq5:∀ v:Bel wr,v.v.cell? ⟨B,Q+5,none⟩=some (.bool ya):=(fun v=>((CC v.v v.h).2 5 (by omega)).1);clear CC;clear hk hc hUQ hDQ;by_cases hcc:K<0
   ·have hcd:decide (K<0)=true:=bq hcc;have hcn:(!decide (K<0))=false:=(by rw[hcd];rfl);have hR:=aa (hDQ2.out (hlq.trans hcd));clear hlq hUQ2 hDQ2;(go_wp2_with fail);refine ew ?_
    repeat (go_big_quiet_step ((go_at_fn g;exact Calls.bel_of (hcm _))))
    refine wpQuiet_nil ?_;intro w2 hw';have hb2:Below wr.heap.size wr w2:=(by obtain⟨v,rfl⟩:=hw';exact v.h);clear hw';have S3:=aa (SD.out.below hb2);clear cp0 cp1 cp2 cp3 cp4 cp5 cq0 cq1 cq2 cq3 cq4 cq5 hcm;(go_wp2_with fail);go_roundw;case rel=>exact⟨s,c,_,rfl,rfl,rfl,h0s,hsc,by omega,H1,hR,S3⟩
    case measure=>simp[intOf];omega
   ·have hcd:decide (K<0)=false:=bF hcc;have hcn:(!decide (K<0))=true:=(by rw[hcd];rfl);have hR:=aa (hUQ2.out (hlq.trans hcd));have x6:IntKind.i64.wrap ((c:Int)+1)=(c:Int)+1:=(by rw[aO];omega);clear hlq hUQ2 hDQ2;(go_wp2_with fail);refine ew ?_
    repeat (go_big_quiet_step ((go_at_fn g;exact Calls.bel_of (hcm _))))
    refine wpQuiet_nil ?_;intro w2 hw';have hb2:Below wr.heap.size wr w2:=(by obtain⟨v,rfl⟩:=hw';exact v.h);clear hw';have S3:=aa (SD.out.below hb2);clear cp0 cp1 cp2 cp3 cp4 cp5 cq0 cq1 cq2 cq3 cq4 cq5 hcm;(go_wp2_with fail);go_roundw;case rel=>exact⟨c+1,r,_,by go_num,rfl,rfl,by omega,by omega,hrr,hR,H2,S3⟩
    case measure=>simp[intOf];omega
  ·as_aux_lemma=>
   have hltz:¬ (s:Int)<(r:Int):=(by omega);obtain rfl:s=r:=(by omega);obtain⟨e,he⟩:=ac (n-s);have y1:IntKind.i64.wrap ((n:Int)-(s:Int))=(e:Int):=(by rw[aO];omega);have hE:=REST.out s e (by omega) (by omega) (by omega) (by omega) (by omega)
    (by
     rcases H1.out with h|h
     ·rcases HQ.out with ⟨g1,_,_⟩|⟨g1,_,_⟩
      ·exact .inl (by omega)
      ·exact .inr (.inl (by omega))
     ·exact .inr (.inr (by rw[<-he];exact h)))
    (by
     rcases H2.out with h|h
     ·rcases HQ.out with ⟨_,g1,_⟩|⟨_,g1,_⟩
      ·exact .inl (by omega)
      ·exact .inr (.inl (by omega))
     ·exact .inr (.inr (by rw[<-he,show n-s-1=n-1-s by omega];exact h)))
   obtain⟨D2,D3,g1,g2,g3,g4,g5,g6⟩:=hE;have G1:=aa g1;have G2:=aa g2;have G3:=aa g3;have G4:=aa g4;have G5:=aa g5;have G6:=aa g6;have hme:m<=e:=(by omega);have hsm:s<=m:=(by omega);have hasx:a<=s:=(by omega);have hebx:e<=b:=(by omega);clear g1 g2 g3 g4 g5 g6 H1 H2 HQ REST he hnr1 hnr2 hnr3 hs0 hsr0 hr0 h0s hrr hltz hlt;clear v1 v2 v3 v4 v4u v5 v6 w1 w2 hp1 hq1;(go_upto_region 39 with fail);(go_cut [185] (fun bv wx=>bv=.bool (decide (s<m/\m<e))/\wx=wr));case first=>
    by_cases k1:s<m
    ·have k1z:(s:Int)<(m:Int):=(by omega);have k1d:decide ((s:Int)<(m:Int))=true:=bq k1z;by_cases k2:m<e
     ·have k2z:(m:Int)<(e:Int):=(by omega);have k2d:decide ((m:Int)<(e:Int))=true:=bq k2z;(go_wp2_with fail);go_meet;exact⟨by rw[bq (And.intro k1 k2)],rfl⟩
     ·have k2z:¬ (m:Int)<(e:Int):=(by omega);have k2d:decide ((m:Int)<(e:Int))=false:=bF k2z;(go_wp2_with fail);go_meet;exact⟨by rw[bF (fun h:s<m/\m<e=>k2 h.2)],rfl⟩
    ·have k1z:¬ (s:Int)<(m:Int):=(by omega);have k1d:decide ((s:Int)<(m:Int))=false:=bF k1z;(go_wp2_with fail);go_meet;exact⟨by rw[bF (fun h:s<m/\m<e=>k1 h.1)],rfl⟩
   case rest=>
   obtain⟨rfl,rfl⟩:=hcut;have HDC:Hid ((decide (s<m/\m<e))=decide (s<m/\m<e)):=rfl;obtain⟨bb,hbb⟩:=ac (decide (s<m/\m<e));have HBB:=aa hbb;rw[hbb];clear hbb HDC;(go_upto_if 185 with fail);(go_cut [24] (fun kv wx=>kv=.int .i64 (e:Nat)/\Hid (St ai 6 W0 B D2 wx)));case first=>
    cases bb with
    | true=>have kk:=of_decide_eq_true HBB.out;have HQA:=aa (G1.out _ SD.out kk.1 kk.2);(go_wp2_with fail);refine HQA.out.mono ?_;rintro E w' ⟨rfl,S2⟩;(go_wp2_with fail);go_meet;exact⟨rfl,S2⟩
    | false=>have kk:D2=D:=G2.out (of_decide_eq_false HBB.out);(go_wp2_with fail);go_meet;exact⟨rfl,by rw[kk];exact SD⟩
   case rest=>
   as_aux_lemma=>
   obtain⟨rfl,SA⟩:=hcut;(go_upto_region 41 with fail);(go_cut [199] (fun bv wx=>bv=.bool (decide (a<s/\s<d))/\wx=wc));case first=>
    by_cases k1:a<s
    ·have k1z:(a:Int)<(s:Int):=(by omega);have k1d:decide ((a:Int)<(s:Int))=true:=bq k1z;by_cases k2:s<d
     ·have k2z:(s:Int)<(d:Int):=(by omega);have k2d:decide ((s:Int)<(d:Int))=true:=bq k2z;(go_wp2_with fail);go_meet;exact⟨by rw[bq (And.intro k1 k2)],rfl⟩
     ·have k2z:¬ (s:Int)<(d:Int):=(by omega);have k2d:decide ((s:Int)<(d:Int))=false:=bF k2z;(go_wp2_with fail);go_meet;exact⟨by rw[bF (fun h:a<s/\s<d=>k2 h.2)],rfl⟩
    ·have k1z:¬ (a:Int)<(s:Int):=(by omega);have k1d:decide ((a:Int)<(s:Int))=false:=bF k1z;(go_wp2_with fail);go_meet;exact⟨by rw[bF (fun h:a<s/\s<d=>k1 h.1)],rfl⟩
   case rest=>
   obtain⟨rfl,rfl⟩:=hcut;have HDC:Hid ((decide (a<s/\s<d))=decide (a<s/\s<d)):=rfl;obtain⟨bb,hbb⟩:=ac (decide (a<s/\s<d));have HBB:=aa hbb;rw[hbb];clear hbb HDC;(go_upto_if 199 with fail);(go_cut [24] (fun kv wx=>kv=.int .i64 (e:Nat)/\Hid (St ai 6 W0 B D3 wx)));case first=>
    cases bb with
    | true=>have kk:=of_decide_eq_true HBB.out;have HQB:=aa (G3.out _ SA.out kk.1 kk.2);(go_wp2_with fail);refine HQB.out.mono ?_;rintro E w' ⟨rfl,S2⟩;(go_wp2_with fail);go_meet;exact⟨rfl,S2⟩
    | false=>have kk:D3=D2:=G4.out (of_decide_eq_false HBB.out);(go_wp2_with fail);go_meet;exact⟨rfl,by rw[kk];exact SA⟩
   case rest=>
   as_aux_lemma=>
   obtain⟨rfl,SB⟩:=hcut;(go_upto_region 43 with fail);(go_cut [213] (fun bv wx=>bv=.bool (decide (d<e/\e<b))/\wx=wc));case first=>
    by_cases k1:d<e
    ·have k1z:(d:Int)<(e:Int):=(by omega);have k1d:decide ((d:Int)<(e:Int))=true:=bq k1z;by_cases k2:e<b
     ·have k2z:(e:Int)<(b:Int):=(by omega);have k2d:decide ((e:Int)<(b:Int))=true:=bq k2z;(go_wp2_with fail);go_meet;exact⟨by rw[bq (And.intro k1 k2)],rfl⟩
     ·have k2z:¬ (e:Int)<(b:Int):=(by omega);have k2d:decide ((e:Int)<(b:Int))=false:=bF k2z;(go_wp2_with fail);go_meet;exact⟨by rw[bF (fun h:d<e/\e<b=>k2 h.2)],rfl⟩
    ·have k1z:¬ (d:Int)<(e:Int):=(by omega);have k1d:decide ((d:Int)<(e:Int))=false:=bF k1z;(go_wp2_with fail);go_meet;exact⟨by rw[bF (fun h:d<e/\e<b=>k1 h.1)],rfl⟩
   case rest=>
   obtain⟨rfl,rfl⟩:=hcut;obtain⟨bb,hbb⟩:=ac (decide (d<e/\e<b));have HBB:=aa hbb;rw[hbb];clear hbb;cases bb with
   | true=>have kk:=of_decide_eq_true HBB.out;have HQC:=aa (G5.out _ SB.out kk.1 kk.2);(go_wp2_with fail);refine HQC.out.mono ?_;rintro E w' ⟨rfl,S2⟩;(go_wp2_with fail);go_end0;exact⟨rfl,S2⟩
   | false=>have kk:T=D3:=G6.out (of_decide_eq_false HBB.out);(go_wp2_with fail);go_end0;exact⟨rfl,by rw[kk];exact SB.out⟩
theorem qk (lt:ax->ax->Bool) (hW:Weak lt) (cf:ax->ax->Int) (hcf:∀ x y,lt x y=decide (cf x y<0)) (g:Nat) (cb:Array Value) (eg:∀ args w,(callFunc g args).run Tryz.prog w=.ok (.enter g args) w)
 (cap:Nat) (W0:World) (B:Nat) (hC:ob g cb cf W0 B):∀ N,zO lt g cb cap W0 B N
 |0=>fun _ _ _ _ _ _ _ _ _ h=>absurd h (Nat.not_lt_zero _)
 | N+1=>by
   intro X A C Y a m b len W hN hl hlen ha hm hb hA hC0 hUA hUC hS;by_cases h1:A.length=1
   ·obtain⟨x,rfl⟩:=List.length_eq_one_iff.1 h1;exact vq lt hW cf hcf g cb eg X C Y x a m b len cap W0 W B hC hl hlen ha (by simpa using hm) hb hUC hS
   ·by_cases h2:C.length=1
    ·obtain⟨x,rfl⟩:=List.length_eq_one_iff.1 h2;exact sj lt hW cf hcf g cb eg X A Y x a m b len cap W0 W B hC hl hlen ha hm (by omega) (by simpa using hb) hUA hS
    ·exact yp lt hW cf hcf g cb eg X A C Y a m b len cap N W0 W B hC (qk lt hW cf hcf g cb eg cap W0 B hC N) (by omega) hl hlen ha hm hb (by omega) (by omega) hUA hUC hS
theorem qa (lt:ax->ax->Bool) (hW:Weak lt) (cf:ax->ax->Int) (hcf:∀ x y,lt x y=decide (cf x y<0)) (g:Nat) (cb:Array Value) (eg:∀ args w,(callFunc g args).run Tryz.prog w=.ok (.enter g args) w)
 (L:List ax) (n cap:Nat) (W0 W:World) (B:Nat) (hC:ob g cb cf W0 B) (hl:L.length=n) (hn:n<=400000000) (hS:St ai 6 W0 B L.toArray W):
 Calls Tryz.prog 211 #[.slice (some ⟨B,0,none⟩) n cap,.int .i64 n,.func (.func g) #[] cb] W fun e w'=>e=.returned (.tuple #[])/\St ai 6 W0 B (af lt L).toArray w':=by
 have HL:=aa hl;have HW:=aa hW;have HINS:Hid (∀ (X S Y:List ax) (a b:Nat) (W:World),(X++S++Y).length=n->X.length=a->a+S.length=b->St ai 6 W0 B (X++S++Y).toArray W ->
  Calls Tryz.prog 236 #[.slice (some ⟨B,0,none⟩) n cap,.int .i64 a,.int .i64 b,.func (.func g) #[] cb] W fun e w'=>e=.returned (.tuple #[])/\St ai 6 W0 B (X++af lt S++Y).toArray w'):=
  fun X S Y a b W h1 h2 h3 h4=>kV lt hW cf hcf g cb eg X S Y a b n cap W0 W B hC h1 (by omega) h2 h3 h4
 have HSYM:Hid (∀ (X A C Y:List ax) (a m b:Nat) (W:World),(X++A++C++Y).length=n->X.length=a->a+A.length=m->m+C.length=b->0<A.length->0<C.length->Up lt A->Up lt C->St ai 6 W0 B (X++A++C++Y).toArray W ->
  Calls Tryz.prog 237 #[.slice (some ⟨B,0,none⟩) n cap,.int .i64 a,.int .i64 m,.int .i64 b,.func (.func g) #[] cb] W fun e w'=>e=.returned (.tuple #[])/\St ai 6 W0 B (X++aj lt A C++Y).toArray w'):=
  fun X A C Y a m b W h1 h2 h3 h4 h5 h6 h7 h8 h9=>qk lt hW cf hcf g cb eg cap W0 B hC (b-a+1) X A C Y a m b n W (by omega) h1 (by omega) h2 h3 h4 h5 h6 h7 h8 h9
 have HS:=aa hS;clear hC hS hl hW hcf;go_enter Tryz.func211,Tryz.ntmps211;go_wp2_with fail
 go_loopw [7,8] (fun av bv wr=>∃ (a b j:Nat) (X R:List ax),av=.int .i64 (a:Nat)/\bv=.int .i64 (b:Nat)/\b=a+20/\a<=n/\Hid (X.length=a)/\Hid (Ahead lt 20 L X R j)/\Hid (St ai 6 W0 B (X++R).toArray wr)) (fun av _ _=>n+20-(intOf av).toNat)
 case atStart=>exact⟨0,20,0,[],L,rfl,rfl,rfl,bI _,rfl,Ahead.start _ _,HS.out⟩
 case round=>
  clear HS;obtain⟨a,b,j,X,R,rfl,rfl,hb,han,HX,HA,SD⟩:=hrel;have hRl:R.length=n-a:=by have:=HA.out.sum;have h1:=HL.out;have h2:=HX.out;omega
  have HRL:=aa hRl;by_cases hbn:b<=n
  ·have hbz:(b:Int)<=(n:Int):=(by omega);obtain⟨b2,hb2⟩:=ac (b+20);have w1:IntKind.i64.wrap ((b:Int)+20)=(b2:Int):=(by rw[aO];omega);have HQ:=aa (HINS.out X (R.take 20) (R.drop 20) a b wr (by rw[List.append_assoc,List.take_append_drop,de,hRl,HX.out];omega) HX.out (by rw[dL];omega) (by rw[List.append_assoc,List.take_append_drop];exact SD.out));have HA2:=aa (HA.out.step (by omega));have HX2:Hid ((X++af lt (R.take 20)).length=b):=(by unfold Hid;rw[de,aI,dL,HX.out];omega);have HB2:Hid (b2=b+20):=hb2.symm;have HAB:Hid (b=a+20):=hb;clear hRl hb hb2;(go_wp2_with fail);refine HQ.out.mono ?_;rintro E w' ⟨rfl,S2⟩;(go_wp2_with fail);go_roundw;case rel=>exact⟨b,b2,j+1,_,_,rfl,rfl,HB2.out,hbn,HX2,HA2,S2⟩
   case measure=>have:=HAB.out;simp[intOf];omega
  ·as_aux_lemma=>
   have hbz:¬ (b:Int)<=(n:Int):=(by omega);have HQ:=aa (HINS.out X R [] a n wr (by rw[List.append_nil,de,hRl,HX.out];omega) HX.out (by omega) (by rw[List.append_nil];exact SD.out));have HB0:Hid (Blk lt 20 L (X++af lt R++[])):=(by unfold Hid;rw[List.append_nil];exact HA.out.blk (by omega));clear hRl;(go_wp2_with fail);refine HQ.out.mono ?_;rintro E w' ⟨rfl,S2⟩;have S3:=aa S2;obtain⟨U0,hU0⟩:=ac (X++af lt R++[]);rw[hU0] at HB0 S3;clear S2 hU0 HQ HA SD HX HRL hb hbz hbn;go_wp2_with fail
   go_loopw [6,7,8,9] (fun wv av bv mv wr=>∃ (w:Nat) (u1 u2 u3:Value) (U:List ax),wv=.int .i64 (w:Nat)/\av=u1/\bv=u2/\mv=u3/\0<w/\w<=800000000/\Hid (Blk lt w L U)/\Hid (St ai 6 W0 B U.toArray wr)) (fun wv _ _ _ _=>n-(intOf wv).toNat)
   case atStart=>exact⟨20,_,_,_,U0,rfl,rfl,rfl,rfl,by omega,by omega,HB0,S3⟩
   case round=>
    clear HB0 S3;obtain⟨w,u1,u2,u3,U,rfl,rfl,rfl,rfl,hw0,hw9,HB,SU⟩:=hrel;by_cases hwn:w<n
    ·as_aux_lemma=>
     have hwz:(w:Int)<(n:Int):=(by omega);obtain⟨d,hd⟩:=ac (2*w);have w1:IntKind.i64.wrap (2*(w:Int))=(d:Int):=(by rw[aO];omega);have w1b:IntKind.i64.wrap ((w:Int)*2)=(d:Int):=(by rw[aO];omega);have HT0:=aa (Twice.start HB.out);have HD:=aa hd;clear hd;go_wp2_with fail
     go_loopw [7,8] (fun av bv wr=>∃ (a b j:Nat) (X R U:List ax),av=.int .i64 (a:Nat)/\bv=.int .i64 (b:Nat)/\b=a+d/\a<=n/\Hid (X.length=a)/\Hid (Twice lt w L X R U j)/\Hid (St ai 6 W0 B (X++U).toArray wr)) (fun av _ _=>n+d-(intOf av).toNat)
     case atStart=>exact⟨0,d,0,[],L,U,rfl,rfl,by omega,bI _,rfl,HT0,SU⟩
     case round=>
      clear SU HT0;obtain⟨a,b,j,X,R,U,rfl,rfl,hb,han,HX,HT,SX⟩:=hrel;have hRl:R.length=n-a:=(by have:=HT.out.ah.sum;have h1:=HL.out;have h2:=HX.out;omega);have hUl:U.length=n-a:=(by have:=HT.out.blk.len;omega);obtain⟨m,hm⟩:=ac (a+w);have w2:IntKind.i64.wrap ((a:Int)+(w:Int))=(m:Int):=(by rw[aO];omega);have hdw:=HD.out;by_cases hbn:b<=n
      ·have hbz:(b:Int)<=(n:Int):=(by omega);obtain⟨b2,hb2⟩:=ac (b+d);have w3:IntKind.i64.wrap ((b:Int)+(d:Int))=(b2:Int):=(by rw[aO];omega);obtain⟨A,C,Z,hU,lA,lC,uA,uC,hT2⟩:=HT.out.step HW.out hw0 (by omega);have HT2:=aa hT2;have hx:=HX.out;have hsum:A.length+C.length+Z.length=n-a:=(by rw[<-hUl,hU];simp;omega);have HQ:=aa (HSYM.out X A C Z a m b wr (by simp;omega) HX.out (by omega) (by omega) (by omega) (by omega) uA uC (by have:=SX.out;rw[hU] at this;simpa using this));have HX2:Hid ((X++aj lt A C).length=b):=(by unfold Hid;rw[de,cS];omega);have HB2:Hid (b2=b+d):=hb2.symm;have HAB:Hid (b=a+d):=hb;clear hRl hUl hT2 hU hsum hm hdw hx lA lC hb hb2;(go_wp2_with fail);refine HQ.out.mono ?_;rintro E w' ⟨rfl,S2⟩;(go_wp2_with fail);go_roundw;case rel=>exact⟨b,b2,j+1,_,_,_,rfl,rfl,HB2.out,hbn,HX2,HT2,S2⟩
       case measure=>have:=HD.out;have:=HAB.out;simp[intOf];omega
      ·as_aux_lemma=>
       have hbz:¬ (b:Int)<=(n:Int):=(by omega);by_cases hmn:m<n
       ·have hmz:(m:Int)<(n:Int):=(by omega);obtain⟨A,C,hU,lA,lC,uA,uC,hB2⟩:=HT.out.two HW.out (by omega) (by omega);rw[HD.out] at hB2;have HB2:=aa hB2;have hx:=HX.out;have hsum:A.length+C.length=n-a:=(by rw[<-hUl,hU];simp);have HQ:=aa (HSYM.out X A C [] a m n wr (by simp;omega) HX.out (by omega) (by omega) (by omega) (by omega) uA uC (by have:=SX.out;rw[hU] at this;simpa using this));clear hRl hUl hB2 hU hsum hm hdw hx lA lC;(go_wp2_with fail);refine HQ.out.mono ?_;rintro E w' ⟨rfl,S2⟩;rw[List.append_nil] at S2;(go_wp2_with fail);go_roundw;case rel=>exact⟨d,_,_,_,_,rfl,rfl,rfl,rfl,by have:=HD.out;omega,by have:=HD.out;omega,HB2,S2⟩
        case measure=>have:=HD.out;simp[intOf];omega
       ·have hmz:¬ (m:Int)<(n:Int):=(by omega);have hB2:=HT.out.one hw0 (by omega);rw[HD.out] at hB2;have HB2:=aa hB2;clear hRl hUl hB2 hm hdw;(go_wp2_with fail);go_roundw;case rel=>exact⟨d,_,_,_,_,rfl,rfl,rfl,rfl,by have:=HD.out;omega,by have:=HD.out;omega,HB2,SX⟩
        case measure=>have:=HD.out;simp[intOf];omega
    ·have hwz:¬ (w:Int)<(n:Int):=(by omega);have hE:Hid (U=af lt L):=HB.out.last (by rw[HL.out];omega);(go_wp2_with fail);go_end0;exact⟨rfl,by rw[<-hE.out];exact SU.out⟩
theorem jS (lt:ax->ax->Bool) (hW:Weak lt) (cf:ax->ax->Int) (hcf:∀ x y,lt x y=decide (cf x y<0)) (g:Nat) (cb:Array Value) (eg:∀ args w,(callFunc g args).run Tryz.prog w=.ok (.enter g args) w)
 (L:List ax) (n cap:Nat) (W0 W:World) (B:Nat) (hC:ob g cb cf W0 B) (hl:L.length=n) (hn:n<=400000000) (hS:St ai 6 W0 B L.toArray W):
 Calls Tryz.prog 179 #[.slice (some ⟨B,0,none⟩) n cap,.func (.func g) #[] cb] W fun e w'=>e=.returned (.tuple #[])/\St ai 6 W0 B (af lt L).toArray w':=by
 have HQ:=aa (qa lt hW cf hcf g cb eg L n cap W0 W B hC hl hn hS);clear hC hS hW hcf;go_enter Tryz.func179,Tryz.ntmps179;go_wp2_with fail
 refine HQ.out.mono ?_;rintro E w' ⟨rfl,S2⟩;go_wp2_with fail
 go_end0;exact⟨rfl,S2⟩
end
end Go.Proofs.YtbgaglcgennhiaaGreatDoor

