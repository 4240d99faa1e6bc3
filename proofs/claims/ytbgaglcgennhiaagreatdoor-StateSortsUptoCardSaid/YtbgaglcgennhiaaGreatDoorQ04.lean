import Derived.Test.YtbgaglcgennhiaaGreatDoorQ03
import Derived.Deep.DeepCutAuto
set_option maxHeartbeats 16000000
set_option maxRecDepth 100000
namespace Go.Proofs.YtbgaglcgennhiaaGreatDoor
open Go.RowKit Go.Lib Go.Sort Sy
variable {α:Type} [Inhabited α] {enc:α->List Value} {k:Nat} {lt:α->α->Bool} {len g:Nat} {lb:Array Value} {sf:Nat} {sb:Array Value}
theorem sg (hW:Weak lt) (X A C Y:List α) (a m b N:Nat) (B:Nat) (D T:Array α) (d n:Nat) (hD:(X++A++C++Y).toArray=D) (hT:(X++aj lt A C++Y).toArray=T) (IH:vM enc k lt len g lb sf sb B N) (hN:b-a<=N) (hl:(X++A++C++Y).length=len) (hlen:len<=1000000000) (ha:X.length=a) (hm:a+A.length=m) (hb:m+C.length=b)
 (hA2:1<A.length) (hC2:1<C.length) (hUA:Up lt A) (hUC:Up lt C) (hd:(a+b) / 2=d) (hn:d+m=n):
 ∀ s e,s+e=n->a<=s->s<=m->m<=e->e<=b->(s=a\/e=b\/lt D[e]! D[s-1]! = false)->(s=m\/e=m\/lt D[e-1]! D[s]! = true) ->
   ∃ D2 D3:Array α,(∀ w',LS enc k lt len g lb sf sb w' B->St enc k w' B D w'->s<m->m<e->Calls Tryz.prog 178 #[.agg #[.func (.func g) #[] lb,.func (.func sf) #[] sb],.int .i64 s,.int .i64 m,.int .i64 e] w' fun E w2=>E=.returned (.tuple #[])/\St enc k w' B D2 w2) /\
     (¬ (s<m/\m<e)->D2=D) /\
     (∀ w',LS enc k lt len g lb sf sb w' B->St enc k w' B D2 w'->a<s->s<d->Calls Tryz.prog 148 #[.agg #[.func (.func g) #[] lb,.func (.func sf) #[] sb],.int .i64 a,.int .i64 s,.int .i64 d] w' fun E w2=>E=.returned (.tuple #[])/\St enc k w' B D3 w2) /\
     (¬ (a<s/\s<d)->D3=D2) /\
     (∀ w',LS enc k lt len g lb sf sb w' B->St enc k w' B D3 w'->d<e->e<b->Calls Tryz.prog 148 #[.agg #[.func (.func g) #[] lb,.func (.func sf) #[] sb],.int .i64 d,.int .i64 e,.int .i64 b] w' fun E w2=>E=.returned (.tuple #[])/\St enc k w' B T w2) /\
     (¬ (d<e/\e<b)->T=D3):=by
 have had:a<d:=by omega
 have hdb:d<b:=by omega
 intro s e hse has hsm hme heb h1 h2;have key:=nW hW X A C Y D a m b s e hD ha hm hb hUA hUC has hsm hme heb h1 h2;have eA:A=A.take (s-a)++A.drop (s-a):=(List.take_append_drop _ _).symm;have eC:C=C.take (e-m)++C.drop (e-m):=(List.take_append_drop _ _).symm;have lA1:(A.take (s-a)).length=s-a:=by rw[dL];omega
 have lA2:(A.drop (s-a)).length=m-s:=by rw[List.length_drop];omega
 have lC1:(C.take (e-m)).length=e-m:=by rw[dL];omega
 have lC2:(C.drop (e-m)).length=b-e:=by rw[List.length_drop];omega
 generalize A.take (s-a)=A1 at *;generalize A.drop (s-a)=A2 at *;generalize C.take (e-m)=C1 at *;generalize C.drop (e-m)=C2 at *;subst eA;subst eC;have uA1:Up lt A1:=(List.pairwise_append.1 hUA).1;have uA2:Up lt A2:=(List.pairwise_append.1 hUA).2.1;have uC1:Up lt C1:=(List.pairwise_append.1 hUC).1;have uC2:Up lt C2:=(List.pairwise_append.1 hUC).2.1;have lAll:X.length+A1.length+A2.length+C1.length+C2.length+Y.length=len:=by rw[<-hl];simp;omega
 refine⟨(X++A1++C1++A2++C2++Y).toArray,(X++aj lt A1 C1++A2++C2++Y).toArray,?_,?_,?_,?_,?_,?_⟩
 ·intro w' L' S' q1 q2;have:=nS (X++A1) A2 C1 (C2++Y) s m e w' B L' (by simp;omega) hlen (by simp;omega) (by omega) (by omega) (by omega) (by omega) (by rw[<-hD] at S';simpa using S');simpa using this
 ·intro q;rw[<-hD];by_cases c1:s<m
  ·have:C1=[]:=eB (by omega);subst this;simp
  ·have:A2=[]:=eB (by omega);subst this;simp
 ·intro w' L' S' q1 q2;have:=IH X A1 C1 (A2++C2++Y) a s d w' L' (by omega) (by simp;omega) hlen ha (by omega) (by omega) (by omega) (by omega) uA1 uC1 (by simpa using S');simpa using this
 ·intro q;by_cases c1:a<s
  ·have:C1=[]:=eB (by omega);subst this;rw[bg];simp
  ·have:A1=[]:=eB (by omega);subst this;rw[aM];simp
 ·intro w' L' S' q1 q2;have:=IH (X++aj lt A1 C1) A2 C2 Y d e b w' L' (by omega) (by simp[cS];omega) hlen (by simp[cS];omega) (by omega) (by omega) (by omega) (by omega) uA2 uC2 (by simpa using S');rw[<-hT,key];simpa using this
 ·intro q;rw[<-hT,key];by_cases c1:d<e
  ·have:C2=[]:=eB (by omega);subst this;rw[bg];simp
  ·have:A2=[]:=eB (by omega);subst this;rw[aM];simp
theorem vd (hW:Weak lt) (X A C Y:List α) (a m b N:Nat) (W:World) (B:Nat) (hC:LS enc k lt len g lb sf sb W B) (IH:vM enc k lt len g lb sf sb B N) (hN:b-a<=N) (hl:(X++A++C++Y).length=len) (hlen:len<=1000000000) (ha:X.length=a) (hm:a+A.length=m) (hb:m+C.length=b)
 (hA2:1<A.length) (hC2:1<C.length) (hUA:Up lt A) (hUC:Up lt C) (hS:St enc k W B (X++A++C++Y).toArray W):
 Calls Tryz.prog 148 #[.agg #[.func (.func g) #[] lb,.func (.func sf) #[] sb],.int .i64 a,.int .i64 m,.int .i64 b] W fun e w'=>e=.returned (.tuple #[])/\St enc k W B (X++aj lt A C++Y).toArray w':=by
 obtain⟨D,hD⟩:=ac ((X++A++C++Y).toArray);have hDl:D.size=len:=by rw[<-hD,<-hl];simp
 have hbl:b<=len:=by rw[<-hl];simp;omega
 rw[hD] at hS;obtain⟨T,hT⟩:=ac ((X++aj lt A C++Y).toArray);rw[hT];obtain⟨d,hd⟩:=ac ((a+b) / 2);obtain⟨n,hn⟩:=ac (d+m);obtain⟨z,hz⟩:=ac (n-1);have had:a<d:=by omega
 have hdb:d<b:=by omega
 have ham:a+1<m:=by omega
 have hmb:m+1<b:=by omega
 have REST:=aa (sg hW X A C Y a m b N B D T d n hD hT IH hN hl hlen ha hm hb hA2 hC2 hUA hUC hd hn);have HDL:=aa hDl;obtain⟨p,hp⟩:=ac (m-a);obtain⟨q,hq⟩:=ac (b-m);have w1:IntKind.i64.wrap ((m:Int)-(a:Int))=(p:Int):=by rw[aO];omega
 have w2:IntKind.i64.wrap ((b:Int)-(m:Int))=(q:Int):=by rw[aO];omega
 have hp1:((p:Int)==1)=false:=by simp;omega
 have hq1:((q:Int)==1)=false:=by simp;omega
 have v1:IntKind.i64.wrap ((a:Int)+(b:Int))=(a:Int)+(b:Int):=by rw[aO];omega
 have v2:IntKind.u64.wrap ((a:Int)+(b:Int))=(a:Int)+(b:Int):=by rw[IntKind.wrap_u64];omega
 have v3:((a:Int)+(b:Int)) / 2=(d:Int):=by omega
 have v4:IntKind.i64.wrap (d:Int)=(d:Int):=by rw[aO];omega
 have v4u:IntKind.u64.wrap (d:Int)=(d:Int):=by rw[IntKind.wrap_u64];omega
 have v5:IntKind.i64.wrap ((d:Int)+(m:Int))=(n:Int):=by rw[aO];omega
 have v6:IntKind.i64.wrap ((n:Int)-1)=(z:Int):=by rw[aO];omega
 obtain⟨y,hy⟩:=ac (n-b);have hbn:d<m->b<=n:=by omega
 have S1:=hS.alloc (.cells #[.func (.func g) #[] lb,.func (.func sf) #[] sb] 128);have HC:=aa (hC.up S1);have HX:=aa (lI (α:=α) (enc:=enc) (k:=k) (W:=W) (B:=B) g lb sf sb 128 hS.ltW);have HT:=aa (fun (D:Array α) (w:World) (h:St enc k (W.alloc (.cells #[.func (.func g) #[] lb,.func (.func sf) #[] sb] 128)) B D w)=>S1.trans h);have S2:=S1.base;have eg:=hC.eg;obtain⟨W1,hW1⟩:=ac (W.alloc (.cells #[.func (.func g) #[] lb,.func (.func sf) #[] sb] 128));have HS:Hid (St enc k W1 B D (W.alloc (.cells #[.func (.func g) #[] lb,.func (.func sf) #[] sb] 128))):=by unfold Hid;rw[<-hW1];exact S2
 rw[hW1] at HC HX HT;clear S1 S2 hW1 hC hS;clear hl hp hq hW hUA hUC hD hT IH hN hm hb ha hA2 hC2 hd hDl;go_enter Tryz.func148,Tryz.ntmps148;go_upto_if 106 with fail
 go_cut [18,19] (fun sv rv wx=>∃ s0 r0:Nat,sv=.int .i64 (s0:Nat)/\rv=.int .i64 (r0:Nat)/\Hid ((s0=a/\r0=m/\m<=d)\/(s0=y/\r0=d/\d<m))/\wx=W.alloc (.cells #[.func (.func g) #[] lb,.func (.func sf) #[] sb] 128))
 case first=>
  by_cases hmd:d<m
  ·have hmz:(d:Int)<(m:Int):=(by omega);have hbn2:=hbn hmd;have v7:IntKind.i64.wrap ((n:Int)-(b:Int))=(y:Int):=(by rw[aO];omega);(go_wp2_with fail);go_meet;exact⟨y,d,rfl,rfl,.inr ⟨rfl,rfl,hmd⟩,rfl⟩
  ·have hmz:¬ (d:Int)<(m:Int):=(by omega);(go_wp2_with fail);go_meet;exact⟨a,m,rfl,rfl,.inl ⟨rfl,rfl,by omega⟩,rfl⟩
 case rest=>
 obtain⟨s0,r0,rfl,rfl,HQ,rfl⟩:=hcut;have hq0:a<=s0/\s0<=r0/\r0<=m:=by have:=HQ.out;omega
 have hnr:m<=n-r0/\n-s0<=b/\r0<=n:=by have:=HQ.out;omega
 obtain⟨hs0,hsr0,hr0⟩:=hq0;obtain⟨hnr1,hnr2,hnr3⟩:=hnr;go_wp2_with fail
 go_loopw [18,19,21] (fun sv rv cv wr=>∃ (s r:Nat) (u:Value),sv=.int .i64 (s:Nat)/\rv=.int .i64 (r:Nat)/\cv=u/\s0<=s/\s<=r/\r<=r0/\Hid (s=s0\/lt D[n-s]! D[s-1]! = false)/\Hid (r=r0\/lt D[n-1-r]! D[r]! = true)/\Hid (St enc k W1 B D wr)) (fun sv rv _ _=>(intOf rv).toNat-(intOf sv).toNat)
 case atStart=>exact⟨s0,r0,_,rfl,rfl,rfl,aq _,hsr0,aq _,.inl rfl,.inl rfl,HS.out⟩
 case round=>
  clear HS;obtain⟨s,r,u,rfl,rfl,rfl,h0s,hsr,hrr,H1,H2,SD⟩:=hrel;have c0:=(HX.out _ _ SD.out).1;by_cases hlt:s<r
  ·as_aux_lemma=>
   have hltz:(s:Int)<(r:Int):=(by omega);obtain⟨c,hc⟩:=ac ((s+r) / 2);have x1:IntKind.i64.wrap ((s:Int)+(r:Int))=(s:Int)+(r:Int):=(by rw[aO];omega);have x2:IntKind.u64.wrap ((s:Int)+(r:Int))=(s:Int)+(r:Int):=(by rw[IntKind.wrap_u64];omega);have x3:((s:Int)+(r:Int)) / 2=(c:Int):=(by omega);have x4:IntKind.i64.wrap (c:Int)=(c:Int):=(by rw[aO];omega);have x4u:IntKind.u64.wrap (c:Int)=(c:Int):=(by rw[IntKind.wrap_u64];omega);obtain⟨t,hk⟩:=ac (z-c);have x5:IntKind.i64.wrap ((z:Int)-(c:Int))=(t:Int):=(by rw[aO];omega);have hsc:s<=c:=(by omega);have hcr:c<r:=(by omega);have hcl:c<len:=(by omega);have hkl:t<len:=(by omega);have hcm:=HC.out.less D wr HDL.out SD.out t c hkl hcl;have hUQ:Hid (lt D[t]! D[c]! = false->(c+1=s0\/lt D[n-(c+1)]! D[c+1-1]! = false)):=(fun h=>.inr (by rw[show n-(c+1)=t by omega,Nat.add_sub_cancel];exact h));have hDQ:Hid (lt D[t]! D[c]! = true->(c=r0\/lt D[n-1-c]! D[c]! = true)):=(fun h=>.inr (by rw[show n-1-c=t by omega];exact h));obtain⟨Lb,hLb⟩:=ac (lt D[t]! D[c]!);have hUQ2:Hid (Lb=false->(c+1=s0\/lt D[n-(c+1)]! D[c+1-1]! = false)):=(by rw[<-hLb];exact hUQ);have hDQ2:Hid (Lb=true->(c=r0\/lt D[n-1-c]! D[c]! = true)):=(by rw[<-hLb];exact hDQ);rw[hLb] at hcm;have HCM:=aa hcm;clear hLb hcm hk hc hUQ hDQ;cases Lb with
   | true=>
     have hR:=aa (hDQ2.out rfl);clear hUQ2 hDQ2;(go_wp2_with fail);refine HCM.out.mono ?_;rintro e w2 ⟨rfl,hb2⟩;have S3:=aa (SD.out.below hb2);clear hb2 HCM c0 SD;(go_wp2_with fail);go_roundw;case rel=>exact⟨s,c,_,rfl,rfl,rfl,h0s,hsc,by omega,H1,hR,S3⟩
     case measure=>simp[intOf];omega
   | false=>
     have hR:=aa (hUQ2.out rfl);have x6:IntKind.i64.wrap ((c:Int)+1)=(c:Int)+1:=(by rw[aO];omega);clear hUQ2 hDQ2;(go_wp2_with fail);refine HCM.out.mono ?_;rintro e w2 ⟨rfl,hb2⟩;have S3:=aa (SD.out.below hb2);clear hb2 HCM c0 SD;(go_wp2_with fail);go_roundw;case rel=>exact⟨c+1,r,_,by go_num,rfl,rfl,by omega,by omega,hrr,hR,H2,S3⟩
     case measure=>simp[intOf];omega
  ·as_aux_lemma=>
   have hltz:¬ (s:Int)<(r:Int):=(by omega);obtain rfl:s=r:=(by omega);obtain⟨e,he⟩:=ac (n-s);have y1:IntKind.i64.wrap ((n:Int)-(s:Int))=(e:Int):=(by rw[aO];omega);have hE:=REST.out s e (by omega) (by omega) (by omega) (by omega) (by omega)
    (by
     rcases H1.out with h|h
     ·rcases HQ.out with ⟨g1,_,_⟩|⟨g1,_,_⟩
      ·exact .inl (by omega)
      ·exact .inr (.inl (by omega))
     ·exact .inr (.inr (by rw[<-he];exact h)))
    (by
     rcases H2.out with h|h
     ·rcases HQ.out with ⟨_,g1,_⟩|⟨_,g1,_⟩
      ·exact .inl (by omega)
      ·exact .inr (.inl (by omega))
     ·exact .inr (.inr (by rw[<-he,show n-s-1=n-1-s by omega];exact h)))
   obtain⟨D2,D3,g1,g2,g3,g4,g5,g6⟩:=hE;have G1:=aa g1;have G2:=aa g2;have G3:=aa g3;have G4:=aa g4;have G5:=aa g5;have G6:=aa g6;have hme:m<=e:=(by omega);have hsm:s<=m:=(by omega);have hasx:a<=s:=(by omega);have hebx:e<=b:=(by omega);have c1:=(HX.out _ _ SD.out).2;clear g1 g2 g3 g4 g5 g6 H1 H2 HQ REST he hnr1 hnr2 hnr3 hs0 hsr0 hr0 h0s hrr hltz hlt;clear v1 v2 v3 v4 v4u v5 v6 w1 w2 hp1 hq1;(go_upto_region 40 with fail);(go_cut [145] (fun bv wx=>bv=.bool (decide (s<m/\m<e))/\wx=wr));case first=>
    by_cases k1:s<m
    ·have k1z:(s:Int)<(m:Int):=(by omega);have k1d:decide ((s:Int)<(m:Int))=true:=bq k1z;by_cases k2:m<e
     ·have k2z:(m:Int)<(e:Int):=(by omega);have k2d:decide ((m:Int)<(e:Int))=true:=bq k2z;(go_wp2_with fail);go_meet;exact⟨by rw[bq (And.intro k1 k2)],rfl⟩
     ·have k2z:¬ (m:Int)<(e:Int):=(by omega);have k2d:decide ((m:Int)<(e:Int))=false:=bF k2z;(go_wp2_with fail);go_meet;exact⟨by rw[bF (fun h:s<m/\m<e=>k2 h.2)],rfl⟩
    ·have k1z:¬ (s:Int)<(m:Int):=(by omega);have k1d:decide ((s:Int)<(m:Int))=false:=bF k1z;(go_wp2_with fail);go_meet;exact⟨by rw[bF (fun h:s<m/\m<e=>k1 h.1)],rfl⟩
   case rest=>
   obtain⟨rfl,rfl⟩:=hcut;obtain⟨bb,hbb⟩:=ac (decide (s<m/\m<e));have HBB:=aa hbb;rw[hbb];clear hbb;(go_upto_if 145 with fail);(go_cut [22] (fun kv wx=>kv=.int .i64 (e:Nat)/\Hid (St enc k W1 B D2 wx)));case first=>
    cases bb with
    | true=>have kk:=of_decide_eq_true HBB.out;have HQA:=aa (G1.out _ (HC.out.up SD.out) SD.out.base kk.1 kk.2);(go_wp2_with fail);refine HQA.out.mono ?_;rintro E w' ⟨rfl,S2⟩;have S3:=aa (SD.out.trans S2);clear S2;(go_wp2_with fail);go_meet;exact⟨rfl,S3⟩
    | false=>have kk:D2=D:=G2.out (of_decide_eq_false HBB.out);(go_wp2_with fail);go_meet;exact⟨rfl,by rw[kk];exact SD⟩
   case rest=>
   as_aux_lemma=>
   obtain⟨rfl,SA⟩:=hcut;clear c0 c1;have c0:=(HX.out _ _ SA.out).1;have c1:=(HX.out _ _ SA.out).2;(go_upto_region 42 with fail);(go_cut [158] (fun bv wx=>bv=.bool (decide (a<s/\s<d))/\wx=wc));case first=>
    by_cases k1:a<s
    ·have k1z:(a:Int)<(s:Int):=(by omega);have k1d:decide ((a:Int)<(s:Int))=true:=bq k1z;by_cases k2:s<d
     ·have k2z:(s:Int)<(d:Int):=(by omega);have k2d:decide ((s:Int)<(d:Int))=true:=bq k2z;(go_wp2_with fail);go_meet;exact⟨by rw[bq (And.intro k1 k2)],rfl⟩
     ·have k2z:¬ (s:Int)<(d:Int):=(by omega);have k2d:decide ((s:Int)<(d:Int))=false:=bF k2z;(go_wp2_with fail);go_meet;exact⟨by rw[bF (fun h:a<s/\s<d=>k2 h.2)],rfl⟩
    ·have k1z:¬ (a:Int)<(s:Int):=(by omega);have k1d:decide ((a:Int)<(s:Int))=false:=bF k1z;(go_wp2_with fail);go_meet;exact⟨by rw[bF (fun h:a<s/\s<d=>k1 h.1)],rfl⟩
   case rest=>
   obtain⟨rfl,rfl⟩:=hcut;obtain⟨bb,hbb⟩:=ac (decide (a<s/\s<d));have HBB:=aa hbb;rw[hbb];clear hbb;(go_upto_if 158 with fail);(go_cut [22] (fun kv wx=>kv=.int .i64 (e:Nat)/\Hid (St enc k W1 B D3 wx)));case first=>
    cases bb with
    | true=>have kk:=of_decide_eq_true HBB.out;have HQB:=aa (G3.out _ (HC.out.up SA.out) SA.out.base kk.1 kk.2);(go_wp2_with fail);refine HQB.out.mono ?_;rintro E w' ⟨rfl,S2⟩;have S3:=aa (SA.out.trans S2);clear S2;(go_wp2_with fail);go_meet;exact⟨rfl,S3⟩
    | false=>have kk:D3=D2:=G4.out (of_decide_eq_false HBB.out);(go_wp2_with fail);go_meet;exact⟨rfl,by rw[kk];exact SA⟩
   case rest=>
   as_aux_lemma=>
   obtain⟨rfl,SB⟩:=hcut;clear c0 c1;have c0:=(HX.out _ _ SB.out).1;have c1:=(HX.out _ _ SB.out).2;(go_upto_region 44 with fail);(go_cut [171] (fun bv wx=>bv=.bool (decide (d<e/\e<b))/\wx=wc));case first=>
    by_cases k1:d<e
    ·have k1z:(d:Int)<(e:Int):=(by omega);have k1d:decide ((d:Int)<(e:Int))=true:=bq k1z;by_cases k2:e<b
     ·have k2z:(e:Int)<(b:Int):=(by omega);have k2d:decide ((e:Int)<(b:Int))=true:=bq k2z;(go_wp2_with fail);go_meet;exact⟨by rw[bq (And.intro k1 k2)],rfl⟩
     ·have k2z:¬ (e:Int)<(b:Int):=(by omega);have k2d:decide ((e:Int)<(b:Int))=false:=bF k2z;(go_wp2_with fail);go_meet;exact⟨by rw[bF (fun h:d<e/\e<b=>k2 h.2)],rfl⟩
    ·have k1z:¬ (d:Int)<(e:Int):=(by omega);have k1d:decide ((d:Int)<(e:Int))=false:=bF k1z;(go_wp2_with fail);go_meet;exact⟨by rw[bF (fun h:d<e/\e<b=>k1 h.1)],rfl⟩
   case rest=>
   obtain⟨rfl,rfl⟩:=hcut;obtain⟨bb,hbb⟩:=ac (decide (d<e/\e<b));have HBB:=aa hbb;rw[hbb];clear hbb;cases bb with
   | true=>have kk:=of_decide_eq_true HBB.out;have HQC:=aa (G5.out _ (HC.out.up SB.out) SB.out.base kk.1 kk.2);(go_wp2_with fail);refine HQC.out.mono ?_;rintro E w' ⟨rfl,S2⟩;have S3:=aa (SB.out.trans S2);clear S2;(go_wp2_with fail);go_end0;exact⟨rfl,HT.out _ _ S3.out⟩
   | false=>have kk:T=D3:=G6.out (of_decide_eq_false HBB.out);(go_wp2_with fail);go_end0;exact⟨rfl,by rw[kk];exact HT.out _ _ SB.out⟩
end Go.Proofs.YtbgaglcgennhiaaGreatDoor
