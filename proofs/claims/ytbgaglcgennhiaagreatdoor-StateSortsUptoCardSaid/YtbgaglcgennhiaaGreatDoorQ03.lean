import Derived.Test.YtbgaglcgennhiaaGreatDoorQ02
import Derived.Deep.AppendLies
set_option maxHeartbeats 8000000
set_option maxRecDepth 100000
namespace Go.Proofs.YtbgaglcgennhiaaGreatDoor
namespace Sy
open Go Go.Proofs Go.Proofs.YtbgaglcgennhiaaGreatDoor Go.RowKit Go.Lib Go.Sort
variable {α:Type} {lt:α->α->Bool}
def ch (lt:α->α->Bool) (w:Nat):Nat->List α->List α
 |0,L=>af lt L
 |k+1,L=>af lt (L.take w)++ch lt w k (L.drop w)
theorem vV (w:Nat):∀ (k:Nat) (L:List α),(ch lt w k L).length=L.length
 |0,L=>aI L
 |k+1,L=>by rw[ch,de,aI,vV w k,dL,List.length_drop];omega
theorem uR:af lt ([]:List α)=[]:=rfl
structure Ahead (lt:α->α->Bool) (w:Nat) (L X R:List α) (j:Nat):Prop where
 len:X.length=j*w
 sum:X.length+R.length=L.length
 fin:∀ t,X++ch lt w t R=ch lt w (j+t) L
theorem Ahead.start (w:Nat) (L:List α):Ahead lt w L [] L 0:=⟨by simp,by simp,fun t=>by rw[Nat.zero_add,List.nil_append]⟩
theorem Ahead.step {w:Nat} {L X R:List α} {j:Nat} (h:Ahead lt w L X R j) (hR:w<=R.length):Ahead lt w L (X++af lt (R.take w)) (R.drop w) (j+1):=
 ⟨by rw[de,aI,dL,h.len,Nat.add_mul,Nat.min_eq_left hR];omega,by rw[de,aI,dL,List.length_drop];have:=h.sum;omega,
  fun t=>by rw[List.append_assoc,show j+1+t=j+(t+1) by omega,<-h.fin (t+1)];rfl⟩
def Blk (lt:α->α->Bool) (w:Nat) (L:List α) (T:List α):Prop:=∃ k,k*w<=L.length/\L.length<(k+1)*w/\T=ch lt w k L
theorem Blk.last {w:Nat} {L T:List α} (h:Blk lt w L T) (hw:L.length<=w):T=af lt L:=by
 obtain⟨k,h1,h2,rfl⟩:=h
 match k,h1,h2 with
 |0,_,_=>rfl
 | 1,h1,_=>rw[Nat.one_mul] at h1;have e:L.length=w:=(by omega);simp only[ch];rw[List.take_of_length_le (by omega),List.drop_eq_nil_of_le (by omega),uR,List.append_nil]
 | k+2,h1,h2=>exfalso;have:(k+2)*w=k*w+2*w:=(by rw[Nat.add_mul]);have h3:(k+2+1)*w=k*w+3*w:=(by rw[Nat.add_assoc,Nat.add_mul]);omega
structure Twice (lt:α->α->Bool) (w:Nat) (L X R U:List α) (j:Nat):Prop where
 ah:Ahead lt (2*w) L X R j
 blk:Blk lt w R U
theorem Twice.start {w:Nat} {L T:List α} (h:Blk lt w L T):Twice lt w L [] L T 0:=⟨Ahead.start _ _,h⟩
theorem Blk.len {w:Nat} {L T:List α} (h:Blk lt w L T):T.length=L.length:=by obtain⟨k,_,_,rfl⟩:=h;exact vV _ _ _
theorem Twice.step (hW:Weak lt) {w:Nat} {L X R U:List α} {j:Nat} (h:Twice lt w L X R U j) (hw:0<w) (hR:2*w<=R.length):
 ∃ A C Z,U=A++C++Z/\A.length=w/\C.length=w/\Up lt A/\Up lt C/\Twice lt w L (X++aj lt A C) (R.drop (2*w)) Z (j+1):=by
 obtain⟨k,h1,h2,rfl⟩:=h.blk
 match k,h1,h2 with
 |0,_,h2=>exfalso;rw[Nat.zero_add,Nat.one_mul] at h2;omega
 |1,_,h2=>exfalso;have : (1+1)*w=2*w:=rfl;omega
 | k+2,h1,h2=>
   have e1:(k+2)*w=k*w+2*w:=(by rw[Nat.add_mul]);have e2:(k+2+1)*w=(k+1)*w+2*w:=(by rw[show k+2+1=(k+1)+2 by omega,Nat.add_mul]);refine⟨af lt (R.take w),af lt ((R.drop w).take w),ch lt w k ((R.drop w).drop w),by simp[ch],by rw[aI,dL];omega,by rw[aI,dL,List.length_drop];omega,cm hW _,cm hW _,?_⟩;have et:R.take w++(R.drop w).take w=R.take (2*w):=(by rw[Nat.two_mul,List.take_add]);have ed:(R.drop w).drop w=R.drop (2*w):=(by rw[List.drop_drop,Nat.two_mul]);rw[<-p6 hW,et,ed];refine⟨h.ah.step hR,k,?_,?_,rfl⟩
   ·rw[List.length_drop];omega
   ·rw[List.length_drop];omega
theorem Twice.two (hW:Weak lt) {w:Nat} {L X R U:List α} {j:Nat} (h:Twice lt w L X R U j) (hR:R.length<2*w) (hm:w<R.length):
 ∃ A C,U=A++C/\A.length=w/\0<C.length/\Up lt A/\Up lt C/\Blk lt (2*w) L (X++aj lt A C):=by
 obtain⟨k,h1,h2,rfl⟩:=h.blk
 match k,h1,h2 with
 |0,_,h2=>exfalso;rw[Nat.zero_add,Nat.one_mul] at h2;omega
 | 1,_,h2=>refine⟨af lt (R.take w),af lt (R.drop w),rfl,by rw[aI,dL];omega,by rw[aI,List.length_drop];omega,cm hW _,cm hW _,?_⟩;rw[<-p6 hW,List.take_append_drop];have hl:=h.ah.len;have hs:=h.ah.sum;refine⟨j,by omega,by rw[Nat.add_mul];omega,?_⟩;have:=h.ah.fin 0;simpa [ch] using this
 | k+2,h1,h2=>exfalso;have e1:(k+2)*w=k*w+2*w:=(by rw[Nat.add_mul]);omega
theorem Twice.one {w:Nat} {L X R U:List α} {j:Nat} (h:Twice lt w L X R U j) (hw:0<w) (hm:R.length<=w):Blk lt (2*w) L (X++U):=by have hU:U=af lt R:=h.blk.last hm;rw[hU];have hl:=h.ah.len;have hs:=h.ah.sum;refine⟨j,by omega,by rw[Nat.add_mul];omega,?_⟩;have:=h.ah.fin 0;simpa [ch] using this
theorem Ahead.blk {w:Nat} {L X R:List α} {j:Nat} (h:Ahead lt w L X R j) (hR:R.length<w):Blk lt w L (X++af lt R):=by have hl:=h.len;have hs:=h.sum;refine⟨j,by omega,by rw[Nat.add_mul];omega,?_⟩;have:=h.fin 0;simpa [ch] using this
end Sy
section
open Go.RowKit Go.Lib Go.Sort Sy
variable {α:Type} [Inhabited α] {enc:α->List Value} {k:Nat} {lt:α->α->Bool} {len g:Nat} {lb:Array Value} {sf:Nat} {sb:Array Value}
variable {W0 W W':World} {B:Nat} {d D:Array α}
theorem Sy.St.base (h:St enc k W0 B d W):St enc k W B d W:=⟨World.grownBy.refl _ _,h.holds,h.ltW⟩
theorem Sy.St.trans (h:St enc k W0 B d W) (h2:St enc k W B D W'):St enc k W0 B D W':=⟨⟨h2.grown.os.trans h.grown.os,h2.grown.tape.trans h.grown.tape,h2.grown.output.trans h.grown.output,co h.grown.size h2.grown.size,fun j hj hne=>(h2.grown.block j (Nat.lt_of_lt_of_le hj h.grown.size) hne).trans (h.grown.block j hj hne)⟩,h2.holds,h.lt⟩
theorem Sy.St.far (h:St enc k W0 B d W) (b i:Nat) (hb:b<W0.heap.size) (hne:b≠B):W.cell? ⟨b,i,none⟩=W0.cell? ⟨b,i,none⟩:=h.grown.cell_far ⟨b,i,none⟩ hb (fun e=>hne (by injection e))
structure LS (enc:α->List Value) (k:Nat) (lt:α->α->Bool) (N g:Nat) (lb:Array Value) (sf:Nat) (sb:Array Value) (W0:World) (B:Nat):Prop where
 eg:∀ args w,(callFunc g args).run Tryz.prog w=.ok (.enter g args) w
 less:∀ (d:Array α) (W:World),d.size=N->St enc k W0 B d W->∀ i j:Nat,i<N->j<N->Calls Tryz.prog g (#[.int .i64 (i:Int),.int .i64 (j:Int)]++lb) W fun e w'=>e=.returned (.bool (lt d[i]! d[j]!))/\Below W.heap.size W w'
 swap:∀ (d:Array α) (W:World),d.size=N->St enc k W0 B d W->∀ i j:Nat,i<N->j<N->i≠j->∃ W',(callFunc sf (#[.int .i64 (i:Int),.int .i64 (j:Int)]++sb)).run Tryz.prog W=.ok (.value (.tuple #[])) W'/\St enc k W B (swp d i j) W'
theorem LS.up (h:LS enc k lt len g lb sf sb W0 B) (hs:St enc k W0 B d W):LS enc k lt len g lb sf sb W B:=⟨h.eg,fun D w hD hw=>h.less D w hD (hs.trans hw),fun D w hD hw=>h.swap D w hD (hs.trans hw)⟩
theorem lI (g:Nat) (lb:Array Value) (sf:Nat) (sb:Array Value) (t:TypeId) (hW:B<W.heap.size) (D:Array α) (w:World) (h:St enc k (W.alloc (.cells #[.func (.func g) #[] lb,.func (.func sf) #[] sb] t)) B D w):
 w.cell? ⟨W.heap.size,0,none⟩=some (.func (.func g) #[] lb)/\w.cell? ⟨W.heap.size,1,none⟩=some (.func (.func sf) #[] sb):=by
 have h0:=h.far W.heap.size 0 (by simp) (by omega);have h1:=h.far W.heap.size 1 (by simp) (by omega);rw[h0,h1];exact⟨by simp,by simp⟩
end
section
open Go.RowKit Go.Lib Go.Sort Sy
variable {α:Type} [Inhabited α] {enc:α->List Value} {k:Nat} {lt:α->α->Bool} {len g:Nat} {lb:Array Value} {sf:Nat} {sb:Array Value}
theorem jU (hW:Weak lt) (X S Y:List α) (a b:Nat) (W:World) (B:Nat) (hC:LS enc k lt len g lb sf sb W B) (hl:(X++S++Y).length=len) (hlen:len<=1000000000) (ha:X.length=a) (hb:a+S.length=b) (hS:St enc k W B (X++S++Y).toArray W):
 Calls Tryz.prog 147 #[.agg #[.func (.func g) #[] lb,.func (.func sf) #[] sb],.int .i64 a,.int .i64 b] W fun e w'=>e=.returned (.tuple #[])/\St enc k W B (X++af lt S++Y).toArray w':=by
 obtain⟨T,hT⟩:=ac ((X++af lt S++Y).toArray);rw[hT];have HTT:=aa hT;have HL:=aa hl;have HA:=aa ha;have HB:=aa hb;have HW:=aa hW;have hbl:b<=len:=by rw[<-hl];simp;omega
 have hab:a<=b:=by omega
 have wa:IntKind.i64.wrap ((a:Int)+1)=(a:Int)+1:=by rw[aO];omega
 have S1:=hS.alloc (.cells #[.func (.func g) #[] lb,.func (.func sf) #[] sb] 128);have HC:=aa (hC.up S1);have HX:=aa (lI (α:=α) (enc:=enc) (k:=k) (W:=W) (B:=B) g lb sf sb 128 hS.ltW);have HT:=aa (fun (D:Array α) (w:World) (h:St enc k (W.alloc (.cells #[.func (.func g) #[] lb,.func (.func sf) #[] sb] 128)) B D w)=>S1.trans h);have S2:=S1.base;have eg:=hC.eg;obtain⟨W1,hW1⟩:=ac (W.alloc (.cells #[.func (.func g) #[] lb,.func (.func sf) #[] sb] 128));have HS:Hid (St enc k W1 B (X++S++Y).toArray (W.alloc (.cells #[.func (.func g) #[] lb,.func (.func sf) #[] sb] 128))):=by unfold Hid;rw[<-hW1];exact S2
 rw[hW1] at HC HX HT;clear S1 S2 hW1 hC hS;clear hl ha hb hW hT;go_enter Tryz.func147,Tryz.ntmps147;go_wp2_with fail
 go_loopw [6] (fun iv wr=>∃ (i:Nat) (D:Array α),iv=.int .i64 (i:Nat)/\a<i/\i<=b+1/\Hid (OutR lt X S Y i D)/\Hid (St enc k W1 B D wr)) (fun iv _=>b+1-(intOf iv).toNat)
 case atStart=>exact⟨a+1,_,by go_num,by omega,by omega,by rw[<-HA.out];exact OutR.start X S Y,HS.out⟩
 case round=>
  clear HS;obtain⟨i,D,rfl,hai,hib,HO,SD⟩:=hrel;by_cases hlt:i<b
  ·have hltz:(i:Int)<(b:Int):=(by omega);obtain⟨x,hx,hI⟩:=HO.out.inner (by rw[HA.out];exact hai) (by rw[HA.out,HB.out];exact hlt);have HI:=aa hI;have hUp:=aa (cm HW.out (S.take (i-X.length)));have HZ:Hid (X.length+(af lt (S.take (i-X.length))).length+1+(S.drop (i-X.length+1)++Y).length=len):=(by unfold Hid;have:=HL.out;simp only[de,aI,dL,List.length_drop] at this ⊢;have h1:=HA.out;have h2:=HB.out;omega);have hNX:Hid (OutR lt X S Y (i+1) (X++aT lt x (af lt (S.take (i-X.length)))++(S.drop (i-X.length+1)++Y)).toArray):=OutR.next (by rw[HA.out];exact hai) hx;obtain⟨L,hL⟩:=ac (af lt (S.take (i-X.length)));obtain⟨Z,hZ⟩:=ac (S.drop (i-X.length+1)++Y);rw[hL,hZ] at HI hNX HZ;rw[hL] at hUp;have wi:IntKind.i64.wrap ((i:Int)+1)=(i:Int)+1:=(by rw[aO];omega);have hil:i<len:=(by omega);clear hx hI hL hZ HO;go_wp2_with fail
   go_loopw [7] (fun jv wr=>∃ (j:Nat) (E:Array α),jv=.int .i64 (j:Nat)/\a<=j/\j<=i/\Hid (InsR lt X x L Z j E)/\Hid (St enc k W1 B E wr)) (fun jv _=>(intOf jv).toNat)
   case atStart=>exact⟨i,D,rfl,by omega,aq _,HI,SD⟩
   case round=>
    clear SD HI;obtain⟨j,E,rfl,haj,hji,HJ,SE⟩:=hrel;have hEl:E.size=len:=HJ.out.size.1.trans HZ.out;have c0:=(HX.out _ _ SE.out).1;by_cases hja:a<j
    ·obtain⟨p,hq⟩:∃ p,p+1=j:=⟨j-1,by omega⟩;have wq:IntKind.i64.wrap ((j:Int)-1)=(p:Int):=(by rw[aO];omega);have hgq:(a:Int)<(j:Int):=(by omega);have hgd:decide ((a:Int)<(j:Int))=true:=bq hgq;have hgd2:decide ((j:Int) > (a:Int))=true:=bq hgq;have hpl:p<len:=(by omega);have hql:j<len:=(by omega);have hcm:=HC.out.less E wr hEl SE.out j p hql hpl;have hst:Hid (lt E[j]! E[p]! = true->InsR lt X x L Z p (swp E j p)):=(fun h=>by have:=HJ.out.step (by rw[HA.out];omega) (by rw[show j-1=p by omega];exact h);rwa [show j-1=p by omega] at this);have hsp:Hid (lt E[j]! E[p]! = false->E=(X++aT lt x L++Z).toArray):=(fun h=>HJ.out.stop HW.out hUp.out (Or.inr (by rw[show j-1=p by omega];exact h)));obtain⟨Lb,hLb⟩:=ac (lt E[j]! E[p]!);rw[hLb] at hcm hst hsp;have HCM:=aa hcm;have hpa:a<=p:=(by omega);have hip:p<i:=(by omega);have HQP:Hid (p+1=j):=hq;clear hLb hcm hq HJ;cases Lb with
     | true=>
       have hR:=aa (hst.out rfl);clear hst hsp;(go_wp2_with fail);refine HCM.out.mono ?_;rintro e w2 ⟨rfl,hb2⟩;have S2:=SE.out.below hb2;have c1:=(HX.out _ _ S2).2;obtain⟨w3,hs,S3⟩:=HC.out.swap E w2 hEl S2 j p hql hpl (by have:=HQP.out;omega);have S4:=aa (S2.trans S3);clear S2 S3 hb2 HCM c0 SE;(go_wp2_with fail);go_roundw;case rel=>exact⟨p,_,rfl,hpa,by omega,hR,S4⟩
       case measure=>have:=HQP.out;simp[intOf];omega
     | false=>
       have hE:=aa (hsp.out rfl);clear hst hsp;(go_wp2_with fail);refine HCM.out.mono ?_;rintro e w2 ⟨rfl,hb2⟩;have S3:=aa (SE.out.below hb2);clear hb2 HCM c0 SE;(go_wp2_with fail);go_roundw;case rel=>exact⟨i+1,_,by go_num,by omega,by omega,hNX,by rw[<-hE.out];exact S3.out⟩
       case measure=>simp[intOf];omega
    ·have hje:j=a:=(by omega);subst hje;have hg:decide ((j:Int)<(j:Int))=false:=bF (by omega);have hg2:¬ (j:Int)<(j:Int):=(by omega);have hE:=aa (HJ.out.stop HW.out hUp.out (Or.inl (by rw[HA.out];exact aq _)));clear HJ;(go_wp2_with fail);go_roundw;case rel=>exact⟨i+1,_,by go_num,by omega,by omega,hNX,by rw[<-hE.out];exact SE.out⟩
     case measure=>simp[intOf];omega
  ·have hltz:¬ (i:Int)<(b:Int):=(by omega);have hD:=HO.out.last (by rw[HA.out,HB.out];omega);(go_wp2_with fail);go_end0;exact⟨rfl,by rw[<-HTT.out,<-hD];exact HT.out _ _ SD.out⟩
theorem fU (a b n:Nat) (d:Array α) (W:World) (B:Nat) (hC:LS enc k lt len g lb sf sb W B) (hd:d.size=len) (hlen:len<=1000000000) (ha:a+n<=len) (hb:b+n<=len) (hab:a+n<=b) (hS:St enc k W B d W):
 Calls Tryz.prog 210 #[.agg #[.func (.func g) #[] lb,.func (.func sf) #[] sb],.int .i64 a,.int .i64 b,.int .i64 n] W fun e w'=>e=.returned (.tuple #[])/\St enc k W B (gU a b n d) w':=by
 have HD:=aa hd;have S1:=hS.alloc (.cells #[.func (.func g) #[] lb,.func (.func sf) #[] sb] 128);have HC:=aa (hC.up S1);have HX:=aa (lI (α:=α) (enc:=enc) (k:=k) (W:=W) (B:=B) g lb sf sb 128 hS.ltW);have HT:=aa (fun (D:Array α) (w:World) (h:St enc k (W.alloc (.cells #[.func (.func g) #[] lb,.func (.func sf) #[] sb] 128)) B D w)=>S1.trans h);have S2:=S1.base;have eg:=hC.eg;obtain⟨W1,hW1⟩:=ac (W.alloc (.cells #[.func (.func g) #[] lb,.func (.func sf) #[] sb] 128));have HS:Hid (St enc k W1 B d (W.alloc (.cells #[.func (.func g) #[] lb,.func (.func sf) #[] sb] 128))):=by unfold Hid;rw[<-hW1];exact S2
 rw[hW1] at HC HX HT;clear S1 S2 hW1 hC hS;clear hd;go_enter Tryz.func210,Tryz.ntmps210;go_wp2_with fail
 go_loopw [8] (fun i wr=>∃ t:Nat,t<=n/\i=.int .i64 (t:Nat)/\Hid (St enc k W1 B (gU a b t d) wr)) (fun i _=>n-(intOf i).toNat)
 case atStart=>exact⟨0,bI _,rfl,HS.out⟩
 case round=>
  clear HS;obtain⟨t,ht,rfl,SK⟩:=hrel;by_cases hlt:t<n
  ·have hltz:(t:Int)<(n:Int):=(by omega);have hz:(gU a b t d).size=len:=(by rw[iI];exact HD.out);obtain⟨p,hp⟩:=ac (a+t);obtain⟨q,hq⟩:=ac (b+t);have i1:IntKind.i64.wrap ((a:Int)+(t:Int))=(p:Int):=(by rw[aO];omega);have i2:IntKind.i64.wrap ((b:Int)+(t:Int))=(q:Int):=(by rw[aO];omega);obtain⟨w2,hs,S2⟩:=HC.out.swap (gU a b t d) wr hz SK.out p q (by omega) (by omega) (by omega);have c0:=(HX.out _ _ SK.out).1;have c1:=(HX.out _ _ SK.out).2;have S3:Hid (St enc k W1 B (gU a b (t+1) d) w2):=(by unfold Hid;rw[gU,hp,hq];exact SK.out.trans S2);clear hp hq hz S2 SK;(go_wp2_with fail);go_roundw;case rel=>exact⟨t+1,by omega,by go_num,S3⟩
   case measure=>simp[intOf];omega
  ·have hltz:¬ (t:Int)<(n:Int):=(by omega);have hkn:t=n:=(by omega);subst hkn;(go_wp2_with fail);go_end0;exact⟨rfl,HT.out _ _ SK.out⟩
theorem nS (X U V Y:List α) (a m b:Nat) (W:World) (B:Nat) (hC:LS enc k lt len g lb sf sb W B) (hl:(X++U++V++Y).length=len) (hlen:len<=1000000000) (ha:X.length=a) (hm:a+U.length=m) (hb:m+V.length=b) (hU:0<U.length) (hV:0<V.length)
 (hS:St enc k W B (X++U++V++Y).toArray W):
 Calls Tryz.prog 178 #[.agg #[.func (.func g) #[] lb,.func (.func sf) #[] sb],.int .i64 a,.int .i64 m,.int .i64 b] W fun e w'=>e=.returned (.tuple #[])/\St enc k W B (X++V++U++Y).toArray w':=by
 obtain⟨T,hT⟩:=ac (X++V++U++Y);have hTl:T.length=len:=by rw[<-hT,<-hl];simp;omega
 have R0:Hid (Rot T m U.length V.length (X++U++V++Y).toArray):=⟨X,U,V,Y,rfl,by omega,rfl,rfl,hT⟩;rw[hT];obtain⟨D,hD⟩:=ac ((X++U++V++Y).toArray);rw[hD] at hS R0;obtain⟨u,hu⟩:=ac U.length;obtain⟨v,hv⟩:=ac V.length;rw[hu] at R0 hm hU;rw[hv] at R0 hb hV;have HTL:=aa hTl;have hbl:b<=len:=by have:=R0.out.size;omega
 have S1:=hS.alloc (.cells #[.func (.func g) #[] lb,.func (.func sf) #[] sb] 128);have HC:=aa (hC.up S1);have HX:=aa (lI (α:=α) (enc:=enc) (k:=k) (W:=W) (B:=B) g lb sf sb 128 hS.ltW);have HT:=aa (fun (D:Array α) (w:World) (h:St enc k (W.alloc (.cells #[.func (.func g) #[] lb,.func (.func sf) #[] sb] 128)) B D w)=>S1.trans h);have S2:=S1.base;have eg:=hC.eg;obtain⟨W1,hW1⟩:=ac (W.alloc (.cells #[.func (.func g) #[] lb,.func (.func sf) #[] sb] 128));have HS:Hid (St enc k W1 B D (W.alloc (.cells #[.func (.func g) #[] lb,.func (.func sf) #[] sb] 128))):=by unfold Hid;rw[<-hW1];exact S2
 rw[hW1] at HC HX HT;clear S1 S2 hW1 hC hS;clear hD hT hl hu hv ha hTl;have e1:(m:Int)-(a:Int)=(u:Nat):=by omega
 have e2:(b:Int)-(m:Int)=(v:Nat):=by omega
 have w1:IntKind.i64.wrap ((m:Int)-(a:Int))=(u:Nat):=by rw[aO];omega
 have w2:IntKind.i64.wrap ((b:Int)-(m:Int))=(v:Nat):=by rw[aO];omega
 have hml:m<=len:=by omega
 clear hm hb e1 e2;go_enter Tryz.func178,Tryz.ntmps178;go_wp2_with fail
 go_loopw [8,9] (fun iv jv wr=>∃ (i j:Nat) (D:Array α),iv=.int .i64 (i:Nat)/\jv=.int .i64 (j:Nat)/\0<i/\0<j/\Hid (Rot T m i j D)/\Hid (St enc k W1 B D wr)) (fun iv jv _=>(intOf iv).toNat+(intOf jv).toNat)
 case atStart=>exact⟨u,v,D,rfl,rfl,hU,hV,R0,HS.out⟩
 case round=>
  clear HS R0 w1 w2 hU hV;obtain⟨i,j,D,rfl,rfl,hi,hj,HR,SD⟩:=hrel;have hsz:=HR.out.size;have hdl:D.size=len:=hsz.1.trans HTL.out;have him:i<=m:=hsz.2.1;have hmj:m+j<=len:=by rw[<-hdl];exact hsz.2.2
  clear hsz;have c0:=(HX.out _ _ SD.out).1;have c1:=(HX.out _ _ SD.out).2;have CR:=HC.out.up SD.out;obtain⟨p,hp⟩:=ac (m-i);have w3:IntKind.i64.wrap ((m:Int)-(i:Int))=(p:Int):=by rw[aO];omega
  by_cases hij:i=j
  ·subst hij;have hne:((i:Int) != (i:Int))=false:=(by simp);have HQ:=aa (fU p m i D wr B CR hdl hlen (by omega) (by omega) (by omega) SD.out.base);have HL:=aa HR.out.last;rw[hp] at HL;clear hp CR;(go_wp2_with fail);refine HQ.out.mono ?_;rintro e w' ⟨rfl,S2⟩;(go_wp2_with fail);go_end0;exact⟨rfl,by rw[<-HL.out];exact HT.out _ _ (SD.out.trans S2)⟩
  ·have hne:((i:Int) != (j:Int))=true:=(by simp;omega);by_cases hgt:j<i
   ·have hg:(j:Int)<(i:Int):=(by omega);obtain⟨q,hq⟩:=ac (i-j);have w4:IntKind.i64.wrap ((i:Int)-(j:Int))=(q:Int):=(by rw[aO];omega);have HQ:=aa (fU p m j D wr B CR hdl hlen (by omega) (by omega) (by omega) SD.out.base);have H2:=aa (HR.out.left hgt);rw[hp,hq] at H2;have hq0:0<q:=(by omega);have hqi:q+j=i:=(by omega);clear hp hq CR;(go_wp2_with fail);refine HQ.out.mono ?_;rintro e w' ⟨rfl,S2⟩;(go_wp2_with fail);go_roundw;case rel=>exact⟨q,j,_,rfl,rfl,hq0,hj,H2,SD.out.trans S2⟩
    case measure=>simp[intOf];omega
   ·have hlt:i<j:=(by omega);have hg:¬ (j:Int)<(i:Int):=(by omega);obtain⟨q,hq⟩:=ac (j-i);obtain⟨x,hx⟩:=ac (m+j);obtain⟨y,hy⟩:=ac (x-i);have w4:IntKind.i64.wrap ((j:Int)-(i:Int))=(q:Int):=(by rw[aO];omega);have w5:IntKind.i64.wrap ((m:Int)+(j:Int))=(x:Int):=(by rw[aO];omega);have w6:IntKind.i64.wrap ((x:Int)-(i:Int))=(y:Int):=(by rw[aO];omega);have HQ:=aa (fU p y i D wr B CR hdl hlen (by omega) (by omega) (by omega) SD.out.base);have H2:=aa (HR.out.right hlt);rw[hp,hx,hy,hq] at H2;have hq0:0<q:=(by omega);have hqi:q+i=j:=(by omega);clear hp hq hx hy CR;(go_wp2_with fail);refine HQ.out.mono ?_;rintro e w' ⟨rfl,S2⟩;(go_wp2_with fail);go_roundw;case rel=>exact⟨i,q,_,rfl,rfl,hi,hq0,H2,SD.out.trans S2⟩
    case measure=>simp[intOf];omega
def vM (enc:α->List Value) (k:Nat) (lt:α->α->Bool) (len g:Nat) (lb:Array Value) (sf:Nat) (sb:Array Value) (B:Nat) (N:Nat):Prop:=
 ∀ (X A C Y:List α) (a m b:Nat) (W:World),LS enc k lt len g lb sf sb W B->b-a<N->(X++A++C++Y).length=len->len<=1000000000->X.length=a->a+A.length=m->m+C.length=b->0<A.length->0<C.length->Up lt A->Up lt C->St enc k W B (X++A++C++Y).toArray W ->
   Calls Tryz.prog 148 #[.agg #[.func (.func g) #[] lb,.func (.func sf) #[] sb],.int .i64 a,.int .i64 m,.int .i64 b] W fun e w'=>e=.returned (.tuple #[])/\St enc k W B (X++aj lt A C++Y).toArray w'
theorem se (hW:Weak lt) (X C Y:List α) (x:α) (a m b:Nat) (W:World) (B:Nat) (hC:LS enc k lt len g lb sf sb W B) (hl:(X++[x]++C++Y).length=len) (hlen:len<=1000000000) (ha:X.length=a) (hm:a+1=m) (hb:m+C.length=b) (hUp:Up lt C) (hS:St enc k W B (X++[x]++C++Y).toArray W):
 Calls Tryz.prog 148 #[.agg #[.func (.func g) #[] lb,.func (.func sf) #[] sb],.int .i64 a,.int .i64 m,.int .i64 b] W fun e w'=>e=.returned (.tuple #[])/\St enc k W B (X++aj lt [x] C++Y).toArray w':=by
 obtain⟨D,hD⟩:=ac ((X++[x]++C++Y).toArray);have hDl:D.size=len:=by rw[<-hD,<-hl];simp
 have hbl:b<=len:=by rw[<-hl];simp;omega
 have hGa:D[a]! = x:=by rw[<-hD,show X++[x]++C++Y=X++x::(C++Y) by simp];exact dR _ _ _ _ ha.symm
 have HG:Hid (∀ h,m<=h->(hh:h-m<C.length)->D[h]! = C[h-m]'hh):=fun h h1 h2=>by
  have hlx:(X++[x]).length=m:=by simp;omega
  rw[<-hD];have:=eE (X++[x]) C Y h (by omega) (by omega);rw[this];simp only[hlx]
 rw[hD] at hS;obtain⟨T,hT⟩:=ac ((X++aj lt [x] C++Y).toArray);have HTT:Hid ((X++aj lt [x] C++Y).toArray=T):=hT;rw[hT];clear hT;have HGL:Hid (X.length+C.length+1+Y.length=len):=by unfold Hid;rw[<-hl];simp;omega
 have HDL:=aa hDl;have HA:=aa ha;have HB:=aa hb;have HUP:=aa hUp;have HM0:Hid (MovR X x C Y a D):=by unfold Hid MovR;rw[<-hD,<-ha];simp
 have HW:=aa hW;have SS:Hid (SeaL lt x C m m b):=SeaL.start x C m b hb;have w1:IntKind.i64.wrap ((m:Int)-(a:Int))=1:=by rw[aO];omega
 have hmb:m<=b:=by omega
 have ham:a+1=m:=hm;have S1:=hS.alloc (.cells #[.func (.func g) #[] lb,.func (.func sf) #[] sb] 128);have HC:=aa (hC.up S1);have HX:=aa (lI (α:=α) (enc:=enc) (k:=k) (W:=W) (B:=B) g lb sf sb 128 hS.ltW);have HT:=aa (fun (D:Array α) (w:World) (h:St enc k (W.alloc (.cells #[.func (.func g) #[] lb,.func (.func sf) #[] sb] 128)) B D w)=>S1.trans h);have S2:=S1.base;have eg:=hC.eg;obtain⟨W1,hW1⟩:=ac (W.alloc (.cells #[.func (.func g) #[] lb,.func (.func sf) #[] sb] 128));have HS:Hid (St enc k W1 B D (W.alloc (.cells #[.func (.func g) #[] lb,.func (.func sf) #[] sb] 128))):=by unfold Hid;rw[<-hW1];exact S2
 rw[hW1] at HC HX HT;clear S1 S2 hW1 hC hS;clear hl ha hb hm hW hUp hD hDl;go_enter Tryz.func148,Tryz.ntmps148;go_wp2_with fail
 go_loopw [8,9,10] (fun iv jv hv wr=>∃ (i j:Nat) (u:Value),iv=.int .i64 (i:Nat)/\jv=.int .i64 (j:Nat)/\hv=u/\m<=i/\i<=j/\j<=b/\Hid (SeaL lt x C m i j)/\Hid (St enc k W1 B D wr)) (fun iv jv _ _=>(intOf jv).toNat-(intOf iv).toNat)
 case atStart=>exact⟨m,b,_,rfl,rfl,rfl,aq _,hmb,aq _,SS,HS.out⟩
 case round=>
  clear HS SS;obtain⟨i,j,u,rfl,rfl,rfl,hmi,hij,hjb,HQ,SD⟩:=hrel;by_cases hlt:i<j
  ·have hltz:(i:Int)<(j:Int):=(by omega);obtain⟨h,hh⟩:=ac ((i+j) / 2);have v1:IntKind.i64.wrap ((i:Int)+(j:Int))=(i:Int)+(j:Int):=(by rw[aO];omega);have v2:IntKind.u64.wrap ((i:Int)+(j:Int))=(i:Int)+(j:Int):=(by rw[IntKind.wrap_u64];omega);have v3:((i:Int)+(j:Int)) / 2=(h:Int):=(by omega);have v4:IntKind.i64.wrap (h:Int)=(h:Int):=(by rw[aO];omega);have v4u:IntKind.u64.wrap (h:Int)=(h:Int):=(by rw[IntKind.wrap_u64];omega);have hil:i<=h:=(by omega);have hjl:h<j:=(by omega);have hhl:h<len:=(by omega);have hal:a<len:=(by omega);have hlC:h-m<C.length:=(by have:=HB.out;omega);have hDh:=HG.out h (by omega) hlC;have hcm:=HC.out.less D wr HDL.out SD.out h a hhl hal;have hUQ:Hid (lt D[h]! D[a]! = true->SeaL lt x C m (h+1) j):=(fun k=>by rw[hDh,hGa] at k;exact HQ.out.up HW.out HUP.out (by omega) hlC k);have hDQ:Hid (lt D[h]! D[a]! = false->SeaL lt x C m i h):=(fun k=>by rw[hDh,hGa] at k;exact HQ.out.down hlC k);obtain⟨Lb,hLb⟩:=ac (lt D[h]! D[a]!);rw[hLb] at hcm hUQ hDQ;have HCM:=aa hcm;have c0:=(HX.out _ _ SD.out).1;clear hLb hcm hDh hlC hh;cases Lb with
   | true=>
     have hR:=aa (hUQ.out rfl);have v5:IntKind.i64.wrap ((h:Int)+1)=(h:Int)+1:=(by rw[aO];omega);clear hUQ hDQ;(go_wp2_with fail);refine HCM.out.mono ?_;rintro e w2 ⟨rfl,hb2⟩;have S3:=aa (SD.out.below hb2);clear hb2 HCM c0 SD;(go_wp2_with fail);go_roundw;case rel=>exact⟨h+1,j,_,by go_num,rfl,rfl,by omega,by omega,hjb,hR,S3⟩
     case measure=>simp[intOf];omega
   | false=>
     have hR:=aa (hDQ.out rfl);clear hUQ hDQ;(go_wp2_with fail);refine HCM.out.mono ?_;rintro e w2 ⟨rfl,hb2⟩;have S3:=aa (SD.out.below hb2);clear hb2 HCM c0 SD;(go_wp2_with fail);go_roundw;case rel=>exact⟨i,h,_,rfl,rfl,rfl,hmi,by omega,by omega,hR,S3⟩
     case measure=>simp[intOf];omega
  ·have hltz:¬ (i:Int)<(j:Int):=(by omega);obtain rfl:i=j:=(by omega);have hLast:=aa HQ.out.last;have HIB:Hid (i-m<=C.length):=(by unfold Hid;have:=HB.out;omega);have v6:IntKind.i64.wrap ((i:Int)-1)=(i:Int)-1:=(by rw[aO];omega);clear HQ;go_wp2_with fail
   go_loopw [11] (fun kv wr=>∃ (t:Nat) (E:Array α),kv=.int .i64 (t:Nat)/\a<=t/\t+1<=i/\Hid (MovR X x C Y t E)/\Hid (St enc k W1 B E wr)) (fun kv _=>i-(intOf kv).toNat)
   case atStart=>exact⟨a,D,rfl,aq _,by omega,HM0,SD⟩
   case round=>
    clear SD HM0;obtain⟨t,E,rfl,hak,hki,HM,SE⟩:=hrel;have hEl:E.size=len:=(by have h1:=HM.out.size;have h2:=HA.out;have h3:=HB.out;have h4:=HGL.out;omega);by_cases hlk:t+1<i
    ·obtain⟨q,hq⟩:=ac (t+1);have hlz:(t:Int)<(i:Int)-1:=(by omega);have v7:IntKind.i64.wrap ((t:Int)+1)=(q:Int):=(by rw[aO];omega);have MN:Hid (MovR X x C Y q (swp E t q)):=(by unfold Hid;rw[<-hq];exact HM.out.up (by rw[HA.out];exact hak) (by have h2:=HA.out;have h3:=HIB.out;omega));obtain⟨w2,hs,S2⟩:=HC.out.swap E wr hEl SE.out t q (by omega) (by omega) (by omega);have S3:=aa (SE.out.trans S2);have c1:=(HX.out _ _ SE.out).2;have hqi:q+1<=i:=(by omega);have HQK:Hid (t<q):=(by unfold Hid;omega);have haq:a<=q:=(by omega);clear hq SE HM S2;(go_wp2_with fail);go_roundw;case rel=>exact⟨q,_,rfl,haq,hqi,MN,S3⟩
     case measure=>have:=HQK.out;simp[intOf];omega
    ·have hlz:¬ (t:Int)<(i:Int)-1:=(by omega);have hE:Hid (E=(X++aj lt [x] C++Y).toArray):=(by have h1:=HM.out;unfold MovR at h1;unfold Hid;rw[h1,hLast.out,show t-X.length=i-m by have:=HA.out;omega];simp);(go_wp2_with fail);refine bodyPost_ret (results_none rfl _ _ _) rfl ?_;exact⟨rfl,by rw[<-HTT.out,<-hE.out];exact HT.out _ _ SE.out⟩
theorem p9 (hW:Weak lt) (X A Y:List α) (x:α) (a m b:Nat) (W:World) (B:Nat) (hC:LS enc k lt len g lb sf sb W B) (hl:(X++A++[x]++Y).length=len) (hlen:len<=1000000000) (ha:X.length=a) (hm:a+A.length=m) (hA2:1<A.length) (hb:m+1=b) (hUp:Up lt A) (hS:St enc k W B (X++A++[x]++Y).toArray W):
 Calls Tryz.prog 148 #[.agg #[.func (.func g) #[] lb,.func (.func sf) #[] sb],.int .i64 a,.int .i64 m,.int .i64 b] W fun e w'=>e=.returned (.tuple #[])/\St enc k W B (X++aj lt A [x]++Y).toArray w':=by
 obtain⟨D,hD⟩:=ac ((X++A++[x]++Y).toArray);have hDl:D.size=len:=by rw[<-hD,<-hl];simp
 have hbl:b<=len:=by rw[<-hl];simp;omega
 have hGm:D[m]! = x:=by rw[<-hD,show X++A++[x]++Y=(X++A)++x::Y by simp];exact dR _ _ _ _ (by simp;omega)
 have HG:Hid (∀ h,a<=h->(hh:h-a<A.length)->D[h]! = A[h-a]'hh):=fun h h1 h2=>by subst ha;rw[<-hD,show X++A++[x]++Y=X++A++([x]++Y) by simp];exact eE X A ([x]++Y) h h1 h2
 rw[hD] at hS;obtain⟨T,hT⟩:=ac ((X++aj lt A [x]++Y).toArray);have HTT:Hid ((X++aj lt A [x]++Y).toArray=T):=hT;rw[hT];clear hT;have HGL:Hid (X.length+A.length+1+Y.length=len):=by unfold Hid;rw[<-hl];simp;omega
 have HDL:=aa hDl;have HA:=aa ha;have HM:=aa hm;have HUP:=aa hUp;have HM0:Hid (MovR X x A Y m D):=by unfold Hid MovR;rw[<-hD,List.take_of_length_le (by omega),List.drop_eq_nil_of_le (by omega)];simp
 have HW:=aa hW;have SS:Hid (SeaR lt x A a a m):=SeaR.start x A a m hm;obtain⟨p,hp⟩:=ac (m-a);have w1:IntKind.i64.wrap ((m:Int)-(a:Int))=(p:Int):=by rw[aO];omega
 have w2:IntKind.i64.wrap ((b:Int)-(m:Int))=1:=by rw[aO];omega
 have hp1:((p:Int)==1)=false:=by simp;omega
 have ham:a<=m:=by omega
 have hmb:m+1=b:=hb;have S1:=hS.alloc (.cells #[.func (.func g) #[] lb,.func (.func sf) #[] sb] 128);have HC:=aa (hC.up S1);have HX:=aa (lI (α:=α) (enc:=enc) (k:=k) (W:=W) (B:=B) g lb sf sb 128 hS.ltW);have HT:=aa (fun (D:Array α) (w:World) (h:St enc k (W.alloc (.cells #[.func (.func g) #[] lb,.func (.func sf) #[] sb] 128)) B D w)=>S1.trans h);have S2:=S1.base;have eg:=hC.eg;obtain⟨W1,hW1⟩:=ac (W.alloc (.cells #[.func (.func g) #[] lb,.func (.func sf) #[] sb] 128));have HS:Hid (St enc k W1 B D (W.alloc (.cells #[.func (.func g) #[] lb,.func (.func sf) #[] sb] 128))):=by unfold Hid;rw[<-hW1];exact S2
 rw[hW1] at HC HX HT;clear S1 S2 hW1 hC hS;clear hl ha hb hm hW hUp hD hp hDl;go_enter Tryz.func148,Tryz.ntmps148;go_wp2_with fail
 go_loopw [12,13,14] (fun iv jv hv wr=>∃ (i j:Nat) (u:Value),iv=.int .i64 (i:Nat)/\jv=.int .i64 (j:Nat)/\hv=u/\a<=i/\i<=j/\j<=m/\Hid (SeaR lt x A a i j)/\Hid (St enc k W1 B D wr)) (fun iv jv _ _=>(intOf jv).toNat-(intOf iv).toNat)
 case atStart=>exact⟨a,m,_,rfl,rfl,rfl,aq _,ham,aq _,SS,HS.out⟩
 case round=>
  clear HS SS;obtain⟨i,j,u,rfl,rfl,rfl,hai,hij,hjm,HQ,SD⟩:=hrel;by_cases hlt:i<j
  ·have hltz:(i:Int)<(j:Int):=(by omega);obtain⟨h,hh⟩:=ac ((i+j) / 2);have v1:IntKind.i64.wrap ((i:Int)+(j:Int))=(i:Int)+(j:Int):=(by rw[aO];omega);have v2:IntKind.u64.wrap ((i:Int)+(j:Int))=(i:Int)+(j:Int):=(by rw[IntKind.wrap_u64];omega);have v3:((i:Int)+(j:Int)) / 2=(h:Int):=(by omega);have v4:IntKind.i64.wrap (h:Int)=(h:Int):=(by rw[aO];omega);have v4u:IntKind.u64.wrap (h:Int)=(h:Int):=(by rw[IntKind.wrap_u64];omega);have hil:i<=h:=(by omega);have hjl:h<j:=(by omega);have hhl:h<len:=(by omega);have hml:m<len:=(by omega);have hlA:h-a<A.length:=(by have:=HM.out;omega);have hDh:=HG.out h (by omega) hlA;have hcm:=HC.out.less D wr HDL.out SD.out m h hml hhl;have hUQ:Hid (lt D[m]! D[h]! = false->SeaR lt x A a (h+1) j):=(fun k=>by rw[hDh,hGm] at k;exact HQ.out.up HW.out HUP.out (by omega) hlA k);have hDQ:Hid (lt D[m]! D[h]! = true->SeaR lt x A a i h):=(fun k=>by rw[hDh,hGm] at k;exact HQ.out.down HW.out HUP.out hlA k);obtain⟨Lb,hLb⟩:=ac (lt D[m]! D[h]!);rw[hLb] at hcm hUQ hDQ;have HCM:=aa hcm;have c0:=(HX.out _ _ SD.out).1;clear hLb hcm hDh hlA hh;cases Lb with
   | true=>
     have hR:=aa (hDQ.out rfl);clear hUQ hDQ;(go_wp2_with fail);refine HCM.out.mono ?_;rintro e w2 ⟨rfl,hb2⟩;have S3:=aa (SD.out.below hb2);clear hb2 HCM c0 SD;(go_wp2_with fail);go_roundw;case rel=>exact⟨i,h,_,rfl,rfl,rfl,hai,by omega,by omega,hR,S3⟩
     case measure=>simp[intOf];omega
   | false=>
     have hR:=aa (hUQ.out rfl);have v5:IntKind.i64.wrap ((h:Int)+1)=(h:Int)+1:=(by rw[aO];omega);clear hUQ hDQ;(go_wp2_with fail);refine HCM.out.mono ?_;rintro e w2 ⟨rfl,hb2⟩;have S3:=aa (SD.out.below hb2);clear hb2 HCM c0 SD;(go_wp2_with fail);go_roundw;case rel=>exact⟨h+1,j,_,by go_num,rfl,rfl,by omega,by omega,hjm,hR,S3⟩
     case measure=>simp[intOf];omega
  ·have hltz:¬ (i:Int)<(j:Int):=(by omega);obtain rfl:i=j:=(by omega);have hLast:=aa HQ.out.last;have HIB:Hid (i-a<=A.length):=(by unfold Hid;have:=HM.out;omega);clear HQ;go_wp2_with fail
   go_loopw [15] (fun kv wr=>∃ (t:Nat) (E:Array α),kv=.int .i64 (t:Nat)/\i<=t/\t<=m/\Hid (MovR X x A Y t E)/\Hid (St enc k W1 B E wr)) (fun kv _=>(intOf kv).toNat)
   case atStart=>exact⟨m,D,rfl,hjm,aq _,HM0,SD⟩
   case round=>
    clear SD HM0;obtain⟨t,E,rfl,hik,hkm,HV,SE⟩:=hrel;have hEl:E.size=len:=(by have h1:=HV.out.size;have h4:=HGL.out;omega);by_cases hlk:i<t
    ·obtain⟨q,hq⟩:∃ q,q+1=t:=⟨t-1,by omega⟩;have hlz:(i:Int)<(t:Int):=(by omega);have v7:IntKind.i64.wrap ((t:Int)-1)=(q:Int):=(by rw[aO];omega);have MN:Hid (MovR X x A Y q (swp E t q)):=(by unfold Hid;have h0:=HV.out;rw[<-hq] at h0 ⊢;exact h0.down (by rw[HA.out];omega) (by have h2:=HA.out;have h3:=HM.out;omega));obtain⟨w2,hs,S2⟩:=HC.out.swap E wr hEl SE.out t q (by omega) (by omega) (by omega);have S3:=aa (SE.out.trans S2);have c1:=(HX.out _ _ SE.out).2;have HQK:Hid (q<t):=(by unfold Hid;omega);have hiq:i<=q:=(by omega);have hqm:q<=m:=(by omega);clear hq SE HV S2;(go_wp2_with fail);go_roundw;case rel=>exact⟨q,_,rfl,hiq,hqm,MN,S3⟩
     case measure=>have:=HQK.out;simp[intOf];omega
    ·have hlz:¬ (i:Int)<(t:Int):=(by omega);obtain rfl:i=t:=(by omega);have hE:Hid (E=(X++aj lt A [x]++Y).toArray):=(by have h1:=HV.out;unfold MovR at h1;unfold Hid;rw[h1,hLast.out,show i-X.length=i-a by rw[HA.out]];simp);(go_wp2_with fail);refine bodyPost_ret (results_none rfl _ _ _) rfl ?_;exact⟨rfl,by rw[<-HTT.out,<-hE.out];exact HT.out _ _ SE.out⟩
end
end Go.Proofs.YtbgaglcgennhiaaGreatDoor

