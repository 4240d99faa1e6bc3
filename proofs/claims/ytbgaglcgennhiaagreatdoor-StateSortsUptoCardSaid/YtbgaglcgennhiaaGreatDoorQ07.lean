import Derived.Deep.DeepCutAuto
import Derived.Test.YtbgaglcgennhiaaGreatDoorQ03
set_option maxHeartbeats 16000000
set_option maxRecDepth 100000
namespace Go.Proofs.YtbgaglcgennhiaaGreatDoor
section
open Go.RowKit Go.Sort Sy
def zP (lt:ByteArray->ByteArray->Bool) (g:Nat) (cb:Array Value) (cap:Nat) (W0:World) (B:Nat) (N:Nat):Prop:=
 ∀ (X A C Y:List ByteArray) (a m b len:Nat) (W:World),b-a<N->(X++A++C++Y).length=len->len<=1000000000->X.length=a->a+A.length=m->m+C.length=b->0<A.length->0<C.length->Up lt A->Up lt C->St bL 1 W0 B (X++A++C++Y).toArray W ->
   Calls Tryz.prog 286 #[.slice (some ⟨B,0,none⟩) len cap,.int .i64 a,.int .i64 m,.int .i64 b,.func (.func g) #[] cb] W fun e w'=>e=.returned (.tuple #[])/\St bL 1 W0 B (X++aj lt A C++Y).toArray w'
theorem vu (lt:ByteArray->ByteArray->Bool) (hW:Weak lt) (cf:ByteArray->ByteArray->Int) (hcf:∀ x y,lt x y=decide (cf x y<0)) (g:Nat) (cb:Array Value) (eg:∀ args w,(callFunc g args).run Tryz.prog w=.ok (.enter g args) w)
 (X C Y:List ByteArray) (x:ByteArray) (a m b len cap:Nat) (W0 W:World) (B:Nat) (hC:od g cb cf W0 B) (hl:(X++[x]++C++Y).length=len) (hlen:len<=1000000000) (ha:X.length=a) (hm:a+1=m) (hb:m+C.length=b) (hUp:Up lt C) (hS:St bL 1 W0 B (X++[x]++C++Y).toArray W):
 Calls Tryz.prog 286 #[.slice (some ⟨B,0,none⟩) len cap,.int .i64 a,.int .i64 m,.int .i64 b,.func (.func g) #[] cb] W fun e w'=>e=.returned (.tuple #[])/\St bL 1 W0 B (X++aj lt [x] C++Y).toArray w':=by
 obtain⟨D,hD⟩:=ac ((X++[x]++C++Y).toArray);have hDl:D.size=len:=by rw[<-hD,<-hl];simp
 have hbl:b<=len:=by rw[<-hl];simp;omega
 have hGa:D[a]! = x:=by rw[<-hD,show X++[x]++C++Y=X++x::(C++Y) by simp];exact dR _ _ _ _ ha.symm
 have HG:Hid (∀ h,m<=h->(hh:h-m<C.length)->D[h]! = C[h-m]'hh):=fun h h1 h2=>by
  have hlx:(X++[x]).length=m:=by simp;omega
  rw[<-hD];have:=eE (X++[x]) C Y h (by omega) (by omega);rw[this];simp only[hlx]
 rw[hD] at hS;obtain⟨T,hT⟩:=ac ((X++aj lt [x] C++Y).toArray);have HT:Hid ((X++aj lt [x] C++Y).toArray=T):=hT;rw[hT];clear hT;have HGL:Hid (X.length+C.length+1+Y.length=len):=by unfold Hid;rw[<-hl];simp;omega
 have HS:=aa hS;have HA:=aa ha;have HB:=aa hb;have HUP:=aa hUp;have HM0:Hid (MovR X x C Y a D):=by unfold Hid MovR;rw[<-hD,<-ha];simp
 have HC:=aa hC;have HW:=aa hW;have HCF:=aa hcf;have SS:Hid (SeaL lt x C m m b):=SeaL.start x C m b hb;have w1:IntKind.i64.wrap ((m:Int)-(a:Int))=1:=by rw[aO];omega
 have hmb:m<=b:=by omega
 have ham:a+1=m:=hm;clear hC hS hl ha hb hm hW hcf hUp hD;go_enter Tryz.func286,Tryz.ntmps286;go_wp2_with fail
 go_loopw [10,11,12] (fun iv jv hv wr=>∃ (i j:Nat) (u:Value),iv=.int .i64 (i:Nat)/\jv=.int .i64 (j:Nat)/\hv=u/\m<=i/\i<=j/\j<=b/\Hid (SeaL lt x C m i j)/\Hid (St bL 1 W0 B D wr)) (fun iv jv _ _=>(intOf jv).toNat-(intOf iv).toNat)
 case atStart=>exact⟨m,b,_,rfl,rfl,rfl,aq _,hmb,aq _,SS,HS.out⟩
 case round=>
  clear HS SS;obtain⟨i,j,u,rfl,rfl,rfl,hmi,hij,hjb,HQ,SD⟩:=hrel;by_cases hlt:i<j
  ·have hltz:(i:Int)<(j:Int):=(by omega);obtain⟨h,hh⟩:=ac ((i+j) / 2);have v1:IntKind.i64.wrap ((i:Int)+(j:Int))=(i:Int)+(j:Int):=(by rw[aO];omega);have v2:IntKind.u64.wrap ((i:Int)+(j:Int))=(i:Int)+(j:Int):=(by rw[IntKind.wrap_u64];omega);have v3:((i:Int)+(j:Int)) / 2=(h:Int):=(by omega);have v4:IntKind.i64.wrap (h:Int)=(h:Int):=(by rw[aO];omega);have v4u:IntKind.u64.wrap (h:Int)=(h:Int):=(by rw[IntKind.wrap_u64];omega);have hil:i<=h:=(by omega);have hjl:h<j:=(by omega);have hhl:h<len:=(by omega);have hal:a<len:=(by omega);have hlC:h-m<C.length:=(by have:=HB.out;omega);have hDh:=HG.out h (by omega) hlC;have ch:∀ v:Bel wr,v.v.cell? ⟨B,h,none⟩=some (.string D[h]!):=(fun v=>((SD.out.bel v).cell h (by rw[hDl];exact hhl)).1);have ca:∀ v:Bel wr,v.v.cell? ⟨B,a,none⟩=some (.string D[a]!):=(fun v=>((SD.out.bel v).cell a (by rw[hDl];exact hal)).1);have hcm:∀ v:Bel wr,Calls Tryz.prog g (#[.string D[h]!,.string D[a]!]++cb) v.v fun e w'=>e=.returned (.int .i64 (cf D[h]! D[a]!))/\Below v.v.heap.size v.v w':=(fun v=>HC.out D v.v (SD.out.bel v) _ _);have hlq:=HCF.out D[h]! D[a]!;have hUQ:Hid (lt D[h]! D[a]! = true->SeaL lt x C m (h+1) j):=(fun k=>by rw[hDh,hGa] at k;exact HQ.out.up HW.out HUP.out (by omega) hlC k);have hDQ:Hid (lt D[h]! D[a]! = false->SeaL lt x C m i h):=(fun k=>by rw[hDh,hGa] at k;exact HQ.out.down hlC k);obtain⟨s,hs⟩:=ac (D[h]!);obtain⟨t,ht⟩:=ac (D[a]!);rw[hs,ht] at hcm hlq hUQ hDQ;rw[ht] at ca;rw[hs] at ch;clear hs ht hDh hlC hh;by_cases hc:cf s t<0
   ·have hcd:decide (cf s t<0)=true:=bq hc;have hR:=aa (hUQ.out (hlq.trans hcd));have v5:IntKind.i64.wrap ((h:Int)+1)=(h:Int)+1:=(by rw[aO];omega);clear hlq hUQ hDQ;(go_wp2_with fail);refine ew ?_
    repeat (quiet_step (first|(go_at_fn g;exact Calls.bel_of (hcm _))))
    refine wpQuiet_nil ?_;intro w2 hw';have hb2:Below wr.heap.size wr w2:=(by obtain⟨v,rfl⟩:=hw';exact v.h);clear hw';have S3:=aa (SD.out.below hb2);clear ch ca hcm;(go_wp2_with fail);go_roundw;case rel=>exact⟨h+1,j,_,by go_num,rfl,rfl,by omega,by omega,hjb,hR,S3⟩
    case measure=>simp[intOf];omega
   ·have hcd:decide (cf s t<0)=false:=bF hc;have hR:=aa (hDQ.out (hlq.trans hcd));clear hlq hUQ hDQ;(go_wp2_with fail);refine ew ?_
    repeat (quiet_step (first|(go_at_fn g;exact Calls.bel_of (hcm _))))
    refine wpQuiet_nil ?_;intro w2 hw';have hb2:Below wr.heap.size wr w2:=(by obtain⟨v,rfl⟩:=hw';exact v.h);clear hw';have S3:=aa (SD.out.below hb2);clear ch ca hcm;(go_wp2_with fail);go_roundw;case rel=>exact⟨i,h,_,rfl,rfl,rfl,hmi,by omega,by omega,hR,S3⟩
    case measure=>simp[intOf];omega
  ·have hltz:¬ (i:Int)<(j:Int):=(by omega);obtain rfl:i=j:=(by omega);have hLast:=aa HQ.out.last;have HIB:Hid (i-m<=C.length):=(by unfold Hid;have:=HB.out;omega);have v6:IntKind.i64.wrap ((i:Int)-1)=(i:Int)-1:=(by rw[aO];omega);clear HQ;go_wp2_with fail
   go_loopw [13] (fun kv wr=>∃ (k:Nat) (E:Array ByteArray),kv=.int .i64 (k:Nat)/\a<=k/\k+1<=i/\Hid (MovR X x C Y k E)/\Hid (St bL 1 W0 B E wr)) (fun kv _=>i-(intOf kv).toNat)
   case atStart=>exact⟨a,D,rfl,aq _,by omega,HM0,SD⟩
   case round=>
    clear SD HM0;obtain⟨k,E,rfl,hak,hki,HM,SE⟩:=hrel;have hEl:E.size=len:=(by have h1:=HM.out.size;have h2:=HA.out;have h3:=HB.out;have h4:=HGL.out;omega);by_cases hlk:k+1<i
    ·obtain⟨q,hq⟩:=ac (k+1);have hlz:(k:Int)<(i:Int)-1:=(by omega);have v7:IntKind.i64.wrap ((k:Int)+1)=(q:Int):=(by rw[aO];omega);have hkl:k<len:=(by omega);have hql:q<len:=(by omega);have MN:Hid (MovR X x C Y q (swp E k q)):=(by unfold Hid;rw[<-hq];exact HM.out.up (by rw[HA.out];exact hak) (by have h2:=HA.out;have h3:=HIB.out;omega));have SW1:=aa (SE.out.swapS k q (by rw[hEl];exact hkl) (by rw[hEl];exact hql));obtain⟨c1,c2⟩:=SE.out.cell k (by rw[hEl];exact hkl);obtain⟨c3,c4⟩:=SE.out.cell q (by rw[hEl];exact hql);obtain⟨s,hs⟩:=ac (E[k]!);obtain⟨t,ht⟩:=ac (E[q]!);rw[hs] at c1 SW1;rw[ht] at c3 SW1;have c5:(wr.setCell ⟨B,k,none⟩ (.string t)).cell? ⟨B,q,none⟩=some (.string t):=(by rw[aP];exact c3);have hqi:q+1<=i:=(by omega);have HQK:Hid (k<q):=(by unfold Hid;omega);have haq:a<=q:=(by omega);clear hs ht hq SE HM;(go_wp2_with fail);go_region
     have S3:=aa SW1.out.drew;(go_wp2_with fail);go_roundw;case rel=>exact⟨q,_,rfl,haq,hqi,MN,S3⟩
     case measure=>have:=HQK.out;simp[intOf];omega
    ·have hlz:¬ (k:Int)<(i:Int)-1:=(by omega);have hE:Hid (E=(X++aj lt [x] C++Y).toArray):=(by have h1:=HM.out;unfold MovR at h1;unfold Hid;rw[h1,hLast.out,show k-X.length=i-m by have:=HA.out;omega];simp);(go_wp2_with fail);refine bodyPost_ret (results_none rfl _ _ _) rfl ?_;exact⟨rfl,by rw[<-HT.out,<-hE.out];exact SE.out⟩
theorem sk (lt:ByteArray->ByteArray->Bool) (hW:Weak lt) (cf:ByteArray->ByteArray->Int) (hcf:∀ x y,lt x y=decide (cf x y<0)) (g:Nat) (cb:Array Value) (eg:∀ args w,(callFunc g args).run Tryz.prog w=.ok (.enter g args) w)
 (X A Y:List ByteArray) (x:ByteArray) (a m b len cap:Nat) (W0 W:World) (B:Nat) (hC:od g cb cf W0 B) (hl:(X++A++[x]++Y).length=len) (hlen:len<=1000000000) (ha:X.length=a) (hm:a+A.length=m) (hA2:1<A.length) (hb:m+1=b) (hUp:Up lt A) (hS:St bL 1 W0 B (X++A++[x]++Y).toArray W):
 Calls Tryz.prog 286 #[.slice (some ⟨B,0,none⟩) len cap,.int .i64 a,.int .i64 m,.int .i64 b,.func (.func g) #[] cb] W fun e w'=>e=.returned (.tuple #[])/\St bL 1 W0 B (X++aj lt A [x]++Y).toArray w':=by
 obtain⟨D,hD⟩:=ac ((X++A++[x]++Y).toArray);have hDl:D.size=len:=by rw[<-hD,<-hl];simp
 have hbl:b<=len:=by rw[<-hl];simp;omega
 have hGm:D[m]! = x:=by rw[<-hD,show X++A++[x]++Y=(X++A)++x::Y by simp];exact dR _ _ _ _ (by simp;omega)
 have HG:Hid (∀ h,a<=h->(hh:h-a<A.length)->D[h]! = A[h-a]'hh):=fun h h1 h2=>by subst ha;rw[<-hD,show X++A++[x]++Y=X++A++([x]++Y) by simp];exact eE X A ([x]++Y) h h1 h2
 rw[hD] at hS;obtain⟨T,hT⟩:=ac ((X++aj lt A [x]++Y).toArray);have HT:Hid ((X++aj lt A [x]++Y).toArray=T):=hT;rw[hT];clear hT;have HGL:Hid (X.length+A.length+1+Y.length=len):=by unfold Hid;rw[<-hl];simp;omega
 have HS:=aa hS;have HA:=aa ha;have HM:=aa hm;have HUP:=aa hUp;have HM0:Hid (MovR X x A Y m D):=by unfold Hid MovR;rw[<-hD,List.take_of_length_le (by omega),List.drop_eq_nil_of_le (by omega)];simp
 have HC:=aa hC;have HW:=aa hW;have HCF:=aa hcf;have SS:Hid (SeaR lt x A a a m):=SeaR.start x A a m hm;obtain⟨p,hp⟩:=ac (m-a);have w1:IntKind.i64.wrap ((m:Int)-(a:Int))=(p:Int):=by rw[aO];omega
 have w2:IntKind.i64.wrap ((b:Int)-(m:Int))=1:=by rw[aO];omega
 have hp1:((p:Int)==1)=false:=by simp;omega
 have ham:a<=m:=by omega
 have hmb:m+1=b:=hb;clear hC hS hl ha hb hm hW hcf hUp hD hp;go_enter Tryz.func286,Tryz.ntmps286;go_wp2_with fail
 go_loopw [14,15,16] (fun iv jv hv wr=>∃ (i j:Nat) (u:Value),iv=.int .i64 (i:Nat)/\jv=.int .i64 (j:Nat)/\hv=u/\a<=i/\i<=j/\j<=m/\Hid (SeaR lt x A a i j)/\Hid (St bL 1 W0 B D wr)) (fun iv jv _ _=>(intOf jv).toNat-(intOf iv).toNat)
 case atStart=>exact⟨a,m,_,rfl,rfl,rfl,aq _,ham,aq _,SS,HS.out⟩
 case round=>
  clear HS SS;obtain⟨i,j,u,rfl,rfl,rfl,hai,hij,hjm,HQ,SD⟩:=hrel;by_cases hlt:i<j
  ·have hltz:(i:Int)<(j:Int):=(by omega);obtain⟨h,hh⟩:=ac ((i+j) / 2);have v1:IntKind.i64.wrap ((i:Int)+(j:Int))=(i:Int)+(j:Int):=(by rw[aO];omega);have v2:IntKind.u64.wrap ((i:Int)+(j:Int))=(i:Int)+(j:Int):=(by rw[IntKind.wrap_u64];omega);have v3:((i:Int)+(j:Int)) / 2=(h:Int):=(by omega);have v4:IntKind.i64.wrap (h:Int)=(h:Int):=(by rw[aO];omega);have v4u:IntKind.u64.wrap (h:Int)=(h:Int):=(by rw[IntKind.wrap_u64];omega);have hil:i<=h:=(by omega);have hjl:h<j:=(by omega);have hhl:h<len:=(by omega);have hml:m<len:=(by omega);have hlA:h-a<A.length:=(by have:=HM.out;omega);have hDh:=HG.out h (by omega) hlA;have ch:∀ v:Bel wr,v.v.cell? ⟨B,h,none⟩=some (.string D[h]!):=(fun v=>((SD.out.bel v).cell h (by rw[hDl];exact hhl)).1);have ca:∀ v:Bel wr,v.v.cell? ⟨B,m,none⟩=some (.string D[m]!):=(fun v=>((SD.out.bel v).cell m (by rw[hDl];exact hml)).1);have hcm:∀ v:Bel wr,Calls Tryz.prog g (#[.string D[m]!,.string D[h]!]++cb) v.v fun e w'=>e=.returned (.int .i64 (cf D[m]! D[h]!))/\Below v.v.heap.size v.v w':=(fun v=>HC.out D v.v (SD.out.bel v) _ _);have hlq:=HCF.out D[m]! D[h]!;have hUQ:Hid (lt D[m]! D[h]! = false->SeaR lt x A a (h+1) j):=(fun k=>by rw[hDh,hGm] at k;exact HQ.out.up HW.out HUP.out (by omega) hlA k);have hDQ:Hid (lt D[m]! D[h]! = true->SeaR lt x A a i h):=(fun k=>by rw[hDh,hGm] at k;exact HQ.out.down HW.out HUP.out hlA k);obtain⟨s,hs⟩:=ac (D[m]!);obtain⟨t,ht⟩:=ac (D[h]!);rw[hs,ht] at hcm hlq hUQ hDQ;rw[ht] at ch;rw[hs] at ca;clear hs ht hDh hlA hh;by_cases hc:cf s t<0
   ·have hcd:decide (cf s t<0)=true:=bq hc;have hcn:(!decide (cf s t<0))=false:=(by rw[hcd];rfl);have hR:=aa (hDQ.out (hlq.trans hcd));clear hlq hUQ hDQ;(go_wp2_with fail);refine ew ?_
    repeat (quiet_step (first|(go_at_fn g;exact Calls.bel_of (hcm _))))
    refine wpQuiet_nil ?_;intro w2 hw';have hb2:Below wr.heap.size wr w2:=(by obtain⟨v,rfl⟩:=hw';exact v.h);clear hw';have S3:=aa (SD.out.below hb2);clear ch ca hcm;(go_wp2_with fail);go_roundw;case rel=>exact⟨i,h,_,rfl,rfl,rfl,hai,by omega,by omega,hR,S3⟩
    case measure=>simp[intOf];omega
   ·have hcd:decide (cf s t<0)=false:=bF hc;have hcn:(!decide (cf s t<0))=true:=(by rw[hcd];rfl);have hR:=aa (hUQ.out (hlq.trans hcd));have v5:IntKind.i64.wrap ((h:Int)+1)=(h:Int)+1:=(by rw[aO];omega);clear hlq hUQ hDQ;(go_wp2_with fail);refine ew ?_
    repeat (quiet_step (first|(go_at_fn g;exact Calls.bel_of (hcm _))))
    refine wpQuiet_nil ?_;intro w2 hw';have hb2:Below wr.heap.size wr w2:=(by obtain⟨v,rfl⟩:=hw';exact v.h);clear hw';have S3:=aa (SD.out.below hb2);clear ch ca hcm;(go_wp2_with fail);go_roundw;case rel=>exact⟨h+1,j,_,by go_num,rfl,rfl,by omega,by omega,hjm,hR,S3⟩
    case measure=>simp[intOf];omega
  ·have hltz:¬ (i:Int)<(j:Int):=(by omega);obtain rfl:i=j:=(by omega);have hLast:=aa HQ.out.last;have HIB:Hid (i-a<=A.length):=(by unfold Hid;have:=HM.out;omega);clear HQ;go_wp2_with fail
   go_loopw [17] (fun kv wr=>∃ (k:Nat) (E:Array ByteArray),kv=.int .i64 (k:Nat)/\i<=k/\k<=m/\Hid (MovR X x A Y k E)/\Hid (St bL 1 W0 B E wr)) (fun kv _=>(intOf kv).toNat)
   case atStart=>exact⟨m,D,rfl,hjm,aq _,HM0,SD⟩
   case round=>
    clear SD HM0;obtain⟨k,E,rfl,hik,hkm,HV,SE⟩:=hrel;have hEl:E.size=len:=(by have h1:=HV.out.size;have h4:=HGL.out;omega);by_cases hlk:i<k
    ·obtain⟨q,hq⟩:∃ q,q+1=k:=⟨k-1,by omega⟩;have hlz:(i:Int)<(k:Int):=(by omega);have v7:IntKind.i64.wrap ((k:Int)-1)=(q:Int):=(by rw[aO];omega);have hkl:k<len:=(by omega);have hql:q<len:=(by omega);have MN:Hid (MovR X x A Y q (swp E k q)):=(by unfold Hid;have h0:=HV.out;rw[<-hq] at h0 ⊢;exact h0.down (by rw[HA.out];omega) (by have h2:=HA.out;have h3:=HM.out;omega));have SW1:=aa (SE.out.swapS k q (by rw[hEl];exact hkl) (by rw[hEl];exact hql));obtain⟨c1,c2⟩:=SE.out.cell k (by rw[hEl];exact hkl);obtain⟨c3,c4⟩:=SE.out.cell q (by rw[hEl];exact hql);obtain⟨s,hs⟩:=ac (E[k]!);obtain⟨t,ht⟩:=ac (E[q]!);rw[hs] at c1 SW1;rw[ht] at c3 SW1;have c5:(wr.setCell ⟨B,k,none⟩ (.string t)).cell? ⟨B,q,none⟩=some (.string t):=(by rw[aP];exact c3);have HQK:Hid (q<k):=(by unfold Hid;omega);have hiq:i<=q:=(by omega);have hqm:q<=m:=(by omega);clear hs ht hq SE HV;(go_wp2_with fail);go_region
     have S3:=aa SW1.out.drew;(go_wp2_with fail);go_roundw;case rel=>exact⟨q,_,rfl,hiq,hqm,MN,S3⟩
     case measure=>have:=HQK.out;simp[intOf];omega
    ·have hlz:¬ (i:Int)<(k:Int):=(by omega);obtain rfl:i=k:=(by omega);have hE:Hid (E=(X++aj lt A [x]++Y).toArray):=(by have h1:=HV.out;unfold MovR at h1;unfold Hid;rw[h1,hLast.out,show i-X.length=i-a by rw[HA.out]];simp);(go_wp2_with fail);refine bodyPost_ret (results_none rfl _ _ _) rfl ?_;exact⟨rfl,by rw[<-HT.out,<-hE.out];exact SE.out⟩
theorem vw (lt:ByteArray->ByteArray->Bool) (hW:Weak lt) (g:Nat) (cb:Array Value)
 (X A C Y:List ByteArray) (a m b len cap N:Nat) (W0:World) (B:Nat) (D T:Array ByteArray) (d n:Nat) (hD:(X++A++C++Y).toArray=D) (hT:(X++aj lt A C++Y).toArray=T) (IH:zP lt g cb cap W0 B N) (hN:b-a<=N) (hl:(X++A++C++Y).length=len) (hlen:len<=1000000000) (ha:X.length=a) (hm:a+A.length=m) (hb:m+C.length=b)
 (hA2:1<A.length) (hC2:1<C.length) (hUA:Up lt A) (hUC:Up lt C) (hd:(a+b) / 2=d) (hn:d+m=n):
 ∀ s e,s+e=n->a<=s->s<=m->m<=e->e<=b->(s=a\/e=b\/lt D[e]! D[s-1]! = false)->(s=m\/e=m\/lt D[e-1]! D[s]! = true) ->
   ∃ D2 D3,(∀ w',St bL 1 W0 B D w'->s<m->m<e->Calls Tryz.prog 287 #[.slice (some ⟨B,0,none⟩) len cap,.int .i64 s,.int .i64 m,.int .i64 e,.func (.func g) #[] cb] w' fun E w2=>E=.returned (.tuple #[])/\St bL 1 W0 B D2 w2) /\
     (¬ (s<m/\m<e)->D2=D) /\
     (∀ w',St bL 1 W0 B D2 w'->a<s->s<d->Calls Tryz.prog 286 #[.slice (some ⟨B,0,none⟩) len cap,.int .i64 a,.int .i64 s,.int .i64 d,.func (.func g) #[] cb] w' fun E w2=>E=.returned (.tuple #[])/\St bL 1 W0 B D3 w2) /\
     (¬ (a<s/\s<d)->D3=D2) /\
     (∀ w',St bL 1 W0 B D3 w'->d<e->e<b->Calls Tryz.prog 286 #[.slice (some ⟨B,0,none⟩) len cap,.int .i64 d,.int .i64 e,.int .i64 b,.func (.func g) #[] cb] w' fun E w2=>E=.returned (.tuple #[])/\St bL 1 W0 B T w2) /\
     (¬ (d<e/\e<b)->T=D3):=by
 have had:a<d:=by omega
 have hdb:d<b:=by omega
 intro s e hse has hsm hme heb h1 h2;have key:=nW hW X A C Y D a m b s e hD ha hm hb hUA hUC has hsm hme heb h1 h2;have eA:A=A.take (s-a)++A.drop (s-a):=(List.take_append_drop _ _).symm;have eC:C=C.take (e-m)++C.drop (e-m):=(List.take_append_drop _ _).symm;have lA1:(A.take (s-a)).length=s-a:=by rw[dL];omega
 have lA2:(A.drop (s-a)).length=m-s:=by rw[List.length_drop];omega
 have lC1:(C.take (e-m)).length=e-m:=by rw[dL];omega
 have lC2:(C.drop (e-m)).length=b-e:=by rw[List.length_drop];omega
 generalize A.take (s-a)=A1 at *;generalize A.drop (s-a)=A2 at *;generalize C.take (e-m)=C1 at *;generalize C.drop (e-m)=C2 at *;subst eA;subst eC;have uA1:Up lt A1:=(List.pairwise_append.1 hUA).1;have uA2:Up lt A2:=(List.pairwise_append.1 hUA).2.1;have uC1:Up lt C1:=(List.pairwise_append.1 hUC).1;have uC2:Up lt C2:=(List.pairwise_append.1 hUC).2.1;have lAll:X.length+A1.length+A2.length+C1.length+C2.length+Y.length=len:=by rw[<-hl];simp;omega
 refine⟨(X++A1++C1++A2++C2++Y).toArray,(X++aj lt A1 C1++A2++C2++Y).toArray,?_,?_,?_,?_,?_,?_⟩
 ·intro w' S' q1 q2;have:=pP (X++A1) A2 C1 (C2++Y) s m e len cap (.func (.func g) #[] cb) W0 w' B (by simp;omega) hlen (by simp;omega) (by omega) (by omega) (by omega) (by omega) (by rw[<-hD] at S';simpa using S');simpa using this
 ·intro q;rw[<-hD];by_cases c1:s<m
  ·have:C1=[]:=eB (by omega);subst this;simp
  ·have:A2=[]:=eB (by omega);subst this;simp
 ·intro w' S' q1 q2;have:=IH X A1 C1 (A2++C2++Y) a s d len w' (by omega) (by simp;omega) hlen ha (by omega) (by omega) (by omega) (by omega) uA1 uC1 (by simpa using S');simpa using this
 ·intro q;by_cases c1:a<s
  ·have:C1=[]:=eB (by omega);subst this;rw[bg];simp
  ·have:A1=[]:=eB (by omega);subst this;rw[aM];simp
 ·intro w' S' q1 q2;have:=IH (X++aj lt A1 C1) A2 C2 Y d e b len w' (by omega) (by simp[cS];omega) hlen (by simp[cS];omega) (by omega) (by omega) (by omega) (by omega) uA2 uC2 (by simpa using S');rw[<-hT,key];simpa using this
 ·intro q;rw[<-hT,key];by_cases c1:d<e
  ·have:C2=[]:=eB (by omega);subst this;rw[bg];simp
  ·have:A2=[]:=eB (by omega);subst this;rw[aM];simp
theorem yq (lt:ByteArray->ByteArray->Bool) (hW:Weak lt) (cf:ByteArray->ByteArray->Int) (hcf:∀ x y,lt x y=decide (cf x y<0)) (g:Nat) (cb:Array Value) (eg:∀ args w,(callFunc g args).run Tryz.prog w=.ok (.enter g args) w)
 (X A C Y:List ByteArray) (a m b len cap N:Nat) (W0 W:World) (B:Nat) (hC:od g cb cf W0 B) (IH:zP lt g cb cap W0 B N) (hN:b-a<=N) (hl:(X++A++C++Y).length=len) (hlen:len<=1000000000) (ha:X.length=a) (hm:a+A.length=m) (hb:m+C.length=b)
 (hA2:1<A.length) (hC2:1<C.length) (hUA:Up lt A) (hUC:Up lt C) (hS:St bL 1 W0 B (X++A++C++Y).toArray W):
 Calls Tryz.prog 286 #[.slice (some ⟨B,0,none⟩) len cap,.int .i64 a,.int .i64 m,.int .i64 b,.func (.func g) #[] cb] W fun e w'=>e=.returned (.tuple #[])/\St bL 1 W0 B (X++aj lt A C++Y).toArray w':=by
 obtain⟨D,hD⟩:=ac ((X++A++C++Y).toArray);have hDl:D.size=len:=by rw[<-hD,<-hl];simp
 have hbl:b<=len:=by rw[<-hl];simp;omega
 rw[hD] at hS;obtain⟨T,hT⟩:=ac ((X++aj lt A C++Y).toArray);rw[hT];obtain⟨d,hd⟩:=ac ((a+b) / 2);obtain⟨n,hn⟩:=ac (d+m);obtain⟨z,hz⟩:=ac (n-1);have had:a<d:=by omega
 have hdb:d<b:=by omega
 have ham:a+1<m:=by omega
 have hmb:m+1<b:=by omega
 have REST:=aa (vw lt hW g cb X A C Y a m b len cap N W0 B D T d n hD hT IH hN hl hlen ha hm hb hA2 hC2 hUA hUC hd hn);have HS:=aa hS;have HC:=aa hC;have HCF:=aa hcf;obtain⟨p,hp⟩:=ac (m-a);obtain⟨q,hq⟩:=ac (b-m);have w1:IntKind.i64.wrap ((m:Int)-(a:Int))=(p:Int):=by rw[aO];omega
 have w2:IntKind.i64.wrap ((b:Int)-(m:Int))=(q:Int):=by rw[aO];omega
 have hp1:((p:Int)==1)=false:=by simp;omega
 have hq1:((q:Int)==1)=false:=by simp;omega
 have v1:IntKind.i64.wrap ((a:Int)+(b:Int))=(a:Int)+(b:Int):=by rw[aO];omega
 have v2:IntKind.u64.wrap ((a:Int)+(b:Int))=(a:Int)+(b:Int):=by rw[IntKind.wrap_u64];omega
 have v3:((a:Int)+(b:Int)) / 2=(d:Int):=by omega
 have v4:IntKind.i64.wrap (d:Int)=(d:Int):=by rw[aO];omega
 have v4u:IntKind.u64.wrap (d:Int)=(d:Int):=by rw[IntKind.wrap_u64];omega
 have v5:IntKind.i64.wrap ((d:Int)+(m:Int))=(n:Int):=by rw[aO];omega
 have v6:IntKind.i64.wrap ((n:Int)-1)=(z:Int):=by rw[aO];omega
 obtain⟨y,hy⟩:=ac (n-b);have hbn:d<m->b<=n:=by omega
 clear hC hS hl hp hq hW hcf hUA hUC hD hT IH hN hm hb ha hA2 hC2 hd;go_enter Tryz.func286,Tryz.ntmps286;go_upto_if 140 with fail
 go_cut [20,21] (fun sv rv wx=>∃ s0 r0:Nat,sv=.int .i64 (s0:Nat)/\rv=.int .i64 (r0:Nat)/\Hid ((s0=a/\r0=m/\m<=d)\/(s0=y/\r0=d/\d<m))/\wx=W)
 case first=>
  by_cases hmd:d<m
  ·have hmz:(d:Int)<(m:Int):=(by omega);have hbn2:=hbn hmd;have v7:IntKind.i64.wrap ((n:Int)-(b:Int))=(y:Int):=(by rw[aO];omega);(go_wp2_with fail);go_meet;exact⟨y,d,rfl,rfl,.inr ⟨rfl,rfl,hmd⟩,rfl⟩
  ·have hmz:¬ (d:Int)<(m:Int):=(by omega);(go_wp2_with fail);go_meet;exact⟨a,m,rfl,rfl,.inl ⟨rfl,rfl,by omega⟩,rfl⟩
 case rest=>
 obtain⟨s0,r0,rfl,rfl,HQ,rfl⟩:=hcut;have hq0:a<=s0/\s0<=r0/\r0<=m:=by have:=HQ.out;omega
 have hnr:m<=n-r0/\n-s0<=b/\r0<=n:=by have:=HQ.out;omega
 obtain⟨hs0,hsr0,hr0⟩:=hq0;obtain⟨hnr1,hnr2,hnr3⟩:=hnr;go_wp2_with fail
 go_loopw [20,21,23] (fun sv rv cv wr=>∃ (s r:Nat) (u:Value),sv=.int .i64 (s:Nat)/\rv=.int .i64 (r:Nat)/\cv=u/\s0<=s/\s<=r/\r<=r0/\Hid (s=s0\/lt D[n-s]! D[s-1]! = false)/\Hid (r=r0\/lt D[n-1-r]! D[r]! = true)/\Hid (St bL 1 W0 B D wr)) (fun sv rv _ _=>(intOf rv).toNat-(intOf sv).toNat)
 case atStart=>exact⟨s0,r0,_,rfl,rfl,rfl,aq _,hsr0,aq _,.inl rfl,.inl rfl,HS.out⟩
 case round=>
  clear HS;obtain⟨s,r,u,rfl,rfl,rfl,h0s,hsr,hrr,H1,H2,SD⟩:=hrel;by_cases hlt:s<r
  ·as_aux_lemma=>
   have hltz:(s:Int)<(r:Int):=(by omega);obtain⟨c,hc⟩:=ac ((s+r) / 2);have x1:IntKind.i64.wrap ((s:Int)+(r:Int))=(s:Int)+(r:Int):=(by rw[aO];omega);have x2:IntKind.u64.wrap ((s:Int)+(r:Int))=(s:Int)+(r:Int):=(by rw[IntKind.wrap_u64];omega);have x3:((s:Int)+(r:Int)) / 2=(c:Int):=(by omega);have x4:IntKind.i64.wrap (c:Int)=(c:Int):=(by rw[aO];omega);have x4u:IntKind.u64.wrap (c:Int)=(c:Int):=(by rw[IntKind.wrap_u64];omega);obtain⟨k,hk⟩:=ac (z-c);have x5:IntKind.i64.wrap ((z:Int)-(c:Int))=(k:Int):=(by rw[aO];omega);have hsc:s<=c:=(by omega);have hcr:c<r:=(by omega);have hcl:c<len:=(by omega);have hkl:k<len:=(by omega);have ch:∀ v:Bel wr,v.v.cell? ⟨B,k,none⟩=some (.string D[k]!):=(fun v=>((SD.out.bel v).cell k (by rw[hDl];exact hkl)).1);have ca:∀ v:Bel wr,v.v.cell? ⟨B,c,none⟩=some (.string D[c]!):=(fun v=>((SD.out.bel v).cell c (by rw[hDl];exact hcl)).1);have hcm:∀ v:Bel wr,Calls Tryz.prog g (#[.string D[k]!,.string D[c]!]++cb) v.v fun e w'=>e=.returned (.int .i64 (cf D[k]! D[c]!))/\Below v.v.heap.size v.v w':=(fun v=>HC.out D v.v (SD.out.bel v) _ _);have hlq:=HCF.out D[k]! D[c]!;have hUQ:Hid (lt D[k]! D[c]! = false->(c+1=s0\/lt D[n-(c+1)]! D[c+1-1]! = false)):=(fun h=>.inr (by rw[show n-(c+1)=k by omega,Nat.add_sub_cancel];exact h));have hDQ:Hid (lt D[k]! D[c]! = true->(c=r0\/lt D[n-1-c]! D[c]! = true)):=(fun h=>.inr (by rw[show n-1-c=k by omega];exact h));obtain⟨sv,hs⟩:=ac (D[k]!);obtain⟨tv,ht⟩:=ac (D[c]!);have hUQ2:Hid (lt sv tv=false->(c+1=s0\/lt D[n-(c+1)]! D[c+1-1]! = false)):=(by rw[<-hs,<-ht];exact hUQ);have hDQ2:Hid (lt sv tv=true->(c=r0\/lt D[n-1-c]! D[c]! = true)):=(by rw[<-hs,<-ht];exact hDQ);rw[hs,ht] at hcm hlq;rw[ht] at ca;rw[hs] at ch;clear hs ht hk hc hUQ hDQ;by_cases hcc:cf sv tv<0
   ·have hcd:decide (cf sv tv<0)=true:=bq hcc;have hcn:(!decide (cf sv tv<0))=false:=(by rw[hcd];rfl);have hR:=aa (hDQ2.out (hlq.trans hcd));clear hlq hUQ2 hDQ2;(go_wp2_with fail);refine ew ?_
    repeat (quiet_step (first|(go_at_fn g;exact Calls.bel_of (hcm _))))
    refine wpQuiet_nil ?_;intro w2 hw';have hb2:Below wr.heap.size wr w2:=(by obtain⟨v,rfl⟩:=hw';exact v.h);clear hw';have S3:=aa (SD.out.below hb2);clear ch ca hcm;(go_wp2_with fail);go_roundw;case rel=>exact⟨s,c,_,rfl,rfl,rfl,h0s,hsc,by omega,H1,hR,S3⟩
    case measure=>simp[intOf];omega
   ·have hcd:decide (cf sv tv<0)=false:=bF hcc;have hcn:(!decide (cf sv tv<0))=true:=(by rw[hcd];rfl);have hR:=aa (hUQ2.out (hlq.trans hcd));have x6:IntKind.i64.wrap ((c:Int)+1)=(c:Int)+1:=(by rw[aO];omega);clear hlq hUQ2 hDQ2;(go_wp2_with fail);refine ew ?_
    repeat (quiet_step (first|(go_at_fn g;exact Calls.bel_of (hcm _))))
    refine wpQuiet_nil ?_;intro w2 hw';have hb2:Below wr.heap.size wr w2:=(by obtain⟨v,rfl⟩:=hw';exact v.h);clear hw';have S3:=aa (SD.out.below hb2);clear ch ca hcm;(go_wp2_with fail);go_roundw;case rel=>exact⟨c+1,r,_,by go_num,rfl,rfl,by omega,by omega,hrr,hR,H2,S3⟩
    case measure=>simp[intOf];omega
  ·as_aux_lemma=>
   have hltz:¬ (s:Int)<(r:Int):=(by omega);obtain rfl:s=r:=(by omega);obtain⟨e,he⟩:=ac (n-s);have y1:IntKind.i64.wrap ((n:Int)-(s:Int))=(e:Int):=(by rw[aO];omega);have hE:=REST.out s e (by omega) (by omega) (by omega) (by omega) (by omega)
    (by
     rcases H1.out with h|h
     ·rcases HQ.out with ⟨g1,_,_⟩|⟨g1,_,_⟩
      ·exact .inl (by omega)
      ·exact .inr (.inl (by omega))
     ·exact .inr (.inr (by rw[<-he];exact h)))
    (by
     rcases H2.out with h|h
     ·rcases HQ.out with ⟨_,g1,_⟩|⟨_,g1,_⟩
      ·exact .inl (by omega)
      ·exact .inr (.inl (by omega))
     ·exact .inr (.inr (by rw[<-he,show n-s-1=n-1-s by omega];exact h)))
   obtain⟨D2,D3,g1,g2,g3,g4,g5,g6⟩:=hE;have G1:=aa g1;have G2:=aa g2;have G3:=aa g3;have G4:=aa g4;have G5:=aa g5;have G6:=aa g6;have hme:m<=e:=(by omega);have hsm:s<=m:=(by omega);have hasx:a<=s:=(by omega);have hebx:e<=b:=(by omega);clear g1 g2 g3 g4 g5 g6 H1 H2 HQ REST he hnr1 hnr2 hnr3 hs0 hsr0 hr0 h0s hrr hltz hlt;clear v1 v2 v3 v4 v4u v5 v6 w1 w2 hp1 hq1;(go_upto_region 39 with fail);(go_cut [185] (fun bv wx=>bv=.bool (decide (s<m/\m<e))/\wx=wr));case first=>
    by_cases k1:s<m
    ·have k1z:(s:Int)<(m:Int):=(by omega);have k1d:decide ((s:Int)<(m:Int))=true:=bq k1z;by_cases k2:m<e
     ·have k2z:(m:Int)<(e:Int):=(by omega);have k2d:decide ((m:Int)<(e:Int))=true:=bq k2z;(go_wp2_with fail);go_meet;exact⟨by rw[bq (And.intro k1 k2)],rfl⟩
     ·have k2z:¬ (m:Int)<(e:Int):=(by omega);have k2d:decide ((m:Int)<(e:Int))=false:=bF k2z;(go_wp2_with fail);go_meet;exact⟨by rw[bF (fun h:s<m/\m<e=>k2 h.2)],rfl⟩
    ·have k1z:¬ (s:Int)<(m:Int):=(by omega);have k1d:decide ((s:Int)<(m:Int))=false:=bF k1z;(go_wp2_with fail);go_meet;exact⟨by rw[bF (fun h:s<m/\m<e=>k1 h.1)],rfl⟩
   case rest=>
   obtain⟨rfl,rfl⟩:=hcut;have HDC:Hid ((decide (s<m/\m<e))=decide (s<m/\m<e)):=rfl;obtain⟨bb,hbb⟩:=ac (decide (s<m/\m<e));have HBB:=aa hbb;rw[hbb];clear hbb HDC;(go_upto_if 185 with fail);(go_cut [24] (fun kv wx=>kv=.int .i64 (e:Nat)/\Hid (St bL 1 W0 B D2 wx)));case first=>
    cases bb with
    | true=>have kk:=of_decide_eq_true HBB.out;have HQA:=aa (G1.out _ SD.out kk.1 kk.2);(go_wp2_with fail);refine HQA.out.mono ?_;rintro E w' ⟨rfl,S2⟩;(go_wp2_with fail);go_meet;exact⟨rfl,S2⟩
    | false=>have kk:D2=D:=G2.out (of_decide_eq_false HBB.out);(go_wp2_with fail);go_meet;exact⟨rfl,by rw[kk];exact SD⟩
   case rest=>
   as_aux_lemma=>
   obtain⟨rfl,SA⟩:=hcut;(go_upto_region 41 with fail);(go_cut [199] (fun bv wx=>bv=.bool (decide (a<s/\s<d))/\wx=wc));case first=>
    by_cases k1:a<s
    ·have k1z:(a:Int)<(s:Int):=(by omega);have k1d:decide ((a:Int)<(s:Int))=true:=bq k1z;by_cases k2:s<d
     ·have k2z:(s:Int)<(d:Int):=(by omega);have k2d:decide ((s:Int)<(d:Int))=true:=bq k2z;(go_wp2_with fail);go_meet;exact⟨by rw[bq (And.intro k1 k2)],rfl⟩
     ·have k2z:¬ (s:Int)<(d:Int):=(by omega);have k2d:decide ((s:Int)<(d:Int))=false:=bF k2z;(go_wp2_with fail);go_meet;exact⟨by rw[bF (fun h:a<s/\s<d=>k2 h.2)],rfl⟩
    ·have k1z:¬ (a:Int)<(s:Int):=(by omega);have k1d:decide ((a:Int)<(s:Int))=false:=bF k1z;(go_wp2_with fail);go_meet;exact⟨by rw[bF (fun h:a<s/\s<d=>k1 h.1)],rfl⟩
   case rest=>
   obtain⟨rfl,rfl⟩:=hcut;have HDC:Hid ((decide (a<s/\s<d))=decide (a<s/\s<d)):=rfl;obtain⟨bb,hbb⟩:=ac (decide (a<s/\s<d));have HBB:=aa hbb;rw[hbb];clear hbb HDC;(go_upto_if 199 with fail);(go_cut [24] (fun kv wx=>kv=.int .i64 (e:Nat)/\Hid (St bL 1 W0 B D3 wx)));case first=>
    cases bb with
    | true=>have kk:=of_decide_eq_true HBB.out;have HQB:=aa (G3.out _ SA.out kk.1 kk.2);(go_wp2_with fail);refine HQB.out.mono ?_;rintro E w' ⟨rfl,S2⟩;(go_wp2_with fail);go_meet;exact⟨rfl,S2⟩
    | false=>have kk:D3=D2:=G4.out (of_decide_eq_false HBB.out);(go_wp2_with fail);go_meet;exact⟨rfl,by rw[kk];exact SA⟩
   case rest=>
   as_aux_lemma=>
   obtain⟨rfl,SB⟩:=hcut;(go_upto_region 43 with fail);(go_cut [213] (fun bv wx=>bv=.bool (decide (d<e/\e<b))/\wx=wc));case first=>
    by_cases k1:d<e
    ·have k1z:(d:Int)<(e:Int):=(by omega);have k1d:decide ((d:Int)<(e:Int))=true:=bq k1z;by_cases k2:e<b
     ·have k2z:(e:Int)<(b:Int):=(by omega);have k2d:decide ((e:Int)<(b:Int))=true:=bq k2z;(go_wp2_with fail);go_meet;exact⟨by rw[bq (And.intro k1 k2)],rfl⟩
     ·have k2z:¬ (e:Int)<(b:Int):=(by omega);have k2d:decide ((e:Int)<(b:Int))=false:=bF k2z;(go_wp2_with fail);go_meet;exact⟨by rw[bF (fun h:d<e/\e<b=>k2 h.2)],rfl⟩
    ·have k1z:¬ (d:Int)<(e:Int):=(by omega);have k1d:decide ((d:Int)<(e:Int))=false:=bF k1z;(go_wp2_with fail);go_meet;exact⟨by rw[bF (fun h:d<e/\e<b=>k1 h.1)],rfl⟩
   case rest=>
   obtain⟨rfl,rfl⟩:=hcut;obtain⟨bb,hbb⟩:=ac (decide (d<e/\e<b));have HBB:=aa hbb;rw[hbb];clear hbb;cases bb with
   | true=>have kk:=of_decide_eq_true HBB.out;have HQC:=aa (G5.out _ SB.out kk.1 kk.2);(go_wp2_with fail);refine HQC.out.mono ?_;rintro E w' ⟨rfl,S2⟩;(go_wp2_with fail);go_end0;exact⟨rfl,S2⟩
   | false=>have kk:T=D3:=G6.out (of_decide_eq_false HBB.out);(go_wp2_with fail);go_end0;exact⟨rfl,by rw[kk];exact SB.out⟩
theorem ql (lt:ByteArray->ByteArray->Bool) (hW:Weak lt) (cf:ByteArray->ByteArray->Int) (hcf:∀ x y,lt x y=decide (cf x y<0)) (g:Nat) (cb:Array Value) (eg:∀ args w,(callFunc g args).run Tryz.prog w=.ok (.enter g args) w)
 (cap:Nat) (W0:World) (B:Nat) (hC:od g cb cf W0 B):∀ N,zP lt g cb cap W0 B N
 |0=>fun _ _ _ _ _ _ _ _ _ h=>absurd h (Nat.not_lt_zero _)
 | N+1=>by
   intro X A C Y a m b len W hN hl hlen ha hm hb hA hC0 hUA hUC hS;by_cases h1:A.length=1
   ·obtain⟨x,rfl⟩:=List.length_eq_one_iff.1 h1;exact vu lt hW cf hcf g cb eg X C Y x a m b len cap W0 W B hC hl hlen ha (by simpa using hm) hb hUC hS
   ·by_cases h2:C.length=1
    ·obtain⟨x,rfl⟩:=List.length_eq_one_iff.1 h2;exact sk lt hW cf hcf g cb eg X A Y x a m b len cap W0 W B hC hl hlen ha hm (by omega) (by simpa using hb) hUA hS
    ·exact yq lt hW cf hcf g cb eg X A C Y a m b len cap N W0 W B hC (ql lt hW cf hcf g cb eg cap W0 B hC N) (by omega) hl hlen ha hm hb (by omega) (by omega) hUA hUC hS
theorem qb (lt:ByteArray->ByteArray->Bool) (hW:Weak lt) (cf:ByteArray->ByteArray->Int) (hcf:∀ x y,lt x y=decide (cf x y<0)) (g:Nat) (cb:Array Value) (eg:∀ args w,(callFunc g args).run Tryz.prog w=.ok (.enter g args) w)
 (L:List ByteArray) (n cap:Nat) (W0 W:World) (B:Nat) (hC:od g cb cf W0 B) (hl:L.length=n) (hn:n<=400000000) (hS:St bL 1 W0 B L.toArray W):
 Calls Tryz.prog 283 #[.slice (some ⟨B,0,none⟩) n cap,.int .i64 n,.func (.func g) #[] cb] W fun e w'=>e=.returned (.tuple #[])/\St bL 1 W0 B (af lt L).toArray w':=by
 have HL:=aa hl;have HW:=aa hW;have HINS:Hid (∀ (X S Y:List ByteArray) (a b:Nat) (W:World),(X++S++Y).length=n->X.length=a->a+S.length=b->St bL 1 W0 B (X++S++Y).toArray W ->
  Calls Tryz.prog 285 #[.slice (some ⟨B,0,none⟩) n cap,.int .i64 a,.int .i64 b,.func (.func g) #[] cb] W fun e w'=>e=.returned (.tuple #[])/\St bL 1 W0 B (X++af lt S++Y).toArray w'):=
  fun X S Y a b W h1 h2 h3 h4=>kW lt hW cf hcf g cb eg X S Y a b n cap W0 W B hC h1 (by omega) h2 h3 h4
 have HSYM:Hid (∀ (X A C Y:List ByteArray) (a m b:Nat) (W:World),(X++A++C++Y).length=n->X.length=a->a+A.length=m->m+C.length=b->0<A.length->0<C.length->Up lt A->Up lt C->St bL 1 W0 B (X++A++C++Y).toArray W ->
  Calls Tryz.prog 286 #[.slice (some ⟨B,0,none⟩) n cap,.int .i64 a,.int .i64 m,.int .i64 b,.func (.func g) #[] cb] W fun e w'=>e=.returned (.tuple #[])/\St bL 1 W0 B (X++aj lt A C++Y).toArray w'):=
  fun X A C Y a m b W h1 h2 h3 h4 h5 h6 h7 h8 h9=>ql lt hW cf hcf g cb eg cap W0 B hC (b-a+1) X A C Y a m b n W (by omega) h1 (by omega) h2 h3 h4 h5 h6 h7 h8 h9
 have HS:=aa hS;clear hC hS hl hW hcf;go_enter Tryz.func283,Tryz.ntmps283;go_wp2_with fail
 go_loopw [7,8] (fun av bv wr=>∃ (a b j:Nat) (X R:List ByteArray),av=.int .i64 (a:Nat)/\bv=.int .i64 (b:Nat)/\b=a+20/\a<=n/\Hid (X.length=a)/\Hid (Ahead lt 20 L X R j)/\Hid (St bL 1 W0 B (X++R).toArray wr)) (fun av _ _=>n+20-(intOf av).toNat)
 case atStart=>exact⟨0,20,0,[],L,rfl,rfl,rfl,bI _,rfl,Ahead.start _ _,HS.out⟩
 case round=>
  clear HS;obtain⟨a,b,j,X,R,rfl,rfl,hb,han,HX,HA,SD⟩:=hrel;have hRl:R.length=n-a:=by have:=HA.out.sum;have h1:=HL.out;have h2:=HX.out;omega
  have HRL:=aa hRl;by_cases hbn:b<=n
  ·have hbz:(b:Int)<=(n:Int):=(by omega);obtain⟨b2,hb2⟩:=ac (b+20);have w1:IntKind.i64.wrap ((b:Int)+20)=(b2:Int):=(by rw[aO];omega);have HQ:=aa (HINS.out X (R.take 20) (R.drop 20) a b wr (by rw[List.append_assoc,List.take_append_drop,de,hRl,HX.out];omega) HX.out (by rw[dL];omega) (by rw[List.append_assoc,List.take_append_drop];exact SD.out));have HA2:=aa (HA.out.step (by omega));have HX2:Hid ((X++af lt (R.take 20)).length=b):=(by unfold Hid;rw[de,aI,dL,HX.out];omega);have HB2:Hid (b2=b+20):=hb2.symm;have HAB:Hid (b=a+20):=hb;clear hRl hb hb2;(go_wp2_with fail);refine HQ.out.mono ?_;rintro E w' ⟨rfl,S2⟩;(go_wp2_with fail);go_roundw;case rel=>exact⟨b,b2,j+1,_,_,rfl,rfl,HB2.out,hbn,HX2,HA2,S2⟩
   case measure=>have:=HAB.out;simp[intOf];omega
  ·as_aux_lemma=>
   have hbz:¬ (b:Int)<=(n:Int):=(by omega);have HQ:=aa (HINS.out X R [] a n wr (by rw[List.append_nil,de,hRl,HX.out];omega) HX.out (by omega) (by rw[List.append_nil];exact SD.out));have HB0:Hid (Blk lt 20 L (X++af lt R++[])):=(by unfold Hid;rw[List.append_nil];exact HA.out.blk (by omega));clear hRl;(go_wp2_with fail);refine HQ.out.mono ?_;rintro E w' ⟨rfl,S2⟩;have S3:=aa S2;obtain⟨U0,hU0⟩:=ac (X++af lt R++[]);rw[hU0] at HB0 S3;clear S2 hU0 HQ HA SD HX HRL hb hbz hbn;go_wp2_with fail
   go_loopw [6,7,8,9] (fun wv av bv mv wr=>∃ (w:Nat) (u1 u2 u3:Value) (U:List ByteArray),wv=.int .i64 (w:Nat)/\av=u1/\bv=u2/\mv=u3/\0<w/\w<=800000000/\Hid (Blk lt w L U)/\Hid (St bL 1 W0 B U.toArray wr)) (fun wv _ _ _ _=>n-(intOf wv).toNat)
   case atStart=>exact⟨20,_,_,_,U0,rfl,rfl,rfl,rfl,by omega,by omega,HB0,S3⟩
   case round=>
    clear HB0 S3;obtain⟨w,u1,u2,u3,U,rfl,rfl,rfl,rfl,hw0,hw9,HB,SU⟩:=hrel;by_cases hwn:w<n
    ·as_aux_lemma=>
     have hwz:(w:Int)<(n:Int):=(by omega);obtain⟨d,hd⟩:=ac (2*w);have w1:IntKind.i64.wrap (2*(w:Int))=(d:Int):=(by rw[aO];omega);have w1b:IntKind.i64.wrap ((w:Int)*2)=(d:Int):=(by rw[aO];omega);have HT0:=aa (Twice.start HB.out);have HD:=aa hd;clear hd;go_wp2_with fail
     go_loopw [7,8] (fun av bv wr=>∃ (a b j:Nat) (X R U:List ByteArray),av=.int .i64 (a:Nat)/\bv=.int .i64 (b:Nat)/\b=a+d/\a<=n/\Hid (X.length=a)/\Hid (Twice lt w L X R U j)/\Hid (St bL 1 W0 B (X++U).toArray wr)) (fun av _ _=>n+d-(intOf av).toNat)
     case atStart=>exact⟨0,d,0,[],L,U,rfl,rfl,by omega,bI _,rfl,HT0,SU⟩
     case round=>
      clear SU HT0;obtain⟨a,b,j,X,R,U,rfl,rfl,hb,han,HX,HT,SX⟩:=hrel;have hRl:R.length=n-a:=(by have:=HT.out.ah.sum;have h1:=HL.out;have h2:=HX.out;omega);have hUl:U.length=n-a:=(by have:=HT.out.blk.len;omega);obtain⟨m,hm⟩:=ac (a+w);have w2:IntKind.i64.wrap ((a:Int)+(w:Int))=(m:Int):=(by rw[aO];omega);have hdw:=HD.out;by_cases hbn:b<=n
      ·have hbz:(b:Int)<=(n:Int):=(by omega);obtain⟨b2,hb2⟩:=ac (b+d);have w3:IntKind.i64.wrap ((b:Int)+(d:Int))=(b2:Int):=(by rw[aO];omega);obtain⟨A,C,Z,hU,lA,lC,uA,uC,hT2⟩:=HT.out.step HW.out hw0 (by omega);have HT2:=aa hT2;have hx:=HX.out;have hsum:A.length+C.length+Z.length=n-a:=(by rw[<-hUl,hU];simp;omega);have HQ:=aa (HSYM.out X A C Z a m b wr (by simp;omega) HX.out (by omega) (by omega) (by omega) (by omega) uA uC (by have:=SX.out;rw[hU] at this;simpa using this));have HX2:Hid ((X++aj lt A C).length=b):=(by unfold Hid;rw[de,cS];omega);have HB2:Hid (b2=b+d):=hb2.symm;have HAB:Hid (b=a+d):=hb;clear hRl hUl hT2 hU hsum hm hdw hx lA lC hb hb2;(go_wp2_with fail);refine HQ.out.mono ?_;rintro E w' ⟨rfl,S2⟩;(go_wp2_with fail);go_roundw;case rel=>exact⟨b,b2,j+1,_,_,_,rfl,rfl,HB2.out,hbn,HX2,HT2,S2⟩
       case measure=>have:=HD.out;have:=HAB.out;simp[intOf];omega
      ·as_aux_lemma=>
       have hbz:¬ (b:Int)<=(n:Int):=(by omega);by_cases hmn:m<n
       ·have hmz:(m:Int)<(n:Int):=(by omega);obtain⟨A,C,hU,lA,lC,uA,uC,hB2⟩:=HT.out.two HW.out (by omega) (by omega);rw[HD.out] at hB2;have HB2:=aa hB2;have hx:=HX.out;have hsum:A.length+C.length=n-a:=(by rw[<-hUl,hU];simp);have HQ:=aa (HSYM.out X A C [] a m n wr (by simp;omega) HX.out (by omega) (by omega) (by omega) (by omega) uA uC (by have:=SX.out;rw[hU] at this;simpa using this));clear hRl hUl hB2 hU hsum hm hdw hx lA lC;(go_wp2_with fail);refine HQ.out.mono ?_;rintro E w' ⟨rfl,S2⟩;rw[List.append_nil] at S2;(go_wp2_with fail);go_roundw;case rel=>exact⟨d,_,_,_,_,rfl,rfl,rfl,rfl,by have:=HD.out;omega,by have:=HD.out;omega,HB2,S2⟩
        case measure=>have:=HD.out;simp[intOf];omega
       ·have hmz:¬ (m:Int)<(n:Int):=(by omega);have hB2:=HT.out.one hw0 (by omega);rw[HD.out] at hB2;have HB2:=aa hB2;clear hRl hUl hB2 hm hdw;(go_wp2_with fail);go_roundw;case rel=>exact⟨d,_,_,_,_,rfl,rfl,rfl,rfl,by have:=HD.out;omega,by have:=HD.out;omega,HB2,SX⟩
        case measure=>have:=HD.out;simp[intOf];omega
    ·have hwz:¬ (w:Int)<(n:Int):=(by omega);have hE:Hid (U=af lt L):=HB.out.last (by rw[HL.out];omega);(go_wp2_with fail);go_end0;exact⟨rfl,by rw[<-hE.out];exact SU.out⟩
theorem jT (lt:ByteArray->ByteArray->Bool) (hW:Weak lt) (cf:ByteArray->ByteArray->Int) (hcf:∀ x y,lt x y=decide (cf x y<0)) (g:Nat) (cb:Array Value) (eg:∀ args w,(callFunc g args).run Tryz.prog w=.ok (.enter g args) w)
 (L:List ByteArray) (n cap:Nat) (W0 W:World) (B:Nat) (hC:od g cb cf W0 B) (hl:L.length=n) (hn:n<=400000000) (hS:St bL 1 W0 B L.toArray W):
 Calls Tryz.prog 274 #[.slice (some ⟨B,0,none⟩) n cap,.func (.func g) #[] cb] W fun e w'=>e=.returned (.tuple #[])/\St bL 1 W0 B (af lt L).toArray w':=by
 have HQ:=aa (qb lt hW cf hcf g cb eg L n cap W0 W B hC hl hn hS);clear hC hS hW hcf;go_enter Tryz.func274,Tryz.ntmps274;go_wp2_with fail
 refine HQ.out.mono ?_;rintro E w' ⟨rfl,S2⟩;go_wp2_with fail
 go_end0;exact⟨rfl,S2⟩
end
end Go.Proofs.YtbgaglcgennhiaaGreatDoor

