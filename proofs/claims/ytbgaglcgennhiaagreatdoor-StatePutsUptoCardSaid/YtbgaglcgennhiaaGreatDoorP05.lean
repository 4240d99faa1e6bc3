import Derived.Test.YtbgaglcgennhiaaGreatDoorP04
namespace Go.Proofs.YtbgaglcgennhiaaGreatDoor
open Go.RowKit Go.Sort Sy
def vF (lt:ByteArray→ByteArray→Bool) (g:Nat) (cb:Array Value) (cap:Nat) (W0:World) (B:Nat) (N:Nat):Prop :=
 ∀ (X A C Y:List ByteArray) (a m b len:Nat) (W:World),b - a < N→(X++A++C++Y).length=len→len≤1000000000→X.length=a→a+A.length=m→m+C.length=b→0 < A.length→0 < C.length→Up lt A→Up lt C→St bB 1 W0 B (X++A++C++Y).toArray W →
   Calls Tryz.prog 286 #[.slice (some ⟨B,0,none⟩) len cap,.int .i64 a,.int .i64 m,.int .i64 b,.func (.func g) #[] cb] W fun e w'=>e=.returned (.tuple #[])∧St bB 1 W0 B (X++ao lt A C++Y).toArray w'
set_option maxHeartbeats 8000000 in
set_option maxRecDepth 100000 in
theorem qB (lt:ByteArray→ByteArray→Bool) (hW:Weak lt) (cf:ByteArray→ByteArray→Int) (hcf:∀ x y,lt x y=decide (cf x y < 0)) (g:Nat) (cb:Array Value) (eg:∀ args w,(callFunc g args).run Tryz.prog w=.ok (.enter g args) w)
 (X C Y:List ByteArray) (x:ByteArray) (a m b len cap:Nat) (W0 W:World) (B:Nat) (hC:mW g cb cf W0 B) (hl:(X++[x]++C++Y).length=len) (hlen:len≤1000000000) (ha:X.length=a) (hm:a+1=m) (hb:m+C.length=b) (hUp:Up lt C) (hS:St bB 1 W0 B (X++[x]++C++Y).toArray W) :
 Calls Tryz.prog 286 #[.slice (some ⟨B,0,none⟩) len cap,.int .i64 a,.int .i64 m,.int .i64 b,.func (.func g) #[] cb] W fun e w'=>e=.returned (.tuple #[])∧St bB 1 W0 B (X++ao lt [x] C++Y).toArray w':=by
 obtain⟨D,hD⟩:∃ D,(X++[x]++C++Y).toArray=D:=⟨_,rfl⟩
 have hDl:D.size=len:=by rw[← hD,← hl];simp
 have hbl:b≤len:=by rw[← hl];simp;omega
 have hGa:D[a]! = x:=by rw[← hD,show X++[x]++C++Y=X++x::(C++Y) by simp];exact fd _ _ _ _ ha.symm
 have HG:Hid (∀ h,m≤h→(hh:h - m < C.length)→D[h]! = C[h - m]'hh):=fun h h1 h2=>by
  have hlx:(X++[x]).length=m:=by simp;omega
  rw[← hD]
  have:=iA (X++[x]) C Y h (by omega) (by omega)
  rw[this];simp only[hlx]
 rw[hD] at hS
 obtain⟨T,hT⟩:∃ T,(X++ao lt [x] C++Y).toArray=T:=⟨_,rfl⟩
 have HT:Hid ((X++ao lt [x] C++Y).toArray=T):=hT;rw[hT];clear hT;have HGL:Hid (X.length+C.length+1+Y.length=len):=by unfold Hid;rw[← hl];simp;omega
 have HS:=Lib.hid hS;have HA:=Lib.hid ha;have HB:=Lib.hid hb;have HUP:=Lib.hid hUp;have HM0:Hid (MovR X x C Y a D):=by unfold Hid MovR;rw[← hD,← ha];simp
 have HC:=Lib.hid hC;have HW:=Lib.hid hW;have HCF:=Lib.hid hcf;have SS:Hid (SeaL lt x C m m b):=SeaL.start x C m b hb;have w1:IntKind.i64.wrap ((m:Int) - (a:Int))=1:=by rw[IntKind.wrap_i64];omega
 have hmb:m≤b:=by omega
 have ham:a+1=m:=hm;clear hC hS hl ha hb hm hW hcf hUp hD;go_enter Tryz.func286,Tryz.ntmps286
 go_wp2_with fail
 go_loopw [10,11,12] (fun iv jv hv wr=>∃ (i j:Nat) (u:Value),iv=.int .i64 (i:Nat)∧jv=.int .i64 (j:Nat)∧hv=u∧m≤i∧i≤j∧j≤b∧Hid (SeaL lt x C m i j)∧Hid (St bB 1 W0 B D wr)) (fun iv jv _ _=>(intOf jv).toNat - (intOf iv).toNat)
 case atStart=>exact⟨m,b,_,rfl,rfl,rfl,Nat.le_refl _,hmb,Nat.le_refl _,SS,HS.out⟩
 case round =>
  clear HS SS
  obtain⟨i,j,u,rfl,rfl,rfl,hmi,hij,hjb,HQ,SD⟩:=hrel
  by_cases hlt:i < j
  · have hltz:(i:Int) < (j:Int):=by omega
    obtain⟨h,hh⟩:∃ h,(i+j) / 2=h:=⟨_,rfl⟩
    have v1:IntKind.i64.wrap ((i:Int)+(j:Int))=(i:Int)+(j:Int):=by rw[IntKind.wrap_i64];omega
    have v2:IntKind.u64.wrap ((i:Int)+(j:Int))=(i:Int)+(j:Int):=by rw[IntKind.wrap_u64];omega
    have v3:((i:Int)+(j:Int)) / 2=(h:Int):=by omega
    have v4:IntKind.i64.wrap (h:Int)=(h:Int):=by rw[IntKind.wrap_i64];omega
    have v4u:IntKind.u64.wrap (h:Int)=(h:Int):=by rw[IntKind.wrap_u64];omega
    have hil:i≤h:=by omega
    have hjl:h < j:=by omega
    have hhl:h < len:=by omega
    have hal:a < len:=by omega
    have hlC:h - m < C.length:=by have:=HB.out;omega
    have hDh:=HG.out h (by omega) hlC;have ch:∀ v:Bel wr,v.v.cell? ⟨B,h,none⟩=some (.string D[h]!):=fun v=>((SD.out.bel v).cell h (by rw[hDl];exact hhl)).1
    have ca:∀ v:Bel wr,v.v.cell? ⟨B,a,none⟩=some (.string D[a]!):=fun v=>((SD.out.bel v).cell a (by rw[hDl];exact hal)).1
    have hcm:∀ v:Bel wr,Calls Tryz.prog g (#[.string D[h]!,.string D[a]!]++cb) v.v fun e w'=>e=.returned (.int .i64 (cf D[h]! D[a]!))∧Below v.v.heap.size v.v w':=fun v=>HC.out D v.v (SD.out.bel v) _ _
    have hlq:=HCF.out D[h]! D[a]!;have hUQ:Hid (lt D[h]! D[a]! = true→SeaL lt x C m (h+1) j):=fun k=>by rw[hDh,hGa] at k;exact HQ.out.up HW.out HUP.out (by omega) hlC k
    have hDQ:Hid (lt D[h]! D[a]! = false→SeaL lt x C m i h):=fun k=>by rw[hDh,hGa] at k;exact HQ.out.down hlC k
    obtain⟨s,hs⟩:∃ s,D[h]! = s:=⟨_,rfl⟩
    obtain⟨t,ht⟩:∃ s,D[a]! = s:=⟨_,rfl⟩
    rw[hs,ht] at hcm hlq hUQ hDQ;rw[ht] at ca;rw[hs] at ch;clear hs ht hDh hlC hh
    by_cases hc:cf s t < 0
    · have hcd:decide (cf s t < 0)=true:=decide_eq_true hc
      have hR:=Lib.hid (hUQ.out (hlq.trans hcd));have v5:IntKind.i64.wrap ((h:Int)+1)=(h:Int)+1:=by rw[IntKind.wrap_i64];omega
      clear hlq hUQ hDQ
      go_wp2_with fail
      refine wp_region_quiet_bel (by kernel_rfl) (by kernel_rfl) ?_
      repeat (quiet_step (first | (go_at_fn g;exact Calls.bel_of (hcm _))))
      refine wpQuiet_nil ?_;intro w2 hw';have hb2:Below wr.heap.size wr w2:=by obtain⟨v,rfl⟩:=hw';exact v.h
      clear hw';have S3:=Lib.hid (SD.out.below hb2);clear ch ca hcm
      go_wp2_with fail
      go_roundw
      case rel=>exact⟨h+1,j,_,by go_num,rfl,rfl,by omega,by omega,hjb,hR,S3⟩
      case measure=>simp[intOf];omega
    · have hcd:decide (cf s t < 0)=false:=decide_eq_false hc
      have hR:=Lib.hid (hDQ.out (hlq.trans hcd));clear hlq hUQ hDQ
      go_wp2_with fail
      refine wp_region_quiet_bel (by kernel_rfl) (by kernel_rfl) ?_
      repeat (quiet_step (first | (go_at_fn g;exact Calls.bel_of (hcm _))))
      refine wpQuiet_nil ?_;intro w2 hw';have hb2:Below wr.heap.size wr w2:=by obtain⟨v,rfl⟩:=hw';exact v.h
      clear hw';have S3:=Lib.hid (SD.out.below hb2);clear ch ca hcm
      go_wp2_with fail
      go_roundw
      case rel=>exact⟨i,h,_,rfl,rfl,rfl,hmi,by omega,by omega,hR,S3⟩
      case measure=>simp[intOf];omega
  · have hltz:¬ (i:Int) < (j:Int):=by omega
    obtain rfl:i=j:=by omega
    have hLast:=Lib.hid HQ.out.last;have HIB:Hid (i - m≤C.length):=by unfold Hid;have:=HB.out;omega
    have v6:IntKind.i64.wrap ((i:Int) - 1)=(i:Int) - 1:=by rw[IntKind.wrap_i64];omega
    clear HQ
    go_wp2_with fail
    go_loopw [13] (fun kv wr=>∃ (k:Nat) (E:Array ByteArray),kv=.int .i64 (k:Nat)∧a≤k∧k+1≤i∧Hid (MovR X x C Y k E)∧Hid (St bB 1 W0 B E wr)) (fun kv _=>i - (intOf kv).toNat)
    case atStart=>exact⟨a,D,rfl,Nat.le_refl _,by omega,HM0,SD⟩
    case round =>
     clear SD HM0
     obtain⟨k,E,rfl,hak,hki,HM,SE⟩:=hrel
     have hEl:E.size=len:=by have h1:=HM.out.size;have h2:=HA.out;have h3:=HB.out;have h4:=HGL.out;omega
     by_cases hlk:k+1 < i
     · obtain⟨q,hq⟩:∃ q,k+1=q:=⟨_,rfl⟩
       have hlz:(k:Int) < (i:Int) - 1:=by omega
       have v7:IntKind.i64.wrap ((k:Int)+1)=(q:Int):=by rw[IntKind.wrap_i64];omega
       have hkl:k < len:=by omega
       have hql:q < len:=by omega
       have MN:Hid (MovR X x C Y q (swp E k q)):=by
        unfold Hid;rw[← hq];exact HM.out.up (by rw[HA.out];exact hak) (by have h2:=HA.out;have h3:=HIB.out;omega)
       have SW1:=Lib.hid (SE.out.swapS k q (by rw[hEl];exact hkl) (by rw[hEl];exact hql))
       obtain⟨c1,c2⟩:=SE.out.cell k (by rw[hEl];exact hkl)
       obtain⟨c3,c4⟩:=SE.out.cell q (by rw[hEl];exact hql)
       obtain⟨s,hs⟩:∃ s,E[k]! = s:=⟨_,rfl⟩
       obtain⟨t,ht⟩:∃ s,E[q]! = s:=⟨_,rfl⟩
       rw[hs] at c1 SW1;rw[ht] at c3 SW1;have c5:(wr.setCell ⟨B,k,none⟩ (.string t)).cell? ⟨B,q,none⟩=some (.string t):=by
        rw[World.cell?_setCell_other _ _ _ _ (by simp)];exact c3
       have hqi:q+1≤i:=by omega
       have HQK:Hid (k < q):=by unfold Hid;omega
       have haq:a≤q:=by omega
       clear hs ht hq SE HM
       go_wp2_with fail
       go_region
       have S3:=Lib.hid SW1.out.drew
       go_wp2_with fail
       go_roundw
       case rel=>exact⟨q,_,rfl,haq,hqi,MN,S3⟩
       case measure=>have:=HQK.out;simp[intOf];omega
     · have hlz:¬ (k:Int) < (i:Int) - 1:=by omega
       have hE:Hid (E=(X++ao lt [x] C++Y).toArray):=by
        have h1:=HM.out;unfold MovR at h1;unfold Hid;rw[h1,hLast.out,show k - X.length=i - m by have:=HA.out;omega]
        simp
       go_wp2_with fail
       refine bodyPost_ret (results_none rfl _ _ _) rfl ?_
       exact⟨rfl,by rw[← HT.out,← hE.out];exact SE.out⟩
set_option maxHeartbeats 8000000 in
set_option maxRecDepth 100000 in
theorem oI (lt:ByteArray→ByteArray→Bool) (hW:Weak lt) (cf:ByteArray→ByteArray→Int) (hcf:∀ x y,lt x y=decide (cf x y < 0)) (g:Nat) (cb:Array Value) (eg:∀ args w,(callFunc g args).run Tryz.prog w=.ok (.enter g args) w)
 (X A Y:List ByteArray) (x:ByteArray) (a m b len cap:Nat) (W0 W:World) (B:Nat) (hC:mW g cb cf W0 B) (hl:(X++A++[x]++Y).length=len) (hlen:len≤1000000000) (ha:X.length=a) (hm:a+A.length=m) (hA2:1 < A.length) (hb:m+1=b) (hUp:Up lt A) (hS:St bB 1 W0 B (X++A++[x]++Y).toArray W) :
 Calls Tryz.prog 286 #[.slice (some ⟨B,0,none⟩) len cap,.int .i64 a,.int .i64 m,.int .i64 b,.func (.func g) #[] cb] W fun e w'=>e=.returned (.tuple #[])∧St bB 1 W0 B (X++ao lt A [x]++Y).toArray w':=by
 obtain⟨D,hD⟩:∃ D,(X++A++[x]++Y).toArray=D:=⟨_,rfl⟩
 have hDl:D.size=len:=by rw[← hD,← hl];simp
 have hbl:b≤len:=by rw[← hl];simp;omega
 have hGm:D[m]! = x:=by rw[← hD,show X++A++[x]++Y=(X++A)++x::Y by simp];exact fd _ _ _ _ (by simp;omega)
 have HG:Hid (∀ h,a≤h→(hh:h - a < A.length)→D[h]! = A[h - a]'hh):=fun h h1 h2=>by
  subst ha;rw[← hD,show X++A++[x]++Y=X++A++([x]++Y) by simp];exact iA X A ([x]++Y) h h1 h2
 rw[hD] at hS
 obtain⟨T,hT⟩:∃ T,(X++ao lt A [x]++Y).toArray=T:=⟨_,rfl⟩
 have HT:Hid ((X++ao lt A [x]++Y).toArray=T):=hT;rw[hT];clear hT;have HGL:Hid (X.length+A.length+1+Y.length=len):=by unfold Hid;rw[← hl];simp;omega
 have HS:=Lib.hid hS;have HA:=Lib.hid ha;have HM:=Lib.hid hm;have HUP:=Lib.hid hUp;have HM0:Hid (MovR X x A Y m D):=by unfold Hid MovR;rw[← hD,List.take_of_length_le (by omega),List.drop_eq_nil_of_le (by omega)];simp
 have HC:=Lib.hid hC;have HW:=Lib.hid hW;have HCF:=Lib.hid hcf;have SS:Hid (SeaR lt x A a a m):=SeaR.start x A a m hm
 obtain⟨p,hp⟩:∃ p,m - a=p:=⟨_,rfl⟩
 have w1:IntKind.i64.wrap ((m:Int) - (a:Int))=(p:Int):=by rw[IntKind.wrap_i64];omega
 have w2:IntKind.i64.wrap ((b:Int) - (m:Int))=1:=by rw[IntKind.wrap_i64];omega
 have hp1:((p:Int)==1)=false:=by simp;omega
 have ham:a≤m:=by omega
 have hmb:m+1=b:=hb;clear hC hS hl ha hb hm hW hcf hUp hD hp;go_enter Tryz.func286,Tryz.ntmps286
 go_wp2_with fail
 go_loopw [14,15,16] (fun iv jv hv wr=>∃ (i j:Nat) (u:Value),iv=.int .i64 (i:Nat)∧jv=.int .i64 (j:Nat)∧hv=u∧a≤i∧i≤j∧j≤m∧Hid (SeaR lt x A a i j)∧Hid (St bB 1 W0 B D wr)) (fun iv jv _ _=>(intOf jv).toNat - (intOf iv).toNat)
 case atStart=>exact⟨a,m,_,rfl,rfl,rfl,Nat.le_refl _,ham,Nat.le_refl _,SS,HS.out⟩
 case round =>
  clear HS SS
  obtain⟨i,j,u,rfl,rfl,rfl,hai,hij,hjm,HQ,SD⟩:=hrel
  by_cases hlt:i < j
  · have hltz:(i:Int) < (j:Int):=by omega
    obtain⟨h,hh⟩:∃ h,(i+j) / 2=h:=⟨_,rfl⟩
    have v1:IntKind.i64.wrap ((i:Int)+(j:Int))=(i:Int)+(j:Int):=by rw[IntKind.wrap_i64];omega
    have v2:IntKind.u64.wrap ((i:Int)+(j:Int))=(i:Int)+(j:Int):=by rw[IntKind.wrap_u64];omega
    have v3:((i:Int)+(j:Int)) / 2=(h:Int):=by omega
    have v4:IntKind.i64.wrap (h:Int)=(h:Int):=by rw[IntKind.wrap_i64];omega
    have v4u:IntKind.u64.wrap (h:Int)=(h:Int):=by rw[IntKind.wrap_u64];omega
    have hil:i≤h:=by omega
    have hjl:h < j:=by omega
    have hhl:h < len:=by omega
    have hml:m < len:=by omega
    have hlA:h - a < A.length:=by have:=HM.out;omega
    have hDh:=HG.out h (by omega) hlA;have ch:∀ v:Bel wr,v.v.cell? ⟨B,h,none⟩=some (.string D[h]!):=fun v=>((SD.out.bel v).cell h (by rw[hDl];exact hhl)).1
    have ca:∀ v:Bel wr,v.v.cell? ⟨B,m,none⟩=some (.string D[m]!):=fun v=>((SD.out.bel v).cell m (by rw[hDl];exact hml)).1
    have hcm:∀ v:Bel wr,Calls Tryz.prog g (#[.string D[m]!,.string D[h]!]++cb) v.v fun e w'=>e=.returned (.int .i64 (cf D[m]! D[h]!))∧Below v.v.heap.size v.v w':=fun v=>HC.out D v.v (SD.out.bel v) _ _
    have hlq:=HCF.out D[m]! D[h]!;have hUQ:Hid (lt D[m]! D[h]! = false→SeaR lt x A a (h+1) j):=fun k=>by rw[hDh,hGm] at k;exact HQ.out.up HW.out HUP.out (by omega) hlA k
    have hDQ:Hid (lt D[m]! D[h]! = true→SeaR lt x A a i h):=fun k=>by rw[hDh,hGm] at k;exact HQ.out.down HW.out HUP.out hlA k
    obtain⟨s,hs⟩:∃ s,D[m]! = s:=⟨_,rfl⟩
    obtain⟨t,ht⟩:∃ s,D[h]! = s:=⟨_,rfl⟩
    rw[hs,ht] at hcm hlq hUQ hDQ;rw[ht] at ch;rw[hs] at ca;clear hs ht hDh hlA hh
    by_cases hc:cf s t < 0
    · have hcd:decide (cf s t < 0)=true:=decide_eq_true hc
      have hcn:(!decide (cf s t < 0))=false:=by rw[hcd];rfl
      have hR:=Lib.hid (hDQ.out (hlq.trans hcd));clear hlq hUQ hDQ
      go_wp2_with fail
      refine wp_region_quiet_bel (by kernel_rfl) (by kernel_rfl) ?_
      repeat (quiet_step (first | (go_at_fn g;exact Calls.bel_of (hcm _))))
      refine wpQuiet_nil ?_;intro w2 hw';have hb2:Below wr.heap.size wr w2:=by obtain⟨v,rfl⟩:=hw';exact v.h
      clear hw';have S3:=Lib.hid (SD.out.below hb2);clear ch ca hcm
      go_wp2_with fail
      go_roundw
      case rel=>exact⟨i,h,_,rfl,rfl,rfl,hai,by omega,by omega,hR,S3⟩
      case measure=>simp[intOf];omega
    · have hcd:decide (cf s t < 0)=false:=decide_eq_false hc
      have hcn:(!decide (cf s t < 0))=true:=by rw[hcd];rfl
      have hR:=Lib.hid (hUQ.out (hlq.trans hcd));have v5:IntKind.i64.wrap ((h:Int)+1)=(h:Int)+1:=by rw[IntKind.wrap_i64];omega
      clear hlq hUQ hDQ
      go_wp2_with fail
      refine wp_region_quiet_bel (by kernel_rfl) (by kernel_rfl) ?_
      repeat (quiet_step (first | (go_at_fn g;exact Calls.bel_of (hcm _))))
      refine wpQuiet_nil ?_;intro w2 hw';have hb2:Below wr.heap.size wr w2:=by obtain⟨v,rfl⟩:=hw';exact v.h
      clear hw';have S3:=Lib.hid (SD.out.below hb2);clear ch ca hcm
      go_wp2_with fail
      go_roundw
      case rel=>exact⟨h+1,j,_,by go_num,rfl,rfl,by omega,by omega,hjm,hR,S3⟩
      case measure=>simp[intOf];omega
  · have hltz:¬ (i:Int) < (j:Int):=by omega
    obtain rfl:i=j:=by omega
    have hLast:=Lib.hid HQ.out.last;have HIB:Hid (i - a≤A.length):=by unfold Hid;have:=HM.out;omega
    clear HQ
    go_wp2_with fail
    go_loopw [17] (fun kv wr=>∃ (k:Nat) (E:Array ByteArray),kv=.int .i64 (k:Nat)∧i≤k∧k≤m∧Hid (MovR X x A Y k E)∧Hid (St bB 1 W0 B E wr)) (fun kv _=>(intOf kv).toNat)
    case atStart=>exact⟨m,D,rfl,hjm,Nat.le_refl _,HM0,SD⟩
    case round =>
     clear SD HM0
     obtain⟨k,E,rfl,hik,hkm,HV,SE⟩:=hrel
     have hEl:E.size=len:=by have h1:=HV.out.size;have h4:=HGL.out;omega
     by_cases hlk:i < k
     · obtain⟨q,hq⟩:∃ q,q+1=k:=⟨k - 1,by omega⟩
       have hlz:(i:Int) < (k:Int):=by omega
       have v7:IntKind.i64.wrap ((k:Int) - 1)=(q:Int):=by rw[IntKind.wrap_i64];omega
       have hkl:k < len:=by omega
       have hql:q < len:=by omega
       have MN:Hid (MovR X x A Y q (swp E k q)):=by
        unfold Hid;have h0:=HV.out;rw[← hq] at h0 ⊢;exact h0.down (by rw[HA.out];omega) (by have h2:=HA.out;have h3:=HM.out;omega)
       have SW1:=Lib.hid (SE.out.swapS k q (by rw[hEl];exact hkl) (by rw[hEl];exact hql))
       obtain⟨c1,c2⟩:=SE.out.cell k (by rw[hEl];exact hkl)
       obtain⟨c3,c4⟩:=SE.out.cell q (by rw[hEl];exact hql)
       obtain⟨s,hs⟩:∃ s,E[k]! = s:=⟨_,rfl⟩
       obtain⟨t,ht⟩:∃ s,E[q]! = s:=⟨_,rfl⟩
       rw[hs] at c1 SW1;rw[ht] at c3 SW1;have c5:(wr.setCell ⟨B,k,none⟩ (.string t)).cell? ⟨B,q,none⟩=some (.string t):=by
        rw[World.cell?_setCell_other _ _ _ _ (by simp)];exact c3
       have HQK:Hid (q < k):=by unfold Hid;omega
       have hiq:i≤q:=by omega
       have hqm:q≤m:=by omega
       clear hs ht hq SE HV
       go_wp2_with fail
       go_region
       have S3:=Lib.hid SW1.out.drew
       go_wp2_with fail
       go_roundw
       case rel=>exact⟨q,_,rfl,hiq,hqm,MN,S3⟩
       case measure=>have:=HQK.out;simp[intOf];omega
     · have hlz:¬ (i:Int) < (k:Int):=by omega
       obtain rfl:i=k:=by omega
       have hE:Hid (E=(X++ao lt A [x]++Y).toArray):=by
        have h1:=HV.out;unfold MovR at h1;unfold Hid;rw[h1,hLast.out,show i - X.length=i - a by rw[HA.out]]
        simp
       go_wp2_with fail
       refine bodyPost_ret (results_none rfl _ _ _) rfl ?_
       exact⟨rfl,by rw[← HT.out,← hE.out];exact SE.out⟩
end Go.Proofs.YtbgaglcgennhiaaGreatDoor
