import Derived.Test.YtbgaglcgennhiaaGreatDoorP03
import Derived.Test.YtbgaglcgennhiaaGreatDoorProg
import Derived.BigRegion
import Derived.Deep.LoopGhost
section
namespace Go.Proofs.YtbgaglcgennhiaaGreatDoor.Sy
open Go Go.Proofs Go.Proofs.YtbgaglcgennhiaaGreatDoor Go.RowKit Go.Lib Go.Sort
variable {α:Type} {lt:α→α→Bool}
def Rot (T:List α) (m i j:Nat) (D:Array α):Prop:=∃ X U V Y:List α,D=(X++U++V++Y).toArray∧X.length+U.length=m∧U.length=i∧V.length=j∧X++V++U++Y=T
theorem Rot.size {T:List α} {m i j:Nat} {D:Array α} (h:Rot T m i j D):D.size=T.length∧i≤m∧m+j≤D.size:=by
 obtain⟨X,U,V,Y,rfl,h1,h2,h3,rfl⟩:=h
 refine⟨by simp;omega,by omega,by simp;omega⟩
theorem Rot.left [Inhabited α] {T:List α} {m i j:Nat} {D:Array α} (h:Rot T m i j D) (hij:j < i):Rot T m (i - j) j (mU (m - i) m j D):=by
 obtain⟨X,U,V,Y,rfl,h1,h2,h3,rfl⟩:=h
 have e:U=U.take j++U.drop j:=(List.take_append_drop j U).symm;have l1:(U.take j).length=j:=by rw[List.length_take];omega
 have l2:(U.drop j).length=i - j:=by rw[List.length_drop];omega
 generalize U.take j=U1 at e l1;generalize U.drop j=U2 at e l2;subst e;have hx:m - i=X.length:=by omega
 have hm:m=X.length+U1.length+U2.length:=by simp at h1;omega
 have:=lJ X U1 U2 V Y j l1 h3
 refine⟨X++V,U2,U1,Y,?_,by simp;omega,l2,l1,by simp⟩
 rw[hx,hm,← List.append_assoc X U1 U2,this]
theorem Rot.right [Inhabited α] {T:List α} {m i j:Nat} {D:Array α} (h:Rot T m i j D) (hij:i < j):Rot T m i (j - i) (mU (m - i) (m+j - i) i D):=by
 obtain⟨X,U,V,Y,rfl,h1,h2,h3,rfl⟩:=h
 have e:V=V.take (j - i)++V.drop (j - i):=(List.take_append_drop (j - i) V).symm;have l1:(V.take (j - i)).length=j - i:=by rw[List.length_take];omega
 have l2:(V.drop (j - i)).length=i:=by rw[List.length_drop];omega
 generalize V.take (j - i)=V1 at e l1;generalize V.drop (j - i)=V2 at e l2;subst e;have hx:m - i=X.length:=by omega
 have hm:m+j - i=X.length+U.length+V1.length:=by omega
 have:=lJ X U V1 V2 Y i h2 l2
 refine⟨X,V2,V1,U++Y,?_,by omega,l2,l1,by simp⟩
 rw[hx,hm,show X++U++(V1++V2)++Y=X++U++V1++V2++Y by simp,this]
 simp
theorem Rot.last [Inhabited α] {T:List α} {m i:Nat} {D:Array α} (h:Rot T m i i D):mU (m - i) m i D=T.toArray:=by
 obtain⟨X,U,V,Y,rfl,h1,h2,h3,rfl⟩:=h
 have:=lJ X U [] V Y i h2 h3
 have hx:m - i=X.length:=by omega
 have hm:m=X.length+U.length+([]:List α).length:=by simp;omega
 rw[hx,hm,show X++U++V++Y=X++U++[]++V++Y by simp,this]
 simp
theorem mu [Inhabited α] (d:Array α) (i j:Nat) (hi:i < d.size) (hj:j < d.size):swp d i j=swp d j i:=by
 apply Array.ext
 · simp[size_swp]
 · intro t h1 h2
   have g1:=swp_get d hi hj t;have g2:=swp_get d hj hi t;rw[getElem!_pos _ t h1] at g1;rw[getElem!_pos _ t h2] at g2;rw[g1,g2]
   by_cases a:t=j
   · by_cases b:t=i
     · subst a;subst b;rfl
     · rw[if_pos a,if_neg b,if_pos a]
   · by_cases b:t=i
     · rw[if_neg a,if_pos b,if_pos b]
     · rw[if_neg a,if_neg b,if_neg b,if_neg a]
theorem fd [Inhabited α] (X Y:List α) (a:α) (i:Nat) (h:i=X.length):(X++a::Y).toArray[i]! = a:=by
 subst h;rw[getElem!_pos _ _ (by simp)];simp
def InsR (lt:α→α→Bool) (X:List α) (x:α) (L Z:List α) (j:Nat) (D:Array α):Prop:=∃ P Q:List α,D=(X++P++x::(Q++Z)).toArray∧X.length+P.length=j∧P++Q=L∧∀ q∈Q.head?,lt x q=true
theorem InsR.size {X:List α} {x:α} {L Z:List α} {j:Nat} {D:Array α} (h:InsR lt X x L Z j D):D.size=X.length+L.length+1+Z.length∧X.length≤j∧j≤X.length+L.length:=by
 obtain⟨P,Q,rfl,h1,rfl,h2⟩:=h
 refine⟨by simp;omega,by omega,by simp;omega⟩
theorem InsR.step [Inhabited α] {X:List α} {x:α} {L Z:List α} {j:Nat} {D:Array α} (h:InsR lt X x L Z j D) (hj:X.length < j) (hl:lt D[j]! D[j - 1]! = true):InsR lt X x L Z (j - 1) (swp D j (j - 1)):=by
 obtain⟨P,Q,rfl,h1,rfl,h2⟩:=h
 rcases List.eq_nil_or_concat P with rfl | ⟨P',z,rfl⟩
 · simp at h1;omega
 · rw[List.concat_eq_append] at h1 hl ⊢
   have e:X++(P'++[z])++x::(Q++Z)=(X++P')++z::([]++x::(Q++Z)):=by simp
   have g1:(X++(P'++[z])++x::(Q++Z)).toArray[j]! = x:=fd _ _ _ _ (by simp at h1 ⊢;omega);have g2:(X++(P'++[z])++x::(Q++Z)).toArray[j - 1]! = z:=by rw[e];exact fd _ _ _ _ (by simp at h1 ⊢;omega)
   rw[g1,g2] at hl
   refine⟨P',z::Q,?_,by simp at h1 ⊢;omega,by simp,by simp;exact hl⟩
   have hs:(X++(P'++[z])++x::(Q++Z)).toArray.size=X.length+P'.length+1+1+Q.length+Z.length:=by simp;omega
   rw[mu _ _ _ (by rw[hs];simp at h1;omega) (by rw[hs];simp at h1;omega),e,f7 _ _ _ _ _ _ _ (by simp at h1 ⊢;omega) (by simp at h1 ⊢;omega)]
   simp
theorem InsR.stop [Inhabited α] (hW:Weak lt) {X:List α} {x:α} {L Z:List α} {j:Nat} {D:Array α} (h:InsR lt X x L Z j D) (hL:Up lt L) (hj:j≤X.length∨lt D[j]! D[j - 1]! = false):D=(X++aS lt x L++Z).toArray:=by
 obtain⟨P,Q,rfl,h1,rfl,h2⟩:=h
 rw[wu hW x P Q hL ?_ h2]
 · simp
 · intro p hp
   rcases List.eq_nil_or_concat P with rfl | ⟨P',z,rfl⟩
   · simp at hp
   · rw[List.concat_eq_append] at h1 hj hp
     have e:X++(P'++[z])++x::(Q++Z)=(X++P')++z::([]++x::(Q++Z)):=by simp
     have g1:(X++(P'++[z])++x::(Q++Z)).toArray[j]! = x:=fd _ _ _ _ (by simp at h1 ⊢;omega);have g2:(X++(P'++[z])++x::(Q++Z)).toArray[j - 1]! = z:=by rw[e];exact fd _ _ _ _ (by simp at h1 ⊢;omega)
     rw[g1,g2] at hj;simp at hp;subst hp;rcases hj with hj | hj
     · simp at h1;omega
     · exact hj
def OutR (lt:α→α→Bool) (X S Y:List α) (i:Nat) (D:Array α):Prop:=D=(X++an lt (S.take (i - X.length))++S.drop (i - X.length)++Y).toArray
theorem OutR.start (X S Y:List α):OutR lt X S Y (X.length+1) (X++S++Y).toArray:=by
 unfold OutR;rw[show X.length+1 - X.length=1 by omega];cases S with
 | nil=>simp[an]
 | cons s S=>simp[an,aS]
theorem OutR.inner {X S Y:List α} {i:Nat} {D:Array α} (h:OutR lt X S Y i D) (hi:X.length < i) (hl:i < X.length+S.length) :
 ∃ x,S[i - X.length]?=some x∧InsR lt X x (an lt (S.take (i - X.length))) (S.drop (i - X.length+1)++Y) i D:=by
 refine⟨S[i - X.length]'(by omega),List.getElem?_eq_getElem (by omega),an lt (S.take (i - X.length)),[],?_,?_,by simp,by simp⟩
 · unfold OutR at h
   rw[h,List.drop_eq_getElem_cons (show i - X.length < S.length by omega)];simp only[List.append_assoc,List.cons_append,List.nil_append]
 · rw[bG,List.length_take];omega
theorem OutR.next {X S Y:List α} {i:Nat} {x:α} (hi:X.length < i) (hx:S[i - X.length]?=some x):OutR lt X S Y (i+1) (X++aS lt x (an lt (S.take (i - X.length)))++(S.drop (i - X.length+1)++Y)).toArray:=by
 unfold OutR;rw[show i+1 - X.length=i - X.length+1 by omega,List.take_add_one,hx];simp only[Option.toList_some,dY]
 simp
theorem OutR.last {X S Y:List α} {i:Nat} {D:Array α} (h:OutR lt X S Y i D) (hi:X.length+S.length≤i):D=(X++an lt S++Y).toArray:=by
 unfold OutR at h;rw[h,List.take_of_length_le (by omega),List.drop_eq_nil_of_le (by omega)]
 simp
end Go.Proofs.YtbgaglcgennhiaaGreatDoor.Sy
end
section
namespace Go.Proofs.YtbgaglcgennhiaaGreatDoor
open Go.RowKit Go.Sort Sy
def bB (s:ByteArray):List Value:=[.string s]
set_option maxHeartbeats 4000000 in
set_option maxRecDepth 100000 in
theorem dD (a b n len cap:Nat) (d:Array ByteArray) (fv:Value) (W0 W:World) (B:Nat) (hd:d.size=len) (hlen:len≤1000000000) (ha:a+n≤len) (hb:b+n≤len) (hab:a+n≤b) (S:St bB 1 W0 B d W) :
 Calls Tryz.prog 288 #[.slice (some ⟨B,0,none⟩) len cap,.int .i64 a,.int .i64 b,.int .i64 n,fv] W fun e w'=>e=.returned (.tuple #[])∧St bB 1 W0 B (mU a b n d) w':=by
 have HS:=Lib.hid S;have HD:=Lib.hid hd;clear S hd;go_enter Tryz.func288,Tryz.ntmps288
 go_wp2_with fail
 go_loopw [10] (fun i wr=>∃ k,k≤n∧i=.int .i64 (k:Nat)∧Hid (St bB 1 W0 B (mU a b k d) wr)) (fun i _=>n - (intOf i).toNat)
 case atStart=>exact⟨0,Nat.zero_le _,rfl,HS.out⟩
 case round =>
  obtain⟨k,hk,rfl,SK⟩:=hrel
  by_cases hlt:k < n
  · have hz:(mU a b k d).size=len:=by rw[mw];exact HD.out
    have i1:IntKind.i64.wrap ((a:Int)+(k:Int))=((a+k:Nat):Int):=by rw[IntKind.wrap_i64];omega
    have i2:IntKind.i64.wrap ((b:Int)+(k:Int))=((b+k:Nat):Int):=by rw[IntKind.wrap_i64];omega
    obtain⟨p,hp⟩:∃ p,a+k=p:=⟨_,rfl⟩
    obtain⟨q,hq⟩:∃ q,b+k=q:=⟨_,rfl⟩
    rw[hp] at i1;rw[hq] at i2;have hpl:p < len:=by omega
    have hql:q < len:=by omega
    have cp:=SK.out.cell p (by rw[hz];exact hpl);have cq:=SK.out.cell q (by rw[hz];exact hql);have SW1:=Lib.hid (SK.out.swapS p q (by rw[hz];exact hpl) (by rw[hz];exact hql))
    obtain⟨x,hx⟩:∃ x,(mU a b k d)[p]! = x:=⟨_,rfl⟩
    obtain⟨y,hy⟩:∃ x,(mU a b k d)[q]! = x:=⟨_,rfl⟩
    rw[hx] at cp SW1;rw[hy] at cq SW1
    obtain⟨cp1,cp2⟩:=cp
    obtain⟨cq1,cq2⟩:=cq
    have HPQ:Hid (a+k=p∧b+k=q):=⟨hp,hq⟩;have hpq:p≠q:=by omega
    have cq3:(wr.setCell ⟨B,p,none⟩ (.string y)).cell? ⟨B,q,none⟩=some (.string y):=by
     rw[World.cell?_setCell_other _ _ _ _ (by simp)];exact cq1
    clear hx hy hp hq hz SK
    go_wp2_with fail
    go_region
    have S3:Hid (St bB 1 W0 B (mU a b (k+1) d) ((wr.setCell ⟨B,p,none⟩ (.string y)).setCell ⟨B,q,none⟩ (.string x)).drew):=by
     unfold Hid;rw[mU,HPQ.out.1,HPQ.out.2];exact SW1.out.drew
    go_wp2_with fail
    go_roundw
    case rel=>exact⟨k+1,by omega,by go_num,S3⟩
    case measure=>simp[intOf];omega
  · have hkn:k=n:=by omega
    subst hkn
    go_wp2_with fail
    go_end0
    exact⟨rfl,SK.out⟩
set_option maxHeartbeats 4000000 in
set_option maxRecDepth 100000 in
theorem ne (X U V Y:List ByteArray) (a m b len cap:Nat) (fv:Value) (W0 W:World) (B:Nat) (hl:(X++U++V++Y).length=len) (hlen:len≤1000000000) (ha:X.length=a) (hm:a+U.length=m) (hb:m+V.length=b) (hU:0 < U.length) (hV:0 < V.length)
 (S:St bB 1 W0 B (X++U++V++Y).toArray W) :
 Calls Tryz.prog 287 #[.slice (some ⟨B,0,none⟩) len cap,.int .i64 a,.int .i64 m,.int .i64 b,fv] W fun e w'=>e=.returned (.tuple #[])∧St bB 1 W0 B (X++V++U++Y).toArray w':=by
 obtain⟨T,hT⟩:∃ T,X++V++U++Y=T:=⟨_,rfl⟩
 have hTl:T.length=len:=by rw[← hT,← hl];simp;omega
 have R0:Hid (Rot T m U.length V.length (X++U++V++Y).toArray):=⟨X,U,V,Y,rfl,by omega,rfl,rfl,hT⟩;rw[hT]
 obtain⟨D,hD⟩:∃ D,(X++U++V++Y).toArray=D:=⟨_,rfl⟩
 rw[hD] at S R0
 obtain⟨u,hu⟩:∃ u,U.length=u:=⟨_,rfl⟩
 obtain⟨v,hv⟩:∃ u,V.length=u:=⟨_,rfl⟩
 rw[hu] at R0 hm hU;rw[hv] at R0 hb hV;have HS:=Lib.hid S;have HTL:=Lib.hid hTl;have hbl:b≤len:=by have:=R0.out.size;omega
 clear S hD hT hl hu hv ha hTl;have e1:(m:Int) - (a:Int)=(u:Nat):=by omega
 have e2:(b:Int) - (m:Int)=(v:Nat):=by omega
 have w1:IntKind.i64.wrap ((m:Int) - (a:Int))=(u:Nat):=by rw[IntKind.wrap_i64];omega
 have w2:IntKind.i64.wrap ((b:Int) - (m:Int))=(v:Nat):=by rw[IntKind.wrap_i64];omega
 have hml:m≤len:=by omega
 clear hm hb e1 e2;go_enter Tryz.func287,Tryz.ntmps287
 go_wp2_with fail
 go_loopw [10,11] (fun iv jv wr=>∃ (i j:Nat) (D:Array ByteArray),iv=.int .i64 (i:Nat)∧jv=.int .i64 (j:Nat)∧0 < i∧0 < j∧Hid (Rot T m i j D)∧Hid (St bB 1 W0 B D wr)) (fun iv jv _=>(intOf iv).toNat+(intOf jv).toNat)
 case atStart=>exact⟨u,v,D,rfl,rfl,hU,hV,R0,HS.out⟩
 case round =>
  clear HS R0 w1 w2 hU hV
  obtain⟨i,j,D,rfl,rfl,hi,hj,HR,SD⟩:=hrel
  have hsz:=HR.out.size;have hdl:D.size=len:=hsz.1.trans HTL.out;have him:i≤m:=hsz.2.1;have hmj:m+j≤len:=by rw[← hdl];exact hsz.2.2
  clear hsz
  obtain⟨p,hp⟩:∃ p,m - i=p:=⟨_,rfl⟩
  have w3:IntKind.i64.wrap ((m:Int) - (i:Int))=(p:Int):=by rw[IntKind.wrap_i64];omega
  by_cases hij:i=j
  · subst hij
    have hne:((i:Int) != (i:Int))=false:=by simp
    have HQ:=Lib.hid (dD p m i len cap D fv W0 wr B hdl hlen (by omega) (by omega) (by omega) SD.out);have HL:=Lib.hid HR.out.last;rw[hp] at HL;clear hp
    go_wp2_with (go_at_call 288;refine HQ.out.mono ?_;rintro e w' ⟨rfl,S2⟩)
    go_end0
    exact⟨rfl,by rw[← HL.out];exact S2⟩
  · have hne:((i:Int) != (j:Int))=true:=by simp;omega
    by_cases hgt:j < i
    · have hg:(j:Int) < (i:Int):=by omega
      obtain⟨q,hq⟩:∃ q,i - j=q:=⟨_,rfl⟩
      have w4:IntKind.i64.wrap ((i:Int) - (j:Int))=(q:Int):=by rw[IntKind.wrap_i64];omega
      have HQ:=Lib.hid (dD p m j len cap D fv W0 wr B hdl hlen (by omega) (by omega) (by omega) SD.out);have H2:=Lib.hid (HR.out.left hgt);rw[hp,hq] at H2;have hq0:0 < q:=by omega
      have hqi:q+j=i:=by omega
      clear hp hq
      go_wp2_with (go_at_call 288;refine HQ.out.mono ?_;rintro e w' ⟨rfl,S2⟩)
      go_roundw
      case rel=>exact⟨q,j,_,rfl,rfl,hq0,hj,H2,S2⟩
      case measure=>simp[intOf];omega
    · have hlt:i < j:=by omega
      have hg:¬ (j:Int) < (i:Int):=by omega
      obtain⟨q,hq⟩:∃ q,j - i=q:=⟨_,rfl⟩
      obtain⟨x,hx⟩:∃ x,m+j=x:=⟨_,rfl⟩
      obtain⟨y,hy⟩:∃ y,x - i=y:=⟨_,rfl⟩
      have w4:IntKind.i64.wrap ((j:Int) - (i:Int))=(q:Int):=by rw[IntKind.wrap_i64];omega
      have w5:IntKind.i64.wrap ((m:Int)+(j:Int))=(x:Int):=by rw[IntKind.wrap_i64];omega
      have w6:IntKind.i64.wrap ((x:Int) - (i:Int))=(y:Int):=by rw[IntKind.wrap_i64];omega
      have HQ:=Lib.hid (dD p y i len cap D fv W0 wr B hdl hlen (by omega) (by omega) (by omega) SD.out);have H2:=Lib.hid (HR.out.right hlt);rw[hp,hx,hy,hq] at H2;have hq0:0 < q:=by omega
      have hqi:q+i=j:=by omega
      clear hp hq hx hy
      go_wp2_with (go_at_call 288;refine HQ.out.mono ?_;rintro e w' ⟨rfl,S2⟩)
      go_roundw
      case rel=>exact⟨i,q,_,rfl,rfl,hi,hq0,H2,S2⟩
      case measure=>simp[intOf];omega
end Go.Proofs.YtbgaglcgennhiaaGreatDoor
end
section
namespace Go.Proofs.YtbgaglcgennhiaaGreatDoor
open Go.RowKit Go.Sort Sy
def mW (g:Nat) (cb:Array Value) (cf:ByteArray→ByteArray→Int) (W0:World) (B:Nat):Prop :=
 ∀ (D:Array ByteArray) (W:World),St bB 1 W0 B D W→∀ x y,Calls Tryz.prog g (#[.string x,.string y]++cb) W fun e w'=>e=.returned (.int .i64 (cf x y))∧Below W.heap.size W w'
set_option maxHeartbeats 4000000 in
set_option maxRecDepth 100000 in
theorem jC (lt:ByteArray→ByteArray→Bool) (hW:Weak lt) (cf:ByteArray→ByteArray→Int) (hcf:∀ x y,lt x y=decide (cf x y < 0)) (g:Nat) (cb:Array Value) (eg:∀ args w,(callFunc g args).run Tryz.prog w=.ok (.enter g args) w)
 (X S Y:List ByteArray) (a b len cap:Nat) (W0 W:World) (B:Nat) (hC:mW g cb cf W0 B) (hl:(X++S++Y).length=len) (hlen:len≤1000000000) (ha:X.length=a) (hb:a+S.length=b) (hS:St bB 1 W0 B (X++S++Y).toArray W) :
 Calls Tryz.prog 285 #[.slice (some ⟨B,0,none⟩) len cap,.int .i64 a,.int .i64 b,.func (.func g) #[] cb] W fun e w'=>e=.returned (.tuple #[])∧St bB 1 W0 B (X++an lt S++Y).toArray w':=by
 obtain⟨T,hT⟩:∃ T,(X++an lt S++Y).toArray=T:=⟨_,rfl⟩
 rw[hT];have HT:=Lib.hid hT;have HC:=Lib.hid hC;have HS:=Lib.hid hS;have HL:=Lib.hid hl;have HA:=Lib.hid ha;have HB:=Lib.hid hb;have HW:=Lib.hid hW;have HCF:=Lib.hid hcf;have hbl:b≤len:=by rw[← hl];simp;omega
 have hab:a≤b:=by omega
 have wa:IntKind.i64.wrap ((a:Int)+1)=(a:Int)+1:=by rw[IntKind.wrap_i64];omega
 clear hC hS hl ha hb hW hcf hT;go_enter Tryz.func285,Tryz.ntmps285
 go_wp2_with fail
 go_loopw [8] (fun iv wr=>∃ (i:Nat) (D:Array ByteArray),iv=.int .i64 (i:Nat)∧a < i∧i≤b+1∧Hid (OutR lt X S Y i D)∧Hid (St bB 1 W0 B D wr)) (fun iv _=>b+1 - (intOf iv).toNat)
 case atStart=>exact⟨a+1,_,by go_num,by omega,by omega,by rw[← HA.out];exact OutR.start X S Y,HS.out⟩
 case round =>
  clear HS
  obtain⟨i,D,rfl,hai,hib,HO,SD⟩:=hrel
  by_cases hlt:i < b
  · have hltz:(i:Int) < (b:Int):=by omega
    obtain⟨x,hx,hI⟩:=HO.out.inner (by rw[HA.out];exact hai) (by rw[HA.out,HB.out];exact hlt)
    have HX:=Lib.hid hx;have HI:=Lib.hid hI;have hUp:=Lib.hid (cY HW.out (S.take (i - X.length)));have HZ:Hid (X.length+(an lt (S.take (i - X.length))).length+1+(S.drop (i - X.length+1)++Y).length=len):=by
     unfold Hid
     have:=HL.out
     simp only[List.length_append,bG,List.length_take,List.length_drop] at this ⊢;have h1:=HA.out;have h2:=HB.out;omega
    have hNX:Hid (OutR lt X S Y (i+1) (X++aS lt x (an lt (S.take (i - X.length)))++(S.drop (i - X.length+1)++Y)).toArray):=OutR.next (by rw[HA.out];exact hai) hx
    obtain⟨L,hL⟩:∃ L,an lt (S.take (i - X.length))=L:=⟨_,rfl⟩
    obtain⟨Z,hZ⟩:∃ L,S.drop (i - X.length+1)++Y=L:=⟨_,rfl⟩
    rw[hL,hZ] at HI hNX HZ;rw[hL] at hUp;have wi:IntKind.i64.wrap ((i:Int)+1)=(i:Int)+1:=by rw[IntKind.wrap_i64];omega
    have hil:i < len:=by omega
    clear hx hI hL hZ HO
    go_wp2_with fail
    go_loopw [9] (fun jv wr=>∃ (j:Nat) (E:Array ByteArray),jv=.int .i64 (j:Nat)∧a≤j∧j≤i∧Hid (InsR lt X x L Z j E)∧Hid (St bB 1 W0 B E wr)) (fun jv _=>(intOf jv).toNat)
    case atStart=>exact⟨i,D,rfl,by omega,Nat.le_refl _,HI,SD⟩
    case round =>
     clear SD HI
     obtain⟨j,E,rfl,haj,hji,HJ,SE⟩:=hrel
     have hEl:E.size=len:=HJ.out.size.1.trans HZ.out
     by_cases hja:a < j
     · obtain⟨p,hq⟩:∃ p,p+1=j:=⟨j - 1,by omega⟩
       have wq:IntKind.i64.wrap ((j:Int) - 1)=(p:Int):=by rw[IntKind.wrap_i64];omega
       have hgq:(a:Int) < (j:Int):=by omega
       have hgd:decide ((a:Int) < (j:Int))=true:=decide_eq_true hgq;have hgd2:decide ((j:Int) > (a:Int))=true:=decide_eq_true hgq;have hpl:p < len:=by omega
       have hql:j < len:=by omega
       have cp:∀ v:Bel wr,v.v.cell? ⟨B,p,none⟩=some (.string E[p]!):=fun v=>((SE.out.bel v).cell p (by rw[hEl];exact hpl)).1
       have cq:∀ v:Bel wr,v.v.cell? ⟨B,j,none⟩=some (.string E[j]!):=fun v=>((SE.out.bel v).cell j (by rw[hEl];exact hql)).1
       have hcm:∀ v:Bel wr,Calls Tryz.prog g (#[.string E[j]!,.string E[p]!]++cb) v.v fun e w'=>e=.returned (.int .i64 (cf E[j]! E[p]!))∧Below v.v.heap.size v.v w':=fun v=>HC.out E v.v (SE.out.bel v) _ _
       have SW1:Hid (∀ w2,Below wr.heap.size wr w2→St bB 1 W0 B (swp E j p) ((w2.setCell ⟨B,j,none⟩ (.string E[p]!)).setCell ⟨B,p,none⟩ (.string E[j]!))):=fun w2 h2=>(SE.out.below h2).swapS j p (by rw[hEl];exact hql) (by rw[hEl];exact hpl)
       have CL:Hid (∀ w2,Below wr.heap.size wr w2→(w2.cell? ⟨B,p,none⟩=some (.string E[p]!)∧w2.frozen? ⟨B,p,none⟩=false)∧(w2.cell? ⟨B,j,none⟩=some (.string E[j]!)∧w2.frozen? ⟨B,j,none⟩=false)∧(w2.setCell ⟨B,j,none⟩ (.string E[p]!)).cell? ⟨B,p,none⟩=some (.string E[p]!)):=fun w2 h2 =>
        ⟨(SE.out.below h2).cell p (by rw[hEl];exact hpl),(SE.out.below h2).cell j (by rw[hEl];exact hql),by rw[World.cell?_setCell_other _ _ _ _ (by simp)];exact((SE.out.below h2).cell p (by rw[hEl];exact hpl)).1⟩
       have hlq:=HCF.out E[j]! E[p]!;have hst:Hid (lt E[j]! E[p]! = true→InsR lt X x L Z p (swp E j p)):=fun h=>by
        have:=HJ.out.step (by rw[HA.out];omega) (by rw[show j - 1=p by omega];exact h)
        rwa [show j - 1=p by omega] at this
       have hsp:Hid (lt E[j]! E[p]! = false→E=(X++aS lt x L++Z).toArray):=fun h=>HJ.out.stop HW.out hUp.out (Or.inr (by rw[show j - 1=p by omega];exact h))
       obtain⟨s,hs⟩:∃ s,E[j]! = s:=⟨_,rfl⟩
       obtain⟨t,ht⟩:∃ s,E[p]! = s:=⟨_,rfl⟩
       rw[hs,ht] at hcm SW1 CL hlq hst hsp;rw[ht] at cp;rw[hs] at cq;have hip:p < i:=by omega
       have hpa:a≤p:=by omega
       have HQP:Hid (p+1=j):=hq;clear hs ht hq
       by_cases hc:cf s t < 0
       · have hcd:decide (cf s t < 0)=true:=decide_eq_true hc
         have hL2:Hid (lt s t=true):=by unfold Hid;rw[hlq];exact hcd
         clear hlq
         go_wp2_with fail
         refine wp_region_quiet_bel (by kernel_rfl) (by kernel_rfl) ?_
         repeat (quiet_step (first | (go_at_fn g;exact Calls.bel_of (hcm _))))
         refine wpQuiet_nil ?_;intro w2 hw';have hb2:Below wr.heap.size wr w2:=by obtain⟨v,rfl⟩:=hw';exact v.h
         clear hw'
         obtain⟨⟨c1,c2⟩,⟨c3,c4⟩,c5⟩:=CL.out w2 hb2
         have SW2:=Lib.hid (SW1.out w2 hb2);have hR:=Lib.hid (hst.out hL2.out);clear cp cq hcm CL SW1 hst hsp SE HJ
         go_wp2_with fail
         go_region
         have S3:=Lib.hid SW2.out.drew
         go_wp2_with fail
         go_roundw
         case rel=>exact⟨p,_,rfl,hpa,by omega,hR,S3⟩
         case measure=>have:=HQP.out;simp[intOf];omega
       · have hcd:decide (cf s t < 0)=false:=decide_eq_false hc
         have hL2:Hid (lt s t=false):=by unfold Hid;rw[hlq];exact hcd
         clear hlq
         go_wp2_with fail
         refine wp_region_quiet_bel (by kernel_rfl) (by kernel_rfl) ?_
         repeat (quiet_step (first | (go_at_fn g;exact Calls.bel_of (hcm _))))
         refine wpQuiet_nil ?_;intro w2 hw';have hb2:Below wr.heap.size wr w2:=by obtain⟨v,rfl⟩:=hw';exact v.h
         clear hw';have S3:=Lib.hid (SE.out.below hb2);have hE:=Lib.hid (hsp.out hL2.out);clear cp cq hcm CL SW1 hst hsp SE HJ
         go_wp2_with fail
         go_roundw
         case rel=>exact⟨i+1,_,by go_num,by omega,by omega,hNX,by rw[← hE.out];exact S3.out⟩
         case measure=>simp[intOf];omega
     · have hje:j=a:=by omega
       subst hje;have hg:decide ((j:Int) < (j:Int))=false:=decide_eq_false (by omega);have hg2:¬ (j:Int) < (j:Int):=by omega
       have hE:=Lib.hid (HJ.out.stop HW.out hUp.out (Or.inl (by rw[HA.out];exact Nat.le_refl _)));clear HJ
       go_wp2_with fail
       go_quiet (fail)
       have S3:Hid (St bB 1 W0 B E (wr.drewN nq)):=SE.out.drewN nq
       go_wp2_with fail
       go_roundw
       case rel=>exact⟨i+1,_,by go_num,by omega,by omega,hNX,by rw[← hE.out];exact S3.out⟩
       case measure=>simp[intOf];omega
  · have hltz:¬ (i:Int) < (b:Int):=by omega
    have hD:=HO.out.last (by rw[HA.out,HB.out];omega)
    go_wp2_with fail
    go_end0
    exact⟨rfl,by rw[← HT.out,← hD];exact SD.out⟩
end Go.Proofs.YtbgaglcgennhiaaGreatDoor
end
section
namespace Go.Proofs.YtbgaglcgennhiaaGreatDoor.Sy
open Go Go.Proofs Go.Proofs.YtbgaglcgennhiaaGreatDoor Go.RowKit Go.Lib Go.Sort
variable {α:Type} {lt:α→α→Bool}
theorem sT (hW:Weak lt) {B:List α} (hB:Up lt B) {i j:Nat} (hij:i≤j) (hj:j < B.length):lt (B[j]'hj) (B[i]'(by omega))=false:=by
 by_cases e:i=j
 · subst e;exact hW.irr _
 · exact List.pairwise_iff_getElem.1 hB i j (by omega) hj (by omega)
def SeaL (lt:α→α→Bool) (x:α) (B:List α) (m i j:Nat):Prop:=(∀ c∈B.take (i - m),lt c x=true)∧∀ c∈(B.drop (j - m)).head?,lt c x=false
theorem SeaL.start (x:α) (B:List α) (m b:Nat) (hb:m+B.length=b):SeaL lt x B m m b:=by
 refine⟨by simp,?_⟩
 rw[List.drop_eq_nil_of_le (by omega)];simp
theorem SeaL.up (hW:Weak lt) {x:α} {B:List α} {m i j h:Nat} (s:SeaL lt x B m i j) (hB:Up lt B) (hm:m≤h) (hl:h - m < B.length) (hx:lt (B[h - m]'hl) x=true):SeaL lt x B m (h+1) j:=by
 refine⟨?_,s.2⟩
 intro c hc
 obtain⟨k,hk,rfl⟩:=List.mem_take_iff_getElem.1 hc
 exact hW.n2 hx (sT hW hB (by omega) hl)
theorem SeaL.down {x:α} {B:List α} {m i j h:Nat} (s:SeaL lt x B m i j) (hl:h - m < B.length) (hx:lt (B[h - m]'hl) x=false):SeaL lt x B m i h:=by
 refine⟨s.1,?_⟩
 rw[List.drop_eq_getElem_cons hl];simp only[List.head?_cons,Option.mem_def,Option.some.injEq,forall_eq'];exact hx
theorem SeaL.last {x:α} {B:List α} {m i:Nat} (s:SeaL lt x B m i i):ao lt [x] B=B.take (i - m)++x::B.drop (i - m):=by
 have:=qV x (B.take (i - m)) (B.drop (i - m)) s.1 s.2
 rwa [List.take_append_drop] at this
def SeaR (lt:α→α→Bool) (x:α) (A:List α) (a i j:Nat):Prop:=(∀ c∈A.take (i - a),lt x c=false)∧∀ c∈A.drop (j - a),lt x c=true
theorem SeaR.start (x:α) (A:List α) (a m:Nat) (hm:a+A.length=m):SeaR lt x A a a m:=by
 refine⟨by simp,?_⟩
 rw[List.drop_eq_nil_of_le (by omega)];simp
theorem SeaR.up (hW:Weak lt) {x:α} {A:List α} {a i j h:Nat} (s:SeaR lt x A a i j) (hA:Up lt A) (hm:a≤h) (hl:h - a < A.length) (hx:lt x (A[h - a]'hl)=false):SeaR lt x A a (h+1) j:=by
 refine⟨?_,s.2⟩
 intro c hc
 obtain⟨k,hk,rfl⟩:=List.mem_take_iff_getElem.1 hc
 cases e:lt x (A[k]'(by omega)) with
 | false=>rfl
 | true=>have:=hW.n1 e (sT hW hA (show k≤h - a by omega) hl);rw[hx] at this;cases this
theorem SeaR.down (hW:Weak lt) {x:α} {A:List α} {a i j h:Nat} (s:SeaR lt x A a i j) (hA:Up lt A) (hl:h - a < A.length) (hx:lt x (A[h - a]'hl)=true):SeaR lt x A a i h:=by
 refine⟨s.1,?_⟩
 intro c hc
 obtain⟨k,hk,rfl⟩:=List.mem_iff_getElem.1 hc
 rw[List.getElem_drop];rw[List.length_drop] at hk;exact hW.n1 hx (sT hW hA (by omega) (by omega))
theorem SeaR.last {x:α} {A:List α} {a i:Nat} (s:SeaR lt x A a i i):ao lt A [x]=A.take (i - a)++x::A.drop (i - a):=by
 have:=qY x (A.take (i - a)) (A.drop (i - a)) s.1 s.2
 rwa [List.take_append_drop] at this
def MovR (X:List α) (x:α) (L Y:List α) (k:Nat) (D:Array α):Prop:=D=(X++L.take (k - X.length)++x::(L.drop (k - X.length)++Y)).toArray
theorem MovR.size {X:List α} {x:α} {L Y:List α} {k:Nat} {D:Array α} (h:MovR X x L Y k D):D.size=X.length+L.length+1+Y.length:=by
 unfold MovR at h;rw[h];simp;omega
theorem MovR.up [Inhabited α] {X:List α} {x:α} {L Y:List α} {k:Nat} {D:Array α} (h:MovR X x L Y k D) (hk:X.length≤k) (hl:k < X.length+L.length):MovR X x L Y (k+1) (swp D k (k+1)):=by
 unfold MovR at h ⊢;have e:L.drop (k - X.length)=L[k - X.length]::L.drop (k - X.length+1):=List.drop_eq_getElem_cons (by omega);have t:L.take (k - X.length+1)=L.take (k - X.length)++[L[k - X.length]]:=by rw[List.take_add_one,List.getElem?_eq_getElem (by omega)];rfl
 rw[h,e,show k+1 - X.length=k - X.length+1 by omega,t];have e1:X++L.take (k - X.length)++x::(L[k - X.length]::L.drop (k - X.length+1)++Y)=(X++L.take (k - X.length))++x::([]++L[k - X.length]::(L.drop (k - X.length+1)++Y)):=by simp only[List.append_assoc,List.cons_append,List.nil_append]
 rw[e1,f7 _ _ _ _ _ _ _ (by simp;omega) (by simp;omega)];simp only[List.append_assoc,List.cons_append,List.nil_append]
theorem MovR.down [Inhabited α] {X:List α} {x:α} {L Y:List α} {k:Nat} {D:Array α} (h:MovR X x L Y (k+1) D) (hk:X.length≤k) (hl:k < X.length+L.length):MovR X x L Y k (swp D (k+1) k):=by
 have hs:=h.size;unfold MovR at h ⊢;have e:L.drop (k - X.length)=L[k - X.length]::L.drop (k - X.length+1):=List.drop_eq_getElem_cons (by omega);have t:L.take (k - X.length+1)=L.take (k - X.length)++[L[k - X.length]]:=by rw[List.take_add_one,List.getElem?_eq_getElem (by omega)];rfl
 rw[mu _ _ _ (by omega) (by omega),h,e,show k+1 - X.length=k - X.length+1 by omega,t];have e1:X++(L.take (k - X.length)++[L[k - X.length]])++x::(L.drop (k - X.length+1)++Y)=(X++L.take (k - X.length))++L[k - X.length]::([]++x::(L.drop (k - X.length+1)++Y)):=by simp only[List.append_assoc,List.cons_append,List.nil_append]
 rw[e1,f7 _ _ _ _ _ _ _ (by simp;omega) (by simp;omega)];simp only[List.append_assoc,List.cons_append,List.nil_append]
theorem iA [Inhabited α] (X L Y:List α) (i:Nat) (h:X.length≤i) (hl:i - X.length < L.length):(X++L++Y).toArray[i]! = L[i - X.length]:=by
 rw[getElem!_pos _ _ (by simp;omega)];simp only[List.getElem_toArray];rw[List.getElem_append_left (by simp;omega),List.getElem_append_right (by omega)]
theorem uK [Inhabited α] (hW:Weak lt) (X A B Y:List α) (D:Array α) (a m b s e:Nat) (hD:(X++A++B++Y).toArray=D) (hX:X.length=a) (hm:a+A.length=m) (hb:m+B.length=b) (hA:Up lt A) (hB:Up lt B) (has:a≤s) (hsm:s≤m) (hme:m≤e) (heb:e≤b)
 (h1:s=a∨e=b∨lt D[e]! D[s - 1]! = false) (h2:s=m∨e=m∨lt D[e - 1]! D[s]! = true) :
 ao lt A B=ao lt (A.take (s - a)) (B.take (e - m))++ao lt (A.drop (s - a)) (B.drop (e - m)):=by
 have gA:∀ i,a≤i→(hi:i - a < A.length)→D[i]! = A[i - a]'hi:=fun i h hi=>by
  subst hX;rw[← hD,show X++A++B++Y=X++A++(B++Y) by simp];exact iA X A (B++Y) i h hi
 have gB:∀ i,m≤i→(hi:i - m < B.length)→D[i]! = B[i - m]'hi:=fun i h hi=>by
  have hl:(X++A).length=m:=by simp;omega
  rw[← hD]
  have:=iA (X++A) B Y i (by omega) (by omega)
  rw[this];simp only[hl]
 have key:=vV hW (A.take (s - a)) (A.drop (s - a)) (B.take (e - m)) (B.drop (e - m)) (by rw[List.take_append_drop];exact hA) (by rw[List.take_append_drop];exact hB) ?_ ?_
 · rwa [List.take_append_drop,List.take_append_drop] at key
 · intro x hx y hy
   by_cases c1:s=m
   · rw[List.drop_eq_nil_of_le (by omega)] at hx;simp at hx
   · by_cases c2:e=m
     · rw[c2,Nat.sub_self,List.take_zero] at hy;simp at hy
     · have k:=(h2.resolve_left c1).resolve_left c2
       rw[gA s has (by omega),gB (e - 1) (by omega) (by omega)] at k;rw[List.drop_eq_getElem_cons (show s - a < A.length by omega)] at hx;simp only[List.head?_cons,Option.mem_def,Option.some.injEq] at hx;rw[List.getLast?_eq_getElem?,List.length_take,Nat.min_eq_left (by omega),List.getElem?_take,if_pos (by omega),List.getElem?_eq_getElem (show e - m - 1 < B.length by omega)] at hy;simp only[Option.mem_def,Option.some.injEq] at hy;rw[← hx,← hy];simp only[show e - m - 1=e - 1 - m by omega];exact k
 · intro x hx y hy
   by_cases c1:s=a
   · rw[c1,Nat.sub_self,List.take_zero] at hx;simp at hx
   · by_cases c2:e=b
     · rw[List.drop_eq_nil_of_le (by omega)] at hy;simp at hy
     · have k:=(h1.resolve_left c1).resolve_left c2
       rw[gB e hme (by omega),gA (s - 1) (by omega) (by omega)] at k;rw[List.drop_eq_getElem_cons (show e - m < B.length by omega)] at hy;simp only[List.head?_cons,Option.mem_def,Option.some.injEq] at hy;rw[List.getLast?_eq_getElem?,List.length_take,Nat.min_eq_left (by omega),List.getElem?_take,if_pos (by omega),List.getElem?_eq_getElem (show s - a - 1 < A.length by omega)] at hx;simp only[Option.mem_def,Option.some.injEq] at hx;rw[← hx,← hy];simp only[show s - a - 1=s - 1 - a by omega];exact k
end Go.Proofs.YtbgaglcgennhiaaGreatDoor.Sy
end
section
namespace Go.Proofs.YtbgaglcgennhiaaGreatDoor.Sy
open Go Go.Proofs Go.Proofs.YtbgaglcgennhiaaGreatDoor Go.RowKit Go.Lib Go.Sort
variable {α:Type} {lt:α→α→Bool}
def ch (lt:α→α→Bool) (w:Nat):Nat→List α→List α
 | 0,L=>an lt L
 | k+1,L=>an lt (L.take w)++ch lt w k (L.drop w)
theorem sE (w:Nat):∀ (k:Nat) (L:List α),(ch lt w k L).length=L.length
 | 0,L=>bG L
 | k+1,L=>by rw[ch,List.length_append,bG,sE w k,List.length_take,List.length_drop];omega
theorem qL:an lt ([]:List α)=[]:=rfl
structure Ahead (lt:α→α→Bool) (w:Nat) (L X R:List α) (j:Nat):Prop where
 len:X.length=j*w
 sum:X.length+R.length=L.length
 fin:∀ t,X++ch lt w t R=ch lt w (j+t) L
theorem Ahead.start (w:Nat) (L:List α):Ahead lt w L [] L 0:=⟨by simp,by simp,fun t=>by rw[Nat.zero_add,List.nil_append]⟩
theorem Ahead.step {w:Nat} {L X R:List α} {j:Nat} (h:Ahead lt w L X R j) (hR:w≤R.length):Ahead lt w L (X++an lt (R.take w)) (R.drop w) (j+1) :=
 ⟨by rw[List.length_append,bG,List.length_take,h.len,Nat.add_mul,Nat.min_eq_left hR];omega,by rw[List.length_append,bG,List.length_take,List.length_drop];have:=h.sum;omega,
  fun t=>by rw[List.append_assoc,show j+1+t=j+(t+1) by omega,← h.fin (t+1)];rfl⟩
def Blk (lt:α→α→Bool) (w:Nat) (L:List α) (T:List α):Prop:=∃ k,k*w≤L.length∧L.length < (k+1)*w∧T=ch lt w k L
theorem Blk.last {w:Nat} {L T:List α} (h:Blk lt w L T) (hw:L.length≤w):T=an lt L:=by
 obtain⟨k,h1,h2,rfl⟩:=h
 match k,h1,h2 with
 | 0,_,_=>rfl
 | 1,h1,_ =>
   rw[Nat.one_mul] at h1;have e:L.length=w:=by omega
   simp only[ch];rw[List.take_of_length_le (by omega),List.drop_eq_nil_of_le (by omega),qL,List.append_nil]
 | k+2,h1,h2 =>
   exfalso
   have:(k+2)*w=k*w+2*w:=by rw[Nat.add_mul]
   have h3:(k+2+1)*w=k*w+3*w:=by rw[Nat.add_assoc,Nat.add_mul]
   omega
structure Twice (lt:α→α→Bool) (w:Nat) (L X R U:List α) (j:Nat):Prop where
 ah:Ahead lt (2*w) L X R j
 blk:Blk lt w R U
theorem Twice.start {w:Nat} {L T:List α} (h:Blk lt w L T):Twice lt w L [] L T 0:=⟨Ahead.start _ _,h⟩
theorem Blk.len {w:Nat} {L T:List α} (h:Blk lt w L T):T.length=L.length:=by
 obtain⟨k,_,_,rfl⟩:=h
 exact sE _ _ _
theorem Twice.step (hW:Weak lt) {w:Nat} {L X R U:List α} {j:Nat} (h:Twice lt w L X R U j) (hw:0 < w) (hR:2*w≤R.length) :
 ∃ A C Z,U=A++C++Z∧A.length=w∧C.length=w∧Up lt A∧Up lt C∧Twice lt w L (X++ao lt A C) (R.drop (2*w)) Z (j+1):=by
 obtain⟨k,h1,h2,rfl⟩:=h.blk
 match k,h1,h2 with
 | 0,_,h2=>exfalso;rw[Nat.zero_add,Nat.one_mul] at h2;omega
 | 1,_,h2=>exfalso;have : (1+1)*w=2*w:=rfl;omega
 | k+2,h1,h2 =>
   have e1:(k+2)*w=k*w+2*w:=by rw[Nat.add_mul]
   have e2:(k+2+1)*w=(k+1)*w+2*w:=by rw[show k+2+1=(k+1)+2 by omega,Nat.add_mul]
   refine⟨an lt (R.take w),an lt ((R.drop w).take w),ch lt w k ((R.drop w).drop w),by simp[ch],by rw[bG,List.length_take];omega,by rw[bG,List.length_take,List.length_drop];omega,cY hW _,cY hW _,?_⟩
   have et:R.take w++(R.drop w).take w=R.take (2*w):=by
    rw[Nat.two_mul,List.take_add]
   have ed:(R.drop w).drop w=R.drop (2*w):=by rw[List.drop_drop,Nat.two_mul]
   rw[← m6 hW,et,ed]
   refine⟨h.ah.step hR,k,?_,?_,rfl⟩
   · rw[List.length_drop];omega
   · rw[List.length_drop];omega
theorem Twice.two (hW:Weak lt) {w:Nat} {L X R U:List α} {j:Nat} (h:Twice lt w L X R U j) (hR:R.length < 2*w) (hm:w < R.length) :
 ∃ A C,U=A++C∧A.length=w∧0 < C.length∧Up lt A∧Up lt C∧Blk lt (2*w) L (X++ao lt A C):=by
 obtain⟨k,h1,h2,rfl⟩:=h.blk
 match k,h1,h2 with
 | 0,_,h2=>exfalso;rw[Nat.zero_add,Nat.one_mul] at h2;omega
 | 1,_,h2 =>
   refine⟨an lt (R.take w),an lt (R.drop w),rfl,by rw[bG,List.length_take];omega,by rw[bG,List.length_drop];omega,cY hW _,cY hW _,?_⟩
   rw[← m6 hW,List.take_append_drop];have hl:=h.ah.len;have hs:=h.ah.sum
   refine⟨j,by omega,by rw[Nat.add_mul];omega,?_⟩
   have:=h.ah.fin 0
   simpa [ch] using this
 | k+2,h1,h2 =>
   exfalso;have e1:(k+2)*w=k*w+2*w:=by rw[Nat.add_mul]
   omega
theorem Twice.one {w:Nat} {L X R U:List α} {j:Nat} (h:Twice lt w L X R U j) (hw:0 < w) (hm:R.length≤w):Blk lt (2*w) L (X++U):=by
 have hU:U=an lt R:=h.blk.last hm;rw[hU];have hl:=h.ah.len;have hs:=h.ah.sum
 refine⟨j,by omega,by rw[Nat.add_mul];omega,?_⟩
 have:=h.ah.fin 0
 simpa [ch] using this
theorem Ahead.blk {w:Nat} {L X R:List α} {j:Nat} (h:Ahead lt w L X R j) (hR:R.length < w):Blk lt w L (X++an lt R):=by
 have hl:=h.len;have hs:=h.sum
 refine⟨j,by omega,by rw[Nat.add_mul];omega,?_⟩
 have:=h.fin 0
 simpa [ch] using this
end Go.Proofs.YtbgaglcgennhiaaGreatDoor.Sy
end
