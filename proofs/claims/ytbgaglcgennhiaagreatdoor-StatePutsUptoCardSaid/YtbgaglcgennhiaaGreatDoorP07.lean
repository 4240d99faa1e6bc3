import Derived.Lib.Hide
import Derived.Lib.Strings
import Derived.WalkKit
import Derived.Deep.RegionHeld
import Derived.Test.YtbgaglcgennhiaaGreatDoorShelf
import Derived.Shelf.Slices.Turned
section
namespace Go.Proofs.YtbgaglcgennhiaaGreatDoor.Rg
abbrev R:=Int × Int
def nS (z:Int):Prop:=-9223372036854775808≤z∧z≤9223372036854775807
def Fits (l:List R):Prop:=∀ r∈l,nS r.1∧nS r.2
def bD (l:List R) (c:Int):Bool:=l.any fun r=>decide (r.1≤c)&&decide (c≤r.2)
theorem dZ {l:List R} {c:Int}:bD l c=true↔∃ r∈l,r.1≤c∧c≤r.2:=by simp[bD]
theorem dW (a b:List R) (c:Int):bD (a++b) c=(bD a c||bD b c):=by simp[bD]
theorem dA (r:R) (l:List R) (c:Int):bD (r::l) c=(decide (r.1≤c)&&decide (c≤r.2)||bD l c):=by simp[bD]
theorem ls (c:Int):bD [] c=false:=rfl
theorem ec {l:List R} {c:Int} {k:Nat} {r:R} (h:l[k]?=some r) (h1:r.1≤c) (h2:c≤r.2):bD l c=true:=dZ.2 ⟨r,List.mem_of_getElem? h,h1,h2⟩
theorem sI {l:List R} {c:Int} (h:∀ (j:Nat) r,j < l.length→l[j]?=some r→¬(r.1≤c∧c≤r.2)):bD l c=false:=by
 cases hh:bD l c with
 | false=>rfl
 | true =>
   obtain⟨r,hr,h2⟩:=dZ.1 hh
   obtain⟨j,hj,rfl⟩:=List.mem_iff_getElem.1 hr
   exact absurd h2 (h j _ hj (List.getElem?_eq_getElem hj))
def wD (l:List R) (i:Nat):Prop:=∃ r,l[i]?=some r∧(r.2 < r.1∨∃ j p,i=j+1∧l[j]?=some p∧r.1≤p.2)
def aX:List R→Bool
 | []=>true
 | [r]=>decide (r.1≤r.2)
 | r::s::l=>decide (r.1≤r.2)&&decide (r.2 < s.1)&&aX (s::l)
theorem d8:∀ {l:List R},aX l=true↔∀ i,¬wD l i
 | []=>by simp[aX,wD]
 | [r]=>by
   simp only[aX,decide_eq_true_eq]
   constructor
   · rintro h i ⟨s,hs,h2⟩
     match i,hs with
     | 0,hs =>
       simp at hs;subst hs;rcases h2 with h2 | ⟨j,p,hj,_⟩
       · omega
       · omega
     | i+1,hs=>simp at hs
   · intro h
     have:=h 0
     refine Int.not_lt.1 fun h2=>this ⟨r,rfl,.inl h2⟩
 | r::s::l=>by
   have ih:=d8 (l:=s::l);simp only[aX,Bool.and_eq_true,decide_eq_true_eq]
   constructor
   · rintro ⟨⟨h1,h2⟩,h3⟩ i ⟨t,ht,h4⟩
     match i,ht,h4 with
     | 0,ht,h4 =>
       simp at ht;subst ht;rcases h4 with h4 | ⟨j,p,hj,_⟩
       · omega
       · omega
     | 1,ht,h4 =>
       simp at ht;subst ht;rcases h4 with h4 | ⟨j,p,hj,hp,h5⟩
       · exact ih.1 h3 0 ⟨s,rfl,.inl h4⟩
       · obtain rfl:j=0:=by omega
         simp at hp;subst hp;omega
     | i+2,ht,h4 =>
       refine ih.1 h3 (i+1) ⟨t,by simpa using ht,?_⟩;rcases h4 with h4 | ⟨j,p,hj,hp,h5⟩
       · exact .inl h4
       · obtain rfl:j=i+1:=by omega
         exact .inr ⟨i,p,rfl,by simpa using hp,h5⟩
   · intro h
     refine⟨⟨Int.not_lt.1 fun h2=>h 0 ⟨r,rfl,.inl h2⟩,Int.not_le.1 fun h2=>h 1 ⟨s,rfl,.inr ⟨0,r,rfl,rfl,h2⟩⟩⟩,ih.2 fun i=>?_⟩
     rintro ⟨t,ht,h4⟩;refine h (i+1) ⟨t,by simpa using ht,?_⟩;rcases h4 with h4 | ⟨j,p,hj,hp,h5⟩
     · exact .inl h4
     · subst hj
       exact .inr ⟨j+1,p,rfl,by simpa using hp,h5⟩
theorem pq {l:List R} {i:Nat} {r:R} (hr:l[i]?=some r) (h:r.2 < r.1):wD l i:=⟨r,hr,.inl h⟩
theorem tS {l:List R} {j:Nat} {r p:R} (hr:l[j+1]?=some r) (hp:l[j]?=some p) (h:r.1≤p.2):wD l (j+1):=⟨r,hr,.inr ⟨j,p,rfl,hp,h⟩⟩
theorem gZ {l:List R} (h:aX l=true):∀ r∈l,r.1≤r.2:=fun r hr=>by
 obtain⟨j,hj,rfl⟩:=List.mem_iff_getElem.1 hr
 exact Int.not_lt.1 fun h2=>d8.1 h j (pq (List.getElem?_eq_getElem hj) h2)
theorem er:∀ {l:List R},(∀ r∈l,r.1≤r.2)→(l.Pairwise fun p q=>p.2 < q.1)→aX l=true
 | [],_,_=>rfl
 | [r],h,_=>by simpa [aX] using h
 | r::s::l,h,h2=>by
   simp only[aX,Bool.and_eq_true,decide_eq_true_eq];have h3:=List.pairwise_cons.1 h2
   exact⟨⟨h r (by simp),h3.1 s (by simp)⟩,er (fun t ht=>h t (by simp[ht])) h3.2⟩
def Canon (l:List R):Prop:=(∀ r∈l,r.1≤r.2)∧l.Pairwise fun p q=>p.2+1 < q.1
theorem Canon.nil:Canon []:=⟨fun _ h=>by simp at h,.nil⟩
theorem Canon.tail {r:R} {l:List R} (h:Canon (r::l)):Canon l:=⟨fun t ht=>h.1 t (by simp[ht]),(List.pairwise_cons.1 h.2).2⟩
theorem Canon.right {l:List R} (h:Canon l):aX l=true:=er h.1 (h.2.imp fun h=>by omega)
theorem Canon.first {r:R} {l:List R} (h:Canon (r::l)) {c:Int} (hc:bD (r::l) c=true):r.1≤c:=by
 obtain⟨t,ht,h1,_⟩:=dZ.1 hc
 rcases List.mem_cons.1 ht with rfl | ht
 · exact h1
 · have h2:=(List.pairwise_cons.1 h.2).1 t ht
   have h3:=h.1 r (by simp);omega
theorem Canon.rest {r:R} {l:List R} (h:Canon (r::l)) {c:Int} (hc:bD l c=true):r.2+1 < c:=by
 obtain⟨t,ht,h1,_⟩:=dZ.1 hc
 have h2:=(List.pairwise_cons.1 h.2).1 t ht;omega
theorem Canon.uniq:∀ {x y:List R},Canon x→Canon y→(∀ c,bD x c=bD y c)→x=y
 | [],[],_,_,_=>rfl
 | [],q::y,_,hy,h=>by
   have h1:=h q.1;rw[ec (l:=q::y) (k:=0) rfl (Int.le_refl _) (hy.1 q (by simp))] at h1
   simp[bD] at h1
 | p::x,[],hx,_,h=>by
   have h1:=h p.1;rw[ec (l:=p::x) (k:=0) rfl (Int.le_refl _) (hx.1 p (by simp))] at h1
   simp[bD] at h1
 | p::x,q::y,hx,hy,h=>by
   have hp:=hx.1 p (by simp);have hq:=hy.1 q (by simp);have a1:q.1≤p.1:=hy.first ((h p.1).symm.trans (ec (k:=0) rfl (Int.le_refl _) hp));have a2:p.1≤q.1:=hx.first ((h q.1).trans (ec (k:=0) rfl (Int.le_refl _) hq));have ends:∀ {p q:R} {x y:List R},Canon (p::x)→Canon (q::y)→(∀ c,bD (p::x) c=bD (q::y) c)→p.1=q.1→¬ p.2 < q.2:=by
    intro p q x y hx hy h he hlt;have hp:=hx.1 p (by simp);have h1:bD (p::x) (p.2+1)=true:=(h _).trans (ec (k:=0) rfl (by omega) (by omega));rw[dA] at h1;have h2:(decide (p.1≤p.2+1)&&decide (p.2+1≤p.2))=false:=by simp;omega
    rw[h2,Bool.false_or] at h1
    have:=hx.rest h1
    omega
   have e1:p.1=q.1:=by omega
   have b1:=ends hx hy h e1;have b2:=ends hy hx (fun c=>(h c).symm) e1.symm;have e2:p.2=q.2:=by omega
   have e:p=q:=Prod.ext e1 e2;subst e
   have:=Canon.uniq hx.tail hy.tail (fun c=>by
    have hc:=h c;rw[dA,dA] at hc
    by_cases hm:c≤p.2+1
    · have f1:bD x c=false:=by
       cases hh:bD x c with
       | false=>rfl
       | true=>have:=hx.rest hh;omega
      have f2:bD y c=false:=by
       cases hh:bD y c with
       | false=>rfl
       | true=>have:=hy.rest hh;omega
      rw[f1,f2]
    · have f0:(decide (p.1≤c)&&decide (c≤p.2))=false:=by simp;omega
      rw[f0,Bool.false_or,Bool.false_or] at hc;exact hc)
   rw[this]
def step (acc:List R) (r:R):List R:=match acc.getLast? with
 | none=>[r]
 | some p=>if p.2+1 < r.1 then acc++[r] else acc.dropLast++[(p.1,max p.2 r.2)]
theorem gu (r:R):step [] r=[r]:=rfl
theorem d9 (ys:List R) (p r:R) (h:p.2+1 < r.1):step (ys++[p]) r=ys++[p]++[r]:=by simp[step,h]
theorem dJ (ys:List R) (p r:R) (h:¬ p.2+1 < r.1):step (ys++[p]) r=ys++[(p.1,max p.2 r.2)]:=by simp[step,h]
theorem qr {acc:List R} {r:R} (ha:Canon acc) (hr:r.1≤r.2) (hl:∀ p∈acc,p.1≤r.1) :
 Canon (step acc r)∧(∀ c,bD (step acc r) c=(bD acc c||decide (r.1≤c)&&decide (c≤r.2)))∧∀ p∈step acc r,p.1≤r.1:=by
 rcases List.eq_nil_or_concat acc with rfl | ⟨ys,p,rfl⟩
 · rw[gu]
   refine⟨⟨by simpa using hr,by simp⟩,fun c=>by simp[bD],by simp⟩
 · rw[List.concat_eq_append] at ha hl ⊢
   have hp:=ha.1 p (by simp);have hpr:=hl p (by simp);have hys:=List.pairwise_append.1 ha.2
   by_cases h:p.2+1 < r.1
   · rw[d9 _ _ _ h]
     refine⟨⟨fun t ht=>?_,?_⟩,fun c=>by rw[dW,dA,ls,Bool.or_false],fun t ht=>?_⟩
     · rcases List.mem_append.1 ht with ht | ht
       · exact ha.1 t ht
       · rw[List.mem_singleton.1 ht];exact hr
     · rw[List.pairwise_append]
       refine⟨ha.2,by simp,fun t ht q hq=>?_⟩
       rw[List.mem_singleton.1 hq];rcases List.mem_append.1 ht with ht | ht
       · have:=hys.2.2 t ht p (by simp)
         omega
       · rw[List.mem_singleton.1 ht];exact h
     · rcases List.mem_append.1 ht with ht | ht
       · exact hl t ht
       · rw[List.mem_singleton.1 ht];exact Int.le_refl _
   · rw[dJ _ _ _ h]
     refine⟨⟨fun t ht=>?_,?_⟩,fun c=>?_,fun t ht=>?_⟩
     · rcases List.mem_append.1 ht with ht | ht
       · exact ha.1 t (by simp[ht])
       · rw[List.mem_singleton.1 ht]
         show p.1≤max p.2 r.2;omega
     · rw[List.pairwise_append]
       refine⟨hys.1,by simp,fun t ht q hq=>?_⟩
       rw[List.mem_singleton.1 hq];exact hys.2.2 t ht p (by simp)
     · rw[dW,dW,dA,dA,ls,Bool.or_false,Bool.or_false,Bool.or_assoc]
       congr 1
       rw[Bool.eq_iff_iff];simp only[Bool.and_eq_true,Bool.or_eq_true,decide_eq_true_eq];omega
     · rcases List.mem_append.1 ht with ht | ht
       · exact hl t (by simp[ht])
       · rw[List.mem_singleton.1 ht];exact hpr
theorem kj:∀ {l:List R} {acc:List R},Canon acc→(∀ r∈l,r.1≤r.2)→(l.Pairwise fun p q=>p.1≤q.1)→(∀ p∈acc,∀ r∈l,p.1≤r.1) →
 Canon (l.foldl step acc)∧∀ c,bD (l.foldl step acc) c=(bD acc c||bD l c)
 | [],acc,ha,_,_,_=>⟨ha,fun c=>by simp[bD]⟩
 | r::l,acc,ha,hr,hs,hl=>by
   have h1:=qr ha (hr r (by simp)) (fun p hp=>hl p hp r (by simp));have h2:=List.pairwise_cons.1 hs;have ih:=kj (l:=l) h1.1 (fun t ht=>hr t (by simp[ht])) h2.2 (fun p hp t ht=>Int.le_trans (h1.2.2 p hp) (h2.1 t ht))
   refine⟨ih.1,fun c=>?_⟩
   rw[List.foldl_cons,ih.2,h1.2.1,dA,Bool.or_assoc]
def IsJoin (a b j:List R):Prop:=(aX a=true∧aX b=true∧Canon j∧∀ c,bD j c=(bD a c||bD b c))∨(¬(aX a=true∧aX b=true)∧j=[])
theorem IsJoin.uniq {a b j k:List R} (h:IsJoin a b j) (h2:IsJoin a b k):j=k:=by
 rcases h with ⟨r1,r2,h3,h4⟩ | ⟨h1,rfl⟩
 · rcases h2 with ⟨_,_,h6,h7⟩ | ⟨h5,_⟩
   · exact h3.uniq h6 fun c=>(h4 c).trans (h7 c).symm
   · exact absurd ⟨r1,r2⟩ h5
 · rcases h2 with ⟨r1,r2,_⟩ | ⟨_,rfl⟩
   · exact absurd ⟨r1,r2⟩ h1
   · rfl
theorem IsJoin.of_sorted {a b d:List R} (ha:aX a=true) (hb:aX b=true) (hp:d.Perm (a++b)) (hs:d.Pairwise fun p q=>p.1≤q.1):IsJoin a b (d.foldl step []):=by
 have h:=kj (l:=d) Canon.nil (fun r hr=>by
  rcases List.mem_append.1 (hp.mem_iff.1 hr) with h | h
  · exact gZ ha r h
  · exact gZ hb r h) hs (fun p hp=>by simp at hp)
 refine .inl ⟨ha,hb,h.1,fun c=>?_⟩;rw[h.2,ls,Bool.false_or,← dW];rw[Bool.eq_iff_iff,dZ,dZ]
 exact⟨fun ⟨r,h1,h2⟩=>⟨r,hp.mem_iff.1 h1,h2⟩,fun ⟨r,h1,h2⟩=>⟨r,hp.mem_iff.2 h1,h2⟩⟩
def bS (a b:List R):List R:=if aX a=true∧aX b=true then ((a++b).mergeSort fun p q=>decide (p.1≤q.1)).foldl step [] else []
theorem jB (a b:List R):IsJoin a b (bS a b):=by
 unfold bS
 by_cases h:aX a=true∧aX b=true
 · rw[if_pos h]
   refine IsJoin.of_sorted h.1 h.2 (List.mergeSort_perm _ _) ?_
   refine(List.pairwise_mergeSort (le:=fun p q:R=>decide (p.1≤q.1)) (fun p q r h1 h2=>?_) (fun p q=>?_) (a++b)).imp fun h=>by simpa using h
   · simp at h1 h2 ⊢;omega
   · simp;omega
 · rw[if_neg h]
   exact .inr ⟨h,rfl⟩
theorem mC {a b j:List R} (h:IsJoin a b j):j=bS a b:=h.uniq (jB a b)
theorem ie {a b:List R} (h:¬(aX a=true∧aX b=true)):bS a b=[]:=(mC (.inr ⟨h,rfl⟩)).symm
theorem nQ (a b:List R):aX (bS a b)=true:=by
 rcases jB a b with ⟨_,_,h,_⟩ | ⟨_,h⟩
 · exact h.right
 · rw[h];rfl
theorem rB {acc:List R} {r:R} (ha:Fits acc) (hr:nS r.1∧nS r.2):Fits (step acc r):=by
 rcases List.eq_nil_or_concat acc with rfl | ⟨ys,p,rfl⟩
 · rw[gu]
   intro t ht;rw[List.mem_singleton.1 ht];exact hr
 · rw[List.concat_eq_append] at ha ⊢
   by_cases h:p.2+1 < r.1
   · rw[d9 _ _ _ h]
     intro t ht;rcases List.mem_append.1 ht with ht | ht
     · exact ha t ht
     · rw[List.mem_singleton.1 ht];exact hr
   · rw[dJ _ _ _ h]
     intro t ht;rcases List.mem_append.1 ht with ht | ht
     · exact ha t (by simp[ht])
     · rw[List.mem_singleton.1 ht]
       have hp:=ha p (by simp)
       refine⟨hp.1,?_⟩
       show nS (max p.2 r.2);unfold nS at *;omega
theorem gG:∀ {l acc:List R},Fits acc→Fits l→Fits (l.foldl step acc)
 | [],_,ha,_=>ha
 | r::l,acc,ha,hl=>gG (l:=l) (rB ha (hl r (by simp))) (fun t ht=>hl t (by simp[ht]))
theorem Fits.append {a b:List R} (ha:Fits a) (hb:Fits b):Fits (a++b):=fun r hr=>(List.mem_append.1 hr).elim (ha r) (hb r)
theorem nV {a b:List R} (ha:Fits a) (hb:Fits b):Fits (bS a b):=by
 unfold bS
 split
 · exact gG (fun r hr=>by simp at hr) (fun r hr=>(ha.append hb) r ((List.mergeSort_perm _ _).mem_iff.1 hr))
 · intro r hr
   simp at hr
theorem mz (acc:List R) (r:R):(step acc r).length≤acc.length+1:=by
 rcases List.eq_nil_or_concat acc with rfl | ⟨ys,p,rfl⟩
 · simp[gu]
 · rw[List.concat_eq_append]
   by_cases h:p.2+1 < r.1
   · rw[d9 _ _ _ h];simp
   · rw[dJ _ _ _ h];simp
theorem eF:∀ (l acc:List R),(l.foldl step acc).length≤acc.length+l.length
 | [],acc=>by simp
 | r::l,acc=>by
   have h1:=eF l (step acc r);have h2:=mz acc r;rw[List.foldl_cons,List.length_cons];omega
theorem fV (a b:List R):(bS a b).length≤a.length+b.length:=by
 unfold bS
 split
 · have:=eF ((a++b).mergeSort fun p q=>decide (p.1≤q.1)) []
   simpa [List.length_mergeSort] using this
 · simp
end Go.Proofs.YtbgaglcgennhiaaGreatDoor.Rg
end
section
namespace Go.Proofs.YtbgaglcgennhiaaGreatDoor
theorem dh {a b:ByteArray} (h:a=b):Ending.returned (.string a)=.returned (.string b):=by rw[h]
theorem aW {o:ByteArray} {l:List UInt8} (h:o.data.toList=l):o=⟨l.toArray⟩:=by
 subst h;rfl
theorem bf (a b:ByteArray):(a++b).data.toList=a.data.toList++b.data.toList:=by simp
theorem ea {s:ByteArray} {a b:Nat}:(s.extract a b).data.toList=(s.data.toList.drop a).take (b - a):=by simp[ByteArray.data_extract]
end Go.Proofs.YtbgaglcgennhiaaGreatDoor
end
section
namespace Go.Proofs.YtbgaglcgennhiaaGreatDoor
open Go.RowKit
theorem di (n:Int) (h₀:0≤n) (h₁:n < 2 ^ 40):IntKind.i64.wrap n=n:=by rw[IntKind.wrap_i64];omega
theorem xd (c y:Int) (hc:0≤c) (hc1:c < 4294967296) (h0:0≤y) (h1:y < 64):bits .or .i64 (c*64) y=c*64+y :=
 bits_join .i64 40 (by decide) di 6 (c*64) y (by omega) (by omega) (by omega) h0 h1 (by omega)
set_option maxRecDepth 100000 in
theorem gy (x:Int) (h0:0≤x) (h1:x < 256):(bits .and .u8 x 192 != 128)=!(x / 64==2):=by
 have h:∀ y:Fin 256,(bits .and .u8 ((y.val:Nat):Int) 192 != 128)=!(((y.val:Nat):Int) / 64==2):=by decide
 have:=h ⟨x.toNat,by omega⟩
 rwa [show (((⟨x.toNat,by omega⟩:Fin 256).val:Nat):Int)=x from by simp;omega] at this
theorem wO (x:Int) (h0:0≤x) (h1:x < 256):bits .and .i64 x 31=x % 32:=bits_mask .i64 40 (by decide) di 5 (by decide) x h0 (by omega)
theorem wQ (x:Int) (h0:0≤x) (h1:x < 256):bits .and .i64 x 15=x % 16:=bits_mask .i64 40 (by decide) di 4 (by decide) x h0 (by omega)
theorem wW (x:Int) (h0:0≤x) (h1:x < 256):bits .and .i64 x 7=x % 8:=bits_mask .i64 40 (by decide) di 3 (by decide) x h0 (by omega)
end Go.Proofs.YtbgaglcgennhiaaGreatDoor
end
section
namespace Go.Proofs.YtbgaglcgennhiaaGreatDoor
open Go.RowKit
theorem qi (c:Int) (k:Int) (hk:0 < k) (hk2:k < 2000000):∃ n:Nat,wrap64 ((IntKind.u64.wrap c).tmod k)=(n:Int)∧(n:Int) < k:=by
 have e:IntKind.u64.wrap c=c % 18446744073709551616:=by simp[IntKind.wrap,IntKind.bits,IntKind.signed]
 have h0:0≤IntKind.u64.wrap c:=by rw[e];exact Int.emod_nonneg _ (by decide)
 rw[Int.tmod_eq_emod_of_nonneg h0];have h1:=Int.emod_nonneg (IntKind.u64.wrap c) (show k≠0 by omega);have h2:=Int.emod_lt_of_pos (IntKind.u64.wrap c) hk
 refine⟨(IntKind.u64.wrap c % k).toNat,?_,by omega⟩
 unfold wrap64;omega
end Go.Proofs.YtbgaglcgennhiaaGreatDoor
end
section
namespace Go.Proofs.YtbgaglcgennhiaaGreatDoor
open Go
section
variable {P:Program} {ops:Array Oper} {Q:Exit→Act→World→Prop} {md:Region.Mode} {S:World→Prop} {V:Nat}
def Any (P:Program) (md:Region.Mode) (ops:Array Oper) (Q:Exit→Act→World→Prop) (S:World→Prop) (V:Nat):Nat→Array Bool→Act→World→Prop
 | 0,l,a,w=>Region.ready md ops l=[]∧Q .normal a w
 | k+1,l,a,w=>(Region.ready md ops l=[]→Q .normal a w) ∧
   ∀ i∈Region.ready md ops l,wpOp P ops Q i (fun a' w'=>(i≠V→l.getD V true=false→S w')∧Any P md ops Q S V k (l.setIfInBounds i true) a' w') a w
theorem Any.any:∀ (k:Nat) (l:Array Bool) (a:Act) (w:World),Any P md ops Q S V k l a w→wpAny P md ops Q k l a w
 | 0,_,_,_,h=>h
 | k+1,_,_,_,h=>⟨h.1,fun i hi=>wpOp_mono (fun _ _ h'=>Any.any k _ _ _ h'.2) (h.2 i hi)⟩
theorem lQ {l:Array Bool} {x:Nat} (h0:l.getD x true=false) (h1:l.getD x false=true):False:=by
 rcases Nat.lt_or_ge x l.size with h | h
 · simp[h] at h0 h1
   rw[h0] at h1;cases h1
 · simp[Array.getElem?_eq_none h] at h1
def pV (md:Region.Mode) (ops:Array Oper) (i:Nat) (W:List Nat):Bool:=W.all fun j=>j != i&&((ops[j]?).map fun o=>o.after.any fun e=>Region.binds md e&&(e.on==i||W.contains e.on)).getD true
theorem Any.first {S':World→Prop} {i:Nat} {oi:Oper} {v:Value} (W:List Nat) (hi:ops[i]?=some oi) (hsel:∀ (j:Nat) (o:Oper) cs b,ops[j]?=some o→o.op≠.select cs b)
 (hQ:∀ c a w,Q (.panic c) (a.put oi.dst v) w→Q (.panic c) a w) (hW:pV md ops i W=true) (hVi:V≠i)
 (hS':∀ (l:Array Bool) (w:World),(∀ j∈W,l.getD j true=false)→(l.getD V true=false→S w)→S' w) :
 ∀ (k:Nat) (l:Array Bool) (a:Act) (w:World),
   (∀ j oj,ops[j]?=some oj→j≠i→l.getD j true=false→(∀ e∈oj.after,Region.binds md e=true→e.on≠i)→oi.apart ops oj=true) →
   i∈Region.ready md ops l→(∀ j∈W,l.getD j true=false)→YieldsIf P ops S' oi v a→(l.getD V true=false→S w) →
   Any P md ops Q S V k (l.setIfInBounds i true) (a.put oi.dst v) w→Any P md ops Q S V (k+1) l a w:=by
 intro k
 induction k with
 | zero =>
   intro l a w _ hr hl hy hS H
   refine⟨fun h=>(by rw[h] at hr;cases hr),fun j hj=>?_⟩
   by_cases hji:j=i
   · subst hji
     exact hy.wpOp hi (hS' l w hl hS) ⟨fun _ hv=>hS hv,H⟩
   · have:=ready_mono hj hji
     rw[H.1] at this;cases this
 | succ k ih =>
   intro l a w hfree hr hl hy hS H
   refine⟨fun h=>(by rw[h] at hr;cases hr),fun j hj=>?_⟩
   by_cases hji:j=i
   · subst hji
     exact hy.wpOp hi (hS' l w hl hS) ⟨fun _ hv=>hS hv,H⟩
   · obtain⟨hjun,oj,hoj,hall⟩:=mem_ready.1 hj
     have hir:=(mem_ready.1 hr).1;have hnot:∀ e∈oj.after,Region.binds md e=true→e.on≠i:=fun e he hb heq=>lQ hir (by rw[← heq];exact hall e he hb)
     have hjW:j ∉ W:=fun hm=>by
      have h1:=List.all_eq_true.1 hW j hm;rw[hoj,Bool.and_eq_true] at h1
      obtain⟨e,he,h2⟩:=Array.any_eq_true'.1 h1.2
      rw[Bool.and_eq_true,Bool.or_eq_true] at h2;have h3:=hall e he h2.1;rcases h2.2 with h4 | h4
      · exact hnot e he h2.1 (by simpa using h4)
      · exact lQ (hl e.on (by simpa using h4)) h3
     have h1:=wpOp_putIf hoj (hfree j oj hoj hji hjun hnot) (fun cs b=>hsel i oi cs b hi) (fun cs b=>hsel j oj cs b hoj) hQ hy (H.2 j (ready_mono hj hji));have hfree':∀ n on,ops[n]?=some on→n≠i→(l.setIfInBounds j true).getD n true=false→(∀ e∈on.after,Region.binds md e=true→e.on≠i)→oi.apart ops on=true:=fun n on hn hni hun hno=>by
      refine hfree n on hn hni ?_ hno
      by_cases hjn:j=n
      · subst hjn;exact hjun
      · rw[getD_set_ne true hjn] at hun;exact hun
     have hlj:∀ m∈W,(l.setIfInBounds j true).getD m true=false:=fun m hm=>by
      rw[getD_set_ne true (fun e=>hjW (by rw[e];exact hm))];exact hl m hm
     refine wpOp_mono (fun a' w' h3=>?_) h1
     obtain⟨y3,s3,t3⟩:=h3
     have s4:j≠V→l.getD V true=false→S w':=fun hjV hv=>s3 hjV (by rw[getD_set_ne true (Ne.symm hVi)];exact hv)
     refine⟨s4,ih (l.setIfInBounds j true) a' w' hfree' (ready_mono hr (Ne.symm hji)) hlj y3 (fun hv=>?_) ?_⟩
     · by_cases hjV:j=V
       · subst hjV
         exact absurd hv (fun hv=>by
          have h5:(l.setIfInBounds j true).getD j false=true:=by
           rcases Nat.lt_or_ge j l.size with h | h
           · simp[h]
           · simp[Array.getElem?_eq_none h] at hjun
          exact lQ hv h5)
       · exact s4 hjV (by rw[getD_set_ne true hjV] at hv;exact hv)
     · rw[Array.setIfInBounds_comm _ _ hji]
       exact t3
theorem Any.take (i:Nat) (d:Option Tmp) (v:Value) (W:List Nat) {S':World→Prop} {oi:Oper} {k:Nat} {l:Array Bool} {a:Act} {w:World} (hi:ops[i]?=some oi) (hd:oi.dst=d)
 (hs:Region.noSelect ops=true) (hf:Region.free md ops l i=true) (hr:(Region.ready md ops l).contains i=true) (hW:pV md ops i W=true) (hl:(W.all fun j=>!l.getD j true)=true) (hVi:V≠i)
 (hw:Region.wanted oi (yielded ops a.tmps)=true) (hS':∀ (l:Array Bool) (w:World),(∀ j∈W,l.getD j true=false)→(l.getD V true=false→S w)→S' w)
 (hv:∀ w,S' w→(execOp a.eval oi).run P w=.ok (.value v) w) (hQ:∀ c a w,Q (.panic c) (a.put d v) w→Q (.panic c) a w) (hS:l.getD V true=false→S w)
 (h:Any P md ops Q S V k (l.setIfInBounds i true) (a.put d v) w):Any P md ops Q S V (k+1) l a w:=by
 subst hd;exact Any.first W hi (Region.noSelect_spec hs) hQ hW hVi hS' k l a w (Region.free_spec hi hf) (by simpa using hr) (fun j hj=>by simpa using List.all_eq_true.1 hl j hj) (.inl ⟨hw,hv⟩) hS h
def AllUp (P:Program) (md:Region.Mode) (ops:Array Oper) (Q:Exit→Act→World→Prop) (S:World→Prop) (V k:Nat) (l:Array Bool) (a:Act) (w:World) (rs:List Nat):Prop :=
 ∀ i∈rs,wpOp P ops Q i (fun a' w'=>(i≠V→l.getD V true=false→S w')∧Any P md ops Q S V k (l.setIfInBounds i true) a' w') a w
theorem AllUp.nil {k:Nat} {l:Array Bool} {a:Act} {w:World}:AllUp P md ops Q S V k l a w []:=fun _ h=>by cases h
theorem AllUp.cons {k:Nat} {l:Array Bool} {a:Act} {w:World} {i:Nat} {o:Oper} {rs:List Nat} (ho:ops[i]?=some o)
 (h:∀ K':Act→World→Prop,Shut (∀ a w,(i≠V→l.getD V true=false→S w)→Any P md ops Q S V k (l.setIfInBounds i true) a w→K' a w)→if Region.wanted o (yielded ops a.tmps)=true then Oper.wp P o a w K' Q else K' (a.put o.dst undef) w)
 (hs:AllUp P md ops Q S V k l a w rs):AllUp P md ops Q S V k l a w (i::rs):=fun j hj=>by
 rcases List.mem_cons.1 hj with rfl | hj
 · exact wpOp_step ho (fun K' hK=>h K' (fun a w hS hA=>hK a w ⟨hS,hA⟩))
 · exact hs j hj
theorem Any.up {rs:List Nat} {k:Nat} {l:Array Bool} {a:Act} {w:World} (hr:Region.ready md ops l=rs) (hne:rs≠[]) (h:AllUp P md ops Q S V k l a w rs):Any P md ops Q S V (k+1) l a w :=
 ⟨fun h0=>absurd (hr ▸ h0) hne,hr ▸ h⟩
theorem Any.done {l:Array Bool} {a:Act} {w:World} (hr:Region.ready md ops l=[]) (h:Q .normal a w):∀ k,Any P md ops Q S V k l a w
 | 0=>⟨hr,h⟩
 | _+1=>⟨fun _=>h,by rw[hr];simp⟩
theorem pa {id:Nat} {a:Act} {w:World} (S:World→Prop) (V:Nat) (hm:P.follows .mixedOrders=true) (h:Any P .any ops Q S V ops.size (Array.replicate ops.size false) a w.drew):(Code.region id ops true).wp P Q a w :=
 wp_region_any hm (Any.any _ _ _ _ h)
end
end Go.Proofs.YtbgaglcgennhiaaGreatDoor
end
section
namespace Go.Proofs.YtbgaglcgennhiaaGreatDoor
open Go.RowKit Go.Lib
def wt:Go.Shelf.Ren:=⟨fun | 110=>130 | 109=>170 | n=>n,fun | 31=>26 | 9=>9 | 4=>4 | 3=>3 | 0=>0 | n=>n,fun | n=>n⟩
theorem pY:Go.Proofs.Lays.n110 Tryz.prog wt:={
 mixed:=by kernel_rfl
 f109:=Tryz.func170.trans (congrArg some (by kernel_rfl))
 f110:=Tryz.func130.trans (congrArg some (by kernel_rfl))
 t0:=Tryz.underlying0
 a0:=Tryz.isAgg0
 z0:=Tryz.sizeOf0
 v0:=Tryz.zeroValue0
 t3:=Tryz.underlying3
 a3:=Tryz.isAgg3
 z3:=Tryz.sizeOf3
 v3:=Tryz.zeroValue3
 t4:=Tryz.underlying4
 a4:=Tryz.isAgg4
 z4:=Tryz.sizeOf4
 v4:=Tryz.zeroValue4
 t9:=Tryz.underlying9
 a9:=Tryz.isAgg9
 z9:=Tryz.sizeOf9
 v9:=Tryz.zeroValue9
 t31:=Tryz.underlying26
 a31:=Tryz.isAgg26
 z31:=Tryz.sizeOf26
 v31:=Tryz.zeroValue26 }
theorem mA (b off n c:Nat) (zs:List ByteArray) (x:ByteArray) (w:World) (hz:n≤zs.length) (hbig:n≤9223372036854775807) (hc:∀ j,j < zs.length→w.cell? ⟨b,off+j,none⟩=some (.string (zs.getD j ByteArray.empty))) :
 Calls Tryz.prog 130 #[.slice (some ⟨b,off,none⟩) n c,.string x] w fun e w'=>e=.returned (.bool (Lib.containsS (zs.take n) x))∧w'=w:=Any.slices_Contains_string pY b off n c zs x w hz hbig hc
theorem ge (a:Option Addr) (c:Nat) (x:ByteArray) (w:World) :
 Calls Tryz.prog 130 #[.slice a 0 c,.string x] w fun e w'=>e=.returned (.bool false)∧w'=w:=Any.slices_Contains_string_empty pY a c x w
end Go.Proofs.YtbgaglcgennhiaaGreatDoor
end
