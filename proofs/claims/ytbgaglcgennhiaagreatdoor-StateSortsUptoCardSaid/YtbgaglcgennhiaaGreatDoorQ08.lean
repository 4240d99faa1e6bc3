import Derived.Test.YtbgaglcgennhiaaGreatDoorQ01
import Derived.Laws.AppendOwn
import Derived.Laws.AppendOwnNone
import Derived.Laws.MakeOwn
import Derived.Deep.RegionWith
import Derived.Deep.RegionLaw
import Derived.Test.YtbgaglcgennhiaaGreatDoorQ00
import Derived.Shelf.Slices.Turned
import Derived.Deep.RegionHeld
set_option maxHeartbeats 4000000
set_option maxRecDepth 100000
namespace Go.Proofs.YtbgaglcgennhiaaGreatDoor
namespace Rg
abbrev R:=Int × Int
def qt (z:Int):Prop:=-9223372036854775808<=z/\z<=9223372036854775807
def Fits (l:List R):Prop:=∀ r∈l,qt r.1/\qt r.2
def bO (l:List R) (c:Int):Bool:=l.any fun r=>decide (r.1<=c)&&decide (c<=r.2)
theorem fi {l:List R} {c:Int}:bO l c=true↔∃ r∈l,r.1<=c/\c<=r.2:=by simp[bO]
theorem fg (a b:List R) (c:Int):bO (a++b) c=(bO a c||bO b c):=by simp[bO]
theorem el (r:R) (l:List R) (c:Int):bO (r::l) c=(decide (r.1<=c)&&decide (c<=r.2)||bO l c):=by simp[bO]
theorem nb (c:Int):bO [] c=false:=rfl
theorem fh {l:List R} {c:Int} {k:Nat} {r:R} (h:l[k]?=some r) (h1:r.1<=c) (h2:c<=r.2):bO l c=true:=fi.2 ⟨r,fA h,h1,h2⟩
theorem wL {l:List R} {c:Int} (h:∀ (j:Nat) r,j<l.length->l[j]?=some r->¬(r.1<=c/\c<=r.2)):bO l c=false:=by
 cases hh:bO l c with
 |false=>rfl
 | true=>obtain⟨r,hr,h2⟩:=fi.1 hh;obtain⟨j,hj,rfl⟩:=List.mem_iff_getElem.1 hr;exact absurd h2 (h j _ hj (aQ hj))
def Aw (l:List R) (i:Nat):Prop:=∃ r,l[i]?=some r/\(r.2<r.1\/∃ j p,i=j+1/\l[j]?=some p/\r.1<=p.2)
def bn:List R->Bool
 |[]=>true
 |[r]=>decide (r.1<=r.2)
 |r::s::l=>decide (r.1<=r.2)&&decide (r.2<s.1)&&bn (s::l)
theorem fo:∀ {l:List R},bn l=true↔∀ i,¬Aw l i
 |[]=>by simp[bn,Aw]
 | [r]=>by
   simp only[bn,decide_eq_true_eq];constructor
   ·rintro h i ⟨s,hs,h2⟩
    match i,hs with
    | 0,hs=>
      simp at hs;subst hs;rcases h2 with h2|⟨j,p,hj,_⟩
      ·omega
      ·omega
    |i+1,hs=>simp at hs
   ·intro h;have:=h 0;refine Int.not_lt.1 fun h2=>this ⟨r,rfl,.inl h2⟩
 | r::s::l=>by
   have ih:=fo (l:=s::l);simp only[bn,Bool.and_eq_true,decide_eq_true_eq];constructor
   ·rintro ⟨⟨h1,h2⟩,h3⟩ i ⟨t,ht,h4⟩
    match i,ht,h4 with
    | 0,ht,h4=>
      simp at ht;subst ht;rcases h4 with h4|⟨j,p,hj,_⟩
      ·omega
      ·omega
    | 1,ht,h4=>
      simp at ht;subst ht;rcases h4 with h4|⟨j,p,hj,hp,h5⟩
      ·exact ih.1 h3 0 ⟨s,rfl,.inl h4⟩
      ·obtain rfl:j=0:=(by omega);simp at hp;subst hp;omega
    | i+2,ht,h4=>
      refine ih.1 h3 (i+1) ⟨t,by simpa using ht,?_⟩;rcases h4 with h4|⟨j,p,hj,hp,h5⟩
      ·exact .inl h4
      ·obtain rfl:j=i+1:=(by omega);exact .inr ⟨i,p,rfl,by simpa using hp,h5⟩
   ·intro h;refine⟨⟨Int.not_lt.1 fun h2=>h 0 ⟨r,rfl,.inl h2⟩,Int.not_le.1 fun h2=>h 1 ⟨s,rfl,.inr ⟨0,r,rfl,rfl,h2⟩⟩⟩,ih.2 fun i=>?_⟩;rintro ⟨t,ht,h4⟩;refine h (i+1) ⟨t,by simpa using ht,?_⟩;rcases h4 with h4|⟨j,p,hj,hp,h5⟩
    ·exact .inl h4
    ·subst hj;exact .inr ⟨j+1,p,rfl,by simpa using hp,h5⟩
theorem qy {l:List R} {i:Nat} {r:R} (hr:l[i]?=some r) (h:r.2<r.1):Aw l i:=⟨r,hr,.inl h⟩
theorem vQ {l:List R} {j:Nat} {r p:R} (hr:l[j+1]?=some r) (hp:l[j]?=some p) (h:r.1<=p.2):Aw l (j+1):=⟨r,hr,.inr ⟨j,p,rfl,hp,h⟩⟩
theorem jF {l:List R} (h:bn l=true):∀ r∈l,r.1<=r.2:=fun r hr=>by obtain⟨j,hj,rfl⟩:=List.mem_iff_getElem.1 hr;exact Int.not_lt.1 fun h2=>fo.1 h j (qy (aQ hj) h2)
theorem fO:∀ {l:List R},(∀ r∈l,r.1<=r.2)->(l.Pairwise fun p q=>p.2<q.1)->bn l=true
 |[],_,_=>rfl
 |[r],h,_=>by simpa [bn] using h
 | r::s::l,h,h2=>by simp only[bn,Bool.and_eq_true,decide_eq_true_eq];have h3:=List.pairwise_cons.1 h2;exact⟨⟨h r (by simp),h3.1 s (by simp)⟩,fO (fun t ht=>h t (by simp[ht])) h3.2⟩
def Canon (l:List R):Prop:=(∀ r∈l,r.1<=r.2)/\l.Pairwise fun p q=>p.2+1<q.1
theorem Canon.nil:Canon []:=⟨fun _ h=>by simp at h,.nil⟩
theorem Canon.tail {r:R} {l:List R} (h:Canon (r::l)):Canon l:=⟨fun t ht=>h.1 t (by simp[ht]),(List.pairwise_cons.1 h.2).2⟩
theorem Canon.right {l:List R} (h:Canon l):bn l=true:=fO h.1 (h.2.imp fun h=>by omega)
theorem Canon.first {r:R} {l:List R} (h:Canon (r::l)) {c:Int} (hc:bO (r::l) c=true):r.1<=c:=by
 obtain⟨t,ht,h1,_⟩:=fi.1 hc;rcases List.mem_cons.1 ht with rfl|ht
 ·exact h1
 ·have h2:=(List.pairwise_cons.1 h.2).1 t ht;have h3:=h.1 r (by simp);omega
theorem Canon.rest {r:R} {l:List R} (h:Canon (r::l)) {c:Int} (hc:bO l c=true):r.2+1<c:=by obtain⟨t,ht,h1,_⟩:=fi.1 hc;have h2:=(List.pairwise_cons.1 h.2).1 t ht;omega
theorem Canon.uniq:∀ {x y:List R},Canon x->Canon y->(∀ c,bO x c=bO y c)->x=y
 |[],[],_,_,_=>rfl
 | [],q::y,_,hy,h=>by have h1:=h q.1;rw[fh (l:=q::y) (k:=0) rfl (Int.le_refl _) (hy.1 q (by simp))] at h1;simp[bO] at h1
 | p::x,[],hx,_,h=>by have h1:=h p.1;rw[fh (l:=p::x) (k:=0) rfl (Int.le_refl _) (hx.1 p (by simp))] at h1;simp[bO] at h1
 | p::x,q::y,hx,hy,h=>by
   have hp:=hx.1 p (by simp);have hq:=hy.1 q (by simp);have a1:q.1<=p.1:=hy.first ((h p.1).symm.trans (fh (k:=0) rfl (Int.le_refl _) hp));have a2:p.1<=q.1:=hx.first ((h q.1).trans (fh (k:=0) rfl (Int.le_refl _) hq));have ends:∀ {p q:R} {x y:List R},Canon (p::x)->Canon (q::y)->(∀ c,bO (p::x) c=bO (q::y) c)->p.1=q.1->¬ p.2<q.2:=(by intro p q x y hx hy h he hlt;have hp:=hx.1 p (by simp);have h1:bO (p::x) (p.2+1)=true:=(h _).trans (fh (k:=0) rfl (by omega) (by omega));rw[el] at h1;have h2:(decide (p.1<=p.2+1)&&decide (p.2+1<=p.2))=false:=(by simp;omega);rw[h2,Bool.false_or] at h1;have:=hx.rest h1;omega);have e1:p.1=q.1:=(by omega);have b1:=ends hx hy h e1;have b2:=ends hy hx (fun c=>(h c).symm) e1.symm;have e2:p.2=q.2:=(by omega);have e:p=q:=Prod.ext e1 e2;subst e;have:=Canon.uniq hx.tail hy.tail (fun c=>by
    have hc:=h c;rw[el,el] at hc;by_cases hm:c<=p.2+1
    ·have f1:bO x c=false:=by
      cases hh:bO x c with
      |false=>rfl
      |true=>have:=hx.rest hh;omega
     have f2:bO y c=false:=by
      cases hh:bO y c with
      |false=>rfl
      |true=>have:=hy.rest hh;omega
     rw[f1,f2]
    ·have f0:(decide (p.1<=c)&&decide (c<=p.2))=false:=(by simp;omega);rw[f0,Bool.false_or,Bool.false_or] at hc;exact hc)
   rw[this]
def step (acc:List R) (r:R):List R:=match acc.getLast? with
 |none=>[r]
 |some p=>if p.2+1<r.1 then acc++[r] else acc.dropLast++[(p.1,max p.2 r.2)]
theorem iK (r:R):step [] r=[r]:=rfl
theorem fu (ys:List R) (p r:R) (h:p.2+1<r.1):step (ys++[p]) r=ys++[p]++[r]:=by simp[step,h]
theorem eI (ys:List R) (p r:R) (h:¬ p.2+1<r.1):step (ys++[p]) r=ys++[(p.1,max p.2 r.2)]:=by simp[step,h]
theorem vj {acc:List R} {r:R} (ha:Canon acc) (hr:r.1<=r.2) (hl:∀ p∈acc,p.1<=r.1):
 Canon (step acc r)/\(∀ c,bO (step acc r) c=(bO acc c||decide (r.1<=c)&&decide (c<=r.2)))/\∀ p∈step acc r,p.1<=r.1:=by
 rcases List.eq_nil_or_concat acc with rfl|⟨ys,p,rfl⟩
 ·rw[iK];refine⟨⟨by simpa using hr,by simp⟩,fun c=>by simp[bO],by simp⟩
 ·rw[List.concat_eq_append] at ha hl ⊢;have hp:=ha.1 p (by simp);have hpr:=hl p (by simp);have hys:=List.pairwise_append.1 ha.2;by_cases h:p.2+1<r.1
  ·rw[fu _ _ _ h];refine⟨⟨fun t ht=>?_,?_⟩,fun c=>by rw[fg,el,nb,Bool.or_false],fun t ht=>?_⟩
   ·rcases List.mem_append.1 ht with ht|ht
    ·exact ha.1 t ht
    ·rw[List.mem_singleton.1 ht];exact hr
   ·rw[List.pairwise_append];refine⟨ha.2,by simp,fun t ht q hq=>?_⟩;rw[List.mem_singleton.1 hq];rcases List.mem_append.1 ht with ht|ht
    ·have:=hys.2.2 t ht p (by simp);omega
    ·rw[List.mem_singleton.1 ht];exact h
   ·rcases List.mem_append.1 ht with ht|ht
    ·exact hl t ht
    ·rw[List.mem_singleton.1 ht];exact Int.le_refl _
  ·rw[eI _ _ _ h];refine⟨⟨fun t ht=>?_,?_⟩,fun c=>?_,fun t ht=>?_⟩
   ·rcases List.mem_append.1 ht with ht|ht
    ·exact ha.1 t (by simp[ht])
    ·rw[List.mem_singleton.1 ht];show p.1<=max p.2 r.2;omega
   ·rw[List.pairwise_append];refine⟨hys.1,by simp,fun t ht q hq=>?_⟩;rw[List.mem_singleton.1 hq];exact hys.2.2 t ht p (by simp)
   ·rw[fg,fg,el,el,nb,Bool.or_false,Bool.or_false,Bool.or_assoc]
    congr 1
    rw[Bool.eq_iff_iff];simp only[Bool.and_eq_true,Bool.or_eq_true,decide_eq_true_eq];omega
   ·rcases List.mem_append.1 ht with ht|ht
    ·exact hl t (by simp[ht])
    ·rw[List.mem_singleton.1 ht];exact hpr
theorem mo:∀ {l:List R} {acc:List R},Canon acc->(∀ r∈l,r.1<=r.2)->(l.Pairwise fun p q=>p.1<=q.1)->(∀ p∈acc,∀ r∈l,p.1<=r.1) ->
 Canon (l.foldl step acc)/\∀ c,bO (l.foldl step acc) c=(bO acc c||bO l c)
 |[],acc,ha,_,_,_=>⟨ha,fun c=>by simp[bO]⟩
 | r::l,acc,ha,hr,hs,hl=>by have h1:=vj ha (hr r (by simp)) (fun p hp=>hl p hp r (by simp));have h2:=List.pairwise_cons.1 hs;have ih:=mo (l:=l) h1.1 (fun t ht=>hr t (by simp[ht])) h2.2 (fun p hp t ht=>Int.le_trans (h1.2.2 p hp) (h2.1 t ht));refine⟨ih.1,fun c=>?_⟩;rw[List.foldl_cons,ih.2,h1.2.1,el,Bool.or_assoc]
def IsJoin (a b j:List R):Prop:=(bn a=true/\bn b=true/\Canon j/\∀ c,bO j c=(bO a c||bO b c))\/(¬(bn a=true/\bn b=true)/\j=[])
theorem IsJoin.uniq {a b j k:List R} (h:IsJoin a b j) (h2:IsJoin a b k):j=k:=by
 rcases h with ⟨r1,r2,h3,h4⟩|⟨h1,rfl⟩
 ·rcases h2 with ⟨_,_,h6,h7⟩|⟨h5,_⟩
  ·exact h3.uniq h6 fun c=>(h4 c).trans (h7 c).symm
  ·exact absurd ⟨r1,r2⟩ h5
 ·rcases h2 with ⟨r1,r2,_⟩|⟨_,rfl⟩
  ·exact absurd ⟨r1,r2⟩ h1
  ·rfl
theorem IsJoin.of_sorted {a b d:List R} (ha:bn a=true) (hb:bn b=true) (hp:d.Perm (a++b)) (hs:d.Pairwise fun p q=>p.1<=q.1):IsJoin a b (d.foldl step []):=by
 have h:=mo (l:=d) Canon.nil (fun r hr=>by
  rcases List.mem_append.1 (hp.mem_iff.1 hr) with h|h
  ·exact jF ha r h
  ·exact jF hb r h) hs (fun p hp=>by simp at hp)
 refine .inl ⟨ha,hb,h.1,fun c=>?_⟩;rw[h.2,nb,Bool.false_or,<-fg];rw[Bool.eq_iff_iff,fi,fi];exact⟨fun ⟨r,h1,h2⟩=>⟨r,hp.mem_iff.1 h1,h2⟩,fun ⟨r,h1,h2⟩=>⟨r,hp.mem_iff.2 h1,h2⟩⟩
def cE (a b:List R):List R:=if bn a=true/\bn b=true then ((a++b).mergeSort fun p q=>decide (p.1<=q.1)).foldl step [] else []
theorem kY (a b:List R):IsJoin a b (cE a b):=by
 unfold cE;by_cases h:bn a=true/\bn b=true
 ·rw[if_pos h];refine IsJoin.of_sorted h.1 h.2 (List.mergeSort_perm _ _) ?_;refine(List.pairwise_mergeSort (le:=fun p q:R=>decide (p.1<=q.1)) (fun p q r h1 h2=>?_) (fun p q=>?_) (a++b)).imp fun h=>by simpa using h
  ·simp at h1 h2 ⊢;omega
  ·simp;omega
 ·rw[if_neg h];exact .inr ⟨h,rfl⟩
theorem o8 {a b j:List R} (h:IsJoin a b j):j=cE a b:=h.uniq (kY a b)
theorem jz {a b:List R} (h:¬(bn a=true/\bn b=true)):cE a b=[]:=(o8 (.inr ⟨h,rfl⟩)).symm
theorem pa (a b:List R):bn (cE a b)=true:=by
 rcases kY a b with ⟨_,_,h,_⟩|⟨_,h⟩
 ·exact h.right
 ·rw[h];rfl
theorem vh {acc:List R} {r:R} (ha:Fits acc) (hr:qt r.1/\qt r.2):Fits (step acc r):=by
 rcases List.eq_nil_or_concat acc with rfl|⟨ys,p,rfl⟩
 ·rw[iK];intro t ht;rw[List.mem_singleton.1 ht];exact hr
 ·rw[List.concat_eq_append] at ha ⊢;by_cases h:p.2+1<r.1
  ·rw[fu _ _ _ h];intro t ht;rcases List.mem_append.1 ht with ht|ht
   ·exact ha t ht
   ·rw[List.mem_singleton.1 ht];exact hr
  ·rw[eI _ _ _ h];intro t ht;rcases List.mem_append.1 ht with ht|ht
   ·exact ha t (by simp[ht])
   ·rw[List.mem_singleton.1 ht];have hp:=ha p (by simp);refine⟨hp.1,?_⟩;show qt (max p.2 r.2);unfold qt at *;omega
theorem iX:∀ {l acc:List R},Fits acc->Fits l->Fits (l.foldl step acc)
 |[],_,ha,_=>ha
 |r::l,acc,ha,hl=>iX (l:=l) (vh ha (hl r (by simp))) (fun t ht=>hl t (by simp[ht]))
theorem Fits.append {a b:List R} (ha:Fits a) (hb:Fits b):Fits (a++b):=fun r hr=>(List.mem_append.1 hr).elim (ha r) (hb r)
theorem rc {a b:List R} (ha:Fits a) (hb:Fits b):Fits (cE a b):=by
 unfold cE;split
 ·exact iX (fun r hr=>by simp at hr) (fun r hr=>(ha.append hb) r ((List.mergeSort_perm _ _).mem_iff.1 hr))
 ·intro r hr;simp at hr
theorem qd (acc:List R) (r:R):(step acc r).length<=acc.length+1:=by
 rcases List.eq_nil_or_concat acc with rfl|⟨ys,p,rfl⟩
 ·simp[iK]
 ·rw[List.concat_eq_append];by_cases h:p.2+1<r.1
  ·rw[fu _ _ _ h];simp
  ·rw[eI _ _ _ h];simp
theorem fG:∀ (l acc:List R),(l.foldl step acc).length<=acc.length+l.length
 |[],acc=>by simp
 | r::l,acc=>by have h1:=fG l (step acc r);have h2:=qd acc r;rw[List.foldl_cons,List.length_cons];omega
theorem iy (a b:List R):(cE a b).length<=a.length+b.length:=by
 unfold cE;split
 ·have:=fG ((a++b).mergeSort fun p q=>decide (p.1<=q.1)) [];simpa [List.length_mergeSort] using this
 ·simp
end Rg
section
open Go.RowKit Rg
theorem jY:(Tryz.prog.info? 185).map (fun i=>(i.zero,i.size,i.bytes))=some (some (.agg #[.int .i64 0,.int .i64 0]),2,16):=by kernel_rfl
def ii (r:R):List Value:=[.int .i64 r.1,.int .i64 r.2]
def ei (l:List R):List Value:=l.flatMap ii
theorem cT:ei []=[]:=rfl
theorem fm (a b:List R):ei (a++b)=ei a++ei b:=by simp[ei]
theorem nu (r:R):ei [r]=[.int .i64 r.1,.int .i64 r.2]:=by simp[ei,ii]
theorem bH (r:R) (l:List R):ei (r::l)=.int .i64 r.1::.int .i64 r.2::ei l:=by simp[ei,ii]
theorem di:∀ (l:List R),(ei l).length=l.length*2
 |[]=>rfl
 |r::l=>by rw[bH,List.length_cons,List.length_cons,di l,List.length_cons];omega
theorem j6:∀ {l:List R} {j:Nat} {r:R},l[j]?=some r->(ei l)[j*2]?=some (.int .i64 r.1)/\(ei l)[j*2+1]?=some (.int .i64 r.2)
 |[],j,r,h=>by simp at h
 | a::l,0,r,h=>by obtain rfl:a=r:=(by simpa using h);rw[bH];exact⟨rfl,rfl⟩
 | a::l,j+1,r,h=>by have:=j6 (l:=l) (j:=j) (r:=r) (by simpa using h);rw[bH,show (j+1)*2=j*2+1+1 by omega];simpa using this
theorem ug (l:List R):∀ u∈ei l,u.oneCell'=true:=by intro u hu;obtain⟨r,_,hr⟩:=List.mem_flatMap.1 hu;simp[ii] at hr;rcases hr with rfl|rfl<;>rfl
attribute [irreducible] ei
theorem be {B:Nat} {w w':World} (h:Below B w w') (n:Nat):Below B w (w'.drewN n):=⟨h.os,h.tape,h.output,h.size,h.block⟩
def OwnR (B:Nat) (w:World) (v:Value) (l:List R):Prop:=w.ownsRow B 185 2 v l.length (ei l)
theorem OwnR.nil (B:Nat) (w:World):OwnR B w (.slice none 0 0) []:=by unfold OwnR;rw[cT];exact World.ownsRow_nil _ _ _ _
theorem OwnR.below {B:Nat} {w w':World} {v:Value} {l:List R} (h:OwnR B w v l) (hb:Below w.heap.size w w'):OwnR B w' v l:=by
 have h':w.ownsRow B 185 2 v l.length (ei l):=h;refine h'.kept (w':=w') (row:=some w.heap.size) ⟨hb.os,hb.tape,hb.output,hb.size,fun i hi _=>hb.block i hi⟩ ?_;cases ho:v.ownBlock with
 |none=>exact .inl rfl
 |some g=>exact .inr (fun e=>by have:=(h'.lt g ho).2;injection e with e;omega)
theorem OwnR.slice {B:Nat} {w:World} {v:Value} {l:List R} (h:OwnR B w v l):∃ A cap,v=.slice A l.length cap:=by
 rcases h.2 with ⟨rfl,h0⟩|⟨g,cap,cur,rfl,_⟩
 ·exact⟨none,0,by rw[h0]⟩
 ·exact⟨_,_,rfl⟩
theorem OwnR.weak {B B':Nat} {w:World} {v:Value} {l:List R} (h:OwnR B w v l) (hB:B'<=B):OwnR B' w v l:=⟨h.1,h.2.imp id fun ⟨g,cap,cur,h1,h2,h3⟩=>⟨g,cap,cur,h1,co hB h2,h3⟩⟩
theorem OwnR.full {B:Nat} {w:World} {v:Value} {l:List R} (h:OwnR B w v l) (hl:l≠[]):∃ g cap cur,v=.slice (some ⟨g,0,none⟩) l.length cap/\B<=g/\Bk w g 185 cur/\l.length<=cap/\cap<=maxLen/\cur.size=cap*2/\cur.toList.take (l.length*2)=ei l:=by
 rcases h.2 with ⟨rfl,h0⟩|⟨g,cap,cur,h1,h2,h3,h4,h5,h6,h7⟩
 ·exact absurd (List.eq_nil_of_length_eq_zero h0) hl
 ·exact⟨g,cap,cur,h1,h2,h3,h4,h5,h6,h7⟩
theorem vN (ad:Addr) (n:Nat):ad.add (n+1)=⟨(ad.add n).block,(ad.add n).off+1,none⟩:=by
 rw[aC];unfold Addr.add;by_cases h:n=0
 ·subst h;simp
 ·simp[h,Nat.add_assoc]
theorem sS:∀ {l:List R} {j:Nat} {u:Value},(ei l)[j]?=some u->∃ i r,l[i]?=some r/\(j=i*2/\u=.int .i64 r.1\/j=i*2+1/\u=.int .i64 r.2)
 |[],j,u,h=>by rw[cT] at h;simp at h
 | a::l,0,u,h=>by rw[bH] at h;simp at h;exact⟨0,a,rfl,.inl ⟨rfl,h.symm⟩⟩
 | a::l,1,u,h=>by rw[bH] at h;simp at h;exact⟨0,a,rfl,.inr ⟨rfl,h.symm⟩⟩
 | a::l,j+2,u,h=>by
   rw[bH] at h;obtain⟨i,r,h1,h2⟩:=sS (l:=l) (j:=j) (u:=u) (by simpa using h);refine⟨i+1,r,by simpa using h1,?_⟩;rcases h2 with ⟨rfl,h3⟩|⟨rfl,h3⟩
   ·exact .inl ⟨by omega,h3⟩
   ·exact .inr ⟨by omega,h3⟩
def ReadR (B:Nat) (w:World) (v:Value) (l:List R):Prop:=∃ A cap,v=.slice A l.length cap/\(l.length<=cap/\cap<=maxLen/\(A=none->cap=0))/\(0<l.length->∃ ad:Addr,A=some ad/\ad.block<B/\∀ i r,l[i]?=some r->w.cell? (ad.add (i*2))=some (.int .i64 r.1)/\w.cell? ⟨(ad.add (i*2)).block,(ad.add (i*2)).off+1,none⟩=some (.int .i64 r.2))
theorem ReadR.below {B:Nat} {w w':World} {v:Value} {l:List R} (h:ReadR B w v l) (hb:Below B w w'):ReadR B w' v l:=by obtain⟨A,cap,rfl,h1,h2⟩:=h;refine⟨A,cap,rfl,h1,fun h0=>?_⟩;obtain⟨ad,rfl,hl,hc⟩:=h2 h0;refine⟨ad,rfl,hl,fun i r hi=>?_⟩;have:=hc i r hi;rw[hb.cell (by rw[aC];exact hl),hb.cell (by show (ad.add (i*2)).block<B;rw[aC];exact hl)];exact this
theorem ReadR.more {B C:Nat} {w:World} {v:Value} {l:List R} (h:ReadR B w v l) (hB:B<=C):ReadR C w v l:=by obtain⟨A,cap,rfl,h1,h2⟩:=h;refine⟨A,cap,rfl,h1,fun h0=>?_⟩;obtain⟨ad,rfl,hl,hc⟩:=h2 h0;exact⟨ad,rfl,by omega,hc⟩
theorem ReadR.source {B:Nat} {w:World} {v:Value} {l:List R} (h:ReadR B w v l):(v=.slice none 0 0/\l=[])\/∃ ad cap,v=.slice (some ad) l.length cap/\∀ j u,(ei l)[j]?=some u->w.cell? (ad.add j)=some u:=by
 obtain⟨A,cap,rfl,h1,h2⟩:=h;cases A with
 | none=>
   have hl:l=[]:=List.eq_nil_of_length_eq_zero (by
    rcases Nat.eq_zero_or_pos l.length with h|h
    ·exact h
    ·obtain⟨ad,e,_⟩:=h2 h;cases e)
   subst hl;rw[h1.2.2 rfl];exact .inl ⟨rfl,rfl⟩
 | some ad=>
   refine .inr ⟨ad,cap,rfl,fun j u hj=>?_⟩;obtain⟨i,r,hi,hu⟩:=sS hj;obtain⟨ad',e,_,hc⟩:=h2 (by have:=(cD hi).1;omega);injection e with e;subst e;have:=hc i r hi;rcases hu with ⟨rfl,rfl⟩|⟨rfl,rfl⟩
   ·exact this.1
   ·rw[vN];exact this.2
theorem OwnR.reads {B:Nat} {w:World} {v:Value} {l:List R} (h:OwnR B w v l):ReadR w.heap.size w v l:=by
 have h':w.ownsRow B 185 2 v l.length (ei l):=h;rcases h'.2 with ⟨rfl,h0⟩|⟨g,cap,cur,rfl,_,hh,hc1,hc2,_⟩
 ·exact⟨none,0,by rw[h0],⟨by omega,bI _,fun _=>rfl⟩,fun h=>absurd h (by omega)⟩
 ·refine⟨_,cap,rfl,⟨hc1,hc2,(fun e=>by cases e)⟩,fun h0=>⟨_,rfl,lt_of_block hh,fun i r hi=>?_⟩⟩;have:=j6 hi;have h2:=h'.cells (g:=g) rfl _ _ this.2;rw[aS] at h2;refine⟨h'.cells (g:=g) rfl _ _ this.1,?_⟩;rw[aS,Nat.add_assoc];exact h2
theorem OwnR.made {w:World} {n:Nat} {cs:Array Value} {l:List R} (hn:l.length=n) (hc:cs.toList=ei l) (hm:n<=maxLen):OwnR w.heap.size (w.alloc (.cells cs 185)) (.slice (Option.some ⟨w.heap.size,0,none⟩) n n) l:=by
 subst hn;have hl:=di l;refine⟨hl,.inr ⟨w.heap.size,_,cs,rfl,aq _,heap_alloc_new w _,aq _,hm,?_,?_⟩⟩
 ·rw[<-Array.length_toList,hc,hl]
 ·rw[hc,<-hl,List.take_length]
theorem pB {ops:Array Oper} {rest:List Oper} {o:Oper} {a:Act} {Q:Exit->Act->World->Prop} (hgd:o.guard=none) (s x:Operand) (ho:o.op=.call { callee:=.builtin .append,args:=#[s,x],argTypes:=#[166,166] })
 (B:Nat) (v:Value) (l:List R) (p q:Int) (w0:World) (hs:a.eval s=v) (hown:OwnR B w0 v l) (hx:a.eval x=.slice (Option.some ⟨w0.heap.size,0,none⟩) 1 1) (hn:l.length<=1000000000000) (hB:B<=w0.heap.size)
 (h:∀ v' w',OwnR B w' v' (l++[(p,q)])->Below B w0 w'->wpList Tryz.prog ops Q rest (a.put o.dst v') w'):wpList Tryz.prog ops Q (o::rest) a (w0.alloc (.cells #[.int .i64 p,.int .i64 q] 185)):=by
 obtain⟨i0,hi,hz0,hz1,hz2⟩:=info_parts jY;have hown':w0.ownsRow B 185 2 v l.length (ei l):=hown;refine wpList_append_own _ hgd s x 166 ho B 185 i0 _ 2 16 Tryz.underlying166 hi hz0 hz1 hz2 rfl (by decide) v l.length (ei l) hs (hown'.alloc _) ⟨w0.heap.size,0,none⟩ 1 1 [.int .i64 p,.int .i64 q] hx rfl ?_ ?_ ?_ (by omega) (by simp;omega) ?_
 ·intro j y hj;rw[aS,cell_of_row _ _ _ #[_,_] _ (0,0) (heap_alloc_new w0 _)];rw[Nat.zero_add];simpa using hj
 ·intro y hy;simp at hy;rcases hy with rfl|rfl<;>rfl
 ·unfold maxLen;omega
 ·intro v' w' hown2 hg _;refine h v' w' ?_ (((Below.refl B w0).alloc hB _).grown hg (by simp;omega) (fun j hj=>(World.ownsRow.lt hown' j hj).1));unfold OwnR;rw[fm,nu,de,List.length_singleton];exact hown2
theorem pz {ops:Array Oper} {rest:List Oper} {o:Oper} {a:Act} {Q:Exit->Act->World->Prop} (hgd:o.guard=none) (s x:Operand) (ho:o.op=.call { callee:=.builtin .append,args:=#[s,x],argTypes:=#[166,166] })
 (B:Nat) (v u:Value) (l m:List R) (w0:World) (hs:a.eval s=v) (hown:OwnR B w0 v l) (hx:a.eval x=u) (hu:ReadR w0.heap.size w0 u m) (hn:l.length+m.length<=1000000000000) (hB:B<=w0.heap.size)
 (h:∀ v' w',OwnR B w' v' (l++m)->Below B w0 w'->wpList Tryz.prog ops Q rest (a.put o.dst v') w'):wpList Tryz.prog ops Q (o::rest) a w0:=by
 obtain⟨i0,hi,hz0,hz1,hz2⟩:=info_parts jY;have hown':w0.ownsRow B 185 2 v l.length (ei l):=hown;rcases hu.source with ⟨rfl,rfl⟩|⟨ad,cap,rfl,hc⟩
 ·refine wpList_append_own_none hgd s x 166 ho B 185 i0 2 Tryz.underlying166 hi v l.length (ei l) hs hown' hx (h _ _ ?_ (aE _ _));rw[List.append_nil];exact hown
 ·refine wpList_append_own _ hgd s x 166 ho B 185 i0 _ 2 16 Tryz.underlying166 hi hz0 hz1 hz2 rfl (by decide) v l.length (ei l) hs hown' ad m.length cap (ei m) hx (di m) hc (ug m) ?_ (by omega) hB ?_
  ·unfold maxLen;omega
  ·intro v' w' hown2 hg _;refine h v' w' ?_ ((Below.refl B w0).grown hg hB (fun j hj=>(World.ownsRow.lt hown' j hj).1));unfold OwnR;rw[fm,de];exact hown2
theorem add_zero (a:Addr):a.add 0=a:=by simp[Addr.add]
end
section
open Rg
def au:List R:=[(65,90),(97,122),(192,214),(216,246),(248,591),(880,1327),(19968,40959)]
def aG:List R:=[(0,31),(127,160),(5760,5760),(8192,8202),(8232,8239),(8287,8287),(12288,12288),(57344,63743),(65533,65535),(917504,917631),(983040,1114111)]
def ag:List R:=[(1424,1535),(1536,1791),(64285,64335)]
def dq:List R:=[(173,173),(847,847),(6150,6150),(8203,8205),(8288,8288),(65024,65039),(65279,65279)]
end
section
open Go.RowKit Rg
def gu (f:FuncId) (l:List R):Prop:=∀ w:World,Calls Tryz.prog f #[] w fun e w'=>∃ v,e=.returned v/\OwnR w.heap.size w' v l/\Below w.heap.size w w'
theorem gf {w:World} {n:Nat} {cs:Array Value} {l:List R} (hn:l.length=n) (hc:cs.toList=ei l) (hm:n<=maxLen):
 OwnR w.heap.size (w.alloc (.cells cs 185)) (.slice (some ⟨w.heap.size,0,none⟩) n n) l/\Below w.heap.size w (w.alloc (.cells cs 185)):=⟨OwnR.made hn hc hm,(Below.refl _ w).alloc (aq _) _⟩
theorem jA:gu 190 au:=by
 intro w;go_enter Tryz.func190,Tryz.ntmps190;go_wp2_with fail
 go_ret;exact⟨_,rfl,gf (l:=au) rfl (by unfold au;simp only[bH,cT]) (by decide)⟩
theorem kr:gu 201 aG:=by
 intro w;go_enter Tryz.func201,Tryz.ntmps201;go_wp2_with fail
 go_ret;exact⟨_,rfl,gf (l:=aG) rfl (by unfold aG;simp only[bH,cT]) (by decide)⟩
theorem gy:gu 191 ag:=by
 intro w;go_enter Tryz.func191,Tryz.ntmps191;go_wp2_with fail
 go_ret;exact⟨_,rfl,gf (l:=ag) rfl (by unfold ag;simp only[bH,cT]) (by decide)⟩
theorem wD:gu 252 dq:=by
 intro w;go_enter Tryz.func252,Tryz.ntmps252;go_wp2_with fail
 go_ret;exact⟨_,rfl,gf (l:=dq) rfl (by unfold dq;simp only[bH,cT]) (by decide)⟩
theorem vi {ops:Array Oper} {o:Oper} {a:Act} {K:Act->World->Prop} {Q:Exit->Act->World->Prop} {E:Prop} (hgd:o.guard=none) (s x:Operand) (ho:o.op=.call { callee:=.builtin .append,args:=#[s,x],argTypes:=#[166,166] })
 (B:Nat) (v:Value) (l:List R) (p q:Int) (w0:World) (hs:a.eval s=v) (hown:OwnR B w0 v l) (hx:a.eval x=.slice (some ⟨w0.heap.size,0,none⟩) 1 1) (hn:l.length<=1000000000000) (hB:B<=w0.heap.size)
 (h:∀ v' w',OwnR B w' v' (l++[(p,q)])->Below B w0 w'->K (a.put o.dst v') w'):if Region.wanted o (yielded ops a.tmps)=true then Oper.wp Tryz.prog o a (w0.alloc (.cells #[.int .i64 p,.int .i64 q] 185)) K Q else E:=by
 have hw:Region.wanted o (yielded ops a.tmps)=true:=by simp[Region.wanted,hgd]
 rw[if_pos hw];obtain⟨i0,hi,hz0,hz1,hz2⟩:=info_parts jY;have hown':w0.ownsRow B 185 2 v l.length (ei l):=hown;refine wp_append_own _ s x 166 ho B 185 i0 _ 2 16 Tryz.underlying166 hi hz0 hz1 hz2 rfl (by decide) v l.length (ei l) hs (hown'.alloc _) ⟨w0.heap.size,0,none⟩ 1 1 [.int .i64 p,.int .i64 q] hx rfl ?_ ?_ ?_ (by omega) (by simp;omega) ?_
 ·intro j y hj;rw[aS,cell_of_row _ _ _ #[_,_] _ (0,0) (heap_alloc_new w0 _)];rw[Nat.zero_add];simpa using hj
 ·intro y hy;simp at hy;rcases hy with rfl|rfl<;>rfl
 ·unfold maxLen;omega
 ·intro v' w' hown2 hg _;refine h v' w' ?_ (((Below.refl B w0).alloc hB _).grown hg (by simp;omega) (fun j hj=>(World.ownsRow.lt hown' j hj).1));unfold OwnR;rw[fm,nu,de,List.length_singleton];exact hown2
theorem gq (g n:Nat) (l:List R) (w:World) (hk:Bk w g 3 (ei l).toArray) (hn:l.length*2=n) (hl:n<=1000):
 Calls Tryz.prog 209 #[.slice (some ⟨g,0,none⟩) n n] w fun e w'=>∃ v,e=.returned v/\OwnR w.heap.size w' v l/\Below w.heap.size w w':=by
 have HK:=aa hk;have HN:=aa hn;clear hk hn;go_enter Tryz.func209,Tryz.ntmps209;go_wp2_with fail
 go_loopw [3,4] (fun vv i wr=>∃ (k j:Nat) (v:Value),vv=v/\k<=l.length/\j=k*2/\i=.int .i64 j/\Below w.heap.size w wr/\Hid (OwnR w.heap.size wr v (l.take k))) (fun _ i _=>n-(intOf i).toNat)
 case atStart=>exact⟨0,0,_,rfl,bI _,rfl,rfl,aE _ _,OwnR.nil _ _⟩
 case round=>
  obtain⟨k,j,v,hv,hk,hj,rfl,bw,ho⟩:=hrel;have hv2:=hv.symm;clear hv;subst hv2;have hsw:=bw.size;have hsl:=ho.out.slice;rw[dL,Nat.min_eq_left hk] at hsl;obtain⟨A,cap,rfl⟩:=hsl;by_cases hlt:k<l.length
  ·obtain⟨⟨p,q⟩,hr⟩:∃ r,l[k]?=some r:=⟨_,aQ hlt⟩;have hp:=j6 hr;have c0:=(HK.out.below bw HK.out.lt).cell j;have c1:=(HK.out.below bw HK.out.lt).cell (j+1);rw[List.getElem?_toArray,hj] at c0 c1;rw[hp.1] at c0;rw[hp.2] at c1;rw[<-hj] at c0 c1;have htk:=aa (show l.take (k+1)=l.take k++[(p,q)] by rw[List.take_add_one,hr];rfl);obtain⟨m,hm,hmj⟩:∃ m:Nat,IntKind.i64.wrap ((j:Int)+1)=(m:Int)/\j+1=m:=⟨j+1,by have:=HN.out;rw[aO];omega,rfl⟩;rw[hmj] at c1;have hjn:m<n:=(by have:=HN.out;omega);have hjn2:j<n:=(by omega);have hlen:(l.take k).length<=1000:=(by rw[dL];have:=HN.out;omega);have hj2:Hid (j+2=(k+1)*2):=aa (by omega);have hkl:k+1<=l.length:=hlt;have HL:=aa hlen;clear hr hp hj hlt hlen hmj;(go_wp2_with fail);have b2:Below wr.heap.size wr wr.drew:=(Below.refl _ wr).drew;have ho2:Hid (OwnR w.heap.size wr.drew (.slice A k cap) (l.take k)):=ho.out.below b2;have hs2:w.heap.size<=wr.drew.heap.size:=hsw;have HB2:=aa b2;clear b2;go_region_law (refine vi rfl _ _ rfl w.heap.size (.slice A k cap) (l.take k) p q wr.drew rfl ho2.out rfl (by have:=HL.out;omega) hs2 ?_;intro v3 w3 o3 b3)
   all_goals
    have o3':Hid (OwnR w.heap.size w3 v3 (l.take (k+1))):=(by unfold Hid;rw[htk.out];exact o3);have b4:=bw.trans ((HB2.out.mono hsw).trans b3);clear o3 b3;(go_wp2_with fail);go_roundw;case rel=>exact⟨k+1,j+2,_,rfl,hkl,hj2.out,by go_num,b4,o3'⟩
    case measure=>simp[intOf];omega
  ·have hke:k=l.length:=(by omega);have hjn:j=n:=(by have:=HN.out;omega);have ho2:Hid (OwnR w.heap.size wr (.slice A k cap) l):=(by have h:=ho.out;rw[hke,List.take_length] at h;rw[hke];exact h);subst hjn;clear hke hj;(go_wp2_with fail);go_ret;exact⟨_,rfl,ho2.out,bw⟩
end
section
theorem d8 {a b:ByteArray} (h:a=b):Ending.returned (.string a)=.returned (.string b):=by rw[h]
theorem bm {o:ByteArray} {l:List UInt8} (h:o.data.toList=l):o=⟨l.toArray⟩:=by subst h;rfl
theorem br (a b:ByteArray):(a++b).data.toList=a.data.toList++b.data.toList:=by simp
theorem fl {s:ByteArray} {a b:Nat}:(s.extract a b).data.toList=(s.data.toList.drop a).take (b-a):=by simp[ByteArray.data_extract]
end
section
open Go.RowKit
theorem ea (n:Int) (h₀:0<=n) (h₁:n<2 ^ 40):IntKind.i64.wrap n=n:=by rw[aO];omega
theorem AW (c y:Int) (hc:0<=c) (hc1:c<4294967296) (h0:0<=y) (h1:y<64):bits .or .i64 (c*64) y=c*64+y:=bits_join .i64 40 (by decide) ea 6 (c*64) y (by omega) (by omega) (by omega) h0 h1 (by omega)
theorem iR (x:Int) (h0:0<=x) (h1:x<256):(bits .and .u8 x 192 != 128)=!(x / 64==2):=by
 have h:∀ y:Fin 256,(bits .and .u8 ((y.val:Nat):Int) 192 != 128)=!(((y.val:Nat):Int) / 64==2):=by decide
 have:=h ⟨x.toNat,by omega⟩;rwa [show (((⟨x.toNat,by omega⟩:Fin 256).val:Nat):Int)=x from by simp;omega] at this
theorem AJ (x:Int) (h0:0<=x) (h1:x<256):bits .and .i64 x 31=x % 32:=bits_mask .i64 40 (by decide) ea 5 (by decide) x h0 (by omega)
theorem AI (x:Int) (h0:0<=x) (h1:x<256):bits .and .i64 x 15=x % 16:=bits_mask .i64 40 (by decide) ea 4 (by decide) x h0 (by omega)
theorem AS (x:Int) (h0:0<=x) (h1:x<256):bits .and .i64 x 7=x % 8:=bits_mask .i64 40 (by decide) ea 3 (by decide) x h0 (by omega)
end
section
open Go.RowKit Rg
theorem gh {l:List R} {cs:Array Value} (h:cs.toList=ei l):(ei l).toArray=cs:=by rw[<-h]
theorem fM:gu 175 au:=by
 intro w;have b1:Below w.heap.size w (w.alloc (.cells (ei au).toArray 3)):=(Below.refl _ w).alloc (aq _) _;have HT:=aa (gq w.heap.size 14 au (w.alloc (.cells (ei au).toArray 3)) (Bk.new w _ _) rfl (by decide));have e:(ei au).toArray=#[.int .i64 65,.int .i64 90,.int .i64 97,.int .i64 122,.int .i64 192,.int .i64 214,.int .i64 216,.int .i64 246,.int .i64 248,.int .i64 591,.int .i64 880,.int .i64 1327,.int .i64 19968,.int .i64 40959]:=gh (by unfold au;simp only[bH,cT]);rw[e] at HT b1;clear e;generalize au=L at HT ⊢;go_enter Tryz.func175,Tryz.ntmps175;go_wp2_with fail
 refine HT.out.mono ?_;rintro e w2 ⟨v,rfl,o2,b2⟩;have b3:=b1.trans (b2.mono (by simp));have o3:=aa (o2.weak (B':=w.heap.size) (by simp));clear o2 b2;go_wp2_with fail
 go_ret;exact⟨_,rfl,o3.out,b3⟩
theorem gx:gu 173 aG:=by
 intro w;have b1:Below w.heap.size w (w.alloc (.cells (ei aG).toArray 3)):=(Below.refl _ w).alloc (aq _) _;have HT:=aa (gq w.heap.size 22 aG (w.alloc (.cells (ei aG).toArray 3)) (Bk.new w _ _) rfl (by decide));have e:(ei aG).toArray=#[.int .i64 0,.int .i64 31,.int .i64 127,.int .i64 160,.int .i64 5760,.int .i64 5760,.int .i64 8192,.int .i64 8202,.int .i64 8232,.int .i64 8239,.int .i64 8287,.int .i64 8287,.int .i64 12288,.int .i64 12288,.int .i64 57344,.int .i64 63743,.int .i64 65533,.int .i64 65535,.int .i64 917504,.int .i64 917631,.int .i64 983040,.int .i64 1114111]:=gh (by unfold aG;simp only[bH,cT]);rw[e] at HT b1;clear e;generalize aG=L at HT ⊢;go_enter Tryz.func173,Tryz.ntmps173;go_wp2_with fail
 refine HT.out.mono ?_;rintro e w2 ⟨v,rfl,o2,b2⟩;have b3:=b1.trans (b2.mono (by simp));have o3:=aa (o2.weak (B':=w.heap.size) (by simp));clear o2 b2;go_wp2_with fail
 go_ret;exact⟨_,rfl,o3.out,b3⟩
theorem e6:gu 176 ag:=by
 intro w;have b1:Below w.heap.size w (w.alloc (.cells (ei ag).toArray 3)):=(Below.refl _ w).alloc (aq _) _;have HT:=aa (gq w.heap.size 6 ag (w.alloc (.cells (ei ag).toArray 3)) (Bk.new w _ _) rfl (by decide));have e:(ei ag).toArray=#[.int .i64 1424,.int .i64 1535,.int .i64 1536,.int .i64 1791,.int .i64 64285,.int .i64 64335]:=gh (by unfold ag;simp only[bH,cT]);rw[e] at HT b1;clear e;generalize ag=L at HT ⊢;go_enter Tryz.func176,Tryz.ntmps176;go_wp2_with fail
 refine HT.out.mono ?_;rintro e w2 ⟨v,rfl,o2,b2⟩;have b3:=b1.trans (b2.mono (by simp));have o3:=aa (o2.weak (B':=w.heap.size) (by simp));clear o2 b2;go_wp2_with fail
 go_ret;exact⟨_,rfl,o3.out,b3⟩
theorem pF:gu 172 dq:=by
 intro w;have b1:Below w.heap.size w (w.alloc (.cells (ei dq).toArray 3)):=(Below.refl _ w).alloc (aq _) _;have HT:=aa (gq w.heap.size 14 dq (w.alloc (.cells (ei dq).toArray 3)) (Bk.new w _ _) rfl (by decide));have e:(ei dq).toArray=#[.int .i64 173,.int .i64 173,.int .i64 847,.int .i64 847,.int .i64 6150,.int .i64 6150,.int .i64 8203,.int .i64 8205,.int .i64 8288,.int .i64 8288,.int .i64 65024,.int .i64 65039,.int .i64 65279,.int .i64 65279]:=gh (by unfold dq;simp only[bH,cT]);rw[e] at HT b1;clear e;generalize dq=L at HT ⊢;go_enter Tryz.func172,Tryz.ntmps172;go_wp2_with fail
 refine HT.out.mono ?_;rintro e w2 ⟨v,rfl,o2,b2⟩;have b3:=b1.trans (b2.mono (by simp));have o3:=aa (o2.weak (B':=w.heap.size) (by simp));clear o2 b2;go_wp2_with fail
 go_ret;exact⟨_,rfl,o3.out,b3⟩
end
section
open Go.RowKit
theorem sY (c:Int) (k:Int) (hk:0<k) (hk2:k<2000000):∃ n:Nat,wrap64 ((IntKind.u64.wrap c).tmod k)=(n:Int)/\(n:Int)<k:=by
 have e:IntKind.u64.wrap c=c % 18446744073709551616:=by simp[IntKind.wrap,IntKind.bits,IntKind.signed]
 have h0:0<=IntKind.u64.wrap c:=by rw[e];exact Int.emod_nonneg _ (by decide)
 rw[Int.tmod_eq_emod_of_nonneg h0];have h1:=Int.emod_nonneg (IntKind.u64.wrap c) (show k≠0 by omega);have h2:=Int.emod_lt_of_pos (IntKind.u64.wrap c) hk;refine⟨(IntKind.u64.wrap c % k).toNat,?_,by omega⟩;unfold wrap64;omega
end
section
open Go.RowKit Go.Lib
def Aj:Go.Shelf.Ren:=⟨fun|110=>130 |109=>170 |n=>n,fun|31=>26 |9=>9 |4=>4 |3=>3 |0=>0|n=>n,fun|n=>n⟩
theorem sV:Go.Proofs.Lays.n110 Tryz.prog Aj:={
 mixed:=by kernel_rfl
 f109:=Tryz.func170.trans (congrArg some (by kernel_rfl))
 f110:=Tryz.func130.trans (congrArg some (by kernel_rfl))
 t0:=Tryz.underlying0
 a0:=Tryz.isAgg0
 z0:=Tryz.sizeOf0
 v0:=Tryz.zeroValue0
 t3:=Tryz.underlying3
 a3:=Tryz.isAgg3
 z3:=Tryz.sizeOf3
 v3:=Tryz.zeroValue3
 t4:=Tryz.underlying4
 a4:=Tryz.isAgg4
 z4:=Tryz.sizeOf4
 v4:=Tryz.zeroValue4
 t9:=Tryz.underlying9
 a9:=Tryz.isAgg9
 z9:=Tryz.sizeOf9
 v9:=Tryz.zeroValue9
 t31:=Tryz.underlying26
 a31:=Tryz.isAgg26
 z31:=Tryz.sizeOf26
 v31:=Tryz.zeroValue26 }
theorem pX (b off n c:Nat) (zs:List ByteArray) (x:ByteArray) (w:World) (hz:n<=zs.length) (hbig:n<=9223372036854775807) (hc:∀ j,j<zs.length->w.cell? ⟨b,off+j,none⟩=some (.string (zs.getD j ByteArray.empty))):
 Calls Tryz.prog 130 #[.slice (some ⟨b,off,none⟩) n c,.string x] w fun e w'=>e=.returned (.bool (Lib.containsS (zs.take n) x))/\w'=w:=Any.slices_Contains_string sV b off n c zs x w hz hbig hc
theorem iH (a:Option Addr) (c:Nat) (x:ByteArray) (w:World):
 Calls Tryz.prog 130 #[.slice a 0 c,.string x] w fun e w'=>e=.returned (.bool false)/\w'=w:=Any.slices_Contains_string_empty sV a c x w
end
section
open Go
section
variable {P:Program} {ops:Array Oper} {Q:Exit->Act->World->Prop} {md:Region.Mode} {S:World->Prop} {V:Nat}
def Any (P:Program) (md:Region.Mode) (ops:Array Oper) (Q:Exit->Act->World->Prop) (S:World->Prop) (V:Nat):Nat->Array Bool->Act->World->Prop
 |0,l,a,w=>Region.ready md ops l=[]/\Q .normal a w
 | k+1,l,a,w=>(Region.ready md ops l=[]->Q .normal a w) /\
   ∀ i∈Region.ready md ops l,wpOp P ops Q i (fun a' w'=>(i≠V->l.getD V true=false->S w')/\Any P md ops Q S V k (l.setIfInBounds i true) a' w') a w
theorem Any.any:∀ (k:Nat) (l:Array Bool) (a:Act) (w:World),Any P md ops Q S V k l a w->wpAny P md ops Q k l a w
 |0,_,_,_,h=>h
 |k+1,_,_,_,h=>⟨h.1,fun i hi=>wpOp_mono (fun _ _ h'=>Any.any k _ _ _ h'.2) (h.2 i hi)⟩
theorem m7 {l:Array Bool} {x:Nat} (h0:l.getD x true=false) (h1:l.getD x false=true):False:=by
 rcases Nat.lt_or_ge x l.size with h|h
 ·simp[h] at h0 h1;rw[h0] at h1;cases h1
 ·simp[Array.getElem?_eq_none h] at h1
def kc (md:Region.Mode) (ops:Array Oper) (i:Nat) (W:List Nat):Bool:=W.all fun j=>j != i&&((ops[j]?).map fun o=>o.after.any fun e=>Region.binds md e&&(e.on==i||W.contains e.on)).getD true
theorem Any.first {S':World->Prop} {i:Nat} {oi:Oper} {v:Value} (W:List Nat) (hi:ops[i]?=some oi) (hsel:∀ (j:Nat) (o:Oper) cs b,ops[j]?=some o->o.op≠.select cs b)
 (hQ:∀ c a w,Q (.panic c) (a.put oi.dst v) w->Q (.panic c) a w) (hW:kc md ops i W=true) (hVi:V≠i)
 (hS':∀ (l:Array Bool) (w:World),(∀ j∈W,l.getD j true=false)->(l.getD V true=false->S w)->S' w):
 ∀ (k:Nat) (l:Array Bool) (a:Act) (w:World),
   (∀ j oj,ops[j]?=some oj->j≠i->l.getD j true=false->(∀ e∈oj.after,Region.binds md e=true->e.on≠i)->oi.apart ops oj=true) ->
   i∈Region.ready md ops l->(∀ j∈W,l.getD j true=false)->YieldsIf P ops S' oi v a->(l.getD V true=false->S w) ->
   Any P md ops Q S V k (l.setIfInBounds i true) (a.put oi.dst v) w->Any P md ops Q S V (k+1) l a w:=by
 intro k
 induction k with
 | zero=>
   intro l a w _ hr hl hy hS H;refine⟨fun h=>(by rw[h] at hr;cases hr),fun j hj=>?_⟩;by_cases hji:j=i
   ·subst hji;exact hy.wpOp hi (hS' l w hl hS) ⟨fun _ hv=>hS hv,H⟩
   ·have:=ready_mono hj hji;rw[H.1] at this;cases this
 | succ k ih=>
   intro l a w hfree hr hl hy hS H;refine⟨fun h=>(by rw[h] at hr;cases hr),fun j hj=>?_⟩;by_cases hji:j=i
   ·subst hji;exact hy.wpOp hi (hS' l w hl hS) ⟨fun _ hv=>hS hv,H⟩
   ·obtain⟨hjun,oj,hoj,hall⟩:=mem_ready.1 hj;have hir:=(mem_ready.1 hr).1;have hnot:∀ e∈oj.after,Region.binds md e=true->e.on≠i:=(fun e he hb heq=>m7 hir (by rw[<-heq];exact hall e he hb));have hjW:j ∉ W:=fun hm=>by
     have h1:=List.all_eq_true.1 hW j hm;rw[hoj,Bool.and_eq_true] at h1;obtain⟨e,he,h2⟩:=Array.any_eq_true'.1 h1.2;rw[Bool.and_eq_true,Bool.or_eq_true] at h2;have h3:=hall e he h2.1;rcases h2.2 with h4|h4
     ·exact hnot e he h2.1 (by simpa using h4)
     ·exact m7 (hl e.on (by simpa using h4)) h3
    have h1:=wpOp_putIf hoj (hfree j oj hoj hji hjun hnot) (fun cs b=>hsel i oi cs b hi) (fun cs b=>hsel j oj cs b hoj) hQ hy (H.2 j (ready_mono hj hji));have hfree':∀ n on,ops[n]?=some on->n≠i->(l.setIfInBounds j true).getD n true=false->(∀ e∈on.after,Region.binds md e=true->e.on≠i)->oi.apart ops on=true:=fun n on hn hni hun hno=>by
     refine hfree n on hn hni ?_ hno;by_cases hjn:j=n
     ·subst hjn;exact hjun
     ·rw[getD_set_ne true hjn] at hun;exact hun
    have hlj:∀ m∈W,(l.setIfInBounds j true).getD m true=false:=(fun m hm=>by rw[getD_set_ne true (fun e=>hjW (by rw[e];exact hm))];exact hl m hm);refine wpOp_mono (fun a' w' h3=>?_) h1;obtain⟨y3,s3,t3⟩:=h3;have s4:j≠V->l.getD V true=false->S w':=(fun hjV hv=>s3 hjV (by rw[getD_set_ne true (Ne.symm hVi)];exact hv));refine⟨s4,ih (l.setIfInBounds j true) a' w' hfree' (ready_mono hr (Ne.symm hji)) hlj y3 (fun hv=>?_) ?_⟩
    ·by_cases hjV:j=V
     ·subst hjV;exact absurd hv (fun hv=>by
       have h5:(l.setIfInBounds j true).getD j false=true:=by
        rcases Nat.lt_or_ge j l.size with h|h
        ·simp[h]
        ·simp[Array.getElem?_eq_none h] at hjun
       exact m7 hv h5)
     ·exact s4 hjV (by rw[getD_set_ne true hjV] at hv;exact hv)
    ·rw[Array.setIfInBounds_comm _ _ hji];exact t3
theorem Any.take (i:Nat) (d:Option Tmp) (v:Value) (W:List Nat) {S':World->Prop} {oi:Oper} {k:Nat} {l:Array Bool} {a:Act} {w:World} (hi:ops[i]?=some oi) (hd:oi.dst=d)
 (hs:Region.noSelect ops=true) (hf:Region.free md ops l i=true) (hr:(Region.ready md ops l).contains i=true) (hW:kc md ops i W=true) (hl:(W.all fun j=>!l.getD j true)=true) (hVi:V≠i)
 (hw:Region.wanted oi (yielded ops a.tmps)=true) (hS':∀ (l:Array Bool) (w:World),(∀ j∈W,l.getD j true=false)->(l.getD V true=false->S w)->S' w)
 (hv:∀ w,S' w->(execOp a.eval oi).run P w=.ok (.value v) w) (hQ:∀ c a w,Q (.panic c) (a.put d v) w->Q (.panic c) a w) (hS:l.getD V true=false->S w)
 (h:Any P md ops Q S V k (l.setIfInBounds i true) (a.put d v) w):Any P md ops Q S V (k+1) l a w:=by
 subst hd;exact Any.first W hi (Region.noSelect_spec hs) hQ hW hVi hS' k l a w (Region.free_spec hi hf) (by simpa using hr) (fun j hj=>by simpa using List.all_eq_true.1 hl j hj) (.inl ⟨hw,hv⟩) hS h
def AllUp (P:Program) (md:Region.Mode) (ops:Array Oper) (Q:Exit->Act->World->Prop) (S:World->Prop) (V k:Nat) (l:Array Bool) (a:Act) (w:World) (rs:List Nat):Prop:=∀ i∈rs,wpOp P ops Q i (fun a' w'=>(i≠V->l.getD V true=false->S w')/\Any P md ops Q S V k (l.setIfInBounds i true) a' w') a w
theorem AllUp.nil {k:Nat} {l:Array Bool} {a:Act} {w:World}:AllUp P md ops Q S V k l a w []:=fun _ h=>by cases h
theorem AllUp.cons {k:Nat} {l:Array Bool} {a:Act} {w:World} {i:Nat} {o:Oper} {rs:List Nat} (ho:ops[i]?=some o)
 (h:∀ K':Act->World->Prop,Shut (∀ a w,(i≠V->l.getD V true=false->S w)->Any P md ops Q S V k (l.setIfInBounds i true) a w->K' a w)->if Region.wanted o (yielded ops a.tmps)=true then Oper.wp P o a w K' Q else K' (a.put o.dst undef) w)
 (hs:AllUp P md ops Q S V k l a w rs):AllUp P md ops Q S V k l a w (i::rs):=fun j hj=>by
 rcases List.mem_cons.1 hj with rfl|hj
 ·exact wpOp_step ho (fun K' hK=>h K' (fun a w hS hA=>hK a w ⟨hS,hA⟩))
 ·exact hs j hj
theorem Any.up {rs:List Nat} {k:Nat} {l:Array Bool} {a:Act} {w:World} (hr:Region.ready md ops l=rs) (hne:rs≠[]) (h:AllUp P md ops Q S V k l a w rs):Any P md ops Q S V (k+1) l a w:=⟨fun h0=>absurd (hr ▸ h0) hne,hr ▸ h⟩
theorem Any.done {l:Array Bool} {a:Act} {w:World} (hr:Region.ready md ops l=[]) (h:Q .normal a w):∀ k,Any P md ops Q S V k l a w
 |0=>⟨hr,h⟩
 |_+1=>⟨fun _=>h,by rw[hr];simp⟩
theorem kq {id:Nat} {a:Act} {w:World} (S:World->Prop) (V:Nat) (hm:P.follows .mixedOrders=true) (h:Any P .any ops Q S V ops.size (Array.replicate ops.size false) a w.drew):(Code.region id ops true).wp P Q a w:=wp_region_any hm (Any.any _ _ _ _ h)
theorem fw (i:Nat) (d:Option Tmp) (v:Value) {oi:Oper} {k:Nat} {l:Array Bool} {a:Act} {w:World} (hv:∀ w,True->(execOp a.eval oi).run P w=.ok (.value v) w) (hS:l.getD V true=false->S w) (h:Any P md ops Q S V k (l.setIfInBounds i true) (a.put d v) w) (hi:ops[i]?=some oi:=by rfl) (hd:oi.dst=d:=by rfl) (hs:Region.noSelect ops=true:=by kernel_rfl) (hf:Region.free md ops l i=true:=by kernel_rfl) (hr:(Region.ready md ops l).contains i=true:=by kernel_rfl) (hW:kc md ops i []=true:=by kernel_rfl) (hVi:V≠i:=by decide) (hw:Region.wanted oi (yielded ops a.tmps)=true:=by rfl) (hQ:∀ c a w,Q (.panic c) (a.put d v) w->Q (.panic c) a w:=by exact fun _ _ _ h=>h):Any P md ops Q S V (k+1) l a w:=Any.take i d v [] (S':=fun _=>True) hi hd hs hf hr hW rfl hVi hw (fun _ _ _ _=>trivial) hv hQ hS h
theorem sm (i:Nat) (d:Option Tmp) (v:Value) {oi:Oper} {k:Nat} {l:Array Bool} {a:Act} {w:World} (hv:∀ w,S w->(execOp a.eval oi).run P w=.ok (.value v) w) (hS:l.getD V true=false->S w) (h:Any P md ops Q S V k (l.setIfInBounds i true) (a.put d v) w) (hi:ops[i]?=some oi:=by rfl) (hd:oi.dst=d:=by rfl) (hs:Region.noSelect ops=true:=by kernel_rfl) (hf:Region.free md ops l i=true:=by kernel_rfl) (hr:(Region.ready md ops l).contains i=true:=by kernel_rfl) (hW:kc md ops i [V]=true:=by kernel_rfl) (hl:([V].all fun j=>!l.getD j true)=true:=by kernel_rfl) (hVi:V≠i:=by decide) (hw:Region.wanted oi (yielded ops a.tmps)=true:=by rfl) (hQ:∀ c a w,Q (.panic c) (a.put d v) w->Q (.panic c) a w:=by exact fun _ _ _ h=>h):Any P md ops Q S V (k+1) l a w:=Any.take i d v [V] (S':=S) hi hd hs hf hr hW hl hVi hw (fun _ _ hl hS=>hS (hl V (by simp))) hv hQ hS h
end
end
end Go.Proofs.YtbgaglcgennhiaaGreatDoor

