import Derived.Test.YtbgaglcgennhiaaGreatDoorQ41
import Derived.Test.YtbgaglcgennhiaaGreatDoorQ44
namespace Go.Proofs.YtbgaglcgennhiaaGreatDoor
open Go.RowKit Go.Sort Sy Tx Ct
theorem nG {t:List UInt8} {n m:Int} (h:line t n=true) (hm:n<=m):line t m=true:=by obtain⟨cs,h1,_,_⟩:=fj h;rw[dK h1] at h ⊢;obtain⟨h2,h3⟩:=Bool.and_eq_true_iff.1 h;have h3:=of_decide_eq_true h3;exact Bool.and_eq_true_iff.2 ⟨h2,bq (by omega)⟩
theorem lq {α:Type} {lt:α->α->Bool} (x:α):∀ l:List α,(∀ y∈l,lt x y=false)->aT lt x l=l++[x]
 |[],_=>rfl
 | y::l,h=>by unfold aT;rw[if_neg (by rw[h y List.mem_cons_self];decide),lq x l (fun z hz=>h z (List.mem_cons_of_mem _ hz))];rfl
theorem fq {α:Type} {lt:α->α->Bool}:∀ l:List α,Up lt l->af lt l=l:=by
 suffices g:∀ r:List α,Up lt r.reverse->af lt r.reverse=r.reverse from fun l h=>by have:=g l.reverse (by rw[List.reverse_reverse];exact h);rwa [List.reverse_reverse] at this
 intro r
 induction r with
 |nil=>intro _;rfl
 | cons x r ih=>intro h;rw[List.reverse_cons] at h ⊢;obtain⟨h1,_,h3⟩:=List.pairwise_append.1 h;rw[eq,ih h1,lq x _ (fun y hy=>h3 y hy x List.mem_cons_self)]
theorem jJ:Weak oa:=⟨fun h=>lessL_weak.asym h,fun h y=>lessL_weak.neg h y.jid⟩
theorem fR {α:Type} {lt:α->α->Bool} (hW:Weak lt) (l:List α):af lt (af lt l)=af lt l:=fq _ (cm hW l)
theorem mw {l:List (List UInt8)} (h:l.Pairwise fun x y=>Jd.lessL x y=true):aD l=l:=jK (fK l) h (eZ l)
theorem rz (l:List (List UInt8)):aD (aD l)=aD l:=mw (fK l)
theorem sd (p:AD):d9 (d9 p)=d9 p:=by unfold d9;dsimp only;rw[fR jJ,rz]
theorem r9 (p:zL):er (er p)=er p:=by unfold er;dsimp only;rw[<-dP d9 (lt:=nj) (lt':=nj) (fun _ _=>rfl),List.map_map,show (d9 ∘ d9)=d9 from funext sd,fR mt]
theorem sa (l:List zL):fs (fs l)=fs l:=by unfold fs;rw[<-dP er (lt:=ni) (lt':=ni) (fun _ _=>rfl),List.map_map,show (er ∘ er)=er from funext r9,fR ja]
theorem yz {α:Type} {lt:α->α->Bool} (hW:Weak lt) {l:List α} (h:l.Pairwise fun x y=>lt x y=true):Up lt l:=h.imp fun hab=>hW.asym hab
theorem xC {α:Type} {R:α->α->Prop} {l:List α} (h:l.Pairwise R) {a b:α} (ha:a∈l) (hb:b∈l):a=b\/R a b\/R b a:=by
 obtain⟨i,hi,rfl⟩:=List.getElem_of_mem ha;obtain⟨j,hj,rfl⟩:=List.getElem_of_mem hb;rcases Nat.lt_trichotomy i j with g|g|g
 ·exact .inr (.inl (List.pairwise_iff_getElem.1 h i j hi hj g))
 ·subst g;exact .inl rfl
 ·exact .inr (.inr (List.pairwise_iff_getElem.1 h j i hj hi g))
theorem gj {α:Type} [Inhabited α] {most:Nat} {lt:α->α->Bool} {ok:α->Bool} {l:List α} (hl:l.length<=most) (hp:l.Pairwise fun x y=>lt x y=true) (ho:∀ x∈l,ok x=true):aA most lt ok l=true:=by
 refine ep hl fun i hi=>?_
 unfold bi;rw[getElem!_pos l i hi,ho _ (List.getElem_mem hi),Bool.and_true];by_cases h0:i=0
 ·subst h0;rfl
 ·rw[getElem!_pos l (i-1) (by omega),List.pairwise_iff_getElem.1 hp (i-1) i (by omega) hi (by omega),Bool.or_true]
theorem yZ:∀ i j,i<j->j<3->Jd.ltL (iu i) (iu j)=true:=fun i j h1 h2=>by
 have:(i=0/\j=1)\/(i=0/\j=2)\/(i=1/\j=2):=by omega
 rcases this with ⟨rfl,rfl⟩|⟨rfl,rfl⟩|⟨rfl,rfl⟩<;>decide +kernel
theorem zz:∀ i j,i<j->j<3->Jd.ltL (dX i) (dX j)=true:=fun i j h1 h2=>by
 have:(i=0/\j=1)\/(i=0/\j=2)\/(i=1/\j=2):=by omega
 rcases this with ⟨rfl,rfl⟩|⟨rfl,rfl⟩|⟨rfl,rfl⟩<;>decide +kernel
theorem pg {l:List aN} (h:eN l):l.Pairwise fun x y=>yF x y=true:=List.pairwise_iff_getElem.2 fun i j hi hj hij=>by unfold yF;rw[(h.each i _ (aQ hi)).name,(h.each j _ (aQ hj)).name];exact yZ i j hij (by have:=h.len;omega)
theorem ph {i:Nat} {x:aN} (h:oe i x):x.users.Pairwise fun x y=>yG x y=true:=List.pairwise_iff_getElem.2 fun a b ha hb hab=>by unfold yG;rw[(h.near a _ (aQ ha)).name,(h.near b _ (aQ hb)).name];exact zz a b hab (by have:=h.len;omega)
theorem tO {n:List UInt8} {u:bk} (h:eO n u):d9 (cY u)=cY u:=by unfold d9 cY;dsimp only;rw[mw h.up,fq _ (yz jJ (List.pairwise_map.2 (h.items.up.imp fun hab=>hab)))]
theorem tH {i:Nat} {x:aN} (h:oe i x):er (bD x)=bD x:=by
 unfold er bD;dsimp only;have e:(x.users.map cY).map d9=x.users.map cY:=by
  rw[List.map_map];refine List.map_congr_left fun u hu=>?_
  obtain⟨j,hj,rfl⟩:=List.getElem_of_mem hu;exact tO (h.near j _ (aQ hj))
 rw[e,fq _ (yz mt (List.pairwise_map.2 ((ph h).imp fun hab=>hab)))]
theorem jC {l:List aN} (h:eN l):(l.map bD).Pairwise fun x y=>ni x y=true:=List.pairwise_map.2 ((pg h).imp fun hab=>hab)
theorem xr {l:List aN} (h:eN l):∀ p∈l.map bD,er p=p:=fun p hp=>by obtain⟨x,hx,rfl⟩:=List.mem_map.1 hp;obtain⟨j,hj,rfl⟩:=List.getElem_of_mem hx;exact tH (h.each j _ (aQ hj))
theorem mu {l m:List aN} (h:eN l) (hp:(m.map bD).Perm (l.map bD)):fs (m.map bD)=l.map bD:=by
 unfold fs;have e:(m.map bD).map er=m.map bD:=by
  have:(m.map bD).map er=(m.map bD).map id:=List.map_congr_left fun p hp2=>xr h p (hp.mem_iff.1 hp2)
  rw[this,List.map_id]
 rw[e];have h1:(af ni (m.map bD)).Perm (l.map bD):=(bQ _).trans hp;refine List.Perm.eq_of_pairwise (le:=fun x y=>ni y x=false) (fun a b ha hb g1 g2=>?_) (cm ja _) (yz ja (jC h)) h1;rcases xC (jC h) (h1.mem_iff.1 ha) hb with g|g|g
 ·exact g
 ·rw[g] at g2;cases g2
 ·rw[g] at g1;cases g1
theorem tI {l:List aN} (h:eN l):fs (l.map bD)=l.map bD:=mu h (List.Perm.refl _)
theorem tM {k:Nat} (hk:k<3) {u:bk} (h:eO (dX k) u):mZ u=true:=by
 unfold mZ;have h1:dW u.name=true:=by
  rw[h.name];have:k=0\/k=1\/k=2:=by omega
  rcases this with rfl|rfl|rfl<;>exact sU (by decide) (by decide) (by decide)
 have h2:line u.pw 100=true:=nG h.pw (by decide);have h3:aA 60 k9 nn u.items=true:=gj (by have:=h.items.len;omega) h.items.up (fun p hp=>(h.items.near p hp).right);have h4:aA 60 Jd.lessL bR u.pend=true:=gj (by have:=h.len;omega) h.up (fun t ht=>by obtain⟨s,k,rfl⟩:=h.near t ht;exact mf s k);have h5:u.items.any (fz u)=false:=List.any_eq_false.2 fun p hp=>by
  unfold fz;cases hl:i7 p.1 with
  |false=>simp
  |true=>simp[h.free p hp hl]
 rw[h1,h2,h3,h4,h5];rfl
theorem rm {l:List aN} (h:eN l):fp l=true:=by
 refine gj (by have:=h.len;omega) (pg h) fun x hx=>?_
 obtain⟨i,hi,rfl⟩:=List.getElem_of_mem hx;have hm:=h.each i _ (aQ hi);unfold tk jf;have h1:jL l[i].name=true:=by
  rw[hm.name];have:i=0\/i=1\/i=2:=by have:=h.len;omega
  rcases this with rfl|rfl|rfl<;>exact Ai (by decide) (by decide) (by decide) (by decide)
 rw[h1,gj (by have:=hm.len;omega) (ph hm) fun u hu=>by obtain⟨j,hj,rfl⟩:=List.getElem_of_mem hu;exact tM (by have:=hm.len;omega) (hm.near j _ (aQ hj))];rfl
end Go.Proofs.YtbgaglcgennhiaaGreatDoor
