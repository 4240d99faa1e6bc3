import Derived.Test.YtbgaglcgennhiaaGreatDoorQ34
set_option maxHeartbeats 8000000
set_option maxRecDepth 100000
namespace Go.Proofs.YtbgaglcgennhiaaGreatDoor
section
open Go.RowKit Go.Sort Tx Ct
theorem RowB.put1 {α:Type} {enc:α->List Value} {k:Nat} {t:TypeId} {W:World} {g:Nat} {l:List α} (h:RowB enc k t W g l) (i c:Nat) (hc:c<k) (x y:α) (val:Value) (hx:l[i]?=some x) (hk:∀ z,(enc z).length=k) (hy:enc y=(enc x).set c val):RowB enc k t (W.setCell ⟨g,i*k+c,none⟩ val) g (l.set i y):=by
 obtain⟨cur,hb,hcur⟩:=h;refine⟨_,hb.put (i*k+c) val,fun j p hj d u hu=>?_⟩;have hdk:d<k:=by have:=(cD hu).1;rw[hk] at this;exact this
 have hjl:j<l.length:=by have:=(cD hj).1;simpa using this
 rw[List.getElem?_set] at hj;rw[Array.getElem?_setIfInBounds];by_cases hij:i=j
 ·subst hij;rw[if_pos rfl,if_pos hjl] at hj;obtain rfl:=Option.some.inj hj;rw[hy,List.getElem?_set] at hu;have hold:=hcur i x hx d _ (aQ (by rw[hk];exact hdk));have hlt:=(Array.getElem?_eq_some_iff.1 hold).1;by_cases hcd:c=d
  ·subst hcd;rw[if_pos rfl,if_pos hlt];rw[if_pos rfl,if_pos (by rw[hk];exact hdk)] at hu;exact hu
  ·rw[if_neg (by omega)];rw[if_neg hcd] at hu;exact hcur i x hx d u hu
 ·rw[if_neg hij] at hj;rw[if_neg]
  ·exact hcur j p hj d u hu
  ·intro e;rcases Nat.lt_or_ge i j with h|h
   ·have:=Nat.mul_le_mul_right k (show i+1<=j from h);rw[Nat.add_mul,Nat.one_mul] at this;omega
   ·have:=Nat.mul_le_mul_right k (show j+1<=i by omega);rw[Nat.add_mul,Nat.one_mul] at this;omega
theorem wV {A C:Nat} {W W':World} {v:Value} {l:List aN} (h:LiveS A C W v l) (hC:C<=W.heap.size) {i k:Nat} {x:aN} {u y:bk} (hi:l[i]?=some x) (hk:x.users[k]?=some u) {A2 C2:Nat} (hy:LiveU A2 C2 W y) (hA2:C<=A2) (hC2:C2<=W.heap.size)
 {g n c:Nat} (hg:x.uv=(some ⟨g,0,none⟩,n,c)) (hb:∀ b,b≠g->A<=b->W'.heap[b]?=W.heap[b]?) (hs:W'.heap.size=W.heap.size) (hrow:∀ us,RowB ao 4 28 W g us->us[k]?=some u->RowB ao 4 28 W' g (us.set k y)):
 ReadH W' v (l.set i ⟨x.name,x.users.set k y,x.uv⟩):=by
 obtain⟨AA,cap,rfl,hc⟩:=h;have hil:=(cD hi).1;have hkl:=(cD hk).1;obtain⟨G,cut,rfl,h1,h2,h3,h4,h5,h6⟩:=hc (by omega);obtain⟨AU,capU,hvU,hcU⟩:=h6 i x hi;obtain⟨g',cutU,hau,u1,u2,u3,u4,u5,u6⟩:=hcU (by omega);rw[hg] at hvU;have e0:sl (some ⟨g,0,none⟩,n,c)=.slice (some ⟨g,0,none⟩) n c:=rfl;rw[e0] at hvU;injection hvU with v1 v2 v3;rw[hau] at v1;injection v1 with v1;injection v1 with v1 _;subst v1;have hcut:=fun {a b:Nat} (hab:a<=b)=>bT h4 hab
 have hcutU:=fun {a b:Nat} (hab:a<=b)=>bT u4 hab
 have hgC:g<C:=by have:=hcutU (bI x.users.length);have:=hcut (show i+1<=l.length from hil);omega
 have hAC:A<=C:=by have:=hcut (bI l.length);omega
 have hGg:G≠g:=by have:=hcut (bI i);omega
 have hup:∀ A' C':Nat,A<=A'->(g<A'\/C'<=g)->gW A' C' W W':=fun A' C' hA hac b hb1 hb2=>hb b (by omega) (by omega)
 have hrow1:RowB aw 2 47 W' G (l.set i ⟨x.name,x.users.set k y,x.uv⟩):=by
  obtain⟨cur,hk1,hcc⟩:=h2.same (hb G hGg h1);refine⟨cur,hk1,fun j p hj d q hq=>?_⟩;rw[List.getElem?_set] at hj;by_cases hij:i=j
  ·subst hij;rw[if_pos rfl,if_pos hil] at hj;obtain rfl:=Option.some.inj hj;exact hcc i x hi d q hq
  ·rw[if_neg hij] at hj;exact hcc j p hj d q hq
 refine⟨hrow1.row (by have:=hcut (bI l.length);omega) _ cap (by rw[List.length_set]),fun p hp=>?_⟩;obtain⟨j,hj,rfl⟩:=List.getElem_of_mem hp;have hjl:j<l.length:=by simpa using hj
 by_cases hij:i=j
 ·subst hij;rw[List.getElem_set_self];have hrowU:=hrow x.users u2 hk;refine⟨?_,fun q hq=>?_⟩
  ·show RowV ao 4 W'.heap.size W' (sl x.uv) (x.users.set k y);rw[hg,e0];exact hrowU.row (by omega) n c (by rw[List.length_set];exact v2.symm)
  ·have hq2:q∈x.users.set k y:=hq;obtain⟨m,hm,rfl⟩:=List.getElem_of_mem hq2;have hml:m<x.users.length:=(by simpa using hm);by_cases hkm:k=m
   ·subst hkm;rw[List.getElem_set_self];exact LiveU.reads (cR _ _ _ _ _ (hup A2 C2 (by omega) (.inl (by omega))) hy) (by omega)
   ·rw[List.getElem_set_ne hkm];have hu:=u6 m _ (aQ hml);have:=hcutU (bI m);have:=hcutU (show m+1<=x.users.length from hml);have:=hcut (show i+1<=l.length from hil);have:=hcut (bI i);exact LiveU.reads (cR _ _ _ _ _ (hup _ _ (by omega) (.inl (by omega))) hu) (by omega)
 ·rw[List.getElem_set_ne hij];have hu:=h6 j _ (aQ hjl);have:=hcut (show j+1<=l.length from hjl);have hd:g<cut j\/cut (j+1)<=g:=by
   rcases Nat.lt_or_ge i j with h|h
   ·have:=hcut (show i+1<=j from h);have:=hcutU (bI x.users.length);exact .inl (by omega)
   ·have:=hcut (show j+1<=i by omega);exact .inr (by omega)
  have:=hcut (bI j);exact LiveH.reads (bW _ _ _ _ _ (hup _ _ (by omega) hd) hu) (by omega)
theorem em {x y:aN} (h:bD x=bD y):x.name=y.name:=congrArg Prod.fst h
theorem dM {x y:aN} (h:bD x=bD y):x.users.map cY=y.users.map cY:=congrArg Prod.snd h
theorem dA {α β:Type} {f:α->β} {l m:List α} (h:l.map f=m.map f) {i:Nat} {x:α} (hx:l[i]?=some x):∃ y,m[i]?=some y/\f y=f x:=by
 have h1:(m.map f)[i]?=some (f x):=by rw[<-h,List.getElem?_map,hx];rfl
 rw[List.getElem?_map] at h1;obtain⟨y,hy,e⟩:=Option.map_eq_some_iff.1 h1;exact⟨y,hy,e⟩
theorem ir {x y:aN} {u z:bk} {s:List UInt8} (h1:x.name=y.name) (h2:cY u=cY z) (h:jM x s u):jM y s z:=by have:u.name=z.name:=congrArg Prod.fst h2;unfold jM at h ⊢;rw[<-h1,<-this];exact h
theorem NoU.same {l m:List aN} {s:List UInt8} (h:l.map bD=m.map bD) (hn:NoU l s):NoU m s:=fun x hx u hu ha=>by obtain⟨i,hi,rfl⟩:=List.getElem_of_mem hx;obtain⟨y,hy,e⟩:=dA h.symm (aQ hi);obtain⟨k,hk,rfl⟩:=List.getElem_of_mem hu;obtain⟨z,hz,ez⟩:=dA (dM e).symm (aQ hk);exact hn y (fA hy) z (fA hz) (ir (em e).symm ez.symm ha)
theorem FirstU.same {l m:List aN} {s:List UInt8} {i k:Nat} {x:aN} {u:bk} (h:l.map bD=m.map bD) (hf:FirstU l s i k x u):∃ y z,FirstU m s i k y z/\bD y=bD x/\cY z=cY u:=by
 obtain⟨y,hy,e⟩:=dA h hf.host;obtain⟨z,hz,ez⟩:=dA (dM e).symm hf.user;refine⟨y,z,⟨hy,hz,ir (em e).symm ez.symm hf.is,fun i' h' hi' hh' u' hu' ha=>?_,fun k' u' hk' hu' ha=>?_⟩,e,ez⟩
 ·obtain⟨y',hy',e'⟩:=dA h.symm hh';obtain⟨q,hq,rfl⟩:=List.getElem_of_mem hu';obtain⟨z',hz',ez'⟩:=dA (dM e').symm (aQ hq);exact hf.ahead i' y' hi' hy' z' (fA hz') (ir (em e').symm ez'.symm ha)
 ·obtain⟨z',hz',ez'⟩:=dA (dM e) hu';exact hf.before k' z' hk' hz' (ir (em e) ez'.symm ha)
def zk (hs:List aN) (i k:Nat) (h:aN) (u0 u:bk):List (List UInt8 × List (List UInt8 × List UInt8 × List bj × List (List UInt8))):=(hs.map bD).set i (h.name,(h.users.map cY).set k (u0.name,u.pw,u.items.map (·.1),u.pend))
def AR (hs:List aN) (s:List UInt8) (u:bk) (w:World) (e:Ending) (w':World):Prop:=
 Below w.heap.size w w'/\∃ A n c l',ReadH w' (.slice A n c) l'/\((NoU hs s/\e=.returned (.tuple #[.agg #[.slice A n c],.bool false])/\l'.map bD=hs.map bD) \/
  ∃ i k h u0,FirstU hs s i k h u0/\e=.returned (.tuple #[.agg #[.slice A n c],.bool true])/\l'.map bD=zk hs i k h u0 u)
theorem Ao {x y:bk} (h:cY x=cY y) (hs:nZ x):nZ y:=by
 have e1:x.name=y.name:=congrArg Prod.fst h;have e2:x.pw=y.pw:=congrArg (fun z=>z.2.1) h;have e3:x.items.map (·.1)=y.items.map (·.1):=congrArg (fun z=>z.2.2.1) h;have e4:x.pend=y.pend:=congrArg (fun z=>z.2.2.2) h;refine⟨by rw[<-e1];exact hs.name,by rw[<-e2];exact hs.pw,?_,fun p hp=>?_,by rw[<-e4];exact hs.pend,fun t ht=>hs.eachP t (by rw[e4];exact ht)⟩
 ·have:=congrArg List.length e3;rw[cr,cr] at this;rw[<-this];exact hs.items
 ·have:p.1∈x.items.map (·.1):=(by rw[e3];exact List.mem_map_of_mem hp);obtain⟨q,hq,e⟩:=List.mem_map.1 this;rw[<-e];exact hs.eachI q hq
theorem An {x y:aN} (h:bD x=bD y) (hs:gS x):gS y:=by
 have e2:=dM h;refine⟨by rw[<-em h];exact hs.name,?_,fun u hu=>?_⟩
 ·have:=congrArg List.length e2;rw[cr,cr] at this;rw[<-this];exact hs.users
 ·have:cY u∈x.users.map cY:=(by rw[e2];exact List.mem_map_of_mem hu);obtain⟨q,hq,e⟩:=List.mem_map.1 this;exact Ao e (hs.each q hq)
theorem x9 {l m:List aN} (h:l.map bD=m.map bD) (hs:∀ x∈l,gS x):∀ x∈m,gS x:=fun x hx=>by
 have:bD x∈l.map bD:=by rw[h];exact List.mem_map_of_mem hx
 obtain⟨q,hq,e⟩:=List.mem_map.1 this;exact An e (hs q hq)
theorem yh (v:Value) (hs:List aN) (s:List UInt8) (u:bk) (w:World) (hR:ReadH w v hs) (hl:hs.length<=1000000) (hs2:∀ h∈hs,gS h) (hsl:s.length<=1000000000) (hU:InU w u) (hsu:nZ u):
 Calls Tryz.prog 15 #[.agg #[v],.string (ae s),.agg (ao u).toArray] w fun e w'=>AR hs s u w e w':=by
 obtain⟨va,vn,vc,rfl⟩:∃ a n c,v=.slice a n c:=by obtain⟨⟨A,cap,hv,_⟩,_⟩:=hR;exact⟨A,_,cap,hv⟩
 -- the boxes
 obtain⟨W1,hW1⟩:=ac (w.alloc (.cells #[.slice va vn vc] 24));obtain⟨sb,hsb⟩:=ac w.heap.size;obtain⟨W2,hW2⟩:=ac (W1.alloc (.cells (ao u).toArray 28));obtain⟨ub,hub⟩:=ac (sb+1);obtain⟨W3,hW3⟩:∃ W2',W2.alloc (.cells #[.slice none 0 0] 24)=W2':=⟨_,rfl⟩;obtain⟨rb,hrb⟩:=ac (ub+1);have hs1:W1.heap.size=ub:=by rw[<-hW1,World.size_alloc,hsb,hub]
 have hs22:W2.heap.size=rb:=by rw[<-hW2,World.size_alloc,hs1,hrb]
 have k1:Bk W1 sb 24 #[.slice va vn vc]:=by rw[<-hW1,<-hsb];exact Bk.new _ _ _
 have k2:Bk W2 ub 28 (ao u).toArray:=by rw[<-hW2,<-hs1];exact Bk.new _ _ _
 have k13:Bk W3 sb 24 #[.slice va vn vc]:=by rw[<-hW3,<-hW2];exact(k1.alloc _).alloc _
 have k23:Bk W3 ub 28 (ao u).toArray:=by rw[<-hW3];exact k2.alloc _
 have R3:Hid (Bk W3 rb 24 #[.slice none 0 0]):=by rw[<-hW3,<-hs22];exact Bk.new _ _ _
 have B3:Hid (Below w.heap.size w W3):=by rw[<-hW3,<-hW2,<-hW1];exact((bp _ _).alloc (by rw[World.size_alloc];omega) _).alloc (by rw[World.size_alloc,World.size_alloc];omega) _
 have HRW:Hid (w.heap.size<=rb/\sb<ub/\ub<rb/\rb<W3.heap.size):=⟨by omega,by omega,by omega,R3.out.lt⟩;have HEA:=aa (mT (.slice va vn vc) hs W3 (hR.upon B3.out) hl hs2);have HSM:=aa hs2;have HUB:=aa k23;have HAT:Hid (∀ W A n c l',Below w.heap.size w W->ReadH W (.slice A n c) l'->l'.map bD=hs.map bD->Calls Tryz.prog 31 #[.agg #[.slice A n c],.string (ae s)] W fun e w'=>AtV l' s W e w'):=fun W A n c l' _ hr hp=>by
  have hlen:l'.length=hs.length:=by have:=congrArg List.length hp;rwa [cr,cr] at this
  have hsm:=x9 hp.symm hs2;exact sT (.slice A n c) l' s W hr (by omega) (fun h hh=>⟨(hsm h hh).users,(hsm h hh).name⟩) hsl
 have HOU:Hid (∀ W,Below w.heap.size w W->Calls Tryz.prog 32 #[.agg (ao u).toArray] W fun e w'=>∃ y,e=.returned (.agg (ao y).toArray)/\lR cY LiveU W.heap.size w'.heap.size w' u y/\Below W.heap.size W w'):=fun W hW=>fr u W (hU.upon hW) hsu
 have c0:W3.cell? ⟨sb,0,none⟩=some (.slice va vn vc):=k13.cell 0;have HW1:=aa hW1;have HW2:=aa hW2;have HW3:=aa hW3;have HSB:=aa hsb;have HBU:=aa hub;have HRB:=aa hrb;obtain⟨S,hS⟩:=ac (ae s);rw[hS] at HAT ⊢;have HUU:Hid (∃ X M A n c D m d,(ao u).toArray=#[.string X,.string M,.slice A n c,.slice D m d]):=⟨_,_,_,_,_,_,_,_,rfl⟩;obtain⟨X,M,UA,Un,Uc,UD,Um,Ud,hue⟩:=HUU.out;rw[hue] at HW2 HUB HOU ⊢;clear hW1 hW2 hW3 hsb hub hrb hs1 hs22 k1 k2 k13 k23 hR hl hs2 hsl hS hU hsu HUU hue;go_enter Tryz.func15,Tryz.ntmps15;go_upto_region 1 with fail
 (try rw[HW1.out]);(try rw[HSB.out]);(try rw[HBU.out]);(try rw[HW2.out]);(try rw[HRB.out]);(try rw[HW3.out]);go_wp2_with fail
 refine HEA.out.mono ?_;rintro e w4 ⟨A,c,l',rfl,hpl,hlive,b34⟩;obtain⟨n,hn⟩:=ac hs.length;rw[hn] at hlive ⊢;have B4:Hid (Below w.heap.size w w4):=B3.out.trans (b34.mono B3.out.size);have R4:=aa (R3.out.below b34 R3.out.lt);have U4:=aa (HUB.out.below b34 HUB.out.lt);have HPL:=aa hpl;have HLV:=aa hlive;obtain⟨W5,hW5⟩:=ac (w4.alloc (.cells #[.slice none 0 0] 24));obtain⟨tb,htb⟩:=ac w4.heap.size;have K5:Hid (Bk W5 tb 24 #[.slice none 0 0]):=by rw[<-hW5,<-htb];exact Bk.new _ _ _
 have b5:Below w4.heap.size w4 W5:=by rw[<-hW5];exact bp _ _
 have HTW:Hid (w4.heap.size<=tb):=by rw[<-htb];exact aq _
 have y0:W5.cell? ⟨tb,0,none⟩=some (.slice none 0 0):=K5.out.cell 0;have yf0:W5.frozen? ⟨tb,0,none⟩=false:=K5.out.free 0;have K6:=aa (dH K5.out (.slice A n c));have B46:=aa (bV b5 HTW.out (.slice A n c));obtain⟨w6,hw6⟩:=ac (cM W5 tb (.slice A n c));rw[hw6] at K6 B46;have B6:Hid (Below w.heap.size w w6):=B4.out.trans (B46.out.mono B4.out.size);have L6:Hid (LiveS W3.heap.size w4.heap.size w6 (.slice A n c) l'):=LiveR.upto bW HLV.out (cO B46.out (aq _));have R6:=aa (R4.out.below B46.out R4.out.lt);have U6:=aa (U4.out.below B46.out U4.out.lt);have HA6:=aa (HAT.out w6 A n c l' B6.out (LiveS.reads L6.out B46.out.size) HPL.out);have HSZ:Hid (w.heap.size<=W3.heap.size/\W3.heap.size<=w4.heap.size/\w4.heap.size<=w6.heap.size/\w4.heap.size<=tb):=⟨B3.out.size,b34.size,B46.out.size,HTW.out⟩;clear hpl hlive b34 b5 hn c0 HEA HAT;go_upto_region 2 with fail
 (try rw[hw6]);clear hW5 hw6 y0 yf0 htb;have d0:w6.cell? ⟨tb,0,none⟩=some (.slice A n c):=K6.out.cell 0;go_wp2_with fail
 refine HA6.out.mono ?_;rintro e w7 ⟨b7,h7⟩;have B7:Hid (Below w.heap.size w w7):=B6.out.trans (b7.mono B6.out.size);have K7:=aa (K6.out.below b7 K6.out.lt);have R7:=aa (R6.out.below b7 R6.out.lt);have U7:=aa (U6.out.below b7 U6.out.lt);have L7:Hid (LiveS W3.heap.size w4.heap.size w7 (.slice A n c) l'):=LiveR.upto bW L6.out (cO b7 HSZ.out.2.2.1);have HS67:Hid (w6.heap.size<=w7.heap.size/\tb<w7.heap.size/\rb<w7.heap.size):=⟨b7.size,K7.out.lt,R7.out.lt⟩;clear b7 d0 HA6;have d0:w7.cell? ⟨tb,0,none⟩=some (.slice A n c):=K7.out.cell 0;rcases h7 with ⟨hno,rfl⟩|⟨i,k,h,u0,b,off,un,uc,hf,huv,rfl⟩
 ·have HNO:=aa (NoU.same HPL.out hno);have r0:w7.cell? ⟨rb,0,none⟩=some (.slice none 0 0):=R7.out.cell 0;have g0:w7.frozen? ⟨rb,0,none⟩=false:=R7.out.free 0;have R8:=aa (dH R7.out (.slice A n c));have B8:=aa (bV B7.out HRW.out.1 (.slice A n c));have L8:Hid (LiveS W3.heap.size w4.heap.size (cM w7 rb (.slice A n c)) (.slice A n c) l'):=LiveR.upto bW L7.out (fun q hq _=>aL rb [.slice A n c] 0 w7 q (by have:=HRW.out.2.2.2;omega));have HZ8:Hid ((cM w7 rb (.slice A n c)).heap.size=w7.heap.size):=bh rb [.slice A n c] 0 w7;obtain⟨w8,hw8⟩:=ac (cM w7 rb (.slice A n c));rw[hw8] at R8 B8 L8 HZ8;clear hno;(go_wp2_with fail);(try rw[hw8]);have j0:w8.cell? ⟨rb,0,none⟩=some (.slice A n c):=R8.out.cell 0;refine bodyPost_ret (v:=.tuple #[.agg #[.slice A n c],.bool false]) (by simp[results,Tryz.results15,go_sem,j0]) rfl ?_;exact⟨B8.out,A,n,c,l',LiveS.reads L8.out (by rw[HZ8.out];have:=HSZ.out;have:=HS67.out;omega),.inl ⟨HNO.out,rfl,HPL.out⟩⟩
 ·have HF:=aa hf
  -- where it stands
  obtain⟨AA,capA,hvA,hcA⟩:=L7.out;have hil:=(cD hf.host).1;obtain⟨G,cut,_,f1,f2,f3,f4,f5,f6⟩:=hcA (by omega);obtain⟨AU,capU,hvU,hcU⟩:=f6 i h hf.host;have hkl:=(cD hf.user).1;obtain⟨g',cutU,hau,u1,u2,u3,u4,u5,_⟩:=hcU (by omega);rw[huv] at hvU;have e0:sl (some ⟨b,off,none⟩,un,uc)=.slice (some ⟨b,off,none⟩) un uc:=rfl;rw[e0] at hvU;injection hvU with v1 v2 v3;rw[hau] at v1;injection v1 with v1;injection v1 with v1 v4;subst v1 v4;have HUV:=aa huv;have HROW:=aa u2;have hgC:b<w4.heap.size:=by have:=bT u4 (bI h.users.length);have:=bT f4 (show i+1<=l'.length from hil);omega
  have hgA:W3.heap.size<=b:=(by have:=bT f4 (bI i);omega);have HG:Hid (W3.heap.size<=b/\b<w4.heap.size/\b≠tb/\b≠rb/\b<w7.heap.size):=⟨hgA,hgC,by have:=HSZ.out;omega,by have:=HRW.out;omega,by have:=HSZ.out;have:=HS67.out;omega⟩;obtain⟨P,hP⟩:=ac (0+k*4);have hPk:k*4=P:=(by omega);have HPK:=aa hPk;rw[hP];have hcell:=(fun cc q (hq:(ao u0)[cc]?=some q)=>(u2.cell hf.user hq).1);have hcellF:=(fun cc q (hq:(ao u0)[cc]?=some q)=>(u2.cell hf.user hq).2);rw[hPk] at hcell hcellF;have HSU0:Hid (u0.name=u0.name):=rfl;obtain⟨NM,hNM⟩:=ac (ae u0.name);have HNM:=aa hNM;have p0:w7.cell? ⟨b,P,none⟩=some (.string NM):=(by rw[<-hNM];exact hcell 0 _ rfl);have HC7:Hid (∀ W,Below w7.heap.size w7 W->∀ cc,cc<4->(∃ q,W.cell? ⟨b,P+cc,none⟩=some q)/\W.frozen? ⟨b,P+cc,none⟩=false):=(fun W hW cc hcc=>by have hr:=u2.below hW;have:=hr.cell hf.user (c:=cc) (aQ (show cc<(ao u0).length from hcc));rw[hPk] at this;exact⟨⟨_,this.1⟩,this.2⟩);have m0:w7.cell? ⟨ub,0,none⟩=some (.string X):=U7.out.cell 0;have m1:w7.cell? ⟨ub,1,none⟩=some (.string M):=U7.out.cell 1;have m2:w7.cell? ⟨ub,2,none⟩=some (.slice UA Un Uc):=U7.out.cell 2;have m3:w7.cell? ⟨ub,3,none⟩=some (.slice UD Um Ud):=U7.out.cell 3;have HO7:=aa (HOU.out w7 B7.out);clear hf hvA hil hcA f1 f2 f3 f4 f5 f6 hcU hkl hau u1 u2 u3 u4 u5 e0 v2 v3 hcell hcellF hNM hgC hgA huv d0 HOU;(go_wp2_with fail);refine HO7.out.mono ?_;rintro e w8 ⟨y,rfl,⟨hpy,hly⟩,b8⟩;have B8:Hid (Below w.heap.size w w8):=B7.out.trans (b8.mono B7.out.size);have K8:=aa (K7.out.below b8 K7.out.lt);have R8:=aa (R7.out.below b8 R7.out.lt);have L8:Hid (LiveS W3.heap.size w4.heap.size w8 (.slice A n c) l'):=LiveR.upto bW L7.out (cO b8 (by have:=HSZ.out;have:=HS67.out;omega));have ROW8:=aa (HROW.out.below b8);have HC8:=aa (HC7.out w8 b8);have HPY:=aa hpy;have HLY:=aa hly;have HS78:Hid (w7.heap.size<=w8.heap.size):=b8.size;clear p0 m0 m1 m2 m3 b8 hpy hly HO7 HC7;obtain⟨y',hyy⟩:∃ y',y=y':=⟨_,rfl⟩;have HYY:=aa hyy;rw[hyy];clear hyy;obtain⟨yj,ym,yis,⟨A2,n2,c2⟩,yps,⟨D2,m2,d2⟩⟩:=y';obtain⟨YX,hYX⟩:=ac (ae yj);obtain⟨YM,hYM⟩:=ac (ae ym);have ey:ao (⟨yj,ym,yis,⟨A2,n2,c2⟩,yps,⟨D2,m2,d2⟩⟩:bk)=[.string YX,.string YM,.slice A2 n2 c2,.slice D2 m2 d2]:=(by rw[<-hYX,<-hYM];rfl);have HEY:Hid (ao y=[.string YX,.string YM,.slice A2 n2 c2,.slice D2 m2 d2]):=(by unfold Hid;rw[HYY.out];exact ey);rw[ey]
  -- the user as it stands behind
  obtain⟨z,hz⟩:∃ z:bk,z=⟨u0.name,y.pw,y.items,y.iv,y.pend,y.pv⟩:=⟨_,rfl⟩;have HEZ:Hid (ao z=(ao y).set 0 (.string NM)):=(by unfold Hid;rw[hz,<-HNM.out];rfl);have HLZ:Hid (LiveU w7.heap.size w8.heap.size w8 z):=(by unfold Hid;rw[hz];exact HLY.out);have HPZ:Hid (cY z=(u0.name,u.pw,u.items.map (·.1),u.pend)):=(by have e2:y.pw=u.pw:=congrArg (fun z=>z.2.1) HPY.out;have e3:y.items.map (·.1)=u.items.map (·.1):=congrArg (fun z=>z.2.2.1) HPY.out;have e4:y.pend=u.pend:=congrArg (fun z=>z.2.2.2) HPY.out;unfold Hid cY;rw[hz];simp only;rw[e2,e3,e4]);clear ey hYX hYM hz;obtain⟨w9,hw9⟩:=ac ((w8.setCells b P [.string YX,.string YM,.slice A2 n2 c2,.slice D2 m2 d2]).setCell ⟨b,P,none⟩ (.string NM));have HW9:=aa hw9;have HOT:Hid (∀ q,q≠b->w9.heap[q]?=w8.heap[q]?):=(fun q hq=>by rw[<-hw9,Below.heap_setCell _ ⟨b,P,none⟩ _ q (fun e=>hq e)];exact aL b _ _ _ q hq);have HZ9:Hid (w9.heap.size=w8.heap.size):=(by rw[<-hw9,World.size_setCell];exact bh b _ _ _);have B9:Hid (Below w.heap.size w w9):=(by rw[<-hw9];have hwb:w.heap.size<=b:=(by have:=HG.out.1;have:=HSZ.out.1;omega);exact(cN b hwb [.string YX,.string YM,.slice A2 n2 c2,.slice D2 m2 d2] P w8 B8.out).setCell (p:=⟨b,P,none⟩) hwb _);have K9:Hid (Bk w9 tb 24 #[.slice A n c]):=(by have:=K8.out;unfold Bk at this;unfold Hid Bk;rw[HOT.out tb (by have:=HG.out;omega)];exact this);have R9b:Hid (Bk w9 rb 24 #[.slice none 0 0]):=(by have:=R8.out;unfold Bk at this;unfold Hid Bk;rw[HOT.out rb (by have:=HG.out;omega)];exact this);have s0:∃ q,w8.cell? ⟨b,P,none⟩=some q:=(HC8.out 0 (by decide)).1;obtain⟨q0,s0⟩:=s0;have sf0:w8.frozen? ⟨b,P,none⟩=false:=(HC8.out 0 (by decide)).2;obtain⟨q1,s1⟩:=(HC8.out 1 (by decide)).1;have sf1:w8.frozen? ⟨b,P+1,none⟩=false:=(HC8.out 1 (by decide)).2;obtain⟨q2,s2⟩:=(HC8.out 2 (by decide)).1;have sf2:w8.frozen? ⟨b,P+2,none⟩=false:=(HC8.out 2 (by decide)).2;obtain⟨q3,s3⟩:=(HC8.out 3 (by decide)).1;have sf3:w8.frozen? ⟨b,P+3,none⟩=false:=(HC8.out 3 (by decide)).2;(go_upto_region 8 with fail);have hw9b:(((((w8.setCell ⟨b,P,none⟩ (.string YX)).setCell ⟨b,P+1,none⟩ (.string YM)).setCell ⟨b,P+2,none⟩ (.slice A2 n2 c2)).setCell ⟨b,P+3,none⟩ (.slice D2 m2 d2)).setCell ⟨b,P,none⟩ (.string NM))=w9:=hw9;rw[hw9b];clear hw9 hw9b s0 sf0 s1 sf1 s2 sf2 s3 sf3;have d0:w9.cell? ⟨tb,0,none⟩=some (.slice A n c):=K9.out.cell 0;have r0:w9.cell? ⟨rb,0,none⟩=some (.slice none 0 0):=R9b.out.cell 0;have g0:w9.frozen? ⟨rb,0,none⟩=false:=R9b.out.free 0;have RX:=aa (dH R9b.out (.slice A n c));have BX:=aa (bV B9.out HRW.out.1 (.slice A n c));have RHX:Hid (ReadH (cM w9 rb (.slice A n c)) (.slice A n c) (l'.set i ⟨h.name,h.users.set k z,h.uv⟩)):=by
   refine wV L8.out (by have:=HSZ.out;have:=HS67.out;have:=HS78.out;omega) HF.out.host HF.out.user HLZ.out (by have:=HSZ.out;have:=HS67.out;omega) (aq _) HUV.out (fun q hq hA=>?_) ((bh rb [.slice A n c] 0 w9).trans HZ9.out) fun us hr hu=>?_
   ·have h1:=HRW.out;exact(aL rb [.slice A n c] 0 w9 q (by omega)).trans (HOT.out q hq)
   have hr1:=hr.put (fun _=>rfl) k y;rw[HPK.out,HEY.out] at hr1;have hul:=(cD hu).1;have hr2:=hr1.put1 k 0 (by decide) y z (.string NM) (List.getElem?_set_self hul) (fun _=>rfl) HEZ.out;rw[List.set_set,HPK.out,Nat.add_zero,HW9.out] at hr2;exact hr2.same (aL rb [.slice A n c] 0 w9 b (by have:=HG.out;omega))
  obtain⟨wx,hwx⟩:=ac (cM w9 rb (.slice A n c));rw[hwx] at RX BX RHX;(go_wp2_with fail);(try rw[hwx]);have j0:wx.cell? ⟨rb,0,none⟩=some (.slice A n c):=RX.out.cell 0;refine bodyPost_ret (v:=.tuple #[.agg #[.slice A n c],.bool true]) (by simp[results,Tryz.results15,go_sem,j0]) rfl ?_;obtain⟨h1,z1,hf1,he1,ez1⟩:=FirstU.same HPL.out HF.out;refine⟨BX.out,A,n,c,_,RHX.out,.inr ⟨i,k,h1,z1,hf1,rfl,?_⟩⟩;unfold zk;rw[List.map_set];show (l'.map bD).set i (h.name,(h.users.set k z).map cY)=_;rw[HPL.out,List.map_set,HPZ.out,em he1,dM he1];have:u0.name=z1.name:=(congrArg Prod.fst ez1).symm;rw[this]
def OwnV {α:Type} (enc:α->List Value) (k:Nat) (t:TypeId) (B:Nat) (W:World) (v:Value) (l:List α):Prop:=W.ownsRow B t k v l.length (aK enc l)
theorem fd {α:Type} (enc:α->List Value) (a b:List α):aK enc (a++b)=aK enc a++aK enc b:=by unfold aK;rw[List.flatMap_append]
theorem OwnV.nil {α:Type} {enc:α->List Value} {k:Nat} {t:TypeId} {B:Nat} {W:World}:OwnV enc k t B W (.slice none 0 0) ([]:List α):=⟨by simp[aK],.inl ⟨rfl,rfl⟩⟩
theorem OwnV.rowB {α:Type} {enc:α->List Value} {k:Nat} {t:TypeId} {B:Nat} {W:World} {v:Value} {l:List α} (h:OwnV enc k t B W v l) (hk:∀ x,(enc x).length=k) (h0:0<l.length):∃ g cap,v=.slice (some ⟨g,0,none⟩) l.length cap/\B<=g/\RowB enc k t W g l:=by
 rcases h.2 with ⟨_,h1⟩|⟨g,cap,cur,rfl,hge,hh,hnc,_,hcs,htk⟩
 ·omega
 ·refine⟨g,cap,rfl,hge,cur,hh,fun i p hp c u hu=>?_⟩;have hcl:c<k:=(by have:=(cD hu).1;rw[hk] at this;exact this);have hil:i<l.length:=(cD hp).1;have e1:=cC hk l i c p hp hcl;rw[hu] at e1;have e2:(cur.toList.take (l.length*k))[i*k+c]?=some u:=(by rw[htk];exact e1);have hlt:i*k+c<l.length*k:=(by have:=Nat.mul_le_mul_right k (show i+1<=l.length from hil);rw[Nat.add_mul,Nat.one_mul] at this;omega);rw[List.getElem?_take,if_pos hlt,Array.getElem?_toList] at e2;exact e2
theorem OwnV.row {α:Type} {enc:α->List Value} {k:Nat} {t:TypeId} {B:Nat} {W:World} {v:Value} {l:List α} (h:OwnV enc k t B W v l) (hk:∀ x,(enc x).length=k):RowV enc k W.heap.size W v l:=by
 by_cases h0:0<l.length
 ·obtain⟨g,cap,rfl,_,hr⟩:=h.rowB hk h0;exact hr.row hr.lt _ cap rfl
 ·obtain rfl:l=[]:=eB (by omega);rcases h.2 with ⟨rfl,_⟩|⟨g,cap,cur,rfl,_⟩
  ·exact⟨none,0,rfl,fun h=>absurd h (by simp)⟩
  ·exact⟨_,cap,rfl,fun h=>absurd h (by simp)⟩
theorem OwnV.slice {α:Type} {enc:α->List Value} {k:Nat} {t:TypeId} {B:Nat} {W:World} {v:Value} {l:List α} (h:OwnV enc k t B W v l):∃ A cap,v=.slice A l.length cap:=by
 rcases h.2 with ⟨rfl,h0⟩|⟨g,cap,cur,rfl,_⟩
 ·rw[h0];exact⟨none,0,rfl⟩
 ·exact⟨_,cap,rfl⟩
theorem OwnV.same {α:Type} {enc:α->List Value} {k:Nat} {t:TypeId} {B:Nat} {W W':World} {v:Value} {l:List α} (h:OwnV enc k t B W v l) (hb:∀ g,v.ownBlock=some g->W'.heap[g]?=W.heap[g]?):OwnV enc k t B W' v l:=by
 refine⟨h.1,?_⟩;rcases h.2 with h1|⟨g,cap,cur,rfl,hge,hh,h3⟩
 ·exact .inl h1
 ·exact .inr ⟨g,cap,cur,rfl,hge,by rw[hb g rfl];exact hh,h3⟩
theorem OwnV.below {α:Type} {enc:α->List Value} {k:Nat} {t:TypeId} {B:Nat} {W W':World} {v:Value} {l:List α} (h:OwnV enc k t B W v l) (hb:Below W.heap.size W W'):OwnV enc k t B W' v l:=h.same fun g hg=>hb.block g (World.ownsRow.lt h g hg).2
theorem zC {o:Oper} {a:Act} {Q:Exit->Act->World->Prop} {KK:Act->World->Prop} (s x:Operand) (ho:o.op=.call { callee:=.builtin .append,args:=#[s,x],argTypes:=#[25,25] })
 (B:Nat) (v:Value) (ad:Addr) (xs:List (bj × bB)) (y:bj × bB) (W:World) (hB:B<=W.heap.size) (hs:a.eval s=v) (hown:OwnV az 6 53 B W v xs) (hx:a.eval x=.slice (some ad) 1 1)
 (hy:∀ j u,(az y)[j]?=some u->W.cell? (ad.add j)=some u) (hn:xs.length<=1000000000)
 (h:∀ v' w',OwnV az 6 53 B w' v' (xs++[y])->Below B W w'->(∀ q,q<W.heap.size->some q≠v.ownBlock->w'.heap[q]?=W.heap[q]?)->KK (a.put o.dst v') w'):Oper.wp Tryz.prog o a W KK Q:=by
 obtain⟨i0,hi,hz0,hz1,hz2⟩:=info_parts qZ;have hown':W.ownsRow B 53 6 v xs.length (aK az xs):=hown;have e1:aK az [y]=az y:=by simp[aK]
 refine wp_append_own _ s x 25 ho B 53 i0 _ 6 72 Tryz.underlying25 hi hz0 hz1 hz2 rfl (by decide) v xs.length (aK az xs) hs hown' ad 1 1 (az y) hx rfl ?_ (zG y) ?_ (by omega) hB ?_
 ·intro j u hj;exact hy j u hj
 ·unfold maxLen;omega
 ·intro v' w' h1 hg _;refine h v' w' ?_ ((aE _ _).grown hg hB (fun j hj=>(World.ownsRow.lt hown' j hj).1)) (fun q hq hne=>hg.block q hq hne);unfold OwnV;rw[fd,e1,de];exact h1
theorem vf {ops:Array Oper} {o:Oper} {a:Act} {Q:Exit->Act->World->Prop} {KK:Act->World->Prop} {E:Prop} (hgd:o.guard=none) (s x:Operand) (ho:o.op=.call { callee:=.builtin .append,args:=#[s,x],argTypes:=#[45,45] })
 (B:Nat) (v:Value) (ad:Addr) (xs:List (bk)) (y:bk) (w0 W:World) (hW:Below B w0 W) (hB:B<=w0.heap.size) (hs:a.eval s=v) (hown:OwnV ao 4 28 B W v xs) (hx:a.eval x=.slice (some ad) 1 1)
 (hy:∀ j u,(ao y)[j]?=some u->W.cell? (ad.add j)=some u) (hn:xs.length<=1000000000)
 (h:∀ v' w',OwnV ao 4 28 B w' v' (xs++[y])->Below B w0 w'->(∀ q,q<W.heap.size->some q≠v.ownBlock->w'.heap[q]?=W.heap[q]?)->KK (a.put o.dst v') w'):if Region.wanted o (yielded ops a.tmps)=true then Oper.wp Tryz.prog o a W KK Q else E:=by
 rw[if_pos (by simp[Region.wanted,hgd])];obtain⟨i0,hi,hz0,hz1,hz2⟩:=info_parts q7;have hown':W.ownsRow B 28 4 v xs.length (aK ao xs):=hown;have hsW:B<=W.heap.size:=co hB hW.size;have e1:aK ao [y]=ao y:=by simp[aK]
 refine wp_append_own _ s x 45 ho B 28 i0 _ 4 80 Tryz.underlying45 hi hz0 hz1 hz2 rfl (by decide) v xs.length (aK ao xs) hs hown' ad 1 1 (ao y) hx rfl ?_ (xz y) ?_ (by omega) hsW ?_
 ·intro j u hj;exact hy j u hj
 ·unfold maxLen;omega
 ·intro v' w' h1 hg _;refine h v' w' ?_ (hW.grown hg hsW (fun j hj=>(World.ownsRow.lt hown' j hj).1)) (fun q hq hne=>hg.block q hq hne);unfold OwnV;rw[fd,e1,de];exact h1
theorem ve {ops:Array Oper} {o:Oper} {a:Act} {Q:Exit->Act->World->Prop} {KK:Act->World->Prop} {E:Prop} (hgd:o.guard=none) (s x:Operand) (ho:o.op=.call { callee:=.builtin .append,args:=#[s,x],argTypes:=#[22,22] })
 (B:Nat) (v:Value) (ad:Addr) (xs:List (aN)) (y:aN) (w0 W:World) (hW:Below B w0 W) (hB:B<=w0.heap.size) (hs:a.eval s=v) (hown:OwnV aw 2 47 B W v xs) (hx:a.eval x=.slice (some ad) 1 1)
 (hy:∀ j u,(aw y)[j]?=some u->W.cell? (ad.add j)=some u) (hn:xs.length<=1000000000)
 (h:∀ v' w',OwnV aw 2 47 B w' v' (xs++[y])->Below B w0 w'->(∀ q,q<W.heap.size->some q≠v.ownBlock->w'.heap[q]?=W.heap[q]?)->KK (a.put o.dst v') w'):if Region.wanted o (yielded ops a.tmps)=true then Oper.wp Tryz.prog o a W KK Q else E:=by
 rw[if_pos (by simp[Region.wanted,hgd])];obtain⟨i0,hi,hz0,hz1,hz2⟩:=info_parts nc;have hown':W.ownsRow B 47 2 v xs.length (aK aw xs):=hown;have hsW:B<=W.heap.size:=co hB hW.size;have e1:aK aw [y]=aw y:=by simp[aK]
 refine wp_append_own _ s x 22 ho B 47 i0 _ 2 40 Tryz.underlying22 hi hz0 hz1 hz2 rfl (by decide) v xs.length (aK aw xs) hs hown' ad 1 1 (aw y) hx rfl ?_ (sO y) ?_ (by omega) hsW ?_
 ·intro j u hj;exact hy j u hj
 ·unfold maxLen;omega
 ·intro v' w' h1 hg _;refine h v' w' ?_ (hW.grown hg hsW (fun j hj=>(World.ownsRow.lt hown' j hj).1)) (fun q hq hne=>hg.block q hq hne);unfold OwnV;rw[fd,e1,de];exact h1
theorem zB {o:Oper} {a:Act} {Q:Exit->Act->World->Prop} {KK:Act->World->Prop} (s x:Operand) (ho:o.op=.call { callee:=.builtin .append,args:=#[s,x],argTypes:=#[22,22] })
 (B:Nat) (v:Value) (ad:Addr) (xs:List (aN)) (y:aN) (W:World) (hB:B<=W.heap.size) (hs:a.eval s=v) (hown:OwnV aw 2 47 B W v xs) (hx:a.eval x=.slice (some ad) 1 1)
 (hy:∀ j u,(aw y)[j]?=some u->W.cell? (ad.add j)=some u) (hn:xs.length<=1000000000)
 (h:∀ v' w',OwnV aw 2 47 B w' v' (xs++[y])->Below B W w'->(∀ q,q<W.heap.size->some q≠v.ownBlock->w'.heap[q]?=W.heap[q]?)->KK (a.put o.dst v') w'):Oper.wp Tryz.prog o a W KK Q:=by
 obtain⟨i0,hi,hz0,hz1,hz2⟩:=info_parts nc;have hown':W.ownsRow B 47 2 v xs.length (aK aw xs):=hown;have e1:aK aw [y]=aw y:=by simp[aK]
 refine wp_append_own _ s x 22 ho B 47 i0 _ 2 40 Tryz.underlying22 hi hz0 hz1 hz2 rfl (by decide) v xs.length (aK aw xs) hs hown' ad 1 1 (aw y) hx rfl ?_ (sO y) ?_ (by omega) hB ?_
 ·intro j u hj;exact hy j u hj
 ·unfold maxLen;omega
 ·intro v' w' h1 hg _;refine h v' w' ?_ ((aE _ _).grown hg hB (fun j hj=>(World.ownsRow.lt hown' j hj).1)) (fun q hq hne=>hg.block q hq hne);unfold OwnV;rw[fd,e1,de];exact h1
theorem my (W:World) (B cap:Nat):ReadT B W (sl (none,0,cap)) (al []):=ReadT.nil _ _ _
def NoG (l:List (bj × bB)):Prop:=∀ p∈l,p.1.groups=[]/\p.2=(none,0,0)
theorem lk {W:World} {v:Value} {l:List (bj × bB)} (h:RowV az 6 W.heap.size W v l) (hg:NoG l):ReadI W.heap.size W v l:=ReadI.of_row h fun p hp=>by obtain⟨h1,h2⟩:=hg p hp;rw[h1,h2];exact my W _ 0
theorem ur {W:World} {v:Value} {l:List (List UInt8)} (h:RowV lU 1 W.heap.size W v l):ReadT W.heap.size W v (al l):=by have hll:(al l).length=l.length:=cr _;obtain⟨A,cap,rfl,hc⟩:=h;refine⟨A,cap,by rw[hll],fun h0=>?_⟩;obtain⟨b,off,rfl,hb,hcc⟩:=hc (by omega);refine⟨_,rfl,hb,fun i q hq=>?_⟩;obtain⟨y,hy,rfl⟩:=dC hq;have:=hcc i y hy 0 _ rfl;rw[Nat.mul_one,Nat.add_zero] at this;rw[aS];exact this
theorem j7 {α:Type} {enc:α->List Value} {k:Nat} {t:TypeId} {W:World} {g:Nat} {cs:Array Value} {l:List α} (h:Bk W g t cs) (hc:cs.toList=aK enc l) (hk:∀ x,(enc x).length=k):RowB enc k t W g l:=
 ⟨cs,h,fun i p hp c u hu=>by
  have hcl:c<k:=by have:=(cD hu).1;rw[hk] at this;exact this
  have e1:=cC hk l i c p hp hcl;rw[hu,<-hc,Array.getElem?_toList] at e1;exact e1⟩
theorem RowV.at {α:Type} {enc:α->List Value} {k:Nat} {w:World} {v:Value} {l:List α} (h:RowV enc k w.heap.size w v l):∃ A cap,v=.slice A l.length cap/\(0<l.length->∃ b off,A=some ⟨b,off,none⟩/\∀ W,Below w.heap.size w W->∀ i p,l[i]?=some p->∀ c u,(enc p)[c]?=some u->W.cell? ⟨b,off+i*k+c,none⟩=some u):=by obtain⟨A,cap,hv,hc⟩:=h;refine⟨A,cap,hv,fun h0=>?_⟩;obtain⟨b,off,ha,hb,hcc⟩:=hc h0;exact⟨b,off,ha,fun W hW i p hp c u hu=>by rw[hW.cell (p:=⟨b,off+i*k+c,none⟩) hb];exact hcc i p hp c u hu⟩
def bJ (u:bk):Nat:=5+u.name.length+u.pw.length+aR u.pend+cQ u.items
def cg (h:aN):Nat:=1+h.name.length+(h.users.map bJ).sum
def cK (hs:List aN):Nat:=(hs.map cg).sum
theorem lN {α:Type} {f:α->Nat} {l:List α} {k:Nat} {x:α} (h:l[k]?=some x):((l.take (k+1)).map f).sum=((l.take k).map f).sum+f x:=by rw[List.take_add_one,h];simp
theorem si {α:Type} (f:α->Nat) (l:List α) (k:Nat):((l.take k).map f).sum<=(l.map f).sum:=by
 conv=>rhs;rw[<-List.take_append_drop k l,List.map_append,List.sum_append]
 omega
theorem iN {α:Type} (f:α->Nat) {x:α}:∀ {l:List α},x∈l->f x<=(l.map f).sum
 | a::l,h=>by
   rw[List.map_cons,List.sum_cons];rcases List.mem_cons.1 h with rfl|h
   ·omega
   ·have:=iN f h;omega
theorem iM {α:Type} (f:α->Nat) (hf:∀ x,1<=f x):∀ l:List α,l.length<=(l.map f).sum
 |[]=>bI _
 | a::l=>by have:=iM f hf l;have:=hf a;rw[List.map_cons,List.sum_cons,List.length_cons];omega
theorem fe (l:List (List UInt8)):l.length<=aR l:=iM (fun x:List UInt8=>1+x.length) (fun _=>by omega) l
theorem jw (l:List (bj × bB)):l.length<=cQ l:=iM (fun p:bj × bB=>cI p.1) (fun _=>by unfold cI;omega) l
theorem fI (l:List bk):l.length<=(l.map bJ).sum:=iM bJ (fun _=>by unfold bJ;omega) l
theorem kO (l:List aN):l.length<=cK l:=iM cg (fun _=>by unfold cg;omega) l
theorem ff {l:List (List UInt8)} {t:List UInt8} (h:t∈l):t.length<aR l:=by have:1+t.length<=aR l:=iN (fun x:List UInt8=>1+x.length) h;omega
theorem jx {l:List (bj × bB)} {p:bj × bB} (h:p∈l):cI p.1<=cQ l:=iN (fun p:bj × bB=>cI p.1) h
theorem qQ {l:List aN} {p:aN} (h:p∈l):cg p<=cK l:=iN cg h
theorem uQ (v:Value) (hs:List aN) (w:World) (hR:ReadH w v hs) (hs2:cK hs<=100000000):
 Calls Tryz.prog 8 #[.agg #[v]] w fun e w'=>e=.returned (.bool (decide (cK hs<=20000)))/\Below w.heap.size w w':=by
 have hl:hs.length<=100000000:=co (kO hs) hs2;obtain⟨A,cap,rfl,hA⟩:=hR.1.at;have HU:=aa hR.2;obtain⟨n,hn⟩:=ac hs.length;have HN:=aa hn;rw[hn] at hA hl ⊢;have HA:=aa hA;have HSM:=aa hs2;obtain⟨W1,hW1⟩:=ac (w.alloc (.cells #[.slice A n cap] 24));obtain⟨sb,hsb⟩:=ac w.heap.size;have KS:Hid (Bk W1 sb 24 #[.slice A n cap]):=by rw[<-hW1,<-hsb];exact Bk.new _ _ _
 have B1:Hid (Below w.heap.size w W1):=by rw[<-hW1];exact bp _ _
 have HW1:=aa hW1;have HSB:=aa hsb;clear hR hA hn hs2 hW1 hsb;go_enter Tryz.func8,Tryz.ntmps8;go_upto_region 1 with fail
 (try rw[HW1.out]);(try rw[HSB.out]);go_wp2_with fail
 go_loopw [3,4,5,6,7] (fun nv iv kv uv mv wr=>∃ (u5 u6 u7:Value) (i s:Nat),nv=.int .i64 (s:Nat)/\iv=.int .i64 (i:Nat)/\kv=u5/\uv=u6/\mv=u7/\i<=n/\Hid (s=((hs.take i).map cg).sum)/\Hid (Below W1.heap.size W1 wr)) (fun _ iv _ _ _ _=>n-(intOf iv).toNat)
 case atStart=>exact⟨_,_,_,0,0,rfl,rfl,rfl,rfl,rfl,bI _,rfl,aE _ _⟩
 case round=>
  obtain⟨u5,u6,u7,i,s,rfl,rfl,hu5,hu6,hu7,hi,HSI,BW⟩:=hrel;have h5:=hu5.symm;have h6:=hu6.symm;have h7:=hu7.symm;clear hu5 hu6 hu7;subst h5 h6 h7;have BWW:Hid (Below w.heap.size w wr):=B1.out.trans (BW.out.mono B1.out.size);have cs0:wr.cell? ⟨sb,0,none⟩=some (.slice A n cap):=(KS.out.below BW.out KS.out.lt).cell 0;by_cases hin:i<n
  ·have hiz:(i:Int)<(n:Int):=(by omega);have hi00:(0:Int)<=(i:Int):=(by omega);obtain⟨hb,ho,rfl,hc⟩:=HA.out (by omega);obtain⟨h,hh⟩:∃ p,hs[i]?=some p:=⟨_,aQ (by rw[HN.out];exact hin)⟩;have hmem:h∈hs:=fA hh;have HC:=aa (fun W hW c u hu=>hc W hW i h hh c u hu);obtain⟨P,hP⟩:=ac (ho+i*2);rw[hP] at HC;have hUr:=HU.out h hmem;obtain⟨AU,cu,huv,hcU⟩:=hUr.1.at;have HUI:=aa hUr.2;have htk:((hs.take (i+1)).map cg).sum=((hs.take i).map cg).sum+cg h:=lN hh;have hle:=si cg hs (i+1);have htot:(hs.map cg).sum<=100000000:=HSM.out;have hhh:cg h=1+h.name.length+(h.users.map bJ).sum:=rfl;have hsi:=HSI.out;obtain⟨t1,ht1⟩:=ac (s+1);obtain⟨t2,ht2⟩:=ac (t1+h.name.length);have HT2:Hid (t2+(h.users.map bJ).sum=((hs.take (i+1)).map cg).sum):=(by unfold Hid;omega);have HT3:Hid (t2+(h.users.map bJ).sum<=100000000):=(by unfold Hid;omega);have hJz:((ae h.name).size:Int)=(h.name.length:Int):=(by rw[bS]);have w1:IntKind.i64.wrap ((s:Int)+1)=(t1:Int):=(by rw[aO];omega);have w2:IntKind.i64.wrap ((t1:Int)+((ae h.name).size:Int))=(t2:Int):=(by rw[hJz,aO];omega);clear ht1 ht2 htk hle htot hhh hsi hJz;have eh:aw h=[.string (ae h.name),.slice AU h.users.length cu]:=(by unfold aw;rw[huv]);obtain⟨J,hJ⟩:=ac (ae h.name);rw[hJ] at eh w2;rw[eh] at HC;obtain⟨m,hm⟩:=ac h.users.length;have HM:=aa hm;have hml:m<=100000000:=(by rw[<-hm];have:=HT3.out;have:=fI h.users;omega);rw[hm] at HC hcU;have HCU:=aa hcU;obtain⟨us,hus⟩:=ac h.users;rw[hus] at HM HCU HUI HT2 HT3;have p0:wr.cell? ⟨hb,P,none⟩=some (.string J):=HC.out wr BWW.out 0 _ rfl;have p1:wr.cell? ⟨hb,P+1,none⟩=some (.slice AU m cu):=HC.out wr BWW.out 1 _ rfl;clear hc hh hmem huv hcU eh hJ hm hUr hus;(go_wp2_with fail);clear w1 w2
   go_loopw [3,5,6,7] (fun nv kv uv mv wr2=>∃ (u6 u7:Value) (k s:Nat),nv=.int .i64 (s:Nat)/\kv=.int .i64 (k:Nat)/\uv=u6/\mv=u7/\k<=m/\Hid (s=t2+((us.take k).map bJ).sum)/\Hid (Below W1.heap.size W1 wr2)) (fun _ kv _ _ _=>m-(intOf kv).toNat)
   case atStart=>exact⟨_,_,0,t2,rfl,rfl,rfl,rfl,bI _,rfl,BW⟩
   case round=>
    clear p0 p1 BW BWW cs0 HSI;obtain⟨u6,u7,k,s,rfl,rfl,hu6,hu7,hk,HSK,BW⟩:=hrel;have h6:=hu6.symm;have h7:=hu7.symm;clear hu6 hu7;subst h6 h7;have BWW:Hid (Below w.heap.size w wr):=B1.out.trans (BW.out.mono B1.out.size);have cs0:wr.cell? ⟨sb,0,none⟩=some (.slice (some ⟨hb,ho,none⟩) n cap):=(KS.out.below BW.out KS.out.lt).cell 0;have p1:wr.cell? ⟨hb,P+1,none⟩=some (.slice AU m cu):=HC.out wr BWW.out 1 _ rfl;by_cases hkm:k<m
    ·have hkz:(k:Int)<(m:Int):=(by omega);have hk00:(0:Int)<=(k:Int):=(by omega);obtain⟨ub,uo,rfl,hcu⟩:=HCU.out (by omega);obtain⟨u,hu⟩:∃ p,us[k]?=some p:=⟨_,aQ (by rw[HM.out];exact hkm)⟩;have hmu:u∈us:=fA hu;have HCX:=aa (fun W hW c q hq=>hcu W hW k u hu c q hq);obtain⟨Q,hQ⟩:=ac (uo+k*4);rw[hQ] at HCX;have hin2:=HUI.out u hmu;have htk:((us.take (k+1)).map bJ).sum=((us.take k).map bJ).sum+bJ u:=lN hu;have hle:=si bJ us (k+1);have htot:=HT3.out;have hhu:bJ u=5+u.name.length+u.pw.length+aR u.pend+cQ u.items:=rfl;have hsk:=HSK.out;obtain⟨r1,hr1⟩:=ac (s+5);obtain⟨r2,hr2⟩:=ac (r1+u.name.length);obtain⟨r3,hr3⟩:=ac (r2+u.pw.length);obtain⟨r4,hr4⟩:=ac (r3+aR u.pend);have HR4:Hid (r4+cQ u.items=t2+((us.take (k+1)).map bJ).sum):=(by unfold Hid;omega);have HR5:Hid (r4+cQ u.items<=100000000):=(by unfold Hid;omega);have hpt:aR u.pend<=100000000:=(by omega);have hNz:((ae u.name).size:Int)=(u.name.length:Int):=(by rw[bS]);have hPz:((ae u.pw).size:Int)=(u.pw.length:Int):=(by rw[bS]);have ew1:IntKind.i64.wrap ((s:Int)+5)=(r1:Int):=(by rw[aO];omega);have ew2:IntKind.i64.wrap ((r1:Int)+((ae u.name).size:Int))=(r2:Int):=(by rw[hNz,aO];omega);have ew3:IntKind.i64.wrap ((r2:Int)+((ae u.pw).size:Int))=(r3:Int):=(by rw[hPz,aO];omega);have ew4:IntKind.i64.wrap ((r3:Int)+((aR u.pend:Nat):Int))=(r4:Int):=(by rw[aO];omega);clear hr1 hr2 hr3 hr4 htk hle htot hhu hsk hNz hPz;have HTX:Hid (∀ W,Below w.heap.size w W->Calls Tryz.prog 10 #[sl u.pv] W fun e w'=>e=.returned (.int .i64 (aR u.pend:Nat))/\Below W.heap.size W w'):=(fun W hW=>(lh (sl u.pv) u.pend W (hin2.2.upon hW) (by have:=fe u.pend;omega) (by omega)).mono fun _ _ ⟨he,hw⟩=>⟨he,by rw[hw];exact aE _ _⟩);obtain⟨IA,ic,hiv,hcI⟩:=hin2.1.row.at;have HGT:Hid (∀ p∈u.items,∀ W,Below w.heap.size w W->Calls Tryz.prog 10 #[sl p.2] W fun e w'=>e=.returned (.int .i64 (aR p.1.groups:Nat))/\Below W.heap.size W w'):=(fun p hp W hW=>by obtain⟨_,_,_,_,hT⟩:=hin2.1;have h1:=jx hp;have h2:=HR5.out;have h3:cI p.1=5+p.1.jid.length+p.1.name.length+aR p.1.groups:=rfl;exact(lh (sl p.2) p.1.groups W ((hT p hp).upon hW) (by have:=fe p.1.groups;omega) (by omega)).mono fun _ _ ⟨he,hw⟩=>⟨he,by rw[hw];exact aE _ _⟩);have hil:u.items.length<=100000000:=(by have:=HR5.out;have:=jw u.items;omega);have eu:ao u=[.string (ae u.name),.string (ae u.pw),.slice IA u.items.length ic,.slice u.pv.1 u.pv.2.1 u.pv.2.2]:=(by unfold ao;rw[hiv];rfl);have epv:sl u.pv=.slice u.pv.1 u.pv.2.1 u.pv.2.2:=rfl;rw[epv] at HTX;rw[eu] at HCX;obtain⟨X,hX⟩:=ac (ae u.name);obtain⟨M,hM⟩:=ac (ae u.pw);obtain⟨PA,hPA⟩:=ac u.pv.1;obtain⟨pn,hpn⟩:=ac u.pv.2.1;obtain⟨pc,hpc⟩:=ac u.pv.2.2;obtain⟨tx,htx⟩:=ac (aR u.pend);obtain⟨len,hlen⟩:=ac u.items.length;have HLEN:=aa hlen;rw[hX,hM,hPA,hpn,hpc,hlen] at HCX;rw[hPA,hpn,hpc,htx] at HTX;rw[hX] at ew2;rw[hM] at ew3;rw[htx] at ew4;rw[hlen] at hil hcI;have HCI:=aa hcI;obtain⟨is,his⟩:=ac u.items;rw[his] at HLEN HCI HGT HR4 HR5;have x0:wr.cell? ⟨ub,Q,none⟩=some (.string X):=HCX.out wr BWW.out 0 _ rfl;have x1:wr.cell? ⟨ub,Q+1,none⟩=some (.string M):=HCX.out wr BWW.out 1 _ rfl;have x2:wr.cell? ⟨ub,Q+2,none⟩=some (.slice IA len ic):=HCX.out wr BWW.out 2 _ rfl;have x3:wr.cell? ⟨ub,Q+3,none⟩=some (.slice PA pn pc):=HCX.out wr BWW.out 3 _ rfl;obtain⟨Wa,hWa⟩:=ac (wr.alloc (.cells #[.string ⟨#[]⟩,.string ⟨#[]⟩,.slice none 0 0,.slice none 0 0] 28));obtain⟨uc,huc⟩:=ac wr.heap.size;have KA:Hid (Bk Wa uc 28 #[.string ⟨#[]⟩,.string ⟨#[]⟩,.slice none 0 0,.slice none 0 0]):=(by rw[<-hWa,<-huc];exact Bk.new _ _ _);have BA:Below wr.heap.size wr Wa:=(by rw[<-hWa];exact bp _ _);have HUC:Hid (wr.heap.size<=uc):=(by rw[<-huc];exact aq _);have r0:Wa.cell? ⟨uc,0,none⟩=some (.string ⟨#[]⟩):=KA.out.cell 0;have g0:Wa.frozen? ⟨uc,0,none⟩=false:=KA.out.free 0;have r1:Wa.cell? ⟨uc,1,none⟩=some (.string ⟨#[]⟩):=KA.out.cell 1;have g1:Wa.frozen? ⟨uc,1,none⟩=false:=KA.out.free 1;have r2:Wa.cell? ⟨uc,2,none⟩=some (.slice none 0 0):=KA.out.cell 2;have g2:Wa.frozen? ⟨uc,2,none⟩=false:=KA.out.free 2;have r3:Wa.cell? ⟨uc,3,none⟩=some (.slice none 0 0):=KA.out.cell 3;have g3:Wa.frozen? ⟨uc,3,none⟩=false:=KA.out.free 3;have KB:=aa (bM KA.out (.string X) (.string M) (.slice IA len ic) (.slice PA pn pc));have BB0:=aa (aW BA HUC.out (.string X) (.string M) (.slice IA len ic) (.slice PA pn pc));obtain⟨Wb,hWb⟩:=ac (bP Wa uc (.string X) (.string M) (.slice IA len ic) (.slice PA pn pc));rw[hWb] at KB BB0;have BB:Hid (Below W1.heap.size W1 Wb):=BW.out.trans (BB0.out.mono BW.out.size);have BBW:Hid (Below w.heap.size w Wb):=B1.out.trans (BB.out.mono B1.out.size);clear hcu hu hmu hin2 hiv hcI eu epv hX hM hPA hpn hpc htx hlen his BA hpt HSK;(go_upto_region 10 with fail);(try rw[hWb]);clear hWa hWb huc r0 g0 r1 g1 r2 g2 r3 g3 x0 x1 x2 x3 p1 cs0;have e0:∀ p:Sy.Bel Wb,p.v.cell? ⟨uc,0,none⟩=some (.string X):=(fun p=>(KB.out.below p.h KB.out.lt).cell 0);have e1:∀ p:Sy.Bel Wb,p.v.cell? ⟨uc,1,none⟩=some (.string M):=(fun p=>(KB.out.below p.h KB.out.lt).cell 1);have e3:∀ p:Sy.Bel Wb,p.v.cell? ⟨uc,3,none⟩=some (.slice PA pn pc):=(fun p=>(KB.out.below p.h KB.out.lt).cell 3);have ht:∀ p:Sy.Bel Wb,Calls Tryz.prog 10 #[.slice PA pn pc] p.v fun e w'=>e=.returned (.int .i64 (tx:Nat))/\Below p.v.heap.size p.v w':=(fun p=>HTX.out p.v (BBW.out.trans (p.h.mono BBW.out.size)));refine ew ?_
     repeat (go_big_quiet_step ((go_at_call 10;exact Sy.Calls.bel_of (ht _))))
     refine wpQuiet_nil ?_;intro w2 hw';have hb2:Below Wb.heap.size Wb w2:=(by obtain⟨v,rfl⟩:=hw';exact v.h);have B2:Hid (Below W1.heap.size W1 w2):=BB.out.trans (hb2.mono BB.out.size);have K2:=aa (KB.out.below hb2 KB.out.lt);clear hw' hb2 e0 e1 e3 ht BW BWW ew1 ew2 ew3 ew4;go_wp2_with fail
     go_loopw [3,7] (fun nv mv wr3=>∃ (j s:Nat),nv=.int .i64 (s:Nat)/\mv=.int .i64 (j:Nat)/\j<=len/\Hid (s=r4+cQ (is.take j))/\Hid (Below w2.heap.size w2 wr3)) (fun _ mv _=>len-(intOf mv).toNat)
     case atStart=>exact⟨0,r4,rfl,rfl,bI _,rfl,aE _ _⟩
     case round=>
      obtain⟨j,s,rfl,rfl,hj,HSJ,BW⟩:=hrel;have cu2:wr.cell? ⟨uc,2,none⟩=some (.slice IA len ic):=(K2.out.below BW.out K2.out.lt).cell 2;by_cases hjl:j<len
      ·have hjz:(j:Int)<(len:Int):=(by omega);have hjz0:(0:Int)<=(j:Int):=(by omega);obtain⟨b,off,rfl,hcc⟩:=HCI.out (by omega);obtain⟨p,hp⟩:∃ p,is[j]?=some p:=⟨_,aQ (by rw[HLEN.out];exact hjl)⟩;have hpm:p∈is:=fA hp;have BWW:Hid (∀ W,Below wr.heap.size wr W->Below w.heap.size w W):=(fun W hW=>B1.out.trans ((B2.out.trans ((BW.out.trans (hW.mono BW.out.size)).mono B2.out.size)).mono B1.out.size));have hci:=(fun W hW c q hq=>hcc W hW j p hp c q hq);obtain⟨R,hR⟩:=ac (off+j*6);rw[hR] at hci;have ht:=(fun v:Sy.Bel wr=>HGT.out p hpm v.v (BWW.out v.v v.h));have htk:cQ (is.take (j+1))=cQ (is.take j)+cI p.1:=lN (f:=fun p:bj × bB=>cI p.1) hp;have hle:cQ (is.take (j+1))<=cQ is:=si (fun p:bj × bB=>cI p.1) is (j+1);clear hcc hp hpm;obtain⟨x,A0,n0,cap0⟩:=p;have hxx:cI (x,A0,n0,cap0).1=cI x:=rfl;have hsum:=HR5.out;have hhx:cI x=5+x.jid.length+x.name.length+aR x.groups:=rfl;have hs0:=HSJ.out;obtain⟨s1,hs1⟩:=ac (s+5);obtain⟨s2,hs2⟩:=ac (s1+x.jid.length);obtain⟨s3,hs3⟩:=ac (s2+x.name.length);obtain⟨s4,hs4⟩:=ac (s3+aR x.groups);have HN4:Hid (s4=r4+cQ (is.take (j+1))):=(by unfold Hid;omega);have hJz:((ae x.jid).size:Int)=(x.jid.length:Int):=(by rw[bS]);have hNz:((ae x.name).size:Int)=(x.name.length:Int):=(by rw[bS]);have w1:IntKind.i64.wrap ((s:Int)+5)=(s1:Int):=(by rw[aO];omega);have w2':IntKind.i64.wrap ((s1:Int)+((ae x.jid).size:Int))=(s2:Int):=(by rw[hJz,aO];omega);have w3:IntKind.i64.wrap ((s2:Int)+((ae x.name).size:Int))=(s3:Int):=(by rw[hNz,aO];omega);have w4:IntKind.i64.wrap ((s3:Int)+((aR x.groups:Nat):Int))=(s4:Int):=(by rw[aO];omega);clear htk hle hxx hsum hhx hs0 hs1 hs2 hs3 hs4 hJz hNz;have q0:∀ v:Sy.Bel wr,v.v.cell? ⟨b,R,none⟩=some (.string (ae x.jid)):=(fun v=>hci v.v (BWW.out v.v v.h) 0 _ rfl);have q1:∀ v:Sy.Bel wr,v.v.cell? ⟨b,R+1,none⟩=some (.string (ae x.name)):=(fun v=>hci v.v (BWW.out v.v v.h) 1 _ rfl);have q2:∀ v:Sy.Bel wr,v.v.cell? ⟨b,R+2,none⟩=some (.slice A0 n0 cap0):=(fun v=>hci v.v (BWW.out v.v v.h) 2 _ rfl);have qu:∀ v:Sy.Bel wr,v.v.cell? ⟨uc,2,none⟩=some (.slice (some ⟨b,off,none⟩) len ic):=(fun v=>(K2.out.below (BW.out.trans (v.h.mono BW.out.size)) K2.out.lt).cell 2);have htx:∀ v:Sy.Bel wr,Calls Tryz.prog 10 #[.slice A0 n0 cap0] v.v fun e w'=>e=.returned (.int .i64 (aR x.groups:Nat))/\Below v.v.heap.size v.v w':=ht;obtain⟨T,hT⟩:=ac (aR x.groups);obtain⟨J2,hJ2⟩:=ac (ae x.jid);obtain⟨N2,hN2⟩:=ac (ae x.name);rw[hJ2] at q0 w2';rw[hN2] at q1 w3;rw[hT] at htx w4;clear hT hJ2 hN2 hci ht;(go_wp2_with fail);refine ew ?_
       repeat (go_big_quiet_step ((go_at_call 10;exact Sy.Calls.bel_of (htx _))))
       refine wpQuiet_nil ?_;intro w5 hw';have hb5:Below wr.heap.size wr w5:=(by obtain⟨v,rfl⟩:=hw';exact v.h);have B5:Hid (Below w2.heap.size w2 w5):=BW.out.trans (hb5.mono BW.out.size);clear hw' hb5 q0 q1 q2 qu htx hR w1 w2' w3 w4;(go_wp2_with fail);go_roundw;case rel=>exact⟨j+1,s4,rfl,by go_num,by omega,HN4,B5⟩
       case measure=>simp[intOf];omega
      ·have hjz:¬ (j:Int)<(len:Int):=(by omega);have B6:Hid (Below W1.heap.size W1 wr):=B2.out.trans (BW.out.mono B2.out.size);have HK:Hid (s=t2+((us.take (k+1)).map bJ).sum):=(by have h1:=HSJ.out;rw[List.take_of_length_le (by rw[HLEN.out];omega)] at h1;have h2:=HR4.out;unfold Hid;omega);(go_wp2_with fail);go_roundw;case rel=>exact⟨_,_,k+1,s,rfl,by go_num,rfl,rfl,by omega,HK,B6⟩
       case measure=>simp[intOf];omega
    ·have hkz:¬ (k:Int)<(m:Int):=(by omega);have HI:Hid (s=((hs.take (i+1)).map cg).sum):=(by have h1:=HSK.out;rw[List.take_of_length_le (by rw[HM.out];omega)] at h1;have h2:=HT2.out;unfold Hid;omega);(go_wp2_with fail);go_roundw;case rel=>exact⟨_,_,_,i+1,s,rfl,by go_num,rfl,rfl,rfl,by omega,HI,BW⟩
     case measure=>simp[intOf];omega
  ·have hiz:¬ (i:Int)<(n:Int):=(by omega);have hsx:s=cK hs:=(by have h1:=HSI.out;rw[List.take_of_length_le (by rw[HN.out];omega)] at h1;exact h1);have hdx:decide ((s:Int)<=20000)=decide (cK hs<=20000):=(by rw[<-hsx];exact decide_eq_decide.2 (by omega));clear hsx;have HDX:=aa hdx;clear hdx;(go_wp2_with fail);go_ret;exact⟨by rw[<-HDX.out];rfl,BWW.out⟩
end
end Go.Proofs.YtbgaglcgennhiaaGreatDoor

