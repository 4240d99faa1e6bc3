import Derived.Test.YtbgaglcgennhiaaGreatDoorP35
namespace Go.Proofs.YtbgaglcgennhiaaGreatDoor
open Go.RowKit Go.Sort Tx Ct
theorem RowB.put1 {α:Type} {ai:α→List Value} {k:Nat} {t:TypeId} {W:World} {g:Nat} {l:List α} (h:RowB ai k t W g l) (i c:Nat) (hc:c < k) (x y:α) (val:Value) (hx:l[i]?=some x) (hk:∀ z,(ai z).length=k) (hy:ai y=(ai x).set c val):RowB ai k t (W.setCell ⟨g,i*k+c,none⟩ val) g (l.set i y):=by
 obtain⟨cur,hb,hcur⟩:=h
 refine⟨_,hb.put (i*k+c) val,fun j p hj d u hu=>?_⟩
 have hdk:d < k:=by have:=(List.getElem?_eq_some_iff.1 hu).1;rw[hk] at this;exact this
 have hjl:j < l.length:=by have:=(List.getElem?_eq_some_iff.1 hj).1;simpa using this
 rw[List.getElem?_set] at hj;rw[Array.getElem?_setIfInBounds]
 by_cases hij:i=j
 · subst hij
   rw[if_pos rfl,if_pos hjl] at hj;obtain rfl:=Option.some.inj hj;rw[hy,List.getElem?_set] at hu;have hold:=hcur i x hx d _ (List.getElem?_eq_getElem (by rw[hk];exact hdk));have hlt:=(Array.getElem?_eq_some_iff.1 hold).1
   by_cases hcd:c=d
   · subst hcd
     rw[if_pos rfl,if_pos hlt];rw[if_pos rfl,if_pos (by rw[hk];exact hdk)] at hu;exact hu
   · rw[if_neg (by omega)]
     rw[if_neg hcd] at hu;exact hcur i x hx d u hu
 · rw[if_neg hij] at hj
   rw[if_neg]
   · exact hcur j p hj d u hu
   · intro e
     rcases Nat.lt_or_ge i j with h | h
     · have:=Nat.mul_le_mul_right k (show i+1≤j from h)
       rw[Nat.add_mul,Nat.one_mul] at this;omega
     · have:=Nat.mul_le_mul_right k (show j+1≤i by omega)
       rw[Nat.add_mul,Nat.one_mul] at this;omega
theorem sZ {A C:Nat} {W W':World} {v:Value} {l:List aK} (h:LiveS A C W v l) (hC:C≤W.heap.size) {i k:Nat} {x:aK} {u y:aC} (hi:l[i]?=some x) (hk:x.users[k]?=some u) {A2 C2:Nat} (hy:LiveU A2 C2 W y) (hA2:C≤A2) (hC2:C2≤W.heap.size)
 {g n c:Nat} (hg:x.uv=(some ⟨g,0,none⟩,n,c)) (hb:∀ b,b≠g→A≤b→W'.heap[b]?=W.heap[b]?) (hs:W'.heap.size=W.heap.size) (hrow:∀ us,RowB af 4 28 W g us→us[k]?=some u→RowB af 4 28 W' g (us.set k y)) :
 ReadH W' v (l.set i ⟨x.name,x.users.set k y,x.uv⟩):=by
 obtain⟨AA,cap,rfl,hc⟩:=h
 have hil:=(List.getElem?_eq_some_iff.1 hi).1;have hkl:=(List.getElem?_eq_some_iff.1 hk).1
 obtain⟨G,cut,rfl,h1,h2,h3,h4,h5,h6⟩:=hc (by omega)
 obtain⟨AU,capU,hvU,hcU⟩:=h6 i x hi
 obtain⟨g',cutU,hau,u1,u2,u3,u4,u5,u6⟩:=hcU (by omega)
 rw[hg] at hvU;have e0:sl (some ⟨g,0,none⟩,n,c)=.slice (some ⟨g,0,none⟩) n c:=rfl;rw[e0] at hvU;injection hvU with v1 v2 v3;rw[hau] at v1;injection v1 with v1;injection v1 with v1 _;subst v1;have hcut:=fun {a b:Nat} (hab:a≤b)=>bY h4 hab
 have hcutU:=fun {a b:Nat} (hab:a≤b)=>bY u4 hab
 have hgC:g < C:=by have:=hcutU (Nat.zero_le x.users.length);have:=hcut (show i+1≤l.length from hil);omega
 have hAC:A≤C:=by have:=hcut (Nat.zero_le l.length);omega
 have hGg:G≠g:=by have:=hcut (Nat.zero_le i);omega
 have hup:∀ A' C':Nat,A≤A'→(g < A'∨C'≤g)→lV A' C' W W':=fun A' C' hA hac b hb1 hb2=>hb b (by omega) (by omega)
 have hrow1:RowB aA 2 47 W' G (l.set i ⟨x.name,x.users.set k y,x.uv⟩):=by
  obtain⟨cur,hk1,hcc⟩:=h2.same (hb G hGg h1)
  refine⟨cur,hk1,fun j p hj d q hq=>?_⟩
  rw[List.getElem?_set] at hj
  by_cases hij:i=j
  · subst hij
    rw[if_pos rfl,if_pos hil] at hj;obtain rfl:=Option.some.inj hj;exact hcc i x hi d q hq
  · rw[if_neg hij] at hj
    exact hcc j p hj d q hq
 refine⟨hrow1.row (by have:=hcut (Nat.zero_le l.length);omega) _ cap (by rw[List.length_set]),fun p hp=>?_⟩
 obtain⟨j,hj,rfl⟩:=List.getElem_of_mem hp
 have hjl:j < l.length:=by simpa using hj
 by_cases hij:i=j
 · subst hij
   rw[List.getElem_set_self];have hrowU:=hrow x.users u2 hk
   refine⟨?_,fun q hq=>?_⟩
   · show RowV af 4 W'.heap.size W' (sl x.uv) (x.users.set k y)
     rw[hg,e0];exact hrowU.row (by omega) n c (by rw[List.length_set];exact v2.symm)
   · have hq2:q∈x.users.set k y:=hq
     obtain⟨m,hm,rfl⟩:=List.getElem_of_mem hq2
     have hml:m < x.users.length:=by simpa using hm
     by_cases hkm:k=m
     · subst hkm
       rw[List.getElem_set_self];exact LiveU.reads (aI _ _ _ _ _ (hup A2 C2 (by omega) (.inl (by omega))) hy) (by omega)
     · rw[List.getElem_set_ne hkm]
       have hu:=u6 m _ (List.getElem?_eq_getElem hml)
       have:=hcutU (Nat.zero_le m)
       have:=hcutU (show m+1≤x.users.length from hml)
       have:=hcut (show i+1≤l.length from hil)
       have:=hcut (Nat.zero_le i)
       exact LiveU.reads (aI _ _ _ _ _ (hup _ _ (by omega) (.inl (by omega))) hu) (by omega)
 · rw[List.getElem_set_ne hij]
   have hu:=h6 j _ (List.getElem?_eq_getElem hjl)
   have:=hcut (show j+1≤l.length from hjl)
   have hd:g < cut j∨cut (j+1)≤g:=by
    rcases Nat.lt_or_ge i j with h | h
    · have:=hcut (show i+1≤j from h)
      have:=hcutU (Nat.zero_le x.users.length)
      exact .inl (by omega)
    · have:=hcut (show j+1≤i by omega)
      exact .inr (by omega)
   have:=hcut (Nat.zero_le j)
   exact LiveH.reads (bI _ _ _ _ _ (hup _ _ (by omega) hd) hu) (by omega)
theorem dx {x y:aK} (h:cK x=cK y):x.name=y.name:=congrArg Prod.fst h
theorem cT {x y:aK} (h:cK x=cK y):x.users.map cG=y.users.map cG:=congrArg Prod.snd h
theorem bJ {α β:Type} {f:α→β} {l m:List α} (h:l.map f=m.map f) {i:Nat} {x:α} (hx:l[i]?=some x):∃ y,m[i]?=some y∧f y=f x:=by
 have h1:(m.map f)[i]?=some (f x):=by rw[← h,List.getElem?_map,hx];rfl
 rw[List.getElem?_map] at h1
 obtain⟨y,hy,e⟩:=Option.map_eq_some_iff.1 h1
 exact⟨y,hy,e⟩
theorem fU {x y:aK} {u z:aC} {s:List UInt8} (h1:x.name=y.name) (h2:cG u=cG z) (h:de x s u):de y s z:=by
 have:u.name=z.name:=congrArg Prod.fst h2
 unfold de at h ⊢;rw[← h1,← this];exact h
theorem NoU.same {l m:List aK} {s:List UInt8} (h:l.map cK=m.map cK) (hn:NoU l s):NoU m s:=fun x hx u hu ha=>by
 obtain⟨i,hi,rfl⟩:=List.getElem_of_mem hx
 obtain⟨y,hy,e⟩:=bJ h.symm (List.getElem?_eq_getElem hi)
 obtain⟨k,hk,rfl⟩:=List.getElem_of_mem hu
 obtain⟨z,hz,ez⟩:=bJ (cT e).symm (List.getElem?_eq_getElem hk)
 exact hn y (List.mem_of_getElem? hy) z (List.mem_of_getElem? hz) (fU (dx e).symm ez.symm ha)
theorem FirstU.same {l m:List aK} {s:List UInt8} {i k:Nat} {x:aK} {u:aC} (h:l.map cK=m.map cK) (hf:FirstU l s i k x u):∃ y z,FirstU m s i k y z∧cK y=cK x∧cG z=cG u:=by
 obtain⟨y,hy,e⟩:=bJ h hf.host
 obtain⟨z,hz,ez⟩:=bJ (cT e).symm hf.user
 refine⟨y,z,⟨hy,hz,fU (dx e).symm ez.symm hf.is,fun i' h' hi' hh' u' hu' ha=>?_,fun k' u' hk' hu' ha=>?_⟩,e,ez⟩
 · obtain⟨y',hy',e'⟩:=bJ h.symm hh'
   obtain⟨q,hq,rfl⟩:=List.getElem_of_mem hu'
   obtain⟨z',hz',ez'⟩:=bJ (cT e').symm (List.getElem?_eq_getElem hq)
   exact hf.ahead i' y' hi' hy' z' (List.mem_of_getElem? hz') (fU (dx e').symm ez'.symm ha)
 · obtain⟨z',hz',ez'⟩:=bJ (cT e) hu'
   exact hf.before k' z' hk' hz' (fU (dx e) ez'.symm ha)
def lM (hs:List aK) (i k:Nat) (h:aK) (u0 u:aC):List (List UInt8 × List (List UInt8 × List UInt8 × List aZ × List (List UInt8))) :=
 (hs.map cK).set i (h.name,(h.users.map cG).set k (u0.name,u.pw,u.items.map (·.1),u.pend))
def xt (hs:List aK) (s:List UInt8) (u:aC) (w:World) (e:Ending) (w':World):Prop :=
 Below w.heap.size w w'∧∃ A n c l',ReadH w' (.slice A n c) l'∧((NoU hs s∧e=.returned (.tuple #[.agg #[.slice A n c],.bool false])∧l'.map cK=hs.map cK) ∨
  ∃ i k h u0,FirstU hs s i k h u0∧e=.returned (.tuple #[.agg #[.slice A n c],.bool true])∧l'.map cK=lM hs i k h u0 u)
theorem oH {x y:aC} (h:cG x=cG y) (hs:lK x):lK y:=by
 have e1:x.name=y.name:=congrArg Prod.fst h;have e2:x.pw=y.pw:=congrArg (fun z=>z.2.1) h;have e3:x.items.map (·.1)=y.items.map (·.1):=congrArg (fun z=>z.2.2.1) h;have e4:x.pend=y.pend:=congrArg (fun z=>z.2.2.2) h
 refine⟨by rw[← e1];exact hs.name,by rw[← e2];exact hs.pw,?_,fun p hp=>?_,by rw[← e4];exact hs.pend,fun t ht=>hs.eachP t (by rw[e4];exact ht)⟩
 · have:=congrArg List.length e3
   rw[List.length_map,List.length_map] at this;rw[← this];exact hs.items
 · have:p.1∈x.items.map (·.1):=by rw[e3];exact List.mem_map_of_mem hp
   obtain⟨q,hq,e⟩:=List.mem_map.1 this
   rw[← e];exact hs.eachI q hq
theorem vO {x y:aK} (h:cK x=cK y) (hs:iD x):iD y:=by
 have e2:=cT h
 refine⟨by rw[← dx h];exact hs.name,?_,fun u hu=>?_⟩
 · have:=congrArg List.length e2
   rw[List.length_map,List.length_map] at this;rw[← this];exact hs.users
 · have:cG u∈x.users.map cG:=by rw[e2];exact List.mem_map_of_mem hu
   obtain⟨q,hq,e⟩:=List.mem_map.1 this
   exact oH e (hs.each q hq)
theorem iG {l m:List aK} (h:l.map cK=m.map cK) (hs:∀ x∈l,iD x):∀ x∈m,iD x:=fun x hx=>by
 have:cK x∈l.map cK:=by rw[h];exact List.mem_map_of_mem hx
 obtain⟨q,hq,e⟩:=List.mem_map.1 this
 exact vO e (hs q hq)
set_option maxHeartbeats 8000000 in
set_option maxRecDepth 100000 in
theorem ms (v:Value) (hs:List aK) (s:List UInt8) (u:aC) (w:World) (hR:ReadH w v hs) (hl:hs.length≤1000000) (hs2:∀ h∈hs,iD h) (hsl:s.length≤1000000000) (hU:InU w u) (hsu:lK u) :
 Calls Tryz.prog 15 #[.agg #[v],.string (aa s),.agg (af u).toArray] w fun e w'=>xt hs s u w e w':=by
 obtain⟨va,vn,vc,rfl⟩:∃ a n c,v=.slice a n c:=by obtain⟨⟨A,cap,hv,_⟩,_⟩:=hR;exact⟨A,_,cap,hv⟩
 -- the boxes
 obtain⟨W1,hW1⟩:∃ W1,w.alloc (.cells #[.slice va vn vc] 24)=W1:=⟨_,rfl⟩
 obtain⟨sb,hsb⟩:∃ bx,w.heap.size=bx:=⟨_,rfl⟩
 obtain⟨W2,hW2⟩:∃ W2,W1.alloc (.cells (af u).toArray 28)=W2:=⟨_,rfl⟩
 obtain⟨ub,hub⟩:∃ r,sb+1=r:=⟨_,rfl⟩
 obtain⟨W3,hW3⟩:∃ W2',W2.alloc (.cells #[.slice none 0 0] 24)=W2':=⟨_,rfl⟩
 obtain⟨rb,hrb⟩:∃ r,ub+1=r:=⟨_,rfl⟩
 have hs1:W1.heap.size=ub:=by rw[← hW1,World.size_alloc,hsb,hub]
 have hs22:W2.heap.size=rb:=by rw[← hW2,World.size_alloc,hs1,hrb]
 have k1:Bk W1 sb 24 #[.slice va vn vc]:=by rw[← hW1,← hsb];exact Bk.new _ _ _
 have k2:Bk W2 ub 28 (af u).toArray:=by rw[← hW2,← hs1];exact Bk.new _ _ _
 have k13:Bk W3 sb 24 #[.slice va vn vc]:=by rw[← hW3,← hW2];exact(k1.alloc _).alloc _
 have k23:Bk W3 ub 28 (af u).toArray:=by rw[← hW3];exact k2.alloc _
 have R3:Hid (Bk W3 rb 24 #[.slice none 0 0]):=by rw[← hW3,← hs22];exact Bk.new _ _ _
 have B3:Hid (Below w.heap.size w W3):=by rw[← hW3,← hW2,← hW1];exact(((Below.refl _ _).alloc (Nat.le_refl _) _).alloc (by rw[World.size_alloc];omega) _).alloc (by rw[World.size_alloc,World.size_alloc];omega) _
 have HRW:Hid (w.heap.size≤rb∧sb < ub∧ub < rb∧rb < W3.heap.size):=⟨by omega,by omega,by omega,R3.out.lt⟩;have HEA:=Lib.hid (lZ (.slice va vn vc) hs W3 (hR.upon B3.out) hl hs2);have HSM:=Lib.hid hs2;have HUB:=Lib.hid k23;have HAT:Hid (∀ W A n c l',Below w.heap.size w W→ReadH W (.slice A n c) l'→l'.map cK=hs.map cK→Calls Tryz.prog 31 #[.agg #[.slice A n c],.string (aa s)] W fun e w'=>AtV l' s W e w'):=fun W A n c l' _ hr hp=>by
  have hlen:l'.length=hs.length:=by have:=congrArg List.length hp;rwa [List.length_map,List.length_map] at this
  have hsm:=iG hp.symm hs2;exact qb (.slice A n c) l' s W hr (by omega) (fun h hh=>⟨(hsm h hh).users,(hsm h hh).name⟩) hsl
 have HOU:Hid (∀ W,Below w.heap.size w W→Calls Tryz.prog 32 #[.agg (af u).toArray] W fun e w'=>∃ y,e=.returned (.agg (af y).toArray)∧jT cG LiveU W.heap.size w'.heap.size w' u y∧Below W.heap.size W w'):=fun W hW=>dV u W (hU.upon hW) hsu
 have c0:W3.cell? ⟨sb,0,none⟩=some (.slice va vn vc):=k13.cell 0;have HW1:=Lib.hid hW1;have HW2:=Lib.hid hW2;have HW3:=Lib.hid hW3;have HSB:=Lib.hid hsb;have HBU:=Lib.hid hub;have HRB:=Lib.hid hrb
 obtain⟨S,hS⟩:∃ S,aa s=S:=⟨_,rfl⟩
 rw[hS] at HAT ⊢;have HUU:Hid (∃ X M A n c D m d,(af u).toArray=#[.string X,.string M,.slice A n c,.slice D m d]):=⟨_,_,_,_,_,_,_,_,rfl⟩
 obtain⟨X,M,UA,Un,Uc,UD,Um,Ud,hue⟩:=HUU.out
 rw[hue] at HW2 HUB HOU ⊢;clear hW1 hW2 hW3 hsb hub hrb hs1 hs22 k1 k2 k13 k23 hR hl hs2 hsl hS hU hsu HUU hue;go_enter Tryz.func15,Tryz.ntmps15
 go_upto_region 1 with fail
 (try rw[HW1.out]);(try rw[HSB.out]);(try rw[HBU.out]);(try rw[HW2.out]);(try rw[HRB.out]);(try rw[HW3.out])
 go_wp2_with fail
 refine HEA.out.mono ?_;rintro e w4 ⟨A,c,l',rfl,hpl,hlive,b34⟩
 obtain⟨n,hn⟩:∃ n,hs.length=n:=⟨_,rfl⟩
 rw[hn] at hlive ⊢;have B4:Hid (Below w.heap.size w w4):=B3.out.trans (b34.mono B3.out.size);have R4:=Lib.hid (R3.out.below b34 R3.out.lt);have U4:=Lib.hid (HUB.out.below b34 HUB.out.lt);have HPL:=Lib.hid hpl;have HLV:=Lib.hid hlive
 obtain⟨W5,hW5⟩:∃ W,w4.alloc (.cells #[.slice none 0 0] 24)=W:=⟨_,rfl⟩
 obtain⟨tb,htb⟩:∃ b,w4.heap.size=b:=⟨_,rfl⟩
 have K5:Hid (Bk W5 tb 24 #[.slice none 0 0]):=by rw[← hW5,← htb];exact Bk.new _ _ _
 have b5:Below w4.heap.size w4 W5:=by rw[← hW5];exact(Below.refl _ _).alloc (Nat.le_refl _) _
 have HTW:Hid (w4.heap.size≤tb):=by rw[← htb];exact Nat.le_refl _
 have y0:W5.cell? ⟨tb,0,none⟩=some (.slice none 0 0):=K5.out.cell 0;have yf0:W5.frozen? ⟨tb,0,none⟩=false:=K5.out.free 0;have K6:=Lib.hid (cE K5.out (.slice A n c));have B46:=Lib.hid (bp b5 HTW.out (.slice A n c))
 obtain⟨w6,hw6⟩:∃ z,ct W5 tb (.slice A n c)=z:=⟨_,rfl⟩
 rw[hw6] at K6 B46;have B6:Hid (Below w.heap.size w w6):=B4.out.trans (B46.out.mono B4.out.size);have L6:Hid (LiveS W3.heap.size w4.heap.size w6 (.slice A n c) l'):=LiveR.upto bI HLV.out (dw B46.out (Nat.le_refl _));have R6:=Lib.hid (R4.out.below B46.out R4.out.lt);have U6:=Lib.hid (U4.out.below B46.out U4.out.lt);have HA6:=Lib.hid (HAT.out w6 A n c l' B6.out (LiveS.reads L6.out B46.out.size) HPL.out);have HSZ:Hid (w.heap.size≤W3.heap.size∧W3.heap.size≤w4.heap.size∧w4.heap.size≤w6.heap.size∧w4.heap.size≤tb):=⟨B3.out.size,b34.size,B46.out.size,HTW.out⟩;clear hpl hlive b34 b5 hn c0 HEA HAT
 go_upto_region 2 with fail
 (try rw[hw6]);clear hW5 hw6 y0 yf0 htb;have d0:w6.cell? ⟨tb,0,none⟩=some (.slice A n c):=K6.out.cell 0
 go_wp2_with fail
 refine HA6.out.mono ?_;rintro e w7 ⟨b7,h7⟩;have B7:Hid (Below w.heap.size w w7):=B6.out.trans (b7.mono B6.out.size);have K7:=Lib.hid (K6.out.below b7 K6.out.lt);have R7:=Lib.hid (R6.out.below b7 R6.out.lt);have U7:=Lib.hid (U6.out.below b7 U6.out.lt);have L7:Hid (LiveS W3.heap.size w4.heap.size w7 (.slice A n c) l'):=LiveR.upto bI L6.out (dw b7 HSZ.out.2.2.1);have HS67:Hid (w6.heap.size≤w7.heap.size∧tb < w7.heap.size∧rb < w7.heap.size):=⟨b7.size,K7.out.lt,R7.out.lt⟩;clear b7 d0 HA6;have d0:w7.cell? ⟨tb,0,none⟩=some (.slice A n c):=K7.out.cell 0;rcases h7 with ⟨hno,rfl⟩ | ⟨i,k,h,u0,b,off,un,uc,hf,huv,rfl⟩
 · have HNO:=Lib.hid (NoU.same HPL.out hno)
   have r0:w7.cell? ⟨rb,0,none⟩=some (.slice none 0 0):=R7.out.cell 0;have g0:w7.frozen? ⟨rb,0,none⟩=false:=R7.out.free 0;have R8:=Lib.hid (cE R7.out (.slice A n c));have B8:=Lib.hid (bp B7.out HRW.out.1 (.slice A n c));have L8:Hid (LiveS W3.heap.size w4.heap.size (ct w7 rb (.slice A n c)) (.slice A n c) l'):=LiveR.upto bI L7.out (fun q hq _=>a5 rb [.slice A n c] 0 w7 q (by have:=HRW.out.2.2.2;omega));have HZ8:Hid ((ct w7 rb (.slice A n c)).heap.size=w7.heap.size):=bz rb [.slice A n c] 0 w7
   obtain⟨w8,hw8⟩:∃ z,ct w7 rb (.slice A n c)=z:=⟨_,rfl⟩
   rw[hw8] at R8 B8 L8 HZ8;clear hno
   go_wp2_with fail
   (try rw[hw8]);have j0:w8.cell? ⟨rb,0,none⟩=some (.slice A n c):=R8.out.cell 0;refine bodyPost_ret (v:=.tuple #[.agg #[.slice A n c],.bool false]) (by simp[results,Tryz.results15,go_sem,j0]) rfl ?_
   exact⟨B8.out,A,n,c,l',LiveS.reads L8.out (by rw[HZ8.out];have:=HSZ.out;have:=HS67.out;omega),.inl ⟨HNO.out,rfl,HPL.out⟩⟩
 · have HF:=Lib.hid hf
   -- where it stands
   obtain⟨AA,capA,hvA,hcA⟩:=L7.out
   have hil:=(List.getElem?_eq_some_iff.1 hf.host).1
   obtain⟨G,cut,_,f1,f2,f3,f4,f5,f6⟩:=hcA (by omega)
   obtain⟨AU,capU,hvU,hcU⟩:=f6 i h hf.host
   have hkl:=(List.getElem?_eq_some_iff.1 hf.user).1
   obtain⟨g',cutU,hau,u1,u2,u3,u4,u5,_⟩:=hcU (by omega)
   rw[huv] at hvU;have e0:sl (some ⟨b,off,none⟩,un,uc)=.slice (some ⟨b,off,none⟩) un uc:=rfl;rw[e0] at hvU;injection hvU with v1 v2 v3;rw[hau] at v1;injection v1 with v1;injection v1 with v1 v4;subst v1 v4;have HUV:=Lib.hid huv;have HROW:=Lib.hid u2;have hgC:b < w4.heap.size:=by have:=bY u4 (Nat.zero_le h.users.length);have:=bY f4 (show i+1≤l'.length from hil);omega
   have hgA:W3.heap.size≤b:=by have:=bY f4 (Nat.zero_le i);omega
   have HG:Hid (W3.heap.size≤b∧b < w4.heap.size∧b≠tb∧b≠rb∧b < w7.heap.size):=⟨hgA,hgC,by have:=HSZ.out;omega,by have:=HRW.out;omega,by have:=HSZ.out;have:=HS67.out;omega⟩
   obtain⟨P,hP⟩:∃ P,0+k*4=P:=⟨_,rfl⟩
   have hPk:k*4=P:=by omega
   have HPK:=Lib.hid hPk;rw[hP];have hcell:=fun cc q (hq:(af u0)[cc]?=some q)=>(u2.cell hf.user hq).1
   have hcellF:=fun cc q (hq:(af u0)[cc]?=some q)=>(u2.cell hf.user hq).2
   rw[hPk] at hcell hcellF;have HSU0:Hid (u0.name=u0.name):=rfl
   obtain⟨NM,hNM⟩:∃ J,aa u0.name=J:=⟨_,rfl⟩
   have HNM:=Lib.hid hNM;have p0:w7.cell? ⟨b,P,none⟩=some (.string NM):=by rw[← hNM];exact hcell 0 _ rfl
   have HC7:Hid (∀ W,Below w7.heap.size w7 W→∀ cc,cc < 4→(∃ q,W.cell? ⟨b,P+cc,none⟩=some q)∧W.frozen? ⟨b,P+cc,none⟩=false):=fun W hW cc hcc=>by
    have hr:=u2.below hW
    have:=hr.cell hf.user (c:=cc) (List.getElem?_eq_getElem (show cc < (af u0).length from hcc))
    rw[hPk] at this
    exact⟨⟨_,this.1⟩,this.2⟩
   have m0:w7.cell? ⟨ub,0,none⟩=some (.string X):=U7.out.cell 0;have m1:w7.cell? ⟨ub,1,none⟩=some (.string M):=U7.out.cell 1;have m2:w7.cell? ⟨ub,2,none⟩=some (.slice UA Un Uc):=U7.out.cell 2;have m3:w7.cell? ⟨ub,3,none⟩=some (.slice UD Um Ud):=U7.out.cell 3;have HO7:=Lib.hid (HOU.out w7 B7.out);clear hf hvA hil hcA f1 f2 f3 f4 f5 f6 hcU hkl hau u1 u2 u3 u4 u5 e0 v2 v3 hcell hcellF hNM hgC hgA huv d0 HOU
   go_wp2_with fail
   refine HO7.out.mono ?_;rintro e w8 ⟨y,rfl,⟨hpy,hly⟩,b8⟩;have B8:Hid (Below w.heap.size w w8):=B7.out.trans (b8.mono B7.out.size);have K8:=Lib.hid (K7.out.below b8 K7.out.lt);have R8:=Lib.hid (R7.out.below b8 R7.out.lt);have L8:Hid (LiveS W3.heap.size w4.heap.size w8 (.slice A n c) l'):=LiveR.upto bI L7.out (dw b8 (by have:=HSZ.out;have:=HS67.out;omega));have ROW8:=Lib.hid (HROW.out.below b8);have HC8:=Lib.hid (HC7.out w8 b8);have HPY:=Lib.hid hpy;have HLY:=Lib.hid hly;have HS78:Hid (w7.heap.size≤w8.heap.size):=b8.size;clear p0 m0 m1 m2 m3 b8 hpy hly HO7 HC7
   obtain⟨y',hyy⟩:∃ y',y=y':=⟨_,rfl⟩
   have HYY:=Lib.hid hyy;rw[hyy];clear hyy
   obtain⟨yj,ym,yis,⟨A2,n2,c2⟩,yps,⟨D2,m2,d2⟩⟩:=y'
   obtain⟨YX,hYX⟩:∃ J,aa yj=J:=⟨_,rfl⟩
   obtain⟨YM,hYM⟩:∃ J,aa ym=J:=⟨_,rfl⟩
   have ey:af (⟨yj,ym,yis,⟨A2,n2,c2⟩,yps,⟨D2,m2,d2⟩⟩:aC)=[.string YX,.string YM,.slice A2 n2 c2,.slice D2 m2 d2]:=by rw[← hYX,← hYM];rfl
   have HEY:Hid (af y=[.string YX,.string YM,.slice A2 n2 c2,.slice D2 m2 d2]):=by unfold Hid;rw[HYY.out];exact ey
   rw[ey]
   -- the user as it stands behind
   obtain⟨z,hz⟩:∃ z:aC,z=⟨u0.name,y.pw,y.items,y.iv,y.pend,y.pv⟩:=⟨_,rfl⟩
   have HEZ:Hid (af z=(af y).set 0 (.string NM)):=by unfold Hid;rw[hz,← HNM.out];rfl
   have HLZ:Hid (LiveU w7.heap.size w8.heap.size w8 z):=by unfold Hid;rw[hz];exact HLY.out
   have HPZ:Hid (cG z=(u0.name,u.pw,u.items.map (·.1),u.pend)):=by
    have e2:y.pw=u.pw:=congrArg (fun z=>z.2.1) HPY.out;have e3:y.items.map (·.1)=u.items.map (·.1):=congrArg (fun z=>z.2.2.1) HPY.out;have e4:y.pend=u.pend:=congrArg (fun z=>z.2.2.2) HPY.out;unfold Hid cG;rw[hz];simp only;rw[e2,e3,e4]
   clear ey hYX hYM hz
   obtain⟨w9,hw9⟩:∃ q,(w8.setCells b P [.string YX,.string YM,.slice A2 n2 c2,.slice D2 m2 d2]).setCell ⟨b,P,none⟩ (.string NM)=q:=⟨_,rfl⟩
   have HW9:=Lib.hid hw9;have HOT:Hid (∀ q,q≠b→w9.heap[q]?=w8.heap[q]?):=fun q hq=>by rw[← hw9,Below.heap_setCell _ ⟨b,P,none⟩ _ q (fun e=>hq e)];exact a5 b _ _ _ q hq
   have HZ9:Hid (w9.heap.size=w8.heap.size):=by rw[← hw9,World.size_setCell];exact bz b _ _ _
   have B9:Hid (Below w.heap.size w w9):=by
    rw[← hw9];have hwb:w.heap.size≤b:=by have:=HG.out.1;have:=HSZ.out.1;omega
    exact(cd b hwb [.string YX,.string YM,.slice A2 n2 c2,.slice D2 m2 d2] P w8 B8.out).setCell (p:=⟨b,P,none⟩) hwb _
   have K9:Hid (Bk w9 tb 24 #[.slice A n c]):=by
    have:=K8.out
    unfold Bk at this;unfold Hid Bk;rw[HOT.out tb (by have:=HG.out;omega)];exact this
   have R9b:Hid (Bk w9 rb 24 #[.slice none 0 0]):=by
    have:=R8.out
    unfold Bk at this;unfold Hid Bk;rw[HOT.out rb (by have:=HG.out;omega)];exact this
   have s0:∃ q,w8.cell? ⟨b,P,none⟩=some q:=(HC8.out 0 (by decide)).1
   obtain⟨q0,s0⟩:=s0
   have sf0:w8.frozen? ⟨b,P,none⟩=false:=(HC8.out 0 (by decide)).2
   obtain⟨q1,s1⟩:=(HC8.out 1 (by decide)).1
   have sf1:w8.frozen? ⟨b,P+1,none⟩=false:=(HC8.out 1 (by decide)).2
   obtain⟨q2,s2⟩:=(HC8.out 2 (by decide)).1
   have sf2:w8.frozen? ⟨b,P+2,none⟩=false:=(HC8.out 2 (by decide)).2
   obtain⟨q3,s3⟩:=(HC8.out 3 (by decide)).1
   have sf3:w8.frozen? ⟨b,P+3,none⟩=false:=(HC8.out 3 (by decide)).2
   go_upto_region 8 with fail
   have hw9b:(((((w8.setCell ⟨b,P,none⟩ (.string YX)).setCell ⟨b,P+1,none⟩ (.string YM)).setCell ⟨b,P+2,none⟩ (.slice A2 n2 c2)).setCell ⟨b,P+3,none⟩ (.slice D2 m2 d2)).setCell ⟨b,P,none⟩ (.string NM))=w9:=hw9;rw[hw9b];clear hw9 hw9b s0 sf0 s1 sf1 s2 sf2 s3 sf3;have d0:w9.cell? ⟨tb,0,none⟩=some (.slice A n c):=K9.out.cell 0;have r0:w9.cell? ⟨rb,0,none⟩=some (.slice none 0 0):=R9b.out.cell 0;have g0:w9.frozen? ⟨rb,0,none⟩=false:=R9b.out.free 0;have RX:=Lib.hid (cE R9b.out (.slice A n c));have BX:=Lib.hid (bp B9.out HRW.out.1 (.slice A n c));have RHX:Hid (ReadH (ct w9 rb (.slice A n c)) (.slice A n c) (l'.set i ⟨h.name,h.users.set k z,h.uv⟩)):=by
    refine sZ L8.out (by have:=HSZ.out;have:=HS67.out;have:=HS78.out;omega) HF.out.host HF.out.user HLZ.out (by have:=HSZ.out;have:=HS67.out;omega) (Nat.le_refl _) HUV.out (fun q hq hA=>?_) ((bz rb [.slice A n c] 0 w9).trans HZ9.out) fun us hr hu=>?_
    · have h1:=HRW.out
      exact(a5 rb [.slice A n c] 0 w9 q (by omega)).trans (HOT.out q hq)
    have hr1:=hr.put (fun _=>rfl) k y;rw[HPK.out,HEY.out] at hr1;have hul:=(List.getElem?_eq_some_iff.1 hu).1;have hr2:=hr1.put1 k 0 (by decide) y z (.string NM) (List.getElem?_set_self hul) (fun _=>rfl) HEZ.out;rw[List.set_set,HPK.out,Nat.add_zero,HW9.out] at hr2;exact hr2.same (a5 rb [.slice A n c] 0 w9 b (by have:=HG.out;omega))
   obtain⟨wx,hwx⟩:∃ q,ct w9 rb (.slice A n c)=q:=⟨_,rfl⟩
   rw[hwx] at RX BX RHX
   go_wp2_with fail
   (try rw[hwx]);have j0:wx.cell? ⟨rb,0,none⟩=some (.slice A n c):=RX.out.cell 0;refine bodyPost_ret (v:=.tuple #[.agg #[.slice A n c],.bool true]) (by simp[results,Tryz.results15,go_sem,j0]) rfl ?_
   obtain⟨h1,z1,hf1,he1,ez1⟩:=FirstU.same HPL.out HF.out
   refine⟨BX.out,A,n,c,_,RHX.out,.inr ⟨i,k,h1,z1,hf1,rfl,?_⟩⟩
   unfold lM;rw[List.map_set];show (l'.map cK).set i (h.name,(h.users.set k z).map cG)=_;rw[HPL.out,List.map_set,HPZ.out,dx he1,cT he1]
   have:u0.name=z1.name:=(congrArg Prod.fst ez1).symm
   rw[this]
end Go.Proofs.YtbgaglcgennhiaaGreatDoor
