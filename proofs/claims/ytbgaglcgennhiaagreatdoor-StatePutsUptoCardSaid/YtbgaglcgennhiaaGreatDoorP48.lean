import Derived.Test.YtbgaglcgennhiaaGreatDoorP44
import Derived.Test.YtbgaglcgennhiaaGreatDoorP40
import Derived.Test.YtbgaglcgennhiaaGreatDoorP35
import Derived.Test.YtbgaglcgennhiaaGreatDoorP36
import Derived.Test.YtbgaglcgennhiaaGreatDoorP46
import Derived.Test.YtbgaglcgennhiaaGreatDoorP47
import Derived.Test.YtbgaglcgennhiaaGreatDoorP26
import Derived.Test.YtbgaglcgennhiaaGreatDoorP07
namespace Go.Proofs.YtbgaglcgennhiaaGreatDoor
open Go.RowKit Go.Sort Sy Tx Ct
theorem pm {W:World} {a:Addr} {v:Value} (h:W.cell? a=some v):a.spot=none:=by
 unfold World.cell? at h
 split at h
 · by_cases hs:a.spot.isSome=true
   · rw[if_pos hs] at h;cases h
   · cases ha:a.spot with
     | none=>rfl
     | some x=>rw[ha] at hs;exact absurd rfl hs
 · cases h
theorem kN {W:World} {D:Nat} {t:TypeId} {cs:Array Value} (hk:Bk W D t cs) (hcs:∀ (i:Nat) s,cs[i]?≠some (.string s)) {a:Addr} {s:ByteArray} (h:W.cell? a=some (.string s)):a.block≠D:=fun e=>by
 have hs:=pm h
 obtain⟨b,o,sp⟩:=a
 dsimp only at e hs;subst e hs;rw[hk.cell] at h;exact hcs o s h
theorem RowV.butS {α:Type} {ai:α→List Value} {k D:Nat} {W W':World} {v:Value} {l:List α} {t:TypeId} {cs:Array Value} (h:RowV ai k W.heap.size W v l) (hk:Bk W D t cs) (hcs:∀ (i:Nat) s,cs[i]?≠some (.string s)) (hb:But (·=D) W W') (henc:∀ p,∃ s,(ai p)[0]?=some (.string s)):RowV ai k W'.heap.size W' v l:=by
 obtain⟨A,cap,hv,hc⟩:=h
 refine⟨A,cap,hv,fun h0=>?_⟩
 obtain⟨b,off,ha,hbb,hcc⟩:=hc h0
 have hne:b≠D:=by
  obtain⟨s,hs⟩:=henc l[0]
  exact kN hk hcs (hcc 0 l[0] (List.getElem?_eq_getElem h0) 0 _ hs)
 exact⟨b,off,ha,Nat.lt_of_lt_of_le hbb hb.size,fun i p hp c u hu=>by
  rw[fK (W:=W) (p:=⟨b,off+i*k+c,none⟩) (show W'.heap[b]?=W.heap[b]? from hb.block b hbb hne)];exact hcc i p hp c u hu⟩
theorem ReadT.butS {D:Nat} {W W':World} {v:Value} {x:List ByteArray} {t:TypeId} {cs:Array Value} (h:ReadT W.heap.size W v x) (hk:Bk W D t cs) (hcs:∀ (i:Nat) s,cs[i]?≠Option.some (.string s)) (hb:But (·=D) W W'):ReadT W'.heap.size W' v x:=by
 obtain⟨A,cap,hv,hc⟩:=h
 refine⟨A,cap,hv,fun h0=>?_⟩
 obtain⟨ad,ha,hbb,hcc⟩:=hc h0
 have hne:ad.block≠D:=by
  have h1:=kN hk hcs (hcc 0 x[0] (List.getElem?_eq_getElem h0));rw[au] at h1;exact h1
 exact⟨ad,ha,Nat.lt_of_lt_of_le hbb hb.size,fun i b hi=>by
  rw[fK (W:=W) (p:=ad.add i) (show W'.heap[(ad.add i).block]?=W.heap[(ad.add i).block]? by rw[au];exact hb.block ad.block hbb hne)];exact hcc i b hi⟩
theorem InU.butS {D:Nat} {W W':World} {u:aC} {t:TypeId} {cs:Array Value} (h:InU W u) (hk:Bk W D t cs) (hcs:∀ (i:Nat) s,cs[i]?≠some (.string s)) (hb:But (·=D) W W'):InU W' u:=by
 refine⟨ReadI.of_row (h.1.row.butS hk hcs hb (fun _=>⟨_,rfl⟩)) (fun p hp=>?_),h.2.butS hk hcs hb⟩
 obtain⟨_,_,_,_,hT⟩:=h.1
 exact(hT p hp).butS hk hcs hb
theorem ReadH.butS {D:Nat} {W W':World} {v:Value} {l:List aK} {t:TypeId} {cs:Array Value} (h:ReadH W v l) (hk:Bk W D t cs) (hcs:∀ (i:Nat) s,cs[i]?≠some (.string s)) (hb:But (·=D) W W'):ReadH W' v l :=
 ⟨h.1.butS hk hcs hb (fun _=>⟨_,rfl⟩),fun x hx=>⟨(h.2 x hx).1.butS hk hcs hb (fun _=>⟨_,rfl⟩),fun u hu=>((h.2 x hx).2 u hu).butS hk hcs hb⟩⟩
theorem pZ (A:Option Addr) (n c:Nat):∀ (i:Nat) s,(#[.slice A n c]:Array Value)[i]?≠some (.string s):=fun i s h=>by
 match i with
 | 0=>cases h
 | i+1=>simp at h
def gm (h:aK):List UInt8 × List (List UInt8):=(h.name,h.users.map (·.name))
theorem eM {l m:List aK} {s:List UInt8} {i k:Nat} {x:aK} {u:aC} (h:l.map gm=m.map gm) (hf:FirstU l s i k x u):∃ y z,FirstU m s i k y z:=by
 have hasN:∀ {a b:aK} {c d:aC},a.name=b.name→c.name=d.name→de a s c→de b s d:=fun h1 h2 h3=>by unfold de at h3 ⊢;rw[← h1,← h2];exact h3
 obtain⟨y,hy,e⟩:=bJ h hf.host
 have e1:y.name=x.name:=congrArg Prod.fst e;have e2:y.users.map (·.name)=x.users.map (·.name):=congrArg Prod.snd e
 obtain⟨z,hz,ez⟩:=bJ e2.symm hf.user
 refine⟨y,z,⟨hy,hz,hasN e1.symm ez.symm hf.is,fun i' h' hi' hh' u' hu' ha=>?_,fun k' u' hk' hu' ha=>?_⟩⟩
 · obtain⟨y',hy',e'⟩:=bJ h.symm hh'
   obtain⟨q,hq,rfl⟩:=List.getElem_of_mem hu'
   have e3:y'.name=h'.name:=congrArg Prod.fst e';have e4:y'.users.map (·.name)=h'.users.map (·.name):=congrArg Prod.snd e'
   obtain⟨z',hz',ez'⟩:=bJ e4.symm (List.getElem?_eq_getElem hq)
   exact hf.ahead i' y' hi' hy' z' (List.mem_of_getElem? hz') (hasN e3.symm ez'.symm ha)
 · obtain⟨z',hz',ez'⟩:=bJ e2 hu'
   exact hf.before k' z' hk' hz' (hasN e1 ez'.symm ha)
theorem gO {l:List aK} {s:List UInt8} {i k i2 k2:Nat} {x y:aK} {u z:aC} (h1:FirstU l s i k x u) (h2:FirstU l s i2 k2 y z):i=i2∧k=k2∧x=y∧u=z:=by
 have hi:i=i2:=by
  rcases Nat.lt_trichotomy i i2 with h | h | h
  · exact absurd h1.is (h2.ahead i x h h1.host u (List.mem_of_getElem? h1.user))
  · exact h
  · exact absurd h2.is (h1.ahead i2 y h h2.host z (List.mem_of_getElem? h2.user))
 subst hi;have hx:x=y:=Option.some.inj (h1.host.symm.trans h2.host);subst hx;have hk:k=k2:=by
  rcases Nat.lt_trichotomy k k2 with h | h | h
  · exact absurd h1.is (h2.before k u h h1.user)
  · exact h
  · exact absurd h2.is (h1.before k2 z h h2.user)
 subst hk
 exact⟨rfl,rfl,rfl,Option.some.inj (h1.user.symm.trans h2.user)⟩
theorem cN {l:List aK} {s:List UInt8} {i k:Nat} {x:aK} {u:aC} (h1:FirstU l s i k x u) (h2:NoU l s):False:=h2 x (List.mem_of_getElem? h1.host) u (List.mem_of_getElem? h1.user) h1.is
theorem ut {l m:List aK} (h:l.map cK=m.map cK):l.map gm=m.map gm:=by
 have e:∀ l:List aK,l.map gm=(l.map cK).map fun p=>(p.1,p.2.map (·.1)):=fun l=>by
  rw[List.map_map];refine List.map_congr_left fun x _=>?_
  show (x.name,x.users.map (·.name))=(x.name,(x.users.map cG).map (·.1));rw[List.map_map];rfl
 rw[e l,e m,h]
theorem oG {l l':List aK} {i k:Nat} {h:aK} {u0 u:aC} (hi:l[i]?=some h) (hk:h.users[k]?=some u0) (hp:l'.map cK=lM l i k h u0 u) :
 (l'.map gm=l.map gm)∧∀ {i2 k2:Nat} {y x:aK} {z v:aC},l'[i2]?=some y→y.users[k2]?=some z→l[i2]?=some x→x.users[k2]?=some v→(i2=i∧k2=k→cG z=(u0.name,u.pw,u.items.map (·.1),u.pend))∧(¬ (i2=i∧k2=k)→cG z=cG v):=by
 have hil:i < l.length:=(List.getElem?_eq_some_iff.1 hi).1;have hkl:k < h.users.length:=(List.getElem?_eq_some_iff.1 hk).1;have hat:∀ (i2:Nat) (y x:aK),l'[i2]?=some y→l[i2]?=some x→cK y=if i2=i then (h.name,(h.users.map cG).set k (u0.name,u.pw,u.items.map (·.1),u.pend)) else cK x:=fun i2 y x hy hx=>by
  have e1:(l'.map cK)[i2]?=some (cK y):=by rw[List.getElem?_map,hy];rfl
  rw[hp] at e1;unfold lM at e1;rw[List.getElem?_set] at e1
  by_cases he:i=i2
  · subst he
    rw[if_pos rfl,if_pos (by simpa using hil)] at e1;rw[if_pos rfl]
    exact(Option.some.inj e1).symm
  · rw[if_neg he,List.getElem?_map,hx] at e1
    rw[if_neg (fun e=>he e.symm)]
    exact(Option.some.inj e1).symm
 refine⟨?_,fun {i2 k2 y x z v} hy hz hx hv=>?_⟩
 · refine List.ext_getElem? fun j=>?_
   rw[List.getElem?_map,List.getElem?_map];have hlen:l'.length=l.length:=by
    have:=congrArg List.length hp
    unfold lM at this;simpa using this
   by_cases hj:j < l.length
   · have hy:=List.getElem?_eq_getElem (l:=l') (i:=j) (by omega)
     have hx:=List.getElem?_eq_getElem (l:=l) (i:=j) hj;have e:=hat j _ _ hy hx;rw[hy,hx];show some (gm l'[j])=some (gm l[j])
     congr 1
     have n1:gm l'[j]=((cK l'[j]).1,(cK l'[j]).2.map (·.1)):=by show (_,_)=(_,(List.map cG _).map _);rw[List.map_map];rfl
     have n2:gm l[j]=((cK l[j]).1,(cK l[j]).2.map (·.1)):=by show (_,_)=(_,(List.map cG _).map _);rw[List.map_map];rfl
     rw[n1,e]
     by_cases hji:j=i
     · subst hji
       rw[if_pos rfl];obtain rfl:l[j]=h:=Option.some.inj (hx.symm.trans hi);show (_,((l[j].users.map cG).set k _).map (·.1))=gm l[j];rw[List.map_set,List.map_map];show (l[j].name,(l[j].users.map fun u=>u.name).set k u0.name)=(l[j].name,l[j].users.map fun u=>u.name)
       congr 1
       refine List.ext_getElem? fun q=>?_
       rw[List.getElem?_set]
       by_cases hq:k=q
       · subst hq
         rw[if_pos rfl,if_pos (by simpa using hkl),List.getElem?_map,hk];rfl
       · rw[if_neg hq]
     · rw[if_neg hji,n2]
   · rw[List.getElem?_eq_none (by omega),List.getElem?_eq_none (by omega)]
 · have e:=hat i2 y x hy hx
   have ez:(cK y).2[k2]?=some (cG z):=by show (y.users.map cG)[k2]?=_;rw[List.getElem?_map,hz];rfl
   by_cases hji:i2=i
   · subst hji
     obtain rfl:x=h:=Option.some.inj (hx.symm.trans hi);rw[if_pos rfl] at e;rw[e] at ez;have ez2:((x.users.map cG).set k (u0.name,u.pw,u.items.map (·.1),u.pend))[k2]?=some (cG z):=ez;rw[List.getElem?_set] at ez2
     by_cases hq:k=k2
     · subst hq
       rw[if_pos rfl,if_pos (by simpa using hkl)] at ez2
       exact⟨fun _=>(Option.some.inj ez2).symm,fun hn=>absurd ⟨rfl,rfl⟩ hn⟩
     · rw[if_neg hq,List.getElem?_map,hv] at ez2
       exact⟨fun hn=>absurd hn.2.symm hq,fun _=>(Option.some.inj ez2).symm⟩
   · rw[if_neg hji] at e
     rw[e] at ez;have ez2:(x.users.map cG)[k2]?=some (cG z):=ez;rw[List.getElem?_map,hv] at ez2
     exact⟨fun hn=>absurd hn.1 hji,fun _=>(Option.some.inj ez2).symm⟩
def iw (i:Nat):List UInt8:=[[97,64,104],[98,64,104],[99,64,104],[97,64,120,46,121],[98,64,120,46,121],[97,64,122]].getD i []
theorem uw:∀ i j:Fin 6,iw i=iw j→i=j:=by decide
theorem li {W:World} {N:Nat} (h:Bk W N 9 #[.string ⟨#[97,64,104]⟩,.string ⟨#[98,64,104]⟩,.string ⟨#[99,64,104]⟩,.string ⟨#[97,64,120,46,121]⟩,.string ⟨#[98,64,120,46,121]⟩,.string ⟨#[97,64,122]⟩]) {i:Nat} (hi:i < 6):W.cell? ⟨N,i,none⟩=some (.string (aa (iw i))):=by
 match i,hi with
 | 0,_=>exact h.cell 0
 | 1,_=>exact h.cell 1
 | 2,_=>exact h.cell 2
 | 3,_=>exact h.cell 3
 | 4,_=>exact h.cell 4
 | 5,_=>exact h.cell 5
theorem lk:∀ i:Fin 6,(iw i).length≤1000000000:=by decide
def jY:aC:=⟨[],[],[],(none,0,0),[],(none,0,0)⟩
theorem tW (A C:Nat) (W:World):LiveU A C W jY:=⟨⟨none,0,rfl,fun h=>absurd h (Nat.lt_irrefl _)⟩,⟨none,0,rfl,fun h=>absurd h (Nat.lt_irrefl _)⟩⟩
def eK (hs:List aK) (s:List UInt8) (b:Bool) (y:aC):Prop:=(b=false∧NoU hs s∧cG y=cG jY)∨(b=true∧∃ i k h z,FirstU hs s i k h z∧cG y=cG z)
theorem kU (v:Value) (hs:List aK) (s:List UInt8) (w:World) (hR:ReadH w v hs) (hl:hs.length≤1000000) (hs2:∀ h∈hs,iD h) (hsl:s.length≤1000000000) :
 Calls Tryz.prog 13 #[.agg #[v],.string (aa s)] w fun e w'=>(∃ (b:Bool) (y:aC),e=.returned (.tuple #[.agg (af y).toArray,.bool b])∧LiveU w.heap.size w'.heap.size w' y∧eK hs s b y)∧Below w.heap.size w w':=by
 refine(ko v hs s w hR hl hs2 hsl).mono ?_
 rintro e w' ⟨hb,⟨hno,rfl⟩ | ⟨i,k,h,u,y,hf,rfl,hp,hlv⟩⟩
 · exact⟨⟨false,jY,rfl,tW _ _ _,.inl ⟨rfl,hno,rfl⟩⟩,hb⟩
 · exact⟨⟨true,y,rfl,hlv,.inr ⟨rfl,i,k,h,u,hf,hp⟩⟩,hb⟩
def ld (hs:List aK) (s:List UInt8) (b:Bool):Prop:=(b=false∧NoU hs s)∨(b=true∧∃ i k h z,FirstU hs s i k h z)
theorem rV (v:Value) (hs:List aK) (s:List UInt8) (w:World) (hR:ReadH w v hs) (hl:hs.length≤1000000) (hs2:∀ h∈hs,iD h) :
 Calls Tryz.prog 14 #[.agg #[v],.string (aa s)] w fun e w'=>(∃ (b:Bool) (y:aC),e=.returned (.tuple #[.agg (af y).toArray,.bool b])∧ld hs s b)∧Below w.heap.size w w':=by
 refine(oW v hs s w hR hl hs2).mono ?_
 rintro e w' ⟨hb,⟨hno,rfl⟩ | ⟨i,k,h,u,hf,rfl⟩⟩
 · exact⟨⟨false,jY,rfl,.inl ⟨rfl,hno⟩⟩,hb⟩
 · exact⟨⟨true,u,rfl,.inr ⟨rfl,i,k,h,u,hf⟩⟩,hb⟩
def rF (hs:List aK) (s:List UInt8) (x:aC) (b:Bool) (l':List aK):Prop:=(b=false∧NoU hs s∧l'.map cK=hs.map cK)∨(b=true∧∃ i k h u0,FirstU hs s i k h u0∧l'.map cK=lM hs i k h u0 x)
theorem sK (v:Value) (hs:List aK) (s:List UInt8) (u:aC) (w:World) (hR:ReadH w v hs) (hl:hs.length≤1000000) (hs2:∀ h∈hs,iD h) (hsl:s.length≤1000000000) (hU:InU w u) (hsu:lK u) :
 Calls Tryz.prog 15 #[.agg #[v],.string (aa s),.agg (af u).toArray] w fun e w'=>(∃ (b:Bool) (A:Option Addr) (n c:Nat) (l':List aK),e=.returned (.tuple #[.agg #[.slice A n c],.bool b])∧ReadH w' (.slice A n c) l'∧rF hs s u b l')∧Below w.heap.size w w':=by
 refine(ms v hs s u w hR hl hs2 hsl hU hsu).mono ?_
 rintro e w' ⟨hb,A,n,c,l',hr,⟨hno,rfl,hm⟩ | ⟨i,k,h,u0,hf,rfl,hm⟩⟩
 · exact⟨⟨false,A,n,c,l',rfl,hr,.inl ⟨rfl,hno,hm⟩⟩,hb⟩
 · exact⟨⟨true,A,n,c,l',rfl,hr,.inr ⟨rfl,i,k,h,u0,hf,hm⟩⟩,hb⟩
theorem q8 {hs:List aK} {s:List UInt8} {x:aC} {b b2:Bool} {l':List aK} (h1:ld hs s b) (h2:rF hs s x b2 l'):b=b2:=by
 rcases h1 with ⟨rfl,hn⟩ | ⟨rfl,i,k,h,z,hf⟩<;>rcases h2 with ⟨rfl,hn2,_⟩ | ⟨rfl,i2,k2,h2,z2,hf2,_⟩
 · rfl
 · exact(cN hf2 hn).elim
 · exact(cN hf hn2).elim
 · rfl
theorem rj {hs l':List aK} {s s2:List UInt8} {x y y2:aC} {b b1 b2:Bool} (hp:rF hs s x b l') (h1:eK hs s2 b1 y) (h2:eK l' s2 b2 y2) :
 b1=b2∧((s2=s∧b=true→cG (⟨y.name,x.pw,x.items,x.iv,x.pend,x.pv⟩:aC)=cG y2)∧(¬ (s2=s∧b=true)→cG y=cG y2)):=by
 have hn:l'.map gm=hs.map gm:=by
  rcases hp with ⟨_,_,hm⟩ | ⟨_,i,k,h,u0,hf,hm⟩
  · exact ut hm
  · exact(oG hf.host hf.user hm).1
 rcases h1 with ⟨rfl,hn1,hy⟩ | ⟨rfl,i1,k1,g1,z1,hf1,hy⟩<;>rcases h2 with ⟨rfl,hn2,hy2⟩ | ⟨rfl,i2,k2,g2,z2,hf2,hy2⟩
 · refine⟨rfl,fun hs2=>?_,fun _=>by rw[hy,hy2]⟩
   rcases hp with ⟨hb,_⟩ | ⟨_,i,k,h,u0,hf,_⟩
   · rw[hb] at hs2;cases hs2.2
   · rw[← hs2.1] at hf
     exact(cN hf hn1).elim
 · obtain⟨_,_,hf3⟩:=eM hn hf2
   exact(cN hf3 hn1).elim
 · obtain⟨_,_,hf3⟩:=eM hn.symm hf1
   exact(cN hf3 hn2).elim
 · obtain⟨g3,z3,hf3⟩:=eM hn hf2
   obtain⟨rfl,rfl,rfl,rfl⟩:=gO hf1 hf3
   refine⟨rfl,fun hs2=>?_,fun hs2=>?_⟩
   · rcases hp with ⟨hb,_⟩ | ⟨_,i,k,h,u0,hf,hm⟩
     · rw[hb] at hs2;cases hs2.2
     · rw[← hs2.1] at hf
       obtain⟨rfl,rfl,rfl,rfl⟩:=gO hf hf1
       have h4:=((oG hf.host hf.user hm).2 hf2.host hf2.user hf.host hf.user).1 ⟨rfl,rfl⟩;rw[hy2,h4];have h5:y.name=u0.name:=congrArg Prod.fst hy;rw[← h5];rfl
   · rcases hp with ⟨hb,_,hm⟩ | ⟨hb,i,k,h,u0,hf,hm⟩
     · obtain⟨y3,z4,hf4,_,e4⟩:=FirstU.same hm.symm hf1
       obtain⟨_,_,_,rfl⟩:=gO hf4 hf2
       rw[hy,hy2,e4]
     · have h4:=((oG hf.host hf.user hm).2 hf2.host hf2.user hf1.host hf1.user).2 (fun ⟨e1,e2⟩=>by
        subst e1 e2;have h6:=hf1.is;have h7:=hf.is;obtain rfl:g1=h:=Option.some.inj (hf1.host.symm.trans hf.host);obtain rfl:z1=u0:=Option.some.inj (hf1.user.symm.trans hf.user);unfold de at h6 h7;exact hs2 ⟨by rw[← h6,← h7],hb⟩)
       rw[hy,hy2,h4]
theorem wB {hs l':List aK} {s:List UInt8} {x:aC} {b:Bool} (h:rF hs s x b l') (h1:∀ y∈hs,iD y) (hx:lK x):l'.length=hs.length∧∀ y∈l',iD y:=by
 rcases h with ⟨_,_,hm⟩ | ⟨_,i,k,g,u0,hf,hm⟩
 · have:=congrArg List.length hm
   rw[List.length_map,List.length_map] at this
   exact⟨this,iG hm.symm h1⟩
 · have hg:=h1 g (List.mem_of_getElem? hf.host)
   have hu:=hg.each u0 (List.mem_of_getElem? hf.user);have e:l'.map cK=(hs.set i ⟨g.name,g.users.set k ⟨u0.name,x.pw,x.items,x.iv,x.pend,x.pv⟩,g.uv⟩).map cK:=by
    rw[hm];unfold lM;rw[List.map_set];show _=(hs.map cK).set i (g.name,(g.users.set k _).map cG);rw[List.map_set];rfl
   have hlen:=congrArg List.length e;rw[List.length_map,List.length_map,List.length_set] at hlen
   refine⟨hlen,iG e.symm fun y hy=>?_⟩
   rcases List.mem_or_eq_of_mem_set hy with hy | rfl
   · exact h1 y hy
   · refine⟨hg.name,by show (g.users.set k _).length≤_;rw[List.length_set];exact hg.users,fun v hv=>?_⟩
     rcases List.mem_or_eq_of_mem_set hv with hv | rfl
     · exact hg.each v hv
     · exact⟨hu.name,hx.pw,hx.items,hx.eachI,hx.pend,hx.eachP⟩
theorem sV {hs:List aK} {s:List UInt8} {y:aC} {b:Bool} (h:eK hs s b y) (h1:∀ y∈hs,iD y):lK y:=by
 rcases h with ⟨_,_,hy⟩ | ⟨_,i,k,g,z,hf,hy⟩
 · exact oH hy.symm ⟨by simp[jY],by simp[jY],by simp[jY],fun p hp=>by simp[jY] at hp,by simp[jY],fun t ht=>by simp[jY] at ht⟩
 · exact oH hy.symm ((h1 g (List.mem_of_getElem? hf.host)).each z (List.mem_of_getElem? hf.user))
theorem LiveU.wider {A A' C C':Nat} {W:World} {u:aC} (h:LiveU A C W u) (hA:A'≤A) (hC:C≤C'):LiveU A' C' W u:=⟨LiveR.wider h.1 hA hC,LiveT.wider h.2 hA hC⟩
theorem tA {n:List UInt8} {u:aC} (h:es n u) (hn:n.length≤1000):lK u:=by
 refine⟨by rw[h.name];omega,?_,Nat.le_trans h.items.len (by decide),fun p hp=>?_,Nat.le_trans h.len (by decide),fun t ht=>?_⟩
 · have:=gD (n:=20) h.pw;omega
 · obtain⟨h1,h2,h3,h4⟩:=(h.items.near p hp).sizes
   exact⟨by omega,by omega,by omega,fun g hg=>by have:=h4 g hg;omega⟩
 · obtain⟨s,k,e⟩:=h.near t ht
   rw[e];exact Nat.le_trans (fR s k) (by decide)
theorem rS (k:Nat):(dT k).length≤1000:=by
 unfold dT;repeat' split
 all_goals simp
theorem rX (k:Nat):(iZ k).length≤1000:=by
 unfold iZ;repeat' split
 all_goals simp
theorem uJ {l:List aK} (h:jz l):∀ x∈l,iD x:=fun x hx=>by
 obtain⟨i,hi,rfl⟩:=List.getElem_of_mem hx
 have hm:=h.each i _ (List.getElem?_eq_getElem hi)
 refine⟨by rw[hm.name];exact Nat.le_trans (rX i) (by decide),Nat.le_trans hm.len (by decide),fun u hu=>?_⟩
 obtain⟨k,hk,rfl⟩:=List.getElem_of_mem hu
 exact tA (hm.near k _ (List.getElem?_eq_getElem hk)) (rS k)
theorem own_reads {B:Nat} {w:World} {v:Value} {l:List aK} (h:OwnV aA 2 47 B w v l) (ha:∀ x∈l,OwnHU B w x):ReadH w v l :=
 ⟨h.row (fun _=>rfl),fun x hx=>⟨(ha x hx).1.row (fun _=>rfl),fun u hu=>((ha x hx).2 u hu).inU⟩⟩
theorem jh (w:World) (q:Nat) (a:Value):But (·=q) w (ct w q a):=aD _ q 0 a
structure PutsS (W X:World) (G UB N:Nat) (sv:Value) (l:List aK) (x:aC):Prop where
 kg:Bk X G 24 #[sv]
 ku:Bk X UB 28 (af x).toArray
 kn:Bk X N 9 #[.string ⟨#[97,64,104]⟩,.string ⟨#[98,64,104]⟩,.string ⟨#[99,64,104]⟩,.string ⟨#[97,64,120,46,121]⟩,.string ⟨#[98,64,120,46,121]⟩,.string ⟨#[97,64,122]⟩]
 rs:ReadH X sv l
 ix:InU X x
 bw:Below W.heap.size W X
theorem PutsS.below {W X Y:World} {G UB N:Nat} {sv:Value} {l:List aK} {x:aC} (h:PutsS W X G UB N sv l x) (b:Below X.heap.size X Y):PutsS W Y G UB N sv l x :=
 ⟨h.kg.below b h.kg.lt,h.ku.below b h.ku.lt,h.kn.below b h.kn.lt,h.rs.upon b,h.ix.upon b,h.bw.trans (b.mono h.bw.size)⟩
structure PutsT (W X:World) (G UB N T:Nat) (sv tv:Value) (l l':List aK) (x:aC):Prop where
 s:PutsS W X G UB N sv l x
 kt:Bk X T 24 #[tv]
 rt:ReadH X tv l'
theorem PutsT.below {W X Y:World} {G UB N T:Nat} {sv tv:Value} {l l':List aK} {x:aC} (h:PutsT W X G UB N T sv tv l l' x) (b:Below X.heap.size X Y):PutsT W Y G UB N T sv tv l l' x :=
 ⟨h.s.below b,h.kt.below b h.kt.lt,h.rt.upon b⟩
set_option linter.unusedSimpArgs false in
set_option maxHeartbeats 16000000 in
set_option maxRecDepth 100000 in
theorem jS (v:Value) (hs:List aK) (x:aC) (k:Int) (W:World) (hO:Okw W) (hT:Tabs W) (hR:ReadH W v hs) (hS:bW hs≤100000000) (hU:InU W x) (hI:be x.items≤50000000) (hP:ax x.pend≤100000000) (hX:x.name.length≤100000000∧x.pw.length≤100000000) :
 Calls Tryz.prog 6 #[.agg #[v],.agg (af x).toArray,.int .i64 k] W fun e w'=>e=.returned (.bool true)∧Below W.heap.size W w':=by
 have HAW:Hid (∀ w,Below W.heap.size W w→Calls Tryz.prog 11 #[] w fun e w'=>e=.returned (.bool true)∧Below w.heap.size w w'):=fun w b=>tN w (hO.below b) (hT.below b)
 have HSM:Hid (∀ w,Below W.heap.size W w→Calls Tryz.prog 8 #[.agg #[v]] w fun e w'=>e=.returned (.bool (decide (bW hs≤20000)))∧Below w.heap.size w w'):=fun w b=>kO v hs w (hR.upon b) hS
 have HSI:Hid (∀ w,Below W.heap.size W w→Calls Tryz.prog 9 #[sl x.iv] w fun e w'=>tl x.items e∧Below w.heap.size w w'):=fun w b=>ph (sl x.iv) x.items w (hU.1.upon b) hI
 have HTX:Hid (∀ w,Below W.heap.size W w→Calls Tryz.prog 10 #[sl x.pv] w fun e w'=>e=.returned (.int .i64 (ax x.pend:Nat))∧Below w.heap.size w w'):=fun w b =>
  (fN (sl x.pv) x.pend w (hU.2.upon b) (by have:=cV x.pend;omega) (by omega)).mono fun _ _ ⟨he,hw⟩=>⟨he,by rw[hw];exact Below.refl _ _⟩
 have HST:Hid (bW hs≤20000→∀ w,Below W.heap.size W w→Calls Tryz.prog 27 #[.agg #[v]] w fun e w'=>(∃ v' l,e=.returned (.agg #[v'])∧OwnV aA 2 47 w.heap.size w' v' l∧(∀ h∈l,OwnHU w.heap.size w' h)∧jz l)∧Below w.heap.size w w'):=fun h20 w b =>
  pH v hs w (hR.upon b) (kG h20 (by decide)).1 (kG h20 (by decide)).2.2
 have HSX:Hid (be x.items≤20000→ax x.pend≤2000→lK x):=fun h1 h2 =>
  ⟨hX.1,hX.2,by have:=ep x.items;omega,fun p hp=>(iQ (n:=20000) (Nat.le_trans (ew hp) h1) (by decide)).1,by have:=cV x.pend;omega,fun t ht=>by have:=dC ht;omega⟩
 obtain⟨n,hn,hn6⟩:=qi k 6 (by omega) (by omega)
 have hk2:IntKind.i64.wrap ((IntKind.u64.wrap k).tmod 6)=(n:Int):=by have h:=hn;unfold wrap64 at h;rw[IntKind.wrap_i64];exact h
 have HK:=Lib.hid hk2;have HN6:Hid (n < 6):=by unfold Hid;omega
 have HIX:=Lib.hid hU;have hsl:∃ A m c,v=.slice A m c:=by obtain⟨⟨A,cap,hv,_⟩,_⟩:=hR;exact⟨A,_,cap,hv⟩
 obtain⟨VA,vn,vc,rfl⟩:=hsl
 obtain⟨hvt,HVT⟩:∃ t:Nat,ax x.pend=t:=⟨_,rfl⟩
 rw[HVT] at HTX HSX;clear HVT hn hk2 hn6 hO hT hR hS hU hI hP hX
 obtain⟨hx,HHX⟩:∃ t:Nat,bW hs=t:=⟨_,rfl⟩
 rw[HHX] at HSM HST;clear HHX
 obtain⟨x1,x2,x3,⟨XIA,xin,xic⟩,x4,⟨XPA,xpn,xpc⟩⟩:=x
 have eU:(af ⟨x1,x2,x3,(XIA,xin,xic),x4,(XPA,xpn,xpc)⟩).toArray=#[.string (aa x1),.string (aa x2),.slice XIA xin xic,.slice XPA xpn xpc]:=rfl;have e1:sl (XIA,xin,xic)=.slice XIA xin xic:=rfl;have e2:sl (XPA,xpn,xpc)=.slice XPA xpn xpc:=rfl;dsimp only at HSI HTX HSX;rw[e1] at HSI;rw[e2] at HTX;rw[eU]
 obtain⟨x,hx2⟩:∃ x:aC,(⟨x1,x2,x3,(XIA,xin,xic),x4,(XPA,xpn,xpc)⟩:aC)=x:=⟨_,rfl⟩
 obtain⟨X0,hX0⟩:∃ J,aa x1=J:=⟨_,rfl⟩
 obtain⟨X1,hX1⟩:∃ J,aa x2=J:=⟨_,rfl⟩
 have HEX:Hid ((af x).toArray=#[.string X0,.string X1,.slice XIA xin xic,.slice XPA xpn xpc]):=by unfold Hid;rw[← hx2,← hX0,← hX1];rfl
 have HXF:Hid (x.pw=x2∧x.items=x3∧x.iv=(XIA,xin,xic)∧x.pend=x4∧x.pv=(XPA,xpn,xpc)):=by unfold Hid;rw[← hx2];exact⟨rfl,rfl,rfl,rfl,rfl⟩
 have HX1:Hid (aa x2=X1):=hX1;rw[hx2] at HSX HIX;rw[hX0,hX1];clear eU e1 e2 hx2 hX0 hX1
 obtain⟨G,hG⟩:∃ G,W.heap.size=G:=⟨_,rfl⟩
 obtain⟨W1,hW1⟩:∃ W1,W.alloc (.cells #[.slice VA vn vc] 24)=W1:=⟨_,rfl⟩
 obtain⟨UB,hUB⟩:∃ R,W1.heap.size=R:=⟨_,rfl⟩
 obtain⟨W2,hW2⟩:∃ W2,W1.alloc (.cells #[.string X0,.string X1,.slice XIA xin xic,.slice XPA xpn xpc] 28)=W2:=⟨_,rfl⟩
 have b1:Below W.heap.size W W1:=by rw[← hW1];exact(Below.refl _ _).alloc (Nat.le_refl _) _
 have b2:Below W1.heap.size W1 W2:=by rw[← hW2];exact(Below.refl _ _).alloc (Nat.le_refl _) _
 have B2:Hid (Below W.heap.size W W2):=b1.trans (b2.mono b1.size);have k1:Bk W1 G 24 #[.slice VA vn vc]:=by rw[← hW1,← hG];exact Bk.new _ _ _
 have k2:Bk W2 UB 28 #[.string X0,.string X1,.slice XIA xin xic,.slice XPA xpn xpc]:=by rw[← hW2,← hUB];exact Bk.new _ _ _
 have KG:=Lib.hid (k1.below b2 k1.lt);have KU:=Lib.hid k2;have HGW:Hid (W.heap.size≤G):=by rw[← hG];exact Nat.le_refl _
 have HGU:Hid (UB≠G):=by have:=k1.lt;unfold Hid;omega
 have g0:W2.cell? ⟨G,0,none⟩=some (.slice VA vn vc):=KG.out.cell 0;clear b1 b2 k1 k2;go_enter Tryz.func6,Tryz.ntmps6
 go_upto_region 1 with fail
 (try rw[hW1]);(try rw[hUB]);(try rw[hG]);(try rw[hW2]);clear hW1 hW2 hUB hG
 go_upto_region 1 with fail
 go_cut [31] from 17 to 31 (fun s wx=>∃ b:Bool,s=.bool b∧Hid (b=false→hx≤20000∧be x3≤20000∧hvt≤2000)∧Hid (Below W2.heap.size W2 wx))
 case first =>
  go_wp2_with fail
  refine(HSM.out W2 B2.out).mono ?_
  rintro e w3 ⟨rfl,b3⟩;have B3:Hid (Below W2.heap.size W2 w3):=b3;have B3W:Hid (Below W.heap.size W w3):=B2.out.trans (b3.mono B2.out.size);clear b3
  by_cases hc:hx≤20000
  · have hcd:decide (hx≤20000)=true:=decide_eq_true hc
    rw[hcd];have u2:w3.cell? ⟨UB,2,none⟩=some (.slice XIA xin xic):=(KU.out.below B3.out KU.out.lt).cell 2
    go_wp2_with fail
    refine(HSI.out w3 B3W.out).mono ?_
    rintro e w4 ⟨⟨b,rfl,hb⟩,b4⟩;have B4:Hid (Below W2.heap.size W2 w4):=B3.out.trans (b4.mono B3.out.size);have B4W:Hid (Below W.heap.size W w4):=B2.out.trans (B4.out.mono B2.out.size);clear b4;cases b with
    | false =>
      go_wp2_with fail
      go_meet
      exact⟨true,rfl,(fun h=>by cases h),B4⟩
    | true =>
      have hib:=(hb rfl).2;have u3:w4.cell? ⟨UB,3,none⟩=some (.slice XPA xpn xpc):=(KU.out.below B4.out KU.out.lt).cell 3;clear hb
      go_wp2_with fail
      refine(HTX.out w4 B4W.out).mono ?_
      rintro e w5 ⟨rfl,b5⟩;have B5:Hid (Below W2.heap.size W2 w5):=B4.out.trans (b5.mono B4.out.size);clear b5
      by_cases hd:hvt≤2000
      · have hdz:decide ((2000:Int) < (hvt:Int))=false:=decide_eq_false (by omega)
        go_wp2_with fail
        go_meet
        exact⟨false,by first | rfl | (rw[hdz];rfl),fun _=>⟨hc,hib,hd⟩,B5⟩
      · have hdz:decide ((2000:Int) < (hvt:Int))=true:=decide_eq_true (by omega)
        go_wp2_with fail
        go_meet
        exact⟨true,by first | rfl | (rw[hdz];rfl),(fun h=>by cases h),B5⟩
  · have hcd:decide (hx≤20000)=false:=decide_eq_false hc
    rw[hcd]
    go_wp2_with fail
    go_meet
    exact⟨true,rfl,(fun h=>by cases h),B3⟩
 case rest =>
 obtain⟨cb,rfl,HCB,BC⟩:=hcut
 obtain⟨wz,hwz⟩:∃ z,z=wc:=⟨_,rfl⟩
 rw[← hwz] at BC ⊢;clear hwz;have BZW:Hid (Below W.heap.size W wz):=B2.out.trans (BC.out.mono B2.out.size);clear g0;cases cb with
 | true =>
   go_wp2_with fail
   refine(HAW.out wz BZW.out).mono ?_
   rintro e w3 ⟨rfl,b3⟩;have B3:Hid (Below W.heap.size W w3):=BZW.out.trans (b3.mono BZW.out.size);clear b3
   go_wp2_with fail
   go_ret
   exact⟨rfl,B3.out⟩
 | false =>
   have HCC:=Lib.hid (HCB.out rfl);clear HCB;have g0:wz.cell? ⟨G,0,none⟩=some (.slice VA vn vc):=(KG.out.below BC.out KG.out.lt).cell 0;have HP1:=Lib.hid (HST.out HCC.out.1 wz BZW.out)
   go_wp2_with fail
   refine HP1.out.mono ?_;rintro e w3 ⟨⟨v',l,rfl,hov,hoh,hms⟩,b3⟩;have hz3:wz.heap.size≤w3.heap.size:=b3.size;have hvs:=hov.slice
   obtain⟨SA,sc,hv'⟩:=hvs
   obtain⟨sn,hsn⟩:∃ n,l.length=n:=⟨_,rfl⟩
   rw[hsn] at hv';subst hv';have kg3:Bk w3 G 24 #[.slice VA vn vc]:=(KG.out.below BC.out KG.out.lt).below b3 (KG.out.below BC.out KG.out.lt).lt;have ku3:Bk w3 UB 28 #[.string X0,.string X1,.slice XIA xin xic,.slice XPA xpn xpc]:=(KU.out.below BC.out KU.out.lt).below b3 (KU.out.below BC.out KU.out.lt).lt;have bw3:Below W.heap.size W w3:=BZW.out.trans (b3.mono BZW.out.size);have c3:w3.cell? ⟨G,0,none⟩=some (.slice VA vn vc):=kg3.cell 0;have f3:w3.frozen? ⟨G,0,none⟩=false:=kg3.free 0
   obtain⟨w4,hw4⟩:∃ z,w3.setCell ⟨G,0,none⟩ (.slice SA sn sc)=z:=⟨_,rfl⟩
   have but4:But (·=G) w3 w4:=by rw[← hw4];exact aD _ _ _ _
   have KG4:Hid (Bk w4 G 24 #[.slice SA sn sc]):=by rw[← hw4];exact kg3.put 0 _
   have KU4:Hid (Bk w4 UB 28 #[.string X0,.string X1,.slice XIA xin xic,.slice XPA xpn xpc]):=but4.bkI ku3 (fun e=>HGU.out e);have RS4:Hid (ReadH w4 (.slice SA sn sc) l):=own_reads (hov.butT but4 kg3 (by decide)) (fun h hh=>(hoh h hh).butT but4 kg3 (by decide) (by decide) (by decide));have BW4:Hid (Below W.heap.size W w4):=by rw[← hw4];exact bw3.setCell (p:=⟨G,0,none⟩) HGW.out _
   have HSL:=Lib.hid (uJ hms);have HLL:Hid (l.length≤1000000):=Nat.le_trans hms.len (by decide);clear b3 hov hoh hms hz3 hsn kg3 ku3 bw3 but4 g0
   go_upto_region 4 with fail
   (try rw[hw4]);clear c3 f3 hw4
   obtain⟨N,hN⟩:∃ R,w4.heap.size=R:=⟨_,rfl⟩
   obtain⟨wb,hwb⟩:∃ z,w4.alloc (.cells #[.string ⟨#[97,64,104]⟩,.string ⟨#[98,64,104]⟩,.string ⟨#[99,64,104]⟩,.string ⟨#[97,64,120,46,121]⟩,.string ⟨#[98,64,120,46,121]⟩,.string ⟨#[97,64,122]⟩] 9)=z:=⟨_,rfl⟩
   have bb4:Below w4.heap.size w4 wb:=by rw[← hwb];exact(Below.refl _ _).alloc (Nat.le_refl _) _
   have PS:Hid (PutsS W wb G UB N (.slice SA sn sc) l x):=⟨KG4.out.below bb4 KG4.out.lt,by rw[HEX.out];exact KU4.out.below bb4 KU4.out.lt,by rw[← hwb,← hN];exact Bk.new _ _ _,RS4.out.upon bb4,(HIX.out.upon BW4.out).upon bb4,BW4.out.trans (bb4.mono BW4.out.size)⟩;have hk2:IntKind.i64.wrap ((IntKind.u64.wrap k).tmod 6)=(n:Int):=HK.out;clear bb4 KG4 KU4 RS4 BW4
   go_upto_region 6 with fail
   (try rw[hwb]);(try rw[hN]);clear hwb hN hk2
   go_upto_region 6 with fail
   have hn6:n < 6:=HN6.out;have hn6z:(n:Int) < 6:=by omega
   have hn0z:(0:Int)≤(n:Int):=by omega
   obtain⟨NX,hNX⟩:∃ J,aa (iw n)=J:=⟨_,rfl⟩
   have HNQ:=Lib.hid hNX;have HG:Hid (∀ Y,Below wb.heap.size wb Y→Y.cell? ⟨G,0,none⟩=some (.slice SA sn sc)):=fun Y b=>(PS.out.below b).kg.cell 0
   have HNX:Hid (∀ Y,Below wb.heap.size wb Y→Y.cell? ⟨N,n,none⟩=some (.string NX)):=fun Y b=>by rw[← hNX];exact li (PS.out.below b).kn HN6.out
   have HFU:Hid (∀ Y,Below wb.heap.size wb Y→Calls Tryz.prog 14 #[.agg #[.slice SA sn sc],.string NX] Y fun e w'=>(∃ (b:Bool) (y:aC),e=.returned (.tuple #[.agg (af y).toArray,.bool b])∧ld l (iw n) b)∧Below Y.heap.size Y w'):=fun Y b=>by
    rw[← hNX];exact rV (.slice SA sn sc) l (iw n) Y (PS.out.below b).rs HLL.out HSL.out
   clear hNX
   go_cut [9] from 40 to 48 (fun bv wx=>∃ bb:Bool,bv=.bool bb∧Hid (ld l (iw n) bb)∧Hid (Below wb.heap.size wb wx))
   case first K1 K0 hJ1 hK0 =>
    have bN:Below wb.heap.size wb wb.drew:=(Below.refl _ _).drew;refine wp_region_held_drew (S:=fun w'=>Below wb.heap.size wb w'∧w'.cell? ⟨G,0,none⟩=some (.slice SA sn sc)∧w'.cell? ⟨N,n,none⟩=some (.string NX)) (by kernel_rfl) ?_ (fun hHeld=>?_)
    · exact⟨bN,HG.out _ bN,HNX.out _ bN⟩
    obtain⟨wd,hwd⟩:∃ z,wb.drew=z:=⟨_,rfl⟩
    rw[hwd] at bN hHeld ⊢;clear hwd;refine az 0 (some 41) ?v1 ?y1 ?n1
    case y1=>intro w hSw;(try dsimp only at hSw);go_simp;try with_reducible rfl
    try simp only[Act.put,List.setIfInBounds_toArray,List.set_cons_zero,List.set_cons_succ]
    refine az 1 (some 42) ?v2 ?y2 ?n2
    case y2=>intro w hSw;(try dsimp only at hSw);go_simp;try with_reducible rfl
    try simp only[Act.put,List.setIfInBounds_toArray,List.set_cons_zero,List.set_cons_succ]
    refine az 2 (some 43) ?v3 ?y3 ?n3
    case y3=>intro w hSw;(try dsimp only at hSw);go_simp;try with_reducible rfl
    try simp only[Act.put,List.setIfInBounds_toArray,List.set_cons_zero,List.set_cons_succ]
    refine az 3 (some 44) ?v4 ?y4 ?n4
    case y4=>intro w hSw;(try dsimp only at hSw);go_simp;try with_reducible rfl
    try simp only[Act.put,List.setIfInBounds_toArray,List.set_cons_zero,List.set_cons_succ]
    refine az 4 (some 45) ?v5 ?y5 ?n5
    case y5=>intro w hSw;(try dsimp only at hSw);go_simp;try with_reducible rfl
    try simp only[Act.put,List.setIfInBounds_toArray,List.set_cons_zero,List.set_cons_succ]
    refine wpAnyH_ready (rs:=[5,9]) (by kernel_rfl) (by simp) ?_;refine AllReadyH.cons (i:=5) rfl (fun K hK=>?_) (AllReadyH.cons (i:=9) rfl (fun K hK=>?_) AllReadyH.nil)
    · go_simp
      refine(HFU.out wd bN).mono ?_
      rintro e wv1 ⟨⟨bb,y,rfl,hfo⟩,bC⟩;have HFO:=Lib.hid hfo;clear hfo
      obtain⟨y1,y2,y3,⟨YI,yi,yj⟩,y4,⟨YP,yp,yq⟩⟩:=y
      have hag:(af ⟨y1,y2,y3,(YI,yi,yj),y4,(YP,yp,yq)⟩).toArray=#[.string (aa y1),.string (aa y2),.slice YI yi yj,.slice YP yp yq]:=rfl;rw[hag];clear hag
      obtain⟨y,hy⟩:∃ y:aC,(⟨y1,y2,y3,(YI,yi,yj),y4,(YP,yp,yq)⟩:aC)=y:=⟨_,rfl⟩
      obtain⟨Y0,hY0⟩:∃ J,aa y1=J:=⟨_,rfl⟩
      obtain⟨Y1,hY1⟩:∃ J,aa y2=J:=⟨_,rfl⟩
      have HEY:Hid ((af y).toArray=#[.string Y0,.string Y1,.slice YI yi yj,.slice YP yp yq]):=by unfold Hid;rw[← hy,← hY0,← hY1];rfl
      rw[hY0,hY1];clear hy;clear hY0 hY1;have bN:=bN.trans (bC.mono bN.size);clear bC
      go_wp2_with fail
      refine hK.out _ _ ?_ (fun hHeld=>?_)
      · exact⟨bN,HG.out _ bN,HNX.out _ bN⟩
      clear hK K
      try simp only[Act.put,List.setIfInBounds_toArray,List.set_cons_zero,List.set_cons_succ]
      refine az 6 (some 40) ?v6 ?y6 ?n6
      case y6=>intro w hSw;(try dsimp only at hSw);go_simp;try with_reducible rfl
      try simp only[Act.put,List.setIfInBounds_toArray,List.set_cons_zero,List.set_cons_succ]
      refine az 7 (some 47) ?v7 ?y7 ?n7
      case y7=>intro w hSw;(try dsimp only at hSw);go_simp;try with_reducible rfl
      try simp only[Act.put,List.setIfInBounds_toArray,List.set_cons_zero,List.set_cons_succ]
      refine az 8 (some 48) ?v8 ?y8 ?n8
      case y8=>intro w hSw;(try dsimp only at hSw);go_simp;try with_reducible rfl
      try simp only[Act.put,List.setIfInBounds_toArray,List.set_cons_zero,List.set_cons_succ]
      refine wpAnyH_ready (rs:=[9]) (by kernel_rfl) (by simp) ?_;refine AllReadyH.cons (i:=9) rfl (fun K hK=>?_) AllReadyH.nil;go_simp
      obtain⟨wv2,hwv2⟩:∃ z,World.alloc wv1 (.cells #[.string ⟨#[]⟩,.string ⟨#[]⟩,.slice none 0 0,.slice none 0 0] 28)=z:=⟨_,rfl⟩
      obtain⟨D,hD⟩:∃ D,wv1.heap.size=D:=⟨_,rfl⟩
      have bC:Below wv1.heap.size wv1 wv2:=by rw[← hwv2];exact(Below.refl _ _).alloc (Nat.le_refl _) _
      have kD:Bk wv2 D 28 #[.string ⟨#[]⟩,.string ⟨#[]⟩,.slice none 0 0,.slice none 0 0]:=by rw[← hwv2,← hD];exact Bk.new _ _ _
      have hDW:wb.heap.size≤D:=by rw[← hD];exact bN.size
      have hDlt:D < wv2.heap.size:=kD.lt;have bN:=bN.trans (bC.mono bN.size);clear bC;(try rw[hwv2]);(try rw[hD]);clear hwv2 hD;refine hK.out _ _ ?_ (fun hHeld=>?_)
      · exact⟨bN,HG.out _ bN,HNX.out _ bN⟩
      clear hK K
      try simp only[Act.put,List.setIfInBounds_toArray,List.set_cons_zero,List.set_cons_succ]
      refine wpAnyH_ready (rs:=[10]) (by kernel_rfl) (by simp) ?_;refine AllReadyH.cons (i:=10) rfl (fun K hK=>?_) AllReadyH.nil;go_simp;have y0:=kD.cell 0;have z0:=kD.free 0;have y1:=kD.cell 1;have z1:=kD.free 1;have y2:=kD.cell 2;have z2:=kD.free 2;have y3:=kD.cell 3;have z3:=kD.free 3;go_simp;have kD:=aF kD (.string Y0) (.string Y1) (.slice YI yi yj) (.slice YP yp yq);have bN:=aj bN hDW (.string Y0) (.string Y1) (.slice YI yi yj) (.slice YP yp yq);refine hK.out _ _ ?_ (fun hHeld=>?_)
      · exact⟨bN,HG.out _ bN,HNX.out _ bN⟩
      clear hK K
      try simp only[Act.put,List.setIfInBounds_toArray,List.set_cons_zero,List.set_cons_succ]
      refine az 11 (some 9) ?v9 ?y9 ?n9
      case y9=>intro w hSw;(try dsimp only at hSw);go_simp;try with_reducible rfl
      try simp only[Act.put,List.setIfInBounds_toArray,List.set_cons_zero,List.set_cons_succ]
      refine wpAnyH_done (by kernel_rfl) ?_ _;refine hK0 _ _ (Met.intro (hJ1 _ _ ?_))
      (repeat apply Exists.intro)
      refine⟨?_,rfl⟩
      exact⟨bb,rfl,HFO,bN⟩
    · go_simp
      obtain⟨wv1,hwv1⟩:∃ z,World.alloc wd (.cells #[.string ⟨#[]⟩,.string ⟨#[]⟩,.slice none 0 0,.slice none 0 0] 28)=z:=⟨_,rfl⟩
      obtain⟨D,hD⟩:∃ D,wd.heap.size=D:=⟨_,rfl⟩
      have bC:Below wd.heap.size wd wv1:=by rw[← hwv1];exact(Below.refl _ _).alloc (Nat.le_refl _) _
      have kD:Bk wv1 D 28 #[.string ⟨#[]⟩,.string ⟨#[]⟩,.slice none 0 0,.slice none 0 0]:=by rw[← hwv1,← hD];exact Bk.new _ _ _
      have hDW:wb.heap.size≤D:=by rw[← hD];exact bN.size
      have hDlt:D < wv1.heap.size:=kD.lt;have bN:=bN.trans (bC.mono bN.size);clear bC;(try rw[hwv1]);(try rw[hD]);clear hwv1 hD;refine hK.out _ _ ?_ (fun hHeld=>?_)
      · exact⟨bN,HG.out _ bN,HNX.out _ bN⟩
      clear hK K
      try simp only[Act.put,List.setIfInBounds_toArray,List.set_cons_zero,List.set_cons_succ]
      refine wpAnyH_ready (rs:=[5]) (by kernel_rfl) (by simp) ?_;refine AllReadyH.cons (i:=5) rfl (fun K hK=>?_) AllReadyH.nil;go_simp
      refine(HFU.out wv1 bN).mono ?_
      rintro e wv2 ⟨⟨bb,y,rfl,hfo⟩,bC⟩;have HFO:=Lib.hid hfo;clear hfo
      obtain⟨y1,y2,y3,⟨YI,yi,yj⟩,y4,⟨YP,yp,yq⟩⟩:=y
      have hag:(af ⟨y1,y2,y3,(YI,yi,yj),y4,(YP,yp,yq)⟩).toArray=#[.string (aa y1),.string (aa y2),.slice YI yi yj,.slice YP yp yq]:=rfl;rw[hag];clear hag
      obtain⟨y,hy⟩:∃ y:aC,(⟨y1,y2,y3,(YI,yi,yj),y4,(YP,yp,yq)⟩:aC)=y:=⟨_,rfl⟩
      obtain⟨Y0,hY0⟩:∃ J,aa y1=J:=⟨_,rfl⟩
      obtain⟨Y1,hY1⟩:∃ J,aa y2=J:=⟨_,rfl⟩
      have HEY:Hid ((af y).toArray=#[.string Y0,.string Y1,.slice YI yi yj,.slice YP yp yq]):=by unfold Hid;rw[← hy,← hY0,← hY1];rfl
      rw[hY0,hY1];clear hy;clear hY0 hY1;have kD:=kD.below bC kD.lt;have bN:=bN.trans (bC.mono bN.size);clear bC
      go_wp2_with fail
      refine hK.out _ _ ?_ (fun hHeld=>?_)
      · exact⟨bN,HG.out _ bN,HNX.out _ bN⟩
      clear hK K
      try simp only[Act.put,List.setIfInBounds_toArray,List.set_cons_zero,List.set_cons_succ]
      refine az 6 (some 40) ?v10 ?y10 ?n10
      case y10=>intro w hSw;(try dsimp only at hSw);go_simp;try with_reducible rfl
      try simp only[Act.put,List.setIfInBounds_toArray,List.set_cons_zero,List.set_cons_succ]
      refine az 7 (some 47) ?v11 ?y11 ?n11
      case y11=>intro w hSw;(try dsimp only at hSw);go_simp;try with_reducible rfl
      try simp only[Act.put,List.setIfInBounds_toArray,List.set_cons_zero,List.set_cons_succ]
      refine az 8 (some 48) ?v12 ?y12 ?n12
      case y12=>intro w hSw;(try dsimp only at hSw);go_simp;try with_reducible rfl
      try simp only[Act.put,List.setIfInBounds_toArray,List.set_cons_zero,List.set_cons_succ]
      refine wpAnyH_ready (rs:=[10]) (by kernel_rfl) (by simp) ?_;refine AllReadyH.cons (i:=10) rfl (fun K hK=>?_) AllReadyH.nil;go_simp;have y0:=kD.cell 0;have z0:=kD.free 0;have y1:=kD.cell 1;have z1:=kD.free 1;have y2:=kD.cell 2;have z2:=kD.free 2;have y3:=kD.cell 3;have z3:=kD.free 3;go_simp;have kD:=aF kD (.string Y0) (.string Y1) (.slice YI yi yj) (.slice YP yp yq);have bN:=aj bN hDW (.string Y0) (.string Y1) (.slice YI yi yj) (.slice YP yp yq);refine hK.out _ _ ?_ (fun hHeld=>?_)
      · exact⟨bN,HG.out _ bN,HNX.out _ bN⟩
      clear hK K
      try simp only[Act.put,List.setIfInBounds_toArray,List.set_cons_zero,List.set_cons_succ]
      refine az 11 (some 9) ?v13 ?y13 ?n13
      case y13=>intro w hSw;(try dsimp only at hSw);go_simp;try with_reducible rfl
      try simp only[Act.put,List.setIfInBounds_toArray,List.set_cons_zero,List.set_cons_succ]
      refine wpAnyH_done (by kernel_rfl) ?_ _;refine hK0 _ _ (Met.intro (hJ1 _ _ ?_))
      (repeat apply Exists.intro)
      refine⟨?_,rfl⟩
      exact⟨bb,rfl,HFO,bN⟩
   case rest =>
   obtain⟨th,rfl,HTH,B6⟩:=hcut
   obtain⟨wv,hwz⟩:∃ z,z=wc:=⟨_,rfl⟩
   rw[← hwz] at B6 ⊢;clear hwz HFU HG HNX;have PS:=Lib.hid (PS.out.below B6.out);clear B6;have HG:Hid (∀ Y,Below wv.heap.size wv Y→Y.cell? ⟨G,0,none⟩=some (.slice SA sn sc)):=fun Y b=>(PS.out.below b).kg.cell 0
   have HNX:Hid (∀ Y,Below wv.heap.size wv Y→Y.cell? ⟨N,n,none⟩=some (.string NX)):=fun Y b=>by rw[← HNQ.out];exact li (PS.out.below b).kn HN6.out
   have HUK:Hid (∀ Y,Below wv.heap.size wv Y→Bk Y UB 28 #[.string X0,.string X1,.slice XIA xin xic,.slice XPA xpn xpc]):=fun Y b=>by rw[← HEX.out];exact(PS.out.below b).ku
   have HU0:Hid (∀ Y,Below wv.heap.size wv Y→Y.cell? ⟨UB,0,none⟩=some (.string X0)):=fun Y b=>(HUK.out Y b).cell 0
   have HU1:Hid (∀ Y,Below wv.heap.size wv Y→Y.cell? ⟨UB,1,none⟩=some (.string X1)):=fun Y b=>(HUK.out Y b).cell 1
   have HU2:Hid (∀ Y,Below wv.heap.size wv Y→Y.cell? ⟨UB,2,none⟩=some (.slice XIA xin xic)):=fun Y b=>(HUK.out Y b).cell 2
   have HU3:Hid (∀ Y,Below wv.heap.size wv Y→Y.cell? ⟨UB,3,none⟩=some (.slice XPA xpn xpc)):=fun Y b=>(HUK.out Y b).cell 3
   have HPT:Hid (∀ Y,Below wv.heap.size wv Y→Calls Tryz.prog 15 #[.agg #[.slice SA sn sc],.string NX,.agg #[.string X0,.string X1,.slice XIA xin xic,.slice XPA xpn xpc]] Y fun e w'=>(∃ (b:Bool) (A:Option Addr) (n2 c:Nat) (l':List aK),e=.returned (.tuple #[.agg #[.slice A n2 c],.bool b])∧ReadH w' (.slice A n2 c) l'∧rF l (iw n) x b l')∧Below Y.heap.size Y w'):=fun Y b=>by
    rw[← HNQ.out,← HEX.out];exact sK (.slice SA sn sc) l (iw n) x Y (PS.out.below b).rs HLL.out HSL.out (lk ⟨n,HN6.out⟩) (PS.out.below b).ix (HSX.out HCC.out.2.1 HCC.out.2.2)
   go_upto_region 7 with fail
   go_cut [10,11] from 49 to 58 (fun s bv wx=>∃ (T:Nat) (TA:Option Addr) (tn tc:Nat) (l':List aK) (bb:Bool),s=.pointer (some ⟨T,0,none⟩)∧bv=.bool bb∧Hid (Bk wx T 24 #[.slice TA tn tc])∧Hid (ReadH wx (.slice TA tn tc) l')∧Hid (rF l (iw n) x bb l')∧Hid (Below wv.heap.size wv wx)∧Hid (wv.heap.size≤T))
   case first K1 K0 hJ1 hK0 =>
    have bN:Below wv.heap.size wv wv.drew:=(Below.refl _ _).drew;refine wp_region_held_drew (S:=fun w'=>Below wv.heap.size wv w'∧w'.cell? ⟨G,0,none⟩=some (.slice SA sn sc)∧w'.cell? ⟨N,n,none⟩=some (.string NX)∧w'.cell? ⟨UB,0,none⟩=some (.string X0)∧w'.cell? ⟨UB,1,none⟩=some (.string X1)∧w'.cell? ⟨UB,2,none⟩=some (.slice XIA xin xic)∧w'.cell? ⟨UB,3,none⟩=some (.slice XPA xpn xpc)) (by kernel_rfl) ?_ (fun hHeld=>?_)
    · exact⟨bN,HG.out _ bN,HNX.out _ bN,HU0.out _ bN,HU1.out _ bN,HU2.out _ bN,HU3.out _ bN⟩
    obtain⟨wd,hwd⟩:∃ z,wv.drew=z:=⟨_,rfl⟩
    rw[hwd] at bN hHeld ⊢;clear hwd;refine az 0 (some 50) ?v14 ?y14 ?n14
    case y14=>intro w hSw;(try dsimp only at hSw);go_simp;try with_reducible rfl
    try simp only[Act.put,List.setIfInBounds_toArray,List.set_cons_zero,List.set_cons_succ]
    refine az 1 (some 51) ?v15 ?y15 ?n15
    case y15=>intro w hSw;(try dsimp only at hSw);go_simp;try with_reducible rfl
    try simp only[Act.put,List.setIfInBounds_toArray,List.set_cons_zero,List.set_cons_succ]
    refine az 2 (some 52) ?v16 ?y16 ?n16
    case y16=>intro w hSw;(try dsimp only at hSw);go_simp;try with_reducible rfl
    try simp only[Act.put,List.setIfInBounds_toArray,List.set_cons_zero,List.set_cons_succ]
    refine az 3 (some 53) ?v17 ?y17 ?n17
    case y17=>intro w hSw;(try dsimp only at hSw);go_simp;try with_reducible rfl
    try simp only[Act.put,List.setIfInBounds_toArray,List.set_cons_zero,List.set_cons_succ]
    refine az 4 (some 54) ?v18 ?y18 ?n18
    case y18=>intro w hSw;(try dsimp only at hSw);go_simp;try with_reducible rfl
    try simp only[Act.put,List.setIfInBounds_toArray,List.set_cons_zero,List.set_cons_succ]
    refine az 5 (some 55) ?v19 ?y19 ?n19
    case y19=>intro w hSw;(try dsimp only at hSw);go_simp;try with_reducible rfl
    try simp only[Act.put,List.setIfInBounds_toArray,List.set_cons_zero,List.set_cons_succ]
    refine wpAnyH_ready (rs:=[6,10]) (by kernel_rfl) (by simp) ?_;refine AllReadyH.cons (i:=6) rfl (fun K hK=>?_) (AllReadyH.cons (i:=10) rfl (fun K hK=>?_) AllReadyH.nil)
    · go_simp
      refine(HPT.out wd bN).mono ?_
      rintro e wv1 ⟨⟨bb,TA,tn,tc,l',rfl,hrt,hfo⟩,bC⟩;have HFO:=Lib.hid hfo;clear hfo;have bN:=bN.trans (bC.mono bN.size);clear bC
      go_wp2_with fail
      refine hK.out _ _ ?_ (fun hHeld=>?_)
      · exact⟨bN,HG.out _ bN,HNX.out _ bN,HU0.out _ bN,HU1.out _ bN,HU2.out _ bN,HU3.out _ bN⟩
      clear hK K
      try simp only[Act.put,List.setIfInBounds_toArray,List.set_cons_zero,List.set_cons_succ]
      refine az 7 (some 49) ?v20 ?y20 ?n20
      case y20=>intro w hSw;(try dsimp only at hSw);go_simp;try with_reducible rfl
      try simp only[Act.put,List.setIfInBounds_toArray,List.set_cons_zero,List.set_cons_succ]
      refine az 8 (some 57) ?v21 ?y21 ?n21
      case y21=>intro w hSw;(try dsimp only at hSw);go_simp;try with_reducible rfl
      try simp only[Act.put,List.setIfInBounds_toArray,List.set_cons_zero,List.set_cons_succ]
      refine az 9 (some 58) ?v22 ?y22 ?n22
      case y22=>intro w hSw;(try dsimp only at hSw);go_simp;try with_reducible rfl
      try simp only[Act.put,List.setIfInBounds_toArray,List.set_cons_zero,List.set_cons_succ]
      refine wpAnyH_ready (rs:=[10]) (by kernel_rfl) (by simp) ?_;refine AllReadyH.cons (i:=10) rfl (fun K hK=>?_) AllReadyH.nil;go_simp
      obtain⟨wv2,hwv2⟩:∃ z,World.alloc wv1 (.cells #[.slice none 0 0] 24)=z:=⟨_,rfl⟩
      obtain⟨D,hD⟩:∃ D,wv1.heap.size=D:=⟨_,rfl⟩
      have bC:Below wv1.heap.size wv1 wv2:=by rw[← hwv2];exact(Below.refl _ _).alloc (Nat.le_refl _) _
      have kD:Bk wv2 D 24 #[.slice none 0 0]:=by rw[← hwv2,← hD];exact Bk.new _ _ _
      have hDW:wv.heap.size≤D:=by rw[← hD];exact bN.size
      have hDlt:D < wv2.heap.size:=kD.lt;have hrt:=hrt.upon bC;have bN:=bN.trans (bC.mono bN.size);clear bC;(try rw[hwv2]);(try rw[hD]);clear hwv2 hD;refine hK.out _ _ ?_ (fun hHeld=>?_)
      · exact⟨bN,HG.out _ bN,HNX.out _ bN,HU0.out _ bN,HU1.out _ bN,HU2.out _ bN,HU3.out _ bN⟩
      clear hK K
      try simp only[Act.put,List.setIfInBounds_toArray,List.set_cons_zero,List.set_cons_succ]
      refine wpAnyH_ready (rs:=[11]) (by kernel_rfl) (by simp) ?_;refine AllReadyH.cons (i:=11) rfl (fun K hK=>?_) AllReadyH.nil;go_simp;have y0:=kD.cell 0;have z0:=kD.free 0;go_simp;have hrt:=hrt.butS kD (pZ _ _ _) (jh wv2 D (.slice TA tn tc));have kD:=cE kD (.slice TA tn tc);have bN:=bp bN hDW (.slice TA tn tc);refine hK.out _ _ ?_ (fun hHeld=>?_)
      · exact⟨bN,HG.out _ bN,HNX.out _ bN,HU0.out _ bN,HU1.out _ bN,HU2.out _ bN,HU3.out _ bN⟩
      clear hK K
      try simp only[Act.put,List.setIfInBounds_toArray,List.set_cons_zero,List.set_cons_succ]
      refine az 12 (some 11) ?v23 ?y23 ?n23
      case y23=>intro w hSw;(try dsimp only at hSw);go_simp;try with_reducible rfl
      try simp only[Act.put,List.setIfInBounds_toArray,List.set_cons_zero,List.set_cons_succ]
      refine wpAnyH_done (by kernel_rfl) ?_ _;refine hK0 _ _ (Met.intro (hJ1 _ _ ?_))
      (repeat apply Exists.intro)
      refine⟨?_,rfl⟩
      exact⟨D,TA,tn,tc,l',bb,rfl,rfl,kD,hrt,HFO,bN,hDW⟩
    · go_simp
      obtain⟨wv1,hwv1⟩:∃ z,World.alloc wd (.cells #[.slice none 0 0] 24)=z:=⟨_,rfl⟩
      obtain⟨D,hD⟩:∃ D,wd.heap.size=D:=⟨_,rfl⟩
      have bC:Below wd.heap.size wd wv1:=by rw[← hwv1];exact(Below.refl _ _).alloc (Nat.le_refl _) _
      have kD:Bk wv1 D 24 #[.slice none 0 0]:=by rw[← hwv1,← hD];exact Bk.new _ _ _
      have hDW:wv.heap.size≤D:=by rw[← hD];exact bN.size
      have hDlt:D < wv1.heap.size:=kD.lt;have bN:=bN.trans (bC.mono bN.size);clear bC;(try rw[hwv1]);(try rw[hD]);clear hwv1 hD;refine hK.out _ _ ?_ (fun hHeld=>?_)
      · exact⟨bN,HG.out _ bN,HNX.out _ bN,HU0.out _ bN,HU1.out _ bN,HU2.out _ bN,HU3.out _ bN⟩
      clear hK K
      try simp only[Act.put,List.setIfInBounds_toArray,List.set_cons_zero,List.set_cons_succ]
      refine wpAnyH_ready (rs:=[6]) (by kernel_rfl) (by simp) ?_;refine AllReadyH.cons (i:=6) rfl (fun K hK=>?_) AllReadyH.nil;go_simp
      refine(HPT.out wv1 bN).mono ?_
      rintro e wv2 ⟨⟨bb,TA,tn,tc,l',rfl,hrt,hfo⟩,bC⟩;have HFO:=Lib.hid hfo;clear hfo;have kD:=kD.below bC kD.lt;have bN:=bN.trans (bC.mono bN.size);clear bC
      go_wp2_with fail
      refine hK.out _ _ ?_ (fun hHeld=>?_)
      · exact⟨bN,HG.out _ bN,HNX.out _ bN,HU0.out _ bN,HU1.out _ bN,HU2.out _ bN,HU3.out _ bN⟩
      clear hK K
      try simp only[Act.put,List.setIfInBounds_toArray,List.set_cons_zero,List.set_cons_succ]
      refine az 7 (some 49) ?v24 ?y24 ?n24
      case y24=>intro w hSw;(try dsimp only at hSw);go_simp;try with_reducible rfl
      try simp only[Act.put,List.setIfInBounds_toArray,List.set_cons_zero,List.set_cons_succ]
      refine az 8 (some 57) ?v25 ?y25 ?n25
      case y25=>intro w hSw;(try dsimp only at hSw);go_simp;try with_reducible rfl
      try simp only[Act.put,List.setIfInBounds_toArray,List.set_cons_zero,List.set_cons_succ]
      refine az 9 (some 58) ?v26 ?y26 ?n26
      case y26=>intro w hSw;(try dsimp only at hSw);go_simp;try with_reducible rfl
      try simp only[Act.put,List.setIfInBounds_toArray,List.set_cons_zero,List.set_cons_succ]
      refine wpAnyH_ready (rs:=[11]) (by kernel_rfl) (by simp) ?_;refine AllReadyH.cons (i:=11) rfl (fun K hK=>?_) AllReadyH.nil;go_simp;have y0:=kD.cell 0;have z0:=kD.free 0;go_simp;have hrt:=hrt.butS kD (pZ _ _ _) (jh wv2 D (.slice TA tn tc));have kD:=cE kD (.slice TA tn tc);have bN:=bp bN hDW (.slice TA tn tc);refine hK.out _ _ ?_ (fun hHeld=>?_)
      · exact⟨bN,HG.out _ bN,HNX.out _ bN,HU0.out _ bN,HU1.out _ bN,HU2.out _ bN,HU3.out _ bN⟩
      clear hK K
      try simp only[Act.put,List.setIfInBounds_toArray,List.set_cons_zero,List.set_cons_succ]
      refine az 12 (some 11) ?v27 ?y27 ?n27
      case y27=>intro w hSw;(try dsimp only at hSw);go_simp;try with_reducible rfl
      try simp only[Act.put,List.setIfInBounds_toArray,List.set_cons_zero,List.set_cons_succ]
      refine wpAnyH_done (by kernel_rfl) ?_ _;refine hK0 _ _ (Met.intro (hJ1 _ _ ?_))
      (repeat apply Exists.intro)
      refine⟨?_,rfl⟩
      exact⟨D,TA,tn,tc,l',bb,rfl,rfl,kD,hrt,HFO,bN,hDW⟩
   case rest =>
   obtain⟨T,TA,tn,tc,l',is,rfl,rfl,KT,HRT,HPB,B7,hTW⟩:=hcut
   obtain⟨wd,hwz⟩:∃ z,z=wc:=⟨_,rfl⟩
   rw[← hwz] at KT HRT B7 ⊢;clear hwz hTW HPT HUK HU0 HU1 HU2 HU3 HG HNX;have hth:=q8 HTH.out HPB.out;subst hth;have PT:Hid (PutsT W wd G UB N T (.slice SA sn sc) (.slice TA tn tc) l l' x):=⟨PS.out.below B7.out,KT.out,HRT.out⟩;clear PS B7 KT HRT HTH
   go_upto_region 8 with fail
   go_cut [65] from 59 to 65 (fun s wx=>s=.bool false∧Hid (Below wd.heap.size wd wx))
   case first =>
    have HA1:=Lib.hid (HAW.out wd PT.out.s.bw);cases th with
    | true =>
      go_wp2_with fail
      refine HA1.out.mono ?_;rintro e w8 ⟨rfl,b8⟩;have B8:=Lib.hid b8;clear b8
      go_wp2_with fail
      go_meet
      exact⟨rfl,B8⟩
    | false =>
      go_wp2_with fail
      refine HA1.out.mono ?_;rintro e w8 ⟨rfl,b8⟩;have B8:=Lib.hid b8;clear b8
      go_wp2_with fail
      go_meet
      exact⟨rfl,B8⟩
   case rest =>
   obtain⟨rfl,B8⟩:=hcut
   obtain⟨we,hwz⟩:∃ z,z=wc:=⟨_,rfl⟩
   rw[← hwz] at B8 ⊢;clear hwz;have PT:=Lib.hid (PT.out.below B8.out);have HL2:Hid (l'.length≤1000000∧∀ h∈l',iD h):=by
    have h:=wB HPB.out HSL.out (HSX.out HCC.out.2.1 HCC.out.2.2)
    exact⟨by rw[h.1];exact HLL.out,h.2⟩
   clear B8
   go_wp2_with fail
   go_loopw [12,13,14,15,16] (fun iv a1 a2 a3 a4 wr=>∃ (i:Nat) (u13 u14 u15 u16:Value),iv=.int .i64 i∧a1=u13∧a2=u14∧a3=u15∧a4=u16∧i≤6∧Hid (Below we.heap.size we wr)) (fun iv _ _ _ _ _=>6 - (intOf iv).toNat)
   case atStart=>exact⟨0,_,_,_,_,rfl,rfl,rfl,rfl,rfl,by omega,Below.refl _ _⟩
   case round =>
    obtain⟨i,u13,u14,u15,u16,rfl,h13,h14,h15,h16,hi6,BR⟩:=hrel
    have h132:=h13.symm;have h142:=h14.symm;have h152:=h15.symm;have h162:=h16.symm;subst h132 h142 h152 h162;clear h13 h14 h15 h16;have PR:=Lib.hid (PT.out.below BR.out)
    by_cases hi:i < 6
    · have hiz:(i:Int) < 6:=by omega
      have hi0z:(0:Int)≤(i:Int):=by omega
      obtain⟨IX,hIX⟩:∃ J,aa (iw i)=J:=⟨_,rfl⟩
      have HIQ:=Lib.hid hIX;have HSC:Hid (∀ Y,Below wr.heap.size wr Y→Y.cell? ⟨G,0,none⟩=some (.slice SA sn sc)):=fun Y b=>(PR.out.below b).s.kg.cell 0
      have HIX:Hid (∀ Y,Below wr.heap.size wr Y→Y.cell? ⟨N,i,none⟩=some (.string IX)):=fun Y b=>by rw[← hIX];exact li (PR.out.below b).s.kn hi
      have HF1:Hid (∀ Y,Below wr.heap.size wr Y→Calls Tryz.prog 13 #[.agg #[.slice SA sn sc],.string IX] Y fun e w'=>(∃ (b:Bool) (y:aC),e=.returned (.tuple #[.agg (af y).toArray,.bool b])∧LiveU Y.heap.size w'.heap.size w' y∧eK l (iw i) b y)∧Below Y.heap.size Y w'):=fun Y b=>by
       rw[← hIX];exact kU (.slice SA sn sc) l (iw i) Y (PR.out.below b).s.rs HLL.out HSL.out (lk ⟨i,hi⟩)
      have HI6:Hid (i < 6):=hi;clear hIX
      go_upto_region 13 with fail
      go_cut [13,14] from 70 to 78 (fun s bv wx=>∃ (HA:Nat) (ya:aC) (ba:Bool),s=.pointer (some ⟨HA,0,none⟩)∧bv=.bool ba∧Hid (Bk wx HA 28 (af ya).toArray)∧Hid (InU wx ya)∧Hid (eK l (iw i) ba ya)∧Hid (Below wr.heap.size wr wx)∧Hid (wr.heap.size≤HA))
      case first K1 K0 hJ1 hK0 =>
       have bN:Below wr.heap.size wr wr.drew:=(Below.refl _ _).drew;refine wp_region_held_drew (S:=fun w'=>Below wr.heap.size wr w'∧w'.cell? ⟨G,0,none⟩=some (.slice SA sn sc)∧w'.cell? ⟨N,i,none⟩=some (.string IX)) (by kernel_rfl) ?_ (fun hHeld=>?_)
       · exact⟨bN,HSC.out _ bN,HIX.out _ bN⟩
       obtain⟨wd,hwd⟩:∃ z,wr.drew=z:=⟨_,rfl⟩
       rw[hwd] at bN hHeld ⊢;clear hwd;refine az 0 (some 71) ?v28 ?y28 ?n28
       case y28=>intro w hSw;(try dsimp only at hSw);go_simp;try with_reducible rfl
       try simp only[Act.put,List.setIfInBounds_toArray,List.set_cons_zero,List.set_cons_succ]
       refine az 1 (some 72) ?v29 ?y29 ?n29
       case y29=>intro w hSw;(try dsimp only at hSw);go_simp;try with_reducible rfl
       try simp only[Act.put,List.setIfInBounds_toArray,List.set_cons_zero,List.set_cons_succ]
       refine az 2 (some 73) ?v30 ?y30 ?n30
       case y30=>intro w hSw;(try dsimp only at hSw);go_simp;try with_reducible rfl
       try simp only[Act.put,List.setIfInBounds_toArray,List.set_cons_zero,List.set_cons_succ]
       refine az 3 (some 74) ?v31 ?y31 ?n31
       case y31=>intro w hSw;(try dsimp only at hSw);go_simp;try with_reducible rfl
       try simp only[Act.put,List.setIfInBounds_toArray,List.set_cons_zero,List.set_cons_succ]
       refine az 4 (some 75) ?v32 ?y32 ?n32
       case y32=>intro w hSw;(try dsimp only at hSw);go_simp;try with_reducible rfl
       try simp only[Act.put,List.setIfInBounds_toArray,List.set_cons_zero,List.set_cons_succ]
       refine wpAnyH_ready (rs:=[5,9]) (by kernel_rfl) (by simp) ?_;refine AllReadyH.cons (i:=5) rfl (fun K hK=>?_) (AllReadyH.cons (i:=9) rfl (fun K hK=>?_) AllReadyH.nil)
       · go_simp
         refine(HF1.out wd bN).mono ?_
         rintro e wv1 ⟨⟨bb,y,rfl,hlv,hfo⟩,bC⟩;have HFO:=Lib.hid hfo;clear hfo
         obtain⟨y1,y2,y3,⟨YI,yi,yj⟩,y4,⟨YP,yp,yq⟩⟩:=y
         have hag:(af ⟨y1,y2,y3,(YI,yi,yj),y4,(YP,yp,yq)⟩).toArray=#[.string (aa y1),.string (aa y2),.slice YI yi yj,.slice YP yp yq]:=rfl;rw[hag];clear hag
         obtain⟨y,hy⟩:∃ y:aC,(⟨y1,y2,y3,(YI,yi,yj),y4,(YP,yp,yq)⟩:aC)=y:=⟨_,rfl⟩
         obtain⟨Y0,hY0⟩:∃ J,aa y1=J:=⟨_,rfl⟩
         obtain⟨Y1,hY1⟩:∃ J,aa y2=J:=⟨_,rfl⟩
         have HEY:Hid ((af y).toArray=#[.string Y0,.string Y1,.slice YI yi yj,.slice YP yp yq]):=by unfold Hid;rw[← hy,← hY0,← hY1];rfl
         rw[hY0,hY1];rw[hy] at HFO hlv;clear hy hY0 hY1
         obtain⟨A0,hA0⟩:∃ a,wd.heap.size=a:=⟨_,rfl⟩
         obtain⟨C0,hC0⟩:∃ a,wv1.heap.size=a:=⟨_,rfl⟩
         rw[hA0,hC0] at hlv;have hCs:C0≤wv1.heap.size:=Nat.le_of_eq hC0.symm;have hAw:wr.heap.size≤A0:=by rw[← hA0];exact bN.size
         have bN:=bN.trans (bC.mono bN.size);clear bC hA0 hC0
         go_wp2_with fail
         refine hK.out _ _ ?_ (fun hHeld=>?_)
         · exact⟨bN,HSC.out _ bN,HIX.out _ bN⟩
         clear hK K
         try simp only[Act.put,List.setIfInBounds_toArray,List.set_cons_zero,List.set_cons_succ]
         refine az 6 (some 70) ?v33 ?y33 ?n33
         case y33=>intro w hSw;(try dsimp only at hSw);go_simp;try with_reducible rfl
         try simp only[Act.put,List.setIfInBounds_toArray,List.set_cons_zero,List.set_cons_succ]
         refine az 7 (some 77) ?v34 ?y34 ?n34
         case y34=>intro w hSw;(try dsimp only at hSw);go_simp;try with_reducible rfl
         try simp only[Act.put,List.setIfInBounds_toArray,List.set_cons_zero,List.set_cons_succ]
         refine az 8 (some 78) ?v35 ?y35 ?n35
         case y35=>intro w hSw;(try dsimp only at hSw);go_simp;try with_reducible rfl
         try simp only[Act.put,List.setIfInBounds_toArray,List.set_cons_zero,List.set_cons_succ]
         refine wpAnyH_ready (rs:=[9]) (by kernel_rfl) (by simp) ?_;refine AllReadyH.cons (i:=9) rfl (fun K hK=>?_) AllReadyH.nil;go_simp
         obtain⟨wv2,hwv2⟩:∃ z,World.alloc wv1 (.cells #[.string ⟨#[]⟩,.string ⟨#[]⟩,.slice none 0 0,.slice none 0 0] 28)=z:=⟨_,rfl⟩
         obtain⟨D,hD⟩:∃ D,wv1.heap.size=D:=⟨_,rfl⟩
         have bC:Below wv1.heap.size wv1 wv2:=by rw[← hwv2];exact(Below.refl _ _).alloc (Nat.le_refl _) _
         have kD:Bk wv2 D 28 #[.string ⟨#[]⟩,.string ⟨#[]⟩,.slice none 0 0,.slice none 0 0]:=by rw[← hwv2,← hD];exact Bk.new _ _ _
         have hDW:wr.heap.size≤D:=by rw[← hD];exact bN.size
         have hDlt:D < wv2.heap.size:=kD.lt;have hlv:=aI _ _ _ _ _ (fun b _ h2=>bC.block b (Nat.lt_of_lt_of_le h2 hCs)) hlv;have hsep:D < A0∨C0≤D:=.inr (by rw[← hD];exact hCs);have hCs:=Nat.le_trans hCs bC.size;have bN:=bN.trans (bC.mono bN.size);clear bC;(try rw[hwv2]);(try rw[hD]);clear hwv2 hD;refine hK.out _ _ ?_ (fun hHeld=>?_)
         · exact⟨bN,HSC.out _ bN,HIX.out _ bN⟩
         clear hK K
         try simp only[Act.put,List.setIfInBounds_toArray,List.set_cons_zero,List.set_cons_succ]
         refine wpAnyH_ready (rs:=[10]) (by kernel_rfl) (by simp) ?_;refine AllReadyH.cons (i:=10) rfl (fun K hK=>?_) AllReadyH.nil;go_simp;have y0:=kD.cell 0;have z0:=kD.free 0;have y1:=kD.cell 1;have z1:=kD.free 1;have y2:=kD.cell 2;have z2:=kD.free 2;have y3:=kD.cell 3;have z3:=kD.free 3;go_simp;have hlv:=aI _ _ _ _ _ (fun b h1 h2=>(bE wv2 D (.string Y0) (.string Y1) (.slice YI yi yj) (.slice YP yp yq)).block b (Nat.lt_of_lt_of_le h2 hCs) (fun e=>by have e2:b=D:=e;omega)) hlv;have hCs:C0≤(bj wv2 D (.string Y0) (.string Y1) (.slice YI yi yj) (.slice YP yp yq)).heap.size:=Nat.le_trans hCs (aj (Below.refl 0 wv2) (Nat.zero_le _) (.string Y0) (.string Y1) (.slice YI yi yj) (.slice YP yp yq)).size;have kD:=aF kD (.string Y0) (.string Y1) (.slice YI yi yj) (.slice YP yp yq);have bN:=aj bN hDW (.string Y0) (.string Y1) (.slice YI yi yj) (.slice YP yp yq);refine hK.out _ _ ?_ (fun hHeld=>?_)
         · exact⟨bN,HSC.out _ bN,HIX.out _ bN⟩
         clear hK K
         try simp only[Act.put,List.setIfInBounds_toArray,List.set_cons_zero,List.set_cons_succ]
         refine az 11 (some 14) ?v36 ?y36 ?n36
         case y36=>intro w hSw;(try dsimp only at hSw);go_simp;try with_reducible rfl
         try simp only[Act.put,List.setIfInBounds_toArray,List.set_cons_zero,List.set_cons_succ]
         refine wpAnyH_done (by kernel_rfl) ?_ _;refine hK0 _ _ (Met.intro (hJ1 _ _ ?_))
         (repeat apply Exists.intro)
         refine⟨?_,rfl⟩
         exact⟨D,y,bb,rfl,rfl,by unfold Hid;rw[HEY.out];exact kD,hlv.reads hCs,HFO,bN,hDW⟩
       · go_simp
         obtain⟨wv1,hwv1⟩:∃ z,World.alloc wd (.cells #[.string ⟨#[]⟩,.string ⟨#[]⟩,.slice none 0 0,.slice none 0 0] 28)=z:=⟨_,rfl⟩
         obtain⟨D,hD⟩:∃ D,wd.heap.size=D:=⟨_,rfl⟩
         have bC:Below wd.heap.size wd wv1:=by rw[← hwv1];exact(Below.refl _ _).alloc (Nat.le_refl _) _
         have kD:Bk wv1 D 28 #[.string ⟨#[]⟩,.string ⟨#[]⟩,.slice none 0 0,.slice none 0 0]:=by rw[← hwv1,← hD];exact Bk.new _ _ _
         have hDW:wr.heap.size≤D:=by rw[← hD];exact bN.size
         have hDlt:D < wv1.heap.size:=kD.lt;have bN:=bN.trans (bC.mono bN.size);clear bC;(try rw[hwv1]);(try rw[hD]);clear hwv1 hD;refine hK.out _ _ ?_ (fun hHeld=>?_)
         · exact⟨bN,HSC.out _ bN,HIX.out _ bN⟩
         clear hK K
         try simp only[Act.put,List.setIfInBounds_toArray,List.set_cons_zero,List.set_cons_succ]
         refine wpAnyH_ready (rs:=[5]) (by kernel_rfl) (by simp) ?_;refine AllReadyH.cons (i:=5) rfl (fun K hK=>?_) AllReadyH.nil;go_simp
         refine(HF1.out wv1 bN).mono ?_
         rintro e wv2 ⟨⟨bb,y,rfl,hlv,hfo⟩,bC⟩;have HFO:=Lib.hid hfo;clear hfo
         obtain⟨y1,y2,y3,⟨YI,yi,yj⟩,y4,⟨YP,yp,yq⟩⟩:=y
         have hag:(af ⟨y1,y2,y3,(YI,yi,yj),y4,(YP,yp,yq)⟩).toArray=#[.string (aa y1),.string (aa y2),.slice YI yi yj,.slice YP yp yq]:=rfl;rw[hag];clear hag
         obtain⟨y,hy⟩:∃ y:aC,(⟨y1,y2,y3,(YI,yi,yj),y4,(YP,yp,yq)⟩:aC)=y:=⟨_,rfl⟩
         obtain⟨Y0,hY0⟩:∃ J,aa y1=J:=⟨_,rfl⟩
         obtain⟨Y1,hY1⟩:∃ J,aa y2=J:=⟨_,rfl⟩
         have HEY:Hid ((af y).toArray=#[.string Y0,.string Y1,.slice YI yi yj,.slice YP yp yq]):=by unfold Hid;rw[← hy,← hY0,← hY1];rfl
         rw[hY0,hY1];rw[hy] at HFO hlv;clear hy hY0 hY1;have kD:=kD.below bC kD.lt
         obtain⟨A0,hA0⟩:∃ a,wv1.heap.size=a:=⟨_,rfl⟩
         obtain⟨C0,hC0⟩:∃ a,wv2.heap.size=a:=⟨_,rfl⟩
         rw[hA0,hC0] at hlv;have hCs:C0≤wv2.heap.size:=Nat.le_of_eq hC0.symm;have hAw:wr.heap.size≤A0:=by rw[← hA0];exact bN.size
         have hsep:D < A0∨C0≤D:=.inl (by rw[← hA0];exact hDlt);have bN:=bN.trans (bC.mono bN.size);clear bC hA0 hC0
         go_wp2_with fail
         refine hK.out _ _ ?_ (fun hHeld=>?_)
         · exact⟨bN,HSC.out _ bN,HIX.out _ bN⟩
         clear hK K
         try simp only[Act.put,List.setIfInBounds_toArray,List.set_cons_zero,List.set_cons_succ]
         refine az 6 (some 70) ?v37 ?y37 ?n37
         case y37=>intro w hSw;(try dsimp only at hSw);go_simp;try with_reducible rfl
         try simp only[Act.put,List.setIfInBounds_toArray,List.set_cons_zero,List.set_cons_succ]
         refine az 7 (some 77) ?v38 ?y38 ?n38
         case y38=>intro w hSw;(try dsimp only at hSw);go_simp;try with_reducible rfl
         try simp only[Act.put,List.setIfInBounds_toArray,List.set_cons_zero,List.set_cons_succ]
         refine az 8 (some 78) ?v39 ?y39 ?n39
         case y39=>intro w hSw;(try dsimp only at hSw);go_simp;try with_reducible rfl
         try simp only[Act.put,List.setIfInBounds_toArray,List.set_cons_zero,List.set_cons_succ]
         refine wpAnyH_ready (rs:=[10]) (by kernel_rfl) (by simp) ?_;refine AllReadyH.cons (i:=10) rfl (fun K hK=>?_) AllReadyH.nil;go_simp;have y0:=kD.cell 0;have z0:=kD.free 0;have y1:=kD.cell 1;have z1:=kD.free 1;have y2:=kD.cell 2;have z2:=kD.free 2;have y3:=kD.cell 3;have z3:=kD.free 3;go_simp;have hlv:=aI _ _ _ _ _ (fun b h1 h2=>(bE wv2 D (.string Y0) (.string Y1) (.slice YI yi yj) (.slice YP yp yq)).block b (Nat.lt_of_lt_of_le h2 hCs) (fun e=>by have e2:b=D:=e;omega)) hlv;have hCs:C0≤(bj wv2 D (.string Y0) (.string Y1) (.slice YI yi yj) (.slice YP yp yq)).heap.size:=Nat.le_trans hCs (aj (Below.refl 0 wv2) (Nat.zero_le _) (.string Y0) (.string Y1) (.slice YI yi yj) (.slice YP yp yq)).size;have kD:=aF kD (.string Y0) (.string Y1) (.slice YI yi yj) (.slice YP yp yq);have bN:=aj bN hDW (.string Y0) (.string Y1) (.slice YI yi yj) (.slice YP yp yq);refine hK.out _ _ ?_ (fun hHeld=>?_)
         · exact⟨bN,HSC.out _ bN,HIX.out _ bN⟩
         clear hK K
         try simp only[Act.put,List.setIfInBounds_toArray,List.set_cons_zero,List.set_cons_succ]
         refine az 11 (some 14) ?v40 ?y40 ?n40
         case y40=>intro w hSw;(try dsimp only at hSw);go_simp;try with_reducible rfl
         try simp only[Act.put,List.setIfInBounds_toArray,List.set_cons_zero,List.set_cons_succ]
         refine wpAnyH_done (by kernel_rfl) ?_ _;refine hK0 _ _ (Met.intro (hJ1 _ _ ?_))
         (repeat apply Exists.intro)
         refine⟨?_,rfl⟩
         exact⟨D,y,bb,rfl,rfl,by unfold Hid;rw[HEY.out];exact kD,hlv.reads hCs,HFO,bN,hDW⟩
      case rest =>
      obtain⟨HA,ya,ba,rfl,rfl,KA,IA,FA,BG,hAW⟩:=hcut
      have HAW2:Hid (wr.heap.size≤HA):=hAW
      obtain⟨wg,hwz⟩:∃ z,z=wc:=⟨_,rfl⟩
      rw[← hwz] at KA IA BG ⊢;clear hwz hAW HF1 HSC HIX;have PG:=Lib.hid (PR.out.below BG.out);have HSC:Hid (∀ Y,Below wg.heap.size wg Y→Y.cell? ⟨T,0,none⟩=some (.slice TA tn tc)):=fun Y b=>(PG.out.below b).kt.cell 0
      have HIX:Hid (∀ Y,Below wg.heap.size wg Y→Y.cell? ⟨N,i,none⟩=some (.string IX)):=fun Y b=>by rw[← HIQ.out];exact li (PG.out.below b).s.kn HI6.out
      have HF2:Hid (∀ Y,Below wg.heap.size wg Y→Calls Tryz.prog 13 #[.agg #[.slice TA tn tc],.string IX] Y fun e w'=>(∃ (b:Bool) (y:aC),e=.returned (.tuple #[.agg (af y).toArray,.bool b])∧LiveU Y.heap.size w'.heap.size w' y∧eK l' (iw i) b y)∧Below Y.heap.size Y w'):=fun Y b=>by
       rw[← HIQ.out];exact kU (.slice TA tn tc) l' (iw i) Y (PG.out.below b).rt HL2.out.1 HL2.out.2 (lk ⟨i,HI6.out⟩)
      go_upto_region 14 with fail
      go_cut [15,16] from 79 to 87 (fun s bv wx=>∃ (HB:Nat) (yb:aC) (bb:Bool) (C:Nat),s=.pointer (some ⟨HB,0,none⟩)∧bv=.bool bb∧Hid (Bk wx HB 28 (af yb).toArray)∧Hid (LiveU wg.heap.size C wx yb)∧Hid (C≤wx.heap.size)∧Hid (eK l' (iw i) bb yb)∧Hid (Below wg.heap.size wg wx)∧Hid (wg.heap.size≤HB))
      case first K1 K0 hJ1 hK0 =>
       have bN:Below wg.heap.size wg wg.drew:=(Below.refl _ _).drew;refine wp_region_held_drew (S:=fun w'=>Below wg.heap.size wg w'∧w'.cell? ⟨T,0,none⟩=some (.slice TA tn tc)∧w'.cell? ⟨N,i,none⟩=some (.string IX)) (by kernel_rfl) ?_ (fun hHeld=>?_)
       · exact⟨bN,HSC.out _ bN,HIX.out _ bN⟩
       obtain⟨wd,hwd⟩:∃ z,wg.drew=z:=⟨_,rfl⟩
       rw[hwd] at bN hHeld ⊢;clear hwd;refine az 0 (some 80) ?v41 ?y41 ?n41
       case y41=>intro w hSw;(try dsimp only at hSw);go_simp;try with_reducible rfl
       try simp only[Act.put,List.setIfInBounds_toArray,List.set_cons_zero,List.set_cons_succ]
       refine az 1 (some 81) ?v42 ?y42 ?n42
       case y42=>intro w hSw;(try dsimp only at hSw);go_simp;try with_reducible rfl
       try simp only[Act.put,List.setIfInBounds_toArray,List.set_cons_zero,List.set_cons_succ]
       refine az 2 (some 82) ?v43 ?y43 ?n43
       case y43=>intro w hSw;(try dsimp only at hSw);go_simp;try with_reducible rfl
       try simp only[Act.put,List.setIfInBounds_toArray,List.set_cons_zero,List.set_cons_succ]
       refine az 3 (some 83) ?v44 ?y44 ?n44
       case y44=>intro w hSw;(try dsimp only at hSw);go_simp;try with_reducible rfl
       try simp only[Act.put,List.setIfInBounds_toArray,List.set_cons_zero,List.set_cons_succ]
       refine az 4 (some 84) ?v45 ?y45 ?n45
       case y45=>intro w hSw;(try dsimp only at hSw);go_simp;try with_reducible rfl
       try simp only[Act.put,List.setIfInBounds_toArray,List.set_cons_zero,List.set_cons_succ]
       refine wpAnyH_ready (rs:=[5,9]) (by kernel_rfl) (by simp) ?_;refine AllReadyH.cons (i:=5) rfl (fun K hK=>?_) (AllReadyH.cons (i:=9) rfl (fun K hK=>?_) AllReadyH.nil)
       · go_simp
         refine(HF2.out wd bN).mono ?_
         rintro e wv1 ⟨⟨bb,y,rfl,hlv,hfo⟩,bC⟩;have HFO:=Lib.hid hfo;clear hfo
         obtain⟨y1,y2,y3,⟨YI,yi,yj⟩,y4,⟨YP,yp,yq⟩⟩:=y
         have hag:(af ⟨y1,y2,y3,(YI,yi,yj),y4,(YP,yp,yq)⟩).toArray=#[.string (aa y1),.string (aa y2),.slice YI yi yj,.slice YP yp yq]:=rfl;rw[hag];clear hag
         obtain⟨y,hy⟩:∃ y:aC,(⟨y1,y2,y3,(YI,yi,yj),y4,(YP,yp,yq)⟩:aC)=y:=⟨_,rfl⟩
         obtain⟨Y0,hY0⟩:∃ J,aa y1=J:=⟨_,rfl⟩
         obtain⟨Y1,hY1⟩:∃ J,aa y2=J:=⟨_,rfl⟩
         have HEY:Hid ((af y).toArray=#[.string Y0,.string Y1,.slice YI yi yj,.slice YP yp yq]):=by unfold Hid;rw[← hy,← hY0,← hY1];rfl
         rw[hY0,hY1];rw[hy] at HFO hlv;clear hy hY0 hY1
         obtain⟨A0,hA0⟩:∃ a,wd.heap.size=a:=⟨_,rfl⟩
         obtain⟨C0,hC0⟩:∃ a,wv1.heap.size=a:=⟨_,rfl⟩
         rw[hA0,hC0] at hlv;have hCs:C0≤wv1.heap.size:=Nat.le_of_eq hC0.symm;have hAw:wg.heap.size≤A0:=by rw[← hA0];exact bN.size
         have bN:=bN.trans (bC.mono bN.size);clear bC hA0 hC0
         go_wp2_with fail
         refine hK.out _ _ ?_ (fun hHeld=>?_)
         · exact⟨bN,HSC.out _ bN,HIX.out _ bN⟩
         clear hK K
         try simp only[Act.put,List.setIfInBounds_toArray,List.set_cons_zero,List.set_cons_succ]
         refine az 6 (some 79) ?v46 ?y46 ?n46
         case y46=>intro w hSw;(try dsimp only at hSw);go_simp;try with_reducible rfl
         try simp only[Act.put,List.setIfInBounds_toArray,List.set_cons_zero,List.set_cons_succ]
         refine az 7 (some 86) ?v47 ?y47 ?n47
         case y47=>intro w hSw;(try dsimp only at hSw);go_simp;try with_reducible rfl
         try simp only[Act.put,List.setIfInBounds_toArray,List.set_cons_zero,List.set_cons_succ]
         refine az 8 (some 87) ?v48 ?y48 ?n48
         case y48=>intro w hSw;(try dsimp only at hSw);go_simp;try with_reducible rfl
         try simp only[Act.put,List.setIfInBounds_toArray,List.set_cons_zero,List.set_cons_succ]
         refine wpAnyH_ready (rs:=[9]) (by kernel_rfl) (by simp) ?_;refine AllReadyH.cons (i:=9) rfl (fun K hK=>?_) AllReadyH.nil;go_simp
         obtain⟨wv2,hwv2⟩:∃ z,World.alloc wv1 (.cells #[.string ⟨#[]⟩,.string ⟨#[]⟩,.slice none 0 0,.slice none 0 0] 28)=z:=⟨_,rfl⟩
         obtain⟨D,hD⟩:∃ D,wv1.heap.size=D:=⟨_,rfl⟩
         have bC:Below wv1.heap.size wv1 wv2:=by rw[← hwv2];exact(Below.refl _ _).alloc (Nat.le_refl _) _
         have kD:Bk wv2 D 28 #[.string ⟨#[]⟩,.string ⟨#[]⟩,.slice none 0 0,.slice none 0 0]:=by rw[← hwv2,← hD];exact Bk.new _ _ _
         have hDW:wg.heap.size≤D:=by rw[← hD];exact bN.size
         have hDlt:D < wv2.heap.size:=kD.lt;have hlv:=aI _ _ _ _ _ (fun b _ h2=>bC.block b (Nat.lt_of_lt_of_le h2 hCs)) hlv;have hsep:D < A0∨C0≤D:=.inr (by rw[← hD];exact hCs);have hCs:=Nat.le_trans hCs bC.size;have bN:=bN.trans (bC.mono bN.size);clear bC;(try rw[hwv2]);(try rw[hD]);clear hwv2 hD;refine hK.out _ _ ?_ (fun hHeld=>?_)
         · exact⟨bN,HSC.out _ bN,HIX.out _ bN⟩
         clear hK K
         try simp only[Act.put,List.setIfInBounds_toArray,List.set_cons_zero,List.set_cons_succ]
         refine wpAnyH_ready (rs:=[10]) (by kernel_rfl) (by simp) ?_;refine AllReadyH.cons (i:=10) rfl (fun K hK=>?_) AllReadyH.nil;go_simp;have y0:=kD.cell 0;have z0:=kD.free 0;have y1:=kD.cell 1;have z1:=kD.free 1;have y2:=kD.cell 2;have z2:=kD.free 2;have y3:=kD.cell 3;have z3:=kD.free 3;go_simp;have hlv:=aI _ _ _ _ _ (fun b h1 h2=>(bE wv2 D (.string Y0) (.string Y1) (.slice YI yi yj) (.slice YP yp yq)).block b (Nat.lt_of_lt_of_le h2 hCs) (fun e=>by have e2:b=D:=e;omega)) hlv;have hCs:C0≤(bj wv2 D (.string Y0) (.string Y1) (.slice YI yi yj) (.slice YP yp yq)).heap.size:=Nat.le_trans hCs (aj (Below.refl 0 wv2) (Nat.zero_le _) (.string Y0) (.string Y1) (.slice YI yi yj) (.slice YP yp yq)).size;have kD:=aF kD (.string Y0) (.string Y1) (.slice YI yi yj) (.slice YP yp yq);have bN:=aj bN hDW (.string Y0) (.string Y1) (.slice YI yi yj) (.slice YP yp yq);refine hK.out _ _ ?_ (fun hHeld=>?_)
         · exact⟨bN,HSC.out _ bN,HIX.out _ bN⟩
         clear hK K
         try simp only[Act.put,List.setIfInBounds_toArray,List.set_cons_zero,List.set_cons_succ]
         refine az 11 (some 16) ?v49 ?y49 ?n49
         case y49=>intro w hSw;(try dsimp only at hSw);go_simp;try with_reducible rfl
         try simp only[Act.put,List.setIfInBounds_toArray,List.set_cons_zero,List.set_cons_succ]
         refine wpAnyH_done (by kernel_rfl) ?_ _;refine hK0 _ _ (Met.intro (hJ1 _ _ ?_))
         (repeat apply Exists.intro)
         refine⟨?_,rfl⟩
         exact⟨D,y,bb,C0,rfl,rfl,by unfold Hid;rw[HEY.out];exact kD,hlv.wider hAw (Nat.le_refl _),hCs,HFO,bN,hDW⟩
       · go_simp
         obtain⟨wv1,hwv1⟩:∃ z,World.alloc wd (.cells #[.string ⟨#[]⟩,.string ⟨#[]⟩,.slice none 0 0,.slice none 0 0] 28)=z:=⟨_,rfl⟩
         obtain⟨D,hD⟩:∃ D,wd.heap.size=D:=⟨_,rfl⟩
         have bC:Below wd.heap.size wd wv1:=by rw[← hwv1];exact(Below.refl _ _).alloc (Nat.le_refl _) _
         have kD:Bk wv1 D 28 #[.string ⟨#[]⟩,.string ⟨#[]⟩,.slice none 0 0,.slice none 0 0]:=by rw[← hwv1,← hD];exact Bk.new _ _ _
         have hDW:wg.heap.size≤D:=by rw[← hD];exact bN.size
         have hDlt:D < wv1.heap.size:=kD.lt;have bN:=bN.trans (bC.mono bN.size);clear bC;(try rw[hwv1]);(try rw[hD]);clear hwv1 hD;refine hK.out _ _ ?_ (fun hHeld=>?_)
         · exact⟨bN,HSC.out _ bN,HIX.out _ bN⟩
         clear hK K
         try simp only[Act.put,List.setIfInBounds_toArray,List.set_cons_zero,List.set_cons_succ]
         refine wpAnyH_ready (rs:=[5]) (by kernel_rfl) (by simp) ?_;refine AllReadyH.cons (i:=5) rfl (fun K hK=>?_) AllReadyH.nil;go_simp
         refine(HF2.out wv1 bN).mono ?_
         rintro e wv2 ⟨⟨bb,y,rfl,hlv,hfo⟩,bC⟩;have HFO:=Lib.hid hfo;clear hfo
         obtain⟨y1,y2,y3,⟨YI,yi,yj⟩,y4,⟨YP,yp,yq⟩⟩:=y
         have hag:(af ⟨y1,y2,y3,(YI,yi,yj),y4,(YP,yp,yq)⟩).toArray=#[.string (aa y1),.string (aa y2),.slice YI yi yj,.slice YP yp yq]:=rfl;rw[hag];clear hag
         obtain⟨y,hy⟩:∃ y:aC,(⟨y1,y2,y3,(YI,yi,yj),y4,(YP,yp,yq)⟩:aC)=y:=⟨_,rfl⟩
         obtain⟨Y0,hY0⟩:∃ J,aa y1=J:=⟨_,rfl⟩
         obtain⟨Y1,hY1⟩:∃ J,aa y2=J:=⟨_,rfl⟩
         have HEY:Hid ((af y).toArray=#[.string Y0,.string Y1,.slice YI yi yj,.slice YP yp yq]):=by unfold Hid;rw[← hy,← hY0,← hY1];rfl
         rw[hY0,hY1];rw[hy] at HFO hlv;clear hy hY0 hY1;have kD:=kD.below bC kD.lt
         obtain⟨A0,hA0⟩:∃ a,wv1.heap.size=a:=⟨_,rfl⟩
         obtain⟨C0,hC0⟩:∃ a,wv2.heap.size=a:=⟨_,rfl⟩
         rw[hA0,hC0] at hlv;have hCs:C0≤wv2.heap.size:=Nat.le_of_eq hC0.symm;have hAw:wg.heap.size≤A0:=by rw[← hA0];exact bN.size
         have hsep:D < A0∨C0≤D:=.inl (by rw[← hA0];exact hDlt);have bN:=bN.trans (bC.mono bN.size);clear bC hA0 hC0
         go_wp2_with fail
         refine hK.out _ _ ?_ (fun hHeld=>?_)
         · exact⟨bN,HSC.out _ bN,HIX.out _ bN⟩
         clear hK K
         try simp only[Act.put,List.setIfInBounds_toArray,List.set_cons_zero,List.set_cons_succ]
         refine az 6 (some 79) ?v50 ?y50 ?n50
         case y50=>intro w hSw;(try dsimp only at hSw);go_simp;try with_reducible rfl
         try simp only[Act.put,List.setIfInBounds_toArray,List.set_cons_zero,List.set_cons_succ]
         refine az 7 (some 86) ?v51 ?y51 ?n51
         case y51=>intro w hSw;(try dsimp only at hSw);go_simp;try with_reducible rfl
         try simp only[Act.put,List.setIfInBounds_toArray,List.set_cons_zero,List.set_cons_succ]
         refine az 8 (some 87) ?v52 ?y52 ?n52
         case y52=>intro w hSw;(try dsimp only at hSw);go_simp;try with_reducible rfl
         try simp only[Act.put,List.setIfInBounds_toArray,List.set_cons_zero,List.set_cons_succ]
         refine wpAnyH_ready (rs:=[10]) (by kernel_rfl) (by simp) ?_;refine AllReadyH.cons (i:=10) rfl (fun K hK=>?_) AllReadyH.nil;go_simp;have y0:=kD.cell 0;have z0:=kD.free 0;have y1:=kD.cell 1;have z1:=kD.free 1;have y2:=kD.cell 2;have z2:=kD.free 2;have y3:=kD.cell 3;have z3:=kD.free 3;go_simp;have hlv:=aI _ _ _ _ _ (fun b h1 h2=>(bE wv2 D (.string Y0) (.string Y1) (.slice YI yi yj) (.slice YP yp yq)).block b (Nat.lt_of_lt_of_le h2 hCs) (fun e=>by have e2:b=D:=e;omega)) hlv;have hCs:C0≤(bj wv2 D (.string Y0) (.string Y1) (.slice YI yi yj) (.slice YP yp yq)).heap.size:=Nat.le_trans hCs (aj (Below.refl 0 wv2) (Nat.zero_le _) (.string Y0) (.string Y1) (.slice YI yi yj) (.slice YP yp yq)).size;have kD:=aF kD (.string Y0) (.string Y1) (.slice YI yi yj) (.slice YP yp yq);have bN:=aj bN hDW (.string Y0) (.string Y1) (.slice YI yi yj) (.slice YP yp yq);refine hK.out _ _ ?_ (fun hHeld=>?_)
         · exact⟨bN,HSC.out _ bN,HIX.out _ bN⟩
         clear hK K
         try simp only[Act.put,List.setIfInBounds_toArray,List.set_cons_zero,List.set_cons_succ]
         refine az 11 (some 16) ?v53 ?y53 ?n53
         case y53=>intro w hSw;(try dsimp only at hSw);go_simp;try with_reducible rfl
         try simp only[Act.put,List.setIfInBounds_toArray,List.set_cons_zero,List.set_cons_succ]
         refine wpAnyH_done (by kernel_rfl) ?_ _;refine hK0 _ _ (Met.intro (hJ1 _ _ ?_))
         (repeat apply Exists.intro)
         refine⟨?_,rfl⟩
         exact⟨D,y,bb,C0,rfl,rfl,by unfold Hid;rw[HEY.out];exact kD,hlv.wider hAw (Nat.le_refl _),hCs,HFO,bN,hDW⟩
      case rest =>
      obtain⟨HB,yb,bb,C,rfl,rfl,KB,LB,hCs,FB,BH,hBW⟩:=hcut
      have HBW:Hid (wg.heap.size≤HB):=hBW;have HCS:Hid (C≤wc.heap.size):=hCs
      obtain⟨wf,hwz⟩:∃ z,z=wc:=⟨_,rfl⟩
      rw[← hwz] at KB LB HCS BH ⊢;clear hwz hBW hCs HF2 HSC HIX
      obtain⟨hbb,hput,hnot⟩:=rj HPB.out FA.out FB.out
      subst hbb;have HPU:Hid (iw i=iw n∧th=true→cG (⟨ya.name,x.pw,x.items,x.iv,x.pend,x.pv⟩:aC)=cG yb):=hput;have HNO:Hid (¬ (iw i=iw n∧th=true)→cG ya=cG yb):=hnot;clear hput hnot;have HSA:=Lib.hid (sV FA.out HSL.out);have HABn:Hid (HA < wg.heap.size):=KA.out.lt;have PF:=Lib.hid (PG.out.below BH.out);have KAf:=Lib.hid (KA.out.below BH.out KA.out.lt);have IAf:=Lib.hid (IA.out.upon BH.out);have BWR:Hid (Below wr.heap.size wr wf):=BG.out.trans (BH.out.mono BG.out.size);clear KA IA FA FB BG BH PG
      obtain⟨y1,y2,y3,⟨YI,yi,yj⟩,y4,⟨YP,yp,yq⟩⟩:=ya
      have eya:(af ⟨y1,y2,y3,(YI,yi,yj),y4,(YP,yp,yq)⟩).toArray=#[.string (aa y1),.string (aa y2),.slice YI yi yj,.slice YP yp yq]:=rfl;rw[eya] at KAf
      obtain⟨ya,hya⟩:∃ y:aC,(⟨y1,y2,y3,(YI,yi,yj),y4,(YP,yp,yq)⟩:aC)=y:=⟨_,rfl⟩
      have HYN:Hid (ya.name=y1):=by rw[← hya];rfl
      obtain⟨Y0,hY0⟩:∃ J,aa y1=J:=⟨_,rfl⟩
      obtain⟨Y1,hY1⟩:∃ J,aa y2=J:=⟨_,rfl⟩
      have HYA:Hid ((af ya).toArray=#[.string Y0,.string Y1,.slice YI yi yj,.slice YP yp yq]):=by unfold Hid;rw[← hya,← hY0,← hY1];rfl
      have HY0:=Lib.hid hY0;rw[hY0,hY1] at KAf;rw[hya] at HPU HNO HSA IAf;clear eya hya hY0 hY1
      obtain⟨b1,b2,b3,⟨VI,vi,vj⟩,b4,⟨VP,vp,vq⟩⟩:=yb
      have eyb:(af ⟨b1,b2,b3,(VI,vi,vj),b4,(VP,vp,vq)⟩).toArray=#[.string (aa b1),.string (aa b2),.slice VI vi vj,.slice VP vp vq]:=rfl;rw[eyb] at KB
      obtain⟨yb,hyb⟩:∃ y:aC,(⟨b1,b2,b3,(VI,vi,vj),b4,(VP,vp,vq)⟩:aC)=y:=⟨_,rfl⟩
      obtain⟨V0,hV0⟩:∃ J,aa b1=J:=⟨_,rfl⟩
      obtain⟨V1,hV1⟩:∃ J,aa b2=J:=⟨_,rfl⟩
      have HYB:Hid ((af yb).toArray=#[.string V0,.string V1,.slice VI vi vj,.slice VP vp vq]):=by unfold Hid;rw[← hyb,← hV0,← hV1];rfl
      rw[hV0,hV1] at KB;rw[hyb] at HPU HNO LB;clear eyb hyb hV0 hV1
      go_upto_region 15 with fail
      go_cut [90] from 88 to 90 (fun s wx=>s=.bool false∧wx=wf)
      case first =>
       cases ba<;>(go_wp2_with fail;go_meet;exact⟨rfl,rfl⟩)
      case rest =>
      obtain⟨rfl,hwc⟩:=hcut
      have hwc2:=hwc.symm;subst hwc2;clear hwc
      go_upto_region 17 with fail
      go_cut [96] from 91 to 96 (fun s wx=>s=.bool (decide (i=n)&&th)∧wx=wf)
      case first =>
       by_cases hin:i=n
       · have hind:decide (i=n)=true:=decide_eq_true hin
         have hini:decide ((i:Int)=(n:Int))=true:=decide_eq_true (by omega);have hinb:((i:Int)==(n:Int))=true:=beq_iff_eq.2 (by omega);clear hin;cases th<;>(go_wp2_with fail;go_meet;exact⟨by rw[hind];first | rfl | (rw[hini];rfl) | (rw[hinb];rfl),rfl⟩)
       · have hind:decide (i=n)=false:=decide_eq_false hin
         have hini:decide ((i:Int)=(n:Int))=false:=decide_eq_false (by omega);have hinb:((i:Int)==(n:Int))=false:=by simp;omega
         clear hin
         go_wp2_with fail
         go_meet
         exact⟨by rw[hind];first | rfl | (rw[hini];rfl) | (rw[hinb];rfl),rfl⟩
      case rest =>
      obtain⟨hsl9,hwc⟩:=hcut
      have hwc2:=hwc.symm;subst hwc2;clear hwc
      obtain⟨cb,hcb⟩:∃ b,(decide (i=n)&&th)=b:=⟨_,rfl⟩
      rw[hcb] at hsl9;subst hsl9;cases cb with
      | true =>
        obtain⟨hin,hth⟩:=Bool.and_eq_true_iff.1 hcb
        have hpl:=HPU.out ⟨by rw[of_decide_eq_true hin],hth⟩;have HPL:=Lib.hid hpl;clear hin hth hpl hcb;have HUK:Hid (∀ Y,Below wf.heap.size wf Y→Bk Y UB 28 #[.string X0,.string X1,.slice XIA xin xic,.slice XPA xpn xpc]):=fun Y b=>by rw[← HEX.out];exact(PF.out.below b).s.ku
        have HUR:Hid (∀ Y,Below wr.heap.size wr Y→Bk Y UB 28 #[.string X0,.string X1,.slice XIA xin xic,.slice XPA xpn xpc]):=fun Y b=>by rw[← HEX.out];exact(PR.out.below b).s.ku
        have HU1:Hid (∀ Y,Below wr.heap.size wr Y→Y.cell? ⟨UB,1,none⟩=some (.string X1)):=fun Y b=>(HUR.out Y b).cell 1
        have HU2:Hid (∀ Y,Below wr.heap.size wr Y→Y.cell? ⟨UB,2,none⟩=some (.slice XIA xin xic)):=fun Y b=>(HUR.out Y b).cell 2
        have HU3:Hid (∀ Y,Below wr.heap.size wr Y→Y.cell? ⟨UB,3,none⟩=some (.slice XPA xpn xpc)):=fun Y b=>(HUR.out Y b).cell 3
        go_upto_region 18 with fail
        go_cut [98] from 97 to 105 (fun _ wx=>Hid (Bk wx HA 28 #[.string Y0,.string X1,.slice XIA xin xic,.slice XPA xpn xpc])∧Hid (But (·=HA) wf wx)∧Hid (Below wr.heap.size wr wx))
        case first K1 K0 hJ1 hK0 =>
         have bN:Below wr.heap.size wr wf.drew:=BWR.out.trans ((Below.refl _ _).drew.mono BWR.out.size);have kA:Bk wf.drew HA 28 #[.string Y0,.string Y1,.slice YI yi yj,.slice YP yp yq]:=KAf.out.below (Below.refl wf.heap.size wf).drew KAf.out.lt;have bA:But (·=HA) wf wf.drew:=⟨(Below.refl wf.heap.size wf).drew.os,(Below.refl wf.heap.size wf).drew.tape,(Below.refl wf.heap.size wf).drew.output,(Below.refl wf.heap.size wf).drew.size,fun _ h _=>(Below.refl wf.heap.size wf).drew.block _ h⟩;refine wp_region_held_drew (S:=fun w'=>Below wr.heap.size wr w'∧w'.cell? ⟨UB,1,none⟩=some (.string X1)∧w'.cell? ⟨UB,2,none⟩=some (.slice XIA xin xic)∧w'.cell? ⟨UB,3,none⟩=some (.slice XPA xpn xpc)) (by kernel_rfl) ?_ (fun hHeld=>?_)
         · exact⟨bN,HU1.out _ bN,HU2.out _ bN,HU3.out _ bN⟩
         obtain⟨wd,hwd⟩:∃ z,wf.drew=z:=⟨_,rfl⟩
         rw[hwd] at bN kA bA hHeld ⊢;clear hwd;refine az 0 (some 97) ?v54 ?y54 ?n54
         case y54=>intro w hSw;(try dsimp only at hSw);go_simp;try with_reducible rfl
         try simp only[Act.put,List.setIfInBounds_toArray,List.set_cons_zero,List.set_cons_succ]
         refine az 1 (some 98) ?v55 ?y55 ?n55
         case y55=>intro w hSw;(try dsimp only at hSw);go_simp;try with_reducible rfl
         try simp only[Act.put,List.setIfInBounds_toArray,List.set_cons_zero,List.set_cons_succ]
         refine az 2 (some 99) ?v56 ?y56 ?n56
         case y56=>intro w hSw;(try dsimp only at hSw);go_simp;try with_reducible rfl
         try simp only[Act.put,List.setIfInBounds_toArray,List.set_cons_zero,List.set_cons_succ]
         refine az 3 (some 100) ?v57 ?y57 ?n57
         case y57=>intro w hSw;(try dsimp only at hSw);go_simp;try with_reducible rfl
         try simp only[Act.put,List.setIfInBounds_toArray,List.set_cons_zero,List.set_cons_succ]
         refine az 4 (some 101) ?v58 ?y58 ?n58
         case y58=>intro w hSw;(try dsimp only at hSw);go_simp;try with_reducible rfl
         try simp only[Act.put,List.setIfInBounds_toArray,List.set_cons_zero,List.set_cons_succ]
         refine az 5 (some 102) ?v59 ?y59 ?n59
         case y59=>intro w hSw;(try dsimp only at hSw);go_simp;try with_reducible rfl
         try simp only[Act.put,List.setIfInBounds_toArray,List.set_cons_zero,List.set_cons_succ]
         refine az 6 (some 103) ?v60 ?y60 ?n60
         case y60=>intro w hSw;(try dsimp only at hSw);go_simp;try with_reducible rfl
         try simp only[Act.put,List.setIfInBounds_toArray,List.set_cons_zero,List.set_cons_succ]
         refine wpAnyH_ready (rs:=[7]) (by kernel_rfl) (by simp) ?_;refine AllReadyH.cons (i:=7) rfl (fun K hK=>?_) AllReadyH.nil;go_simp;have y0:(wd).cell? ⟨HA,1,none⟩=some (.string Y1):=kA.cell 1;have z0:(wd).frozen? ⟨HA,1,none⟩=false:=kA.free 1;go_simp;have kA:Bk ((wd).setCell ⟨HA,1,none⟩ (.string X1)) HA 28 #[.string Y0,.string X1,.slice YI yi yj,.slice YP yp yq]:=kA.put 1 (.string X1);have bA:But (·=HA) wf ((wd).setCell ⟨HA,1,none⟩ (.string X1)):=bA.trans (aD _ HA 1 (.string X1));have bN:Below wr.heap.size wr ((wd).setCell ⟨HA,1,none⟩ (.string X1)):=bN.setCell (p:=⟨HA,1,none⟩) HAW2.out (.string X1);clear y0 z0
         obtain⟨wv1,hwv1⟩:∃ z,(wd).setCell ⟨HA,1,none⟩ (.string X1)=z:=⟨_,rfl⟩
         rw[hwv1] at kA bA bN;rw[hwv1];clear hwv1;refine hK.out _ _ ?_ (fun hHeld=>?_)
         · exact⟨bN,HU1.out _ bN,HU2.out _ bN,HU3.out _ bN⟩
         clear hK K
         try simp only[Act.put,List.setIfInBounds_toArray,List.set_cons_zero,List.set_cons_succ]
         refine az 8 (some 104) ?v61 ?y61 ?n61
         case y61=>intro w hSw;(try dsimp only at hSw);go_simp;try with_reducible rfl
         try simp only[Act.put,List.setIfInBounds_toArray,List.set_cons_zero,List.set_cons_succ]
         refine wpAnyH_ready (rs:=[9]) (by kernel_rfl) (by simp) ?_;refine AllReadyH.cons (i:=9) rfl (fun K hK=>?_) AllReadyH.nil;go_simp;have y0:(wv1).cell? ⟨HA,2,none⟩=some (.slice YI yi yj):=kA.cell 2;have z0:(wv1).frozen? ⟨HA,2,none⟩=false:=kA.free 2;go_simp;have kA:Bk ((wv1).setCell ⟨HA,2,none⟩ (.slice XIA xin xic)) HA 28 #[.string Y0,.string X1,.slice XIA xin xic,.slice YP yp yq]:=kA.put 2 (.slice XIA xin xic);have bA:But (·=HA) wf ((wv1).setCell ⟨HA,2,none⟩ (.slice XIA xin xic)):=bA.trans (aD _ HA 2 (.slice XIA xin xic));have bN:Below wr.heap.size wr ((wv1).setCell ⟨HA,2,none⟩ (.slice XIA xin xic)):=bN.setCell (p:=⟨HA,2,none⟩) HAW2.out (.slice XIA xin xic);clear y0 z0
         obtain⟨wv2,hwv2⟩:∃ z,(wv1).setCell ⟨HA,2,none⟩ (.slice XIA xin xic)=z:=⟨_,rfl⟩
         rw[hwv2] at kA bA bN;rw[hwv2];clear hwv2;refine hK.out _ _ ?_ (fun hHeld=>?_)
         · exact⟨bN,HU1.out _ bN,HU2.out _ bN,HU3.out _ bN⟩
         clear hK K
         try simp only[Act.put,List.setIfInBounds_toArray,List.set_cons_zero,List.set_cons_succ]
         refine az 10 (some 105) ?v62 ?y62 ?n62
         case y62=>intro w hSw;(try dsimp only at hSw);go_simp;try with_reducible rfl
         try simp only[Act.put,List.setIfInBounds_toArray,List.set_cons_zero,List.set_cons_succ]
         refine wpAnyH_ready (rs:=[11]) (by kernel_rfl) (by simp) ?_;refine AllReadyH.cons (i:=11) rfl (fun K hK=>?_) AllReadyH.nil;go_simp;have y0:(wv2).cell? ⟨HA,3,none⟩=some (.slice YP yp yq):=kA.cell 3;have z0:(wv2).frozen? ⟨HA,3,none⟩=false:=kA.free 3;go_simp;have kA:Bk ((wv2).setCell ⟨HA,3,none⟩ (.slice XPA xpn xpc)) HA 28 #[.string Y0,.string X1,.slice XIA xin xic,.slice XPA xpn xpc]:=kA.put 3 (.slice XPA xpn xpc);have bA:But (·=HA) wf ((wv2).setCell ⟨HA,3,none⟩ (.slice XPA xpn xpc)):=bA.trans (aD _ HA 3 (.slice XPA xpn xpc));have bN:Below wr.heap.size wr ((wv2).setCell ⟨HA,3,none⟩ (.slice XPA xpn xpc)):=bN.setCell (p:=⟨HA,3,none⟩) HAW2.out (.slice XPA xpn xpc);clear y0 z0
         obtain⟨wv3,hwv3⟩:∃ z,(wv2).setCell ⟨HA,3,none⟩ (.slice XPA xpn xpc)=z:=⟨_,rfl⟩
         rw[hwv3] at kA bA bN;rw[hwv3];clear hwv3;refine hK.out _ _ ?_ (fun hHeld=>?_)
         · exact⟨bN,HU1.out _ bN,HU2.out _ bN,HU3.out _ bN⟩
         clear hK K
         try simp only[Act.put,List.setIfInBounds_toArray,List.set_cons_zero,List.set_cons_succ]
         refine wpAnyH_done (by kernel_rfl) ?_ _;refine hK0 _ _ (Met.intro (hJ1 _ _ ?_))
         (repeat apply Exists.intro)
         refine⟨?_,rfl⟩
         exact⟨kA,bA,bN⟩
        case rest =>
        obtain⟨KA9,BA9,BR9⟩:=hcut
        obtain⟨wh,hwz⟩:∃ z,z=wc:=⟨_,rfl⟩
        rw[← hwz] at KA9 BA9 BR9 ⊢;clear hwz;have HNE:Hid (HB≠HA):=by have:=HBW.out;have:=HABn.out;unfold Hid;omega
        have KBh:Hid (Bk wh HB 28 #[.string V0,.string V1,.slice VI vi vj,.slice VP vp vq]):=BA9.out.bkI KB.out (fun e=>HNE.out e);have LBh:LiveU wg.heap.size C wh yb:=aI _ _ _ _ _ (fun q h1 h2=>BA9.out.block q (Nat.lt_of_lt_of_le h2 HCS.out) (fun e=>by have e2:q=HA:=e;have:=HABn.out;omega)) LB.out;have IBh:InU wh yb:=LBh.reads (Nat.le_trans HCS.out BA9.out.size)
        obtain⟨xa,hxa⟩:∃ z:aC,(⟨ya.name,x.pw,x.items,x.iv,x.pend,x.pv⟩:aC)=z:=⟨_,rfl⟩
        have IXh:InU wh xa:=by rw[← hxa];exact(PR.out.below BR9.out).s.ix
        have hsx:=HSX.out HCC.out.2.1 HCC.out.2.2;have hsa:lK xa:=by rw[← hxa];exact⟨HSA.out.name,hsx.pw,hsx.items,hsx.eachI,hsx.pend,hsx.eachP⟩
        have hpl:=HPL.out;rw[hxa] at hpl;have hxe:(af xa).toArray=#[.string Y0,.string X1,.slice XIA xin xic,.slice XPA xpn xpc]:=by
         obtain⟨q1,q2,q3,q4,q5⟩:=HXF.out
         rw[← hxa];unfold af;rw[HYN.out,HY0.out,q1,HX1.out,q3,q5];rfl
        have hhu:=fF xa yb wh hpl IXh IBh hsa;rw[hxe,HYB.out] at hhu;have HHU:=Lib.hid hhu;have BWH:Hid (Below we.heap.size we wh):=BR.out.trans (BR9.out.mono BR.out.size);have c0:wh.cell? ⟨HA,0,none⟩=some (.string Y0):=KA9.out.cell 0;have c1:wh.cell? ⟨HA,1,none⟩=some (.string X1):=KA9.out.cell 1;have c2:wh.cell? ⟨HA,2,none⟩=some (.slice XIA xin xic):=KA9.out.cell 2;have c3:wh.cell? ⟨HA,3,none⟩=some (.slice XPA xpn xpc):=KA9.out.cell 3;have d0:wh.cell? ⟨HB,0,none⟩=some (.string V0):=KBh.out.cell 0;have d1:wh.cell? ⟨HB,1,none⟩=some (.string V1):=KBh.out.cell 1;have d2:wh.cell? ⟨HB,2,none⟩=some (.slice VI vi vj):=KBh.out.cell 2;have d3:wh.cell? ⟨HB,3,none⟩=some (.slice VP vp vq):=KBh.out.cell 3;clear LBh IBh IXh hsx hsa hpl hxe hhu hxa
        go_wp2_with fail
        refine HHU.out.mono ?_;rintro e w9 ⟨rfl,b9⟩;have B9:Hid (Below we.heap.size we w9):=BWH.out.trans (b9.mono BWH.out.size);clear b9
        go_wp2_with fail
        go_roundw
        case rel=>exact⟨i+1,_,_,_,_,by go_num,rfl,rfl,rfl,rfl,by omega,B9⟩
        case measure=>simp[intOf];omega
      | false =>
        have hnn:¬ (iw i=iw n∧th=true):=fun ⟨h1,h2⟩=>by
         have h3:(⟨i,HI6.out⟩:Fin 6)=⟨n,HN6.out⟩:=uw _ _ h1;have h4:i=n:=congrArg Fin.val h3;rw[h4,h2,decide_eq_true rfl] at hcb;cases hcb
        have hpl:=HNO.out hnn;clear hnn hcb;have IBh:InU wf yb:=LB.out.reads HCS.out;have hhu:=fF ya yb wf hpl IAf.out IBh HSA.out;rw[HYA.out,HYB.out] at hhu;have HHU:=Lib.hid hhu;have BWH:Hid (Below we.heap.size we wf):=BR.out.trans (BWR.out.mono BR.out.size);have c0:wf.cell? ⟨HA,0,none⟩=some (.string Y0):=KAf.out.cell 0;have c1:wf.cell? ⟨HA,1,none⟩=some (.string Y1):=KAf.out.cell 1;have c2:wf.cell? ⟨HA,2,none⟩=some (.slice YI yi yj):=KAf.out.cell 2;have c3:wf.cell? ⟨HA,3,none⟩=some (.slice YP yp yq):=KAf.out.cell 3;have d0:wf.cell? ⟨HB,0,none⟩=some (.string V0):=KB.out.cell 0;have d1:wf.cell? ⟨HB,1,none⟩=some (.string V1):=KB.out.cell 1;have d2:wf.cell? ⟨HB,2,none⟩=some (.slice VI vi vj):=KB.out.cell 2;have d3:wf.cell? ⟨HB,3,none⟩=some (.slice VP vp vq):=KB.out.cell 3;clear IBh hpl hhu
        go_wp2_with fail
        refine HHU.out.mono ?_;rintro e w9 ⟨rfl,b9⟩;have B9:Hid (Below we.heap.size we w9):=BWH.out.trans (b9.mono BWH.out.size);clear b9
        go_wp2_with fail
        go_roundw
        case rel=>exact⟨i+1,_,_,_,_,by go_num,rfl,rfl,rfl,rfl,by omega,B9⟩
        case measure=>simp[intOf];omega
    · have hiz:¬ (i:Int) < 6:=by omega
      have BEW:Hid (Below W.heap.size W wr):=PR.out.s.bw;cases th with
      | true =>
        go_wp2_with fail
        go_ret
        exact⟨rfl,BEW.out⟩
      | false =>
        have hmm:l.map cK=l'.map cK:=by
         rcases HPB.out with ⟨_,_,hm⟩ | ⟨hb,_⟩
         · exact hm.symm
         · cases hb
        have hhs:=oC (.slice SA sn sc) (.slice TA tn tc) l l' wr PR.out.s.rs PR.out.rt hmm HLL.out HSL.out;have HHS:=Lib.hid hhs;have c0:wr.cell? ⟨G,0,none⟩=some (.slice SA sn sc):=PR.out.s.kg.cell 0;have c1:wr.cell? ⟨T,0,none⟩=some (.slice TA tn tc):=PR.out.kt.cell 0;clear hmm hhs
        go_wp2_with fail
        refine HHS.out.mono ?_;rintro e w9 ⟨rfl,b9⟩;have B9:Hid (Below W.heap.size W w9):=BEW.out.trans (b9.mono BEW.out.size);clear b9
        go_wp2_with fail
        go_ret
        exact⟨rfl,B9.out⟩
end Go.Proofs.YtbgaglcgennhiaaGreatDoor
