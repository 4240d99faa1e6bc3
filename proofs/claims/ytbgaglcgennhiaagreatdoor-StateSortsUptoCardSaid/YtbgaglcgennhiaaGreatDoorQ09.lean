import Derived.Test.YtbgaglcgennhiaaGreatDoorQ08
import Derived.Shelf.Abstract
set_option maxHeartbeats 4000000
namespace Go.Proofs.YtbgaglcgennhiaaGreatDoor
section
open Go.RowKit Rg
def kn (l:List R) (p:Nat->R->Bool):Bool:=(List.range l.length).any fun k=>match l[k]? with
 |some r=>p k r
 |none=>false
theorem iS {l:List R} {p:Nat->R->Bool} {k:Nat} {r:R} (h:l[k]?=some r) (hp:p k r=true):kn l p=true:=by unfold kn;rw[List.any_eq_true];exact⟨k,List.mem_range.2 (cD h).1,by rw[h];exact hp⟩
theorem gD {l:List R} {p:Nat->R->Bool} (h:∀ (k:Nat) r,k<l.length->l[k]?=some r->p k r=false):kn l p=false:=by unfold kn;rw[List.any_eq_false];intro k hk;have hk2:=List.mem_range.1 hk;rw[aQ hk2];simpa using h k _ hk2 (aQ hk2)
theorem lr (g:Nat) (cb:Array Value) (eg:∀ args w,(callFunc g args).run Tryz.prog w=.ok (.enter g args) w) (v:Value) (l:List R) (p:Nat->R->Bool) (w:World) (hv:ReadR w.heap.size w v l) (hl:l.length<=140737488355328)
 (hp:∀ (k:Nat) r W,l[k]?=some r->Below w.heap.size w W->Calls Tryz.prog g (#[.int .i64 k,.agg #[.int .i64 r.1,.int .i64 r.2]]++cb) W fun e w'=>e=.returned (.bool (p k r))/\Below W.heap.size W w'):
 Calls Tryz.prog 242 #[v,.func (.func g) #[] cb] w fun e w'=>e=.returned (.bool (kn l p))/\Below w.heap.size w w':=by
 obtain⟨A,cap,rfl,_,hx⟩:=hv;have HX:=aa hx;have HP:=aa hp;have HH:=aa (fun (k:Nat) (r:R) (h:l[k]?=some r) (h2:p k r=true)=>iS h h2);have HM:=aa (fun (h:∀ (k:Nat) r,k<l.length->l[k]?=some r->p k r=false)=>gD h);clear hx hp;go_enter Tryz.func242,Tryz.ntmps242;go_wp2_with fail
 go_loopw [9] (fun i wr=>∃ (k:Nat),k<=l.length/\i=.int .i64 k/\Hid (∀ (j:Nat) r,j<k->l[j]?=some r->p j r=false)/\Below w.heap.size w wr) (fun i _=>l.length-(intOf i).toNat)
 case atStart=>exact⟨0,bI _,rfl,aa (fun j r h=>absurd h (Nat.not_lt_zero _)),aE _ _⟩
 case round=>
  obtain⟨k,hk,rfl,hno,hb⟩:=hrel;have hsw:=hb.size;by_cases hlt:k<l.length
  ·obtain⟨ad,rfl,hlb,hc⟩:=HX.out (by omega);obtain⟨r,hr⟩:∃ r,l[k]?=some r:=⟨_,aQ hlt⟩;obtain⟨c0,c1⟩:=hc k r hr;rw[<-hb.cell (p:=ad.add (k*2)) (by rw[aC];omega)] at c0;rw[<-hb.cell (p:=⟨(ad.add (k*2)).block,(ad.add (k*2)).off+1,none⟩) (by show (ad.add (k*2)).block<_;rw[aC];omega)] at c1;have HR:=aa hr;clear hr hc;(go_wp2_with fail);have hb1:=hb.alloc hsw (.cells #[.int .i64 r.1,.int .i64 r.2] 185);refine(HP.out k r _ HR.out hb1).mono ?_;rintro e w2 ⟨rfl,b2⟩;have hb2:Below w.heap.size w w2:=hb1.trans (b2.mono (by simp;omega));cases hq:p k r with
   | true=>have hf:=HH.out k r HR.out hq;clear hq b2 hb1;(go_wp2_with fail);go_ret;exact⟨aV hf.symm,hb2⟩
   | false=>
     have hno2:Hid (∀ (j:Nat) s,j<k+1->l[j]?=some s->p j s=false):=aa (fun j s hj hjs=>by
      rcases Nat.lt_or_ge j k with h|h
      ·exact hno.out j s h hjs
      ·obtain rfl:j=k:=(by omega);obtain rfl:r=s:=Option.some.inj (HR.out.symm.trans hjs);exact hq)
     clear hq b2 hb1;(go_wp2_with fail);go_roundw;case rel=>exact⟨k+1,by omega,by go_num,hno2,hb2⟩
     case measure=>simp[intOf];omega
  ·have hke:k=l.length:=(by omega);have hf:=HM.out (fun j r hj hjr=>hno.out j r (by omega) hjr);clear hke;(go_wp2_with fail);go_ret;exact⟨aV hf.symm,hb⟩
def mL (l:List R) (k:Nat) (r:R):Bool:=decide (r.2<r.1)||(decide (0<k)&&match l[k-1]? with
 |some p=>decide (r.1<=p.2)
 |none=>false)
theorem om {l:List R} {k:Nat} {r:R} (h:l[k]?=some r):mL l k r=true↔Aw l k:=by
 unfold mL;cases k with
 | zero=>
   simp only[Nat.lt_irrefl,decide_false,Bool.false_and,Bool.or_false,decide_eq_true_eq];constructor
   ·intro h2;exact qy h h2
   ·rintro ⟨s,hs,h2⟩;obtain rfl:r=s:=Option.some.inj (h.symm.trans hs);rcases h2 with h2|⟨j,p,hj,_⟩<;>omega
 | succ j=>
   have hj:j<l.length:=(by have:=(cD h).1;omega);simp only[Nat.add_sub_cancel,aQ hj,Nat.zero_lt_succ,decide_true,Bool.true_and,Bool.or_eq_true,decide_eq_true_eq];constructor
   ·rintro (h2|h2)
    ·exact qy h h2
    ·exact vQ h (aQ hj) h2
   ·rintro ⟨s,hs,h2⟩;obtain rfl:r=s:=Option.some.inj (h.symm.trans hs);rcases h2 with h2|⟨j',p,hj',hp,h3⟩
    ·exact .inl h2
    ·obtain rfl:j'=j:=(by omega);rw[aQ hj] at hp;cases hp;exact .inr h3
theorem qx (l:List R):kn l (mL l)=!bn l:=by
 cases h:bn l with
 | true=>
   refine(gD fun k r _ hr=>?_);cases h2:mL l k r with
   |false=>rfl
   |true=>exact absurd ((om hr).1 h2) (fo.1 h k)
 | false=>have:∃ i,Aw l i:=(Classical.byContradiction fun hn=>by rw[fo.2 fun i hi=>hn ⟨i,hi⟩] at h;cases h);obtain⟨i,hi⟩:=this;have hi2:=hi;obtain⟨r,hr,_⟩:=hi;exact iS hr ((om hr).2 hi2)
theorem pI (bx:Nat) (a b:Int) (W:World):
 Calls Tryz.prog 244 #[.int .i64 0,.agg #[.int .i64 a,.int .i64 b],.pointer (some ⟨bx,0,none⟩)] W fun e w'=>e=.returned (.bool (decide (b<a)))/\Below W.heap.size W w':=by
 have hbl:=(Below.refl W.heap.size W).alloc (aq _) (.cells #[.int .i64 a,.int .i64 b] 185);rcases Bool.eq_false_or_eq_true (decide (b<a)) with h|h
 all_goals
  rw[h];go_enter Tryz.func244,Tryz.ntmps244;go_wp2_with fail
  go_big_quiet (fail)
  go_wp2_with fail
  go_ret;exact⟨rfl,be hbl _⟩
theorem pH (bx:Nat) (ad:Addr) (n cap j:Nat) (z a b y:Int) (W:World) (hbx:W.cell? ⟨bx,0,none⟩=some (.slice (some ad) n cap)) (hlt:bx<W.heap.size) (had:ad.block<W.heap.size)
 (hj:j<n) (hz:decide (0<z)=true) (hw:wrap64 (z-1)=(j:Int)) (c1:W.cell? ⟨(ad.add (j*2)).block,(ad.add (j*2)).off+1,none⟩=some (.int .i64 y)):
 Calls Tryz.prog 244 #[.int .i64 z,.agg #[.int .i64 a,.int .i64 b],.pointer (some ⟨bx,0,none⟩)] W fun e w'=>e=.returned (.bool (decide (b<a)||decide (a<=y)))/\Below W.heap.size W w':=by
 have hbl:=(Below.refl W.heap.size W).alloc (aq _) (.cells #[.int .i64 a,.int .i64 b] 185);have cb2:(W.alloc (.cells #[.int .i64 a,.int .i64 b] 185)).cell? ⟨bx,0,none⟩=some (.slice (some ad) n cap):=by rw[<-hbx];exact World.cell?_of_block (Below.heap_alloc W _ bx hlt)
 have c1':(W.alloc (.cells #[.int .i64 a,.int .i64 b] 185)).cell? ⟨(ad.add (j*2)).block,(ad.add (j*2)).off+1,none⟩=some (.int .i64 y):=by rw[<-c1];exact World.cell?_of_block (Below.heap_alloc W _ _ (by show (ad.add (j*2)).block<_;rw[aC];exact had))
 clear hbx c1 had;rcases Bool.eq_false_or_eq_true (decide (b<a)) with h|h
 ·rw[h,Bool.true_or];clear hz hw cb2 c1';go_enter Tryz.func244,Tryz.ntmps244;(go_wp2_with fail);go_big_quiet (fail)
  (go_wp2_with fail);go_ret;exact⟨rfl,be hbl _⟩
 ·rw[h,Bool.false_or];rcases Bool.eq_false_or_eq_true (decide (a<=y)) with h2|h2
  all_goals
   rw[h2];go_enter Tryz.func244,Tryz.ntmps244;(go_wp2_with fail);go_big_quiet (fail)
   (go_wp2_with fail);go_ret;exact⟨rfl,be hbl _⟩
theorem mz (v:Value) (l:List R) (w:World) (hv:ReadR w.heap.size w v l) (hl:l.length<=140737488355328):Calls Tryz.prog 216 #[v] w fun e w'=>e=.returned (.bool (bn l))/\Below w.heap.size w w':=by
 have hv2:=hv;obtain⟨A,cap,rfl,_,hc⟩:=hv;have hb1:Below w.heap.size w (w.alloc (.cells #[.slice A l.length cap] 166)):=(Below.refl _ w).alloc (aq _) _;have hk:=Bk.new w 166 #[.slice A l.length cap];have eg:∀ args w,(callFunc 244 args).run Tryz.prog w=.ok (.enter 244 args) w:=enters_of Tryz.func244 (by kernel_rfl) rfl;have HS:=lr 244 #[.pointer (some ⟨w.heap.size,0,none⟩)] eg (.slice A l.length cap) l (mL l) (w.alloc (.cells #[.slice A l.length cap] 166)) ((hv2.below hb1).more (by simp)) hl (fun k r W hr hb=>by
  have hkl:=(cD hr).1;have hs1:=hb.size;rw[World.size_alloc] at hs1;obtain⟨a,b⟩:=r;cases k with
  | zero=>have hres:mL l 0 (a,b)=decide (b<a):=(by simp[mL]);rw[hres];exact pI w.heap.size a b W
  | succ j=>
    obtain⟨ad,rfl,hlb,hx⟩:=hc (by omega);obtain⟨⟨x,y⟩,hp⟩:∃ p,l[j]?=some p:=⟨_,aQ (by omega)⟩;have hres:mL l (j+1) (a,b)=(decide (b<a)||decide (a<=y)):=(by simp[mL,hp]);rw[hres];refine pH w.heap.size ad l.length cap j ((j+1:Nat):Int) a b y W ?_ (by omega) (by omega) (by omega) (bq (by omega)) (by unfold wrap64;omega) ?_
    ·exact(hk.below (hb.mono (by simp)) (Nat.lt_succ_self _)).cell 0
    ·rw[(hb1.trans (hb.mono (by simp))).cell (by show (ad.add (j*2)).block<_;rw[aC];exact hlb)];exact(hx j _ hp).2)
 rw[qx] at HS;have HO:=aa HS;have hc0:=hk.cell 0;clear HS hc hv2 eg hk;go_enter Tryz.func216,Tryz.ntmps216;go_wp2_with fail
 refine HO.out.mono ?_;rintro e w2 ⟨rfl,b2⟩;have hb2:Below w.heap.size w w2:=hb1.trans (b2.mono (by simp));go_wp2_with fail
 go_ret;exact⟨aV (by simp),hb2⟩
theorem za (bx:Nat) (z a b c:Int) (W:World) (hbx:W.cell? ⟨bx,0,none⟩=some (.int .i64 c)) (hlt:bx<W.heap.size):
 Calls Tryz.prog 243 #[.int .i64 z,.agg #[.int .i64 a,.int .i64 b],.pointer (some ⟨bx,0,none⟩)] W fun e w'=>e=.returned (.bool (decide (a<=c)&&decide (c<=b)))/\Below W.heap.size W w':=by
 have hbl:=(Below.refl W.heap.size W).alloc (aq _) (.cells #[.int .i64 a,.int .i64 b] 185);have cb2:(W.alloc (.cells #[.int .i64 a,.int .i64 b] 185)).cell? ⟨bx,0,none⟩=some (.int .i64 c):=by rw[<-hbx];exact World.cell?_of_block (Below.heap_alloc W _ bx hlt)
 clear hbx;rcases Bool.eq_false_or_eq_true (decide (a<=c)) with h|h
 ·rcases Bool.eq_false_or_eq_true (decide (c<=b)) with h2|h2
  all_goals
   rw[h,h2];go_enter Tryz.func243,Tryz.ntmps243;(go_wp2_with fail);go_ret;exact⟨rfl,hbl⟩
 ·rw[h,Bool.false_and];go_enter Tryz.func243,Tryz.ntmps243;(go_wp2_with fail);go_ret;exact⟨rfl,hbl⟩
theorem vO (l:List R) (c:Int):kn l (fun _ r=>decide (r.1<=c)&&decide (c<=r.2))=bO l c:=by
 cases h:bO l c with
 | true=>obtain⟨r,hr,h2⟩:=fi.1 h;obtain⟨j,hj,rfl⟩:=List.mem_iff_getElem.1 hr;exact iS (aQ hj) (by simpa using h2)
 | false=>
   refine(gD fun k r _ hr=>?_);cases h2:decide (r.1<=c)&&decide (c<=r.2) with
   |false=>rfl
   | true=>rw[fh hr (by simp at h2;exact h2.1) (by simp at h2;exact h2.2)] at h;cases h
theorem zZ (v:Value) (l:List R) (c:Int) (w:World) (hv:ReadR w.heap.size w v l) (hl:l.length<=140737488355328):Calls Tryz.prog 215 #[v,.int .i64 c] w fun e w'=>e=.returned (.bool (bO l c))/\Below w.heap.size w w':=by
 have hb1:Below w.heap.size w (w.alloc (.cells #[.int .i64 c] 3)):=(Below.refl _ w).alloc (aq _) _;have hk:=Bk.new w 3 #[.int .i64 c];have eg:∀ args w,(callFunc 243 args).run Tryz.prog w=.ok (.enter 243 args) w:=enters_of Tryz.func243 (by kernel_rfl) rfl;have HS:=lr 243 #[.pointer (some ⟨w.heap.size,0,none⟩)] eg v l (fun _ r=>decide (r.1<=c)&&decide (c<=r.2)) (w.alloc (.cells #[.int .i64 c] 3)) ((hv.below hb1).more (by simp)) hl (fun k r W hr hb=>by have hs1:=hb.size;rw[World.size_alloc] at hs1;obtain⟨a,b⟩:=r;refine za w.heap.size _ a b c W ?_ (by omega);exact(hk.below (hb.mono (by simp)) (Nat.lt_succ_self _)).cell 0);rw[vO] at HS;obtain⟨A,cap,rfl,_,_⟩:=hv;have HO:=aa HS;clear HS eg hk;go_enter Tryz.func215,Tryz.ntmps215;go_wp2_with fail
 refine HO.out.mono ?_;rintro e w2 ⟨rfl,b2⟩;have hb2:Below w.heap.size w w2:=hb1.trans (b2.mono (by simp));go_wp2_with fail
 go_ret;exact⟨rfl,hb2⟩
theorem wE (n:Nat) (w:World) (hn:n<=1000000000000):Calls Tryz.prog 245 #[.slice none 0 0,.int .i64 n] w fun e w'=>∃ v,e=.returned v/\OwnR w.heap.size w' v []/\Below w.heap.size w w':=by
 rcases Nat.eq_zero_or_pos n with rfl|h0
 ·refine(Any8.slices_Grow_room Tryz.growRng none 0 0 0 w (aq _) (by omega) (by omega) (by omega)).mono ?_;rintro e w' ⟨rfl,rfl⟩;exact⟨_,rfl,OwnR.nil _ _,aE _ _⟩
 ·obtain⟨i0,hi,hz0,hz1,hz2⟩:=info_parts jY;refine(Any8.slices_Grow_grow Tryz.growRng i0 _ hi hz0 (by omega) none 0 0 n [] w (aq _) (by omega) (by rw[hz2];omega) (by omega) (by simp) (fun _=>rfl) (fun a h=>by cases h)).mono ?_;rintro e w' ⟨rfl,rfl⟩;refine⟨_,rfl,?_,?_⟩
  ·have h1:=grownCap_ge w (0+n) 0 185;have h2:=grownCap_le_maxLen w (0+n) 0 185 (by unfold maxLen;omega);unfold OwnR;rw[cT];refine World.ownsRow_made (size:=2) w.drew _ _ (aq _) h2 ?_;rw[Array.size_append,Array.size_append,size_zeroCells,size_zeroCells];show 0+(0+n-0)*2+(grownCap w (0+n) 0 185 - (0+n))*2=grownCap w (0+n) 0 185*2;omega
  ·exact(Below.refl w.heap.size w).drew.alloc (aq _) _
theorem qD (g:Nat) (va vb:Value) (a b:List R) (w:World) (t:TypeId) (hk:Bk w g t #[va,vb]) (ha:ReadR w.heap.size w va a) (hb:ReadR w.heap.size w vb b) (hl:a.length<=100000000000) (hm:b.length<=100000000000):
 Calls Tryz.prog 217 #[.slice (some ⟨g,0,none⟩) 2 2] w fun e w'=>∃ v,e=.returned v/\OwnR w.heap.size w' v (a++b)/\Below w.heap.size w w':=by
 have HG:=aa wE;obtain⟨Aa,ca,rfl,ha1,ha2⟩:=ha;obtain⟨Ab,cb,rfl,hb1,hb2⟩:=hb;have HA:Hid (ReadR w.heap.size w (.slice Aa a.length ca) a):=⟨Aa,ca,rfl,ha1,ha2⟩;have HB:Hid (ReadR w.heap.size w (.slice Ab b.length cb) b):=⟨Ab,cb,rfl,hb1,hb2⟩;have HK:=aa hk;have c0:=hk.cell 0;have c1:=hk.cell 1;simp at c0 c1;clear ha1 ha2 hb1 hb2 hk;go_enter Tryz.func217,Tryz.ntmps217;go_wp2_with fail
 go_loop [3,11] (fun s i=>(i=.int .i64 0/\s=.int .i64 0)\/(i=.int .i64 1/\s=.int .i64 a.length)\/(i=.int .i64 2/\s=.int .i64 (a.length+b.length:Nat))) (fun _ i=>2-(intOf i).toNat)
 case atStart=>exact .inl ⟨rfl,rfl⟩
 case round=>
  rcases hrel with ⟨rfl,rfl⟩|⟨rfl,rfl⟩|⟨rfl,rfl⟩
  ·(go_wp2_with fail);go_round
   case rel=>exact .inr (.inl ⟨rfl,by simp⟩)
   case measure=>simp[intOf]
  ·(go_wp2_with fail);go_round
   case rel=>exact .inr (.inr ⟨rfl,by simp⟩)
   case measure=>simp[intOf]
  ·(go_wp2_with (go_at_call 245;refine(HG.out (a.length+b.length) _ (by omega)).mono ?_;rintro e w1 ⟨v1,rfl,o1,b1⟩));have hs1:=b1.size;have c0':=((HK.out.below b1 HK.out.lt).cell 0);have c1':=((HK.out.below b1 HK.out.lt).cell 1);simp at c0' c1';clear c0 c1;go_wp2_with fail
   go_loopw [6,27] (fun vv i wr=>∃ v,vv=v/\Below w.heap.size w wr/\((i=.int .i64 0/\Hid (OwnR w.heap.size wr v []))\/(i=.int .i64 1/\Hid (OwnR w.heap.size wr v a))\/(i=.int .i64 2/\Hid (OwnR w.heap.size wr v (a++b))))) (fun _ i _=>2-(intOf i).toNat)
   case atStart=>exact⟨_,rfl,b1,.inl ⟨rfl,o1⟩⟩
   case round=>
    obtain⟨v,hv,bw,hr⟩:=hrel;have hv2:=hv.symm;clear hv;subst hv2;have hsw:=bw.size;have d0:=((HK.out.below bw HK.out.lt).cell 0);have d1:=((HK.out.below bw HK.out.lt).cell 1);simp at d0 d1;rcases hr with ⟨rfl,ho⟩|⟨rfl,ho⟩|⟨rfl,ho⟩
    ·obtain⟨A2,c2,rfl⟩:=ho.out.slice;have hR:Hid (ReadR wr.heap.size wr (.slice Aa a.length ca) a):=(HA.out.below bw).more hsw;(go_wp2_with (at_builtin;refine pz rfl _ _ rfl w.heap.size (.slice A2 ([]:List R).length c2) (.slice Aa a.length ca) [] a wr rfl ho.out rfl hR.out (by simp;omega) hsw ?_));intro v2 w2 o2 b2;have o2':Hid (OwnR w.heap.size w2 v2 a):=o2;have b2':=bw.trans b2;clear o2 b2;(go_wp2_with fail);go_roundw;case rel=>exact⟨_,rfl,b2',.inr (.inl ⟨rfl,o2'⟩)⟩
     case measure=>simp[intOf]
    ·obtain⟨A2,c2,rfl⟩:=ho.out.slice;have hR:Hid (ReadR wr.heap.size wr (.slice Ab b.length cb) b):=(HB.out.below bw).more hsw;(go_wp2_with (at_builtin;refine pz rfl _ _ rfl w.heap.size (.slice A2 a.length c2) (.slice Ab b.length cb) a b wr rfl ho.out rfl hR.out (by omega) hsw ?_));intro v2 w2 o2 b2;have o2':Hid (OwnR w.heap.size w2 v2 (a++b)):=o2;have b2':=bw.trans b2;clear o2 b2;(go_wp2_with fail);go_roundw;case rel=>exact⟨_,rfl,b2',.inr (.inr ⟨rfl,o2'⟩)⟩
     case measure=>simp[intOf]
    ·(go_wp2_with fail);go_ret;exact⟨_,rfl,ho.out,bw⟩
theorem oH (l:List R) {j:Nat} (hj:j<l.length*2):(ei l)[j]?=some (Go.Sort.flatK ii 2 l.toArray)[j]!:=by
 rw[Go.Sort.get_flatK _ _ _ _ (by simpa using hj)];have h2:j / 2<l.length:=by omega
 have hp:=j6 (aQ h2);have e:l.toArray[j / 2]! = l[j / 2]:=by rw[getElem!_pos l.toArray (j / 2) (by simpa using h2)];simp
 rw[e];rcases Nat.mod_two_eq_zero_or_one j with h|h
 ·rw[h];have h3:j / 2*2=j:=(by omega);rw[h3] at hp;exact hp.1
 ·rw[h];have h3:j / 2*2+1=j:=(by omega);rw[h3] at hp;exact hp.2
theorem tl (l:List R):(Go.Sort.flatK ii 2 l.toArray).size=l.length*2:=by simp
theorem wI {w:World} {g:Nat} {t:TypeId} {cur:Array Value} {l:List R} (hk:Bk w g t cur) (hc:cur.toList.take (l.length*2)=ei l):Go.Sort.HoldsK ii 2 w g 0 l.toArray:=by intro j hj;rw[tl] at hj;have h:=oH l hj;rw[<-hc,List.getElem?_take_of_lt hj] at h;rw[Nat.zero_add,hk.cell,hk.free];exact⟨by rw[<-Array.getElem?_toList];exact h,rfl⟩
theorem ru {B:Nat} {w:World} {g cap n:Nat} {cur:Array Value} {l d:List R} {os:Array Obj} (hk:Bk w g 185 cur) (hB:B<=g) (hl:l.length<=cap) (hm:cap<=maxLen) (hs:cur.size=cap*2) (hd:d.length=l.length):
 OwnR B (Go.Proofs.sortWorldK ii 2 w g 0 n d.toArray os) (.slice (some ⟨g,0,none⟩) l.length cap) d/\Below B w (Go.Proofs.sortWorldK ii 2 w g 0 n d.toArray os):=by
 have hgl:=hk.lt;have hh:(Go.Proofs.sortWorldK ii 2 w g 0 n d.toArray os).heap=(w.heap.modify g (Go.Sort.onCells (Go.Sort.putCells id 0 (Go.Sort.flatK ii 2 d.toArray))))++os:=rfl;have hk':w.heap[g]?=some (.cells cur 185 (0,0)):=hk;refine⟨⟨di d,.inr ⟨g,cap,Go.Sort.putCells id 0 (Go.Sort.flatK ii 2 d.toArray) cur,by rw[hd],hB,?_,by omega,hm,?_,?_⟩⟩,rfl,rfl,rfl,?_,fun k hkb=>?_⟩
 ·rw[hh,Array.getElem?_append_left (by simpa using hgl),Array.getElem?_modify,if_pos rfl,hk'];rfl
 ·simp[Go.Sort.putCells,hs]
 ·refine(List.ext_getElem? fun j=>?_);by_cases hj:j<d.length*2
  ·rw[List.getElem?_take_of_lt hj,oH d hj,Array.getElem?_toList];have hjs:j<cur.size:=(by omega);simp[Go.Sort.putCells,hjs,hj]
  ·rw[List.getElem?_eq_none (by rw[dL];omega),List.getElem?_eq_none (by rw[di];omega)]
 ·rw[hh];simp
 ·rw[hh,Array.getElem?_append_left (by simp;omega),Array.getElem?_modify,if_neg (by omega)]
theorem sz (x y:R):ltOf (fun x y:R=>Lib.compareInt x.1 y.1) x y=decide (x.1<y.1):=by
 unfold ltOf Lib.compareInt;by_cases h1:x.1<y.1
 ·simp[h1]
 ·by_cases h2:y.1<x.1<;>simp[h1,h2]
theorem Bb:Go.Sort.SWO (ltOf fun x y:R=>Lib.compareInt x.1 y.1) where
 irrefl x:=by rw[sz];simp
 trans x y z h1 h2:=by rw[sz] at *;simp at *;omega
 ntrans x y z h1 h2:=by rw[sz] at *;simp at *;omega
theorem wU (x y:R) (W:World):Calls Tryz.prog 219 #[.agg #[.int .i64 x.1,.int .i64 x.2],.agg #[.int .i64 y.1,.int .i64 y.2]] W fun e w'=>e=.returned (.int .i64 (Lib.compareInt x.1 y.1))/\∃ q os',w'=Go.Sort.grow (W.drewN q) os':=by
 have hcon:=fun W'=>Tryz.cmp_Compare_int x.1 y.1 W'
 generalize Lib.compareInt x.1 y.1=r at hcon ⊢;go_enter Tryz.func219,Tryz.ntmps219;go_wp2_with (go_at_call 220;refine(hcon _).mono ?_;rintro e w' ⟨rfl,rfl⟩)
 go_ret;exact⟨rfl,0,_,by rw[Go.Sort.alloc_eq_grow,Go.Sort.alloc_eq_grow,Go.Sort.grow_grow];rfl⟩
theorem yb (B:Nat) (v:Value) (l:List R) (w:World) (h:OwnR B w v l) (hl:l.length<=1000000000000):
 Calls Tryz.prog 218 #[v,.func (.func 219) #[] #[]] w fun e w'=>e=.returned (.tuple #[])/\∃ d:List R,d.Perm l/\(d.Pairwise fun p q=>p.1<=q.1)/\OwnR B w' v d/\Below B w w':=by
 by_cases hne:l=[]
 ·subst hne;obtain⟨A,cap,rfl⟩:=h.slice;refine(AnyF.slices_SortFunc_none Tryz.sortRng A cap (.func (.func 219) #[] #[]) w).mono ?_;rintro e w' ⟨rfl,rfl⟩;exact⟨rfl,[],.refl _,.nil,h,aE _ _⟩
 ·obtain⟨g,cap,cur,rfl,hB,hk,hc1,hc2,hc3,hc4⟩:=h.full hne;have eg:∀ args w,(callFunc 219 args).run Tryz.prog w=.ok (.enter 219 args) w:=enters_of Tryz.func219 (by kernel_rfl) rfl;have hcon:=AnyQ.slices_SortFunc Tryz.sortRng 2 Tryz.isAgg185 Tryz.sizeOf185 ii (fun _=>rfl) (fun x v hv=>by simp[ii] at hv;rcases hv with rfl|rfl<;>rfl) (fun x y=>Lib.compareInt x.1 y.1) Bb 219 #[] g 0 cap l.toArray w eg
   (fun _ _ _ _ x y=>wU x y _) (wI hk hc4) hk.lt (by simp;omega)
  rw[List.size_toArray] at hcon;refine hcon.mono ?_;rintro e w' ⟨rfl,d',n,os,hp,hs,rfl⟩;obtain⟨hp1,_,hp3⟩:=hp;have hlen:d'.toList.length=l.length:=(by simpa using hp1);have ho:=ru (n:=n) (os:=os) hk hB hc1 hc2 hc3 hlen;rw[Array.toArray_toList] at ho;have e1:d'.extract 0 l.length=d':=(by rw[<-hlen];simp);have e2:l.toArray.extract 0 l.length=l.toArray:=(by simp);rw[e1,e2] at hp3;refine⟨rfl,d'.toList,hp3,?_,ho.1,ho.2⟩;rw[List.pairwise_iff_getElem];intro i j hi hj hij;have h3:=hs i j (bI _) hij (by rw[<-hlen];exact hj);rw[sz] at h3;rw[getElem!_pos d' i (by simpa using hi),getElem!_pos d' j (by simpa using hj)] at h3;simp at h3 ⊢;exact h3
theorem dN (v:Value) (l:List R) (c:Int) (w:World) (hv:ReadR w.heap.size w v l) (hl:l.length<=140737488355328):Calls Tryz.prog 171 #[v,.int .i64 c] w fun e w'=>e=.returned (.bool (bO l c))/\Below w.heap.size w w':=by
 obtain⟨A,cap,rfl,_,hx⟩:=hv;have HX:=aa hx;have HH:=aa (fun (k:Nat) (r:R) (h:l[k]?=some r) (h1:r.1<=c) (h2:c<=r.2)=>fh h h1 h2);have HM:=aa (fun (h:∀ (j:Nat) r,j<l.length->l[j]?=some r->¬(r.1<=c/\c<=r.2))=>wL h);clear hx;go_enter Tryz.func171,Tryz.ntmps171;go_wp2_with fail
 go_loop [5] (fun i=>∃ (k:Nat),k<=l.length/\i=.int .i64 k/\Hid (∀ (j:Nat) r,j<k->l[j]?=some r->¬(r.1<=c/\c<=r.2))) (fun i=>l.length-(intOf i).toNat)
 case atStart=>exact⟨0,bI _,rfl,aa (fun j r h=>absurd h (Nat.not_lt_zero _))⟩
 case round=>
  obtain⟨k,hk,rfl,hno⟩:=hrel;by_cases hlt:k<l.length
  ·obtain⟨ad,rfl,hlb,hc⟩:=HX.out (by omega);obtain⟨⟨a,b⟩,hr⟩:∃ r,l[k]?=some r:=⟨_,aQ hlt⟩;obtain⟨c0,c1⟩:=hc k _ hr;simp only at c0 c1;by_cases h:a<=c/\c<=b
   ·have hf:=HH.out k _ hr h.1 h.2;have h1:decide (c≥a)=true:=(by simpa using h.1);have h2:decide (c<=b)=true:=(by simpa using h.2);have h1':decide (a<=c)=true:=(by simpa using h.1);clear hc hr h;(go_wp2_with fail);go_ret;exact⟨rfl,aE _ _⟩
   ·have hno2:Hid (∀ (j:Nat) r,j<k+1->l[j]?=some r->¬(r.1<=c/\c<=r.2)):=aa (fun j r hj hjr=>by
     rcases Nat.lt_or_ge j k with h3|h3
     ·exact hno.out j r h3 hjr
     ·obtain rfl:j=k:=(by omega);rw[hr] at hjr;cases hjr;exact h)
    rcases Bool.eq_false_or_eq_true (decide (a<=c)) with h1|h1
    ·have h2:decide (c<=b)=false:=(by simp at h1 ⊢;omega);clear hc hr h;(go_wp2_with fail);go_round
     case rel=>exact⟨k+1,by omega,by go_num,hno2⟩
     case measure=>simp[intOf];omega
    ·clear hc hr h;(go_wp2_with fail);go_round
     case rel=>exact⟨k+1,by omega,by go_num,hno2⟩
     case measure=>simp[intOf];omega
  ·have hke:k=l.length:=(by omega);have hf:=HM.out (fun j r hj hjr=>hno.out j r (by omega) hjr);clear hke;(go_wp2_with fail);go_ret;exact⟨rfl,aE _ _⟩
end
end Go.Proofs.YtbgaglcgennhiaaGreatDoor

