import Derived.Test.YtbgaglcgennhiaaGreatDoorQ42
import Derived.Test.YtbgaglcgennhiaaGreatDoorQ37
set_option maxHeartbeats 16000000
set_option maxRecDepth 100000
namespace Go.Proofs.YtbgaglcgennhiaaGreatDoor
open Go.RowKit Go.Sort Sy Tx Ct
def OwnU (B:Nat) (w:World) (u:bk):Prop:=OwnV az 6 53 B w (sl u.iv) u.items/\(∀ p∈u.items,OwnT B w (sl p.2) (al p.1.groups))/\OwnT B w (sl u.pv) (al u.pend)
structure eO (n:List UInt8) (u:bk):Prop where
 name:u.name=n
 pw:line u.pw 20=true
 items:qv 5 u.items
 len:u.pend.length<=3
 near:∀ t∈u.pend,∃ s k,t=dD s k
 up:u.pend.Pairwise fun a b=>Jd.lessL a b=true
 free:∀ p∈u.items,i7 p.1=true->p.1.jid ∉ u.pend
theorem OwnU.inU {B:Nat} {w:World} {u:bk} (h:OwnU B w u):InU w u:=⟨ReadI.of_row (h.1.row (fun _=>rfl)) (fun p hp=>(h.2.1 p hp).reads),h.2.2.reads⟩
theorem OwnU.below {B:Nat} {w w':World} {u:bk} (h:OwnU B w u) (hb:Below w.heap.size w w'):OwnU B w' u:=⟨h.1.below hb,fun p hp=>(h.2.1 p hp).below hb,h.2.2.below hb⟩
theorem OwnU.weak {B B':Nat} {w:World} {u:bk} (h:OwnU B w u) (hB:B'<=B):OwnU B' w u:=⟨h.1.weak hB,fun p hp=>(h.2.1 p hp).weakT hB,h.2.2.weakT hB⟩
theorem OwnV.butT {α:Type} {enc:α->List Value} {k:Nat} {t t':TypeId} {B q:Nat} {W W':World} {v:Value} {l:List α} {cs:Array Value} (h:OwnV enc k t B W v l) (hb:But (·=q) W W') (hk:Bk W q t' cs) (hne:t'≠t):OwnV enc k t B W' v l:=h.same fun g hg=>hb.block g (World.ownsRow.lt h g hg).2 (fun e=>by have e2:g=q:=e;subst e2;obtain⟨cs2,hc⟩:=gM h hg;exact hne (fY hk hc))
theorem OwnU.butT {B q:Nat} {w w':World} {u:bk} {t:TypeId} {cs:Array Value} (h:OwnU B w u) (hb:But (·=q) w w') (hk:Bk w q t cs) (h1:t≠53) (h2:t≠9):OwnU B w' u:=⟨h.1.butT hb hk h1,fun p hp=>(h.2.1 p hp).butT hb hk h2,h.2.2.butT hb hk h2⟩
theorem OwnV.far_row {α:Type} {enc:α->List Value} {k k2 n:Nat} {t t':TypeId} {B B2:Nat} {w w':World} {v v2:Value} {l:List α} {xs:List Value} (h:OwnV enc k t B w v l) (h2:w.ownsRow B2 t' k2 v2 n xs) (hne:t'≠t) (f:∀ q,q<w.heap.size->Option.some q≠v2.ownBlock->w'.heap[q]?=w.heap[q]?):OwnV enc k t B w' v l:=h.same fun j hj=>f j (World.ownsRow.lt h j hj).2 (fun e=>by obtain⟨cs,hc⟩:=gM h hj;obtain⟨cs2,hc2⟩:=gM h2 e.symm;exact hne (fY hc2 hc))
theorem OwnU.far_row {B B2 k n:Nat} {w w':World} {u:bk} {v2:Value} {t:TypeId} {xs:List Value} (h:OwnU B w u) (h2:w.ownsRow B2 t k v2 n xs) (h3:t≠53) (h4:t≠9) (f:∀ q,q<w.heap.size->Option.some q≠v2.ownBlock->w'.heap[q]?=w.heap[q]?):OwnU B w' u:=⟨h.1.far_row h2 h3 f,fun p hp=>(h.2.1 p hp).far_row h2 h4 f,h.2.2.far_row h2 h4 f⟩
theorem dh (w:World) (q:Nat) (a b c d:Value):But (·=q) w (bP w q a b c d):=(((aH _ q 0 a).trans (aH _ q 1 b)).trans (aH _ q 2 c)).trans (aH _ q 3 d)
theorem wu {most:Nat} {l:List (bj × bB)} (h:qv most l) {p q:bj × bB} (hp:p∈l) (hq:q∈l) (he:p.1.jid=q.1.jid):p=q:=by
 obtain⟨i,hi,rfl⟩:=List.getElem_of_mem hp;obtain⟨j,hj,rfl⟩:=List.getElem_of_mem hq;rcases Nat.lt_trichotomy i j with h1|h1|h1
 ·have:=List.pairwise_iff_getElem.1 h.up i j hi hj h1;rw[he,jI] at this;cases this
 ·subst h1;rfl
 ·have:=List.pairwise_iff_getElem.1 h.up j i hj hi h1;rw[he,jI] at this;cases this
theorem tY (l:List (List UInt8)):(aD l).Pairwise fun a b=>Jd.lessL a b=true:=by
 have hd:∀ (l out:List (List UInt8)),out.Nodup->(l.foldl (fun out x=>if x∈out then out else aT Jd.lessL x out) out).Nodup:=by
  intro l
  induction l with
  |nil=>exact fun out h=>h
  | cons x l ih=>
    intro out h;rw[List.foldl_cons];refine ih _ ?_;by_cases hx:x∈out
    ·rw[if_pos hx];exact h
    ·rw[if_neg hx];exact(kT x out).nodup_iff.2 (List.nodup_cons.2 ⟨hx,h⟩)
 refine((nt l).and (hd l [] List.nodup_nil)).imp ?_;rintro a b ⟨h6,h7⟩;rcases dJ a b with h|h|h
 ·exact h.1
 ·rw[h.2.1] at h6;cases h6
 ·exact absurd h.2.2 h7
set_option linter.unusedSimpArgs false in
theorem ui (x:bk) (nm:List UInt8) (w:World) (hR:InU w x) (hpw:x.pw.length<=1000000) (hil:x.items.length<=1000000) (hs:∀ p∈x.items,AE p.1) (hpl:x.pend.length<=1000000) (hps:∀ t∈x.pend,t.length<=1000000):
 Calls Tryz.prog 54 #[.agg (ao x).toArray,.string (ae nm)] w fun e w'=>(∃ u,e=.returned (.agg (ao u).toArray)/\OwnU w.heap.size w' u/\eO nm u)/\Below w.heap.size w w':=by
 have HIT:Hid (∀ W,Below w.heap.size w W->Calls Tryz.prog 88 #[sl x.iv,.int .i64 5] W fun e w'=>(∃ v' l',e=.returned v'/\OwnV az 6 53 W.heap.size w' v' l'/\(∀ p∈l',OwnT W.heap.size w' (sl p.2) (al p.1.groups))/\qv 5 l')/\Below W.heap.size W w'):=fun W hW=>rA (sl x.iv) x.items 5 (by omega) W (hR.1.upon hW) hil hs
 have HLN:Hid (∀ W,Calls Tryz.prog 87 #[.string (ae x.pw),.int .i64 20] W fun e w'=>(∃ v:ByteArray,e=.returned (.string v)/\valid v.data.toList=true/\g7 v.data.toList/\v.size<=(ae x.pw).size/\((0:Int)<=20->line v.data.toList 20=true))/\Below W.heap.size W w'):=fun W=>eM (ae x.pw) 20 W (by rw[bS];show x.pw.length<=_;omega)
 have HRP:Hid (∀ W,Below w.heap.size w W->ReadT W.heap.size W (sl x.pv) (al x.pend)):=fun W hW=>hR.2.upon hW
 have HJD:Hid (∀ t∈x.pend,∀ k:Nat,k<=1000->∀ W,Calls Tryz.prog 89 #[.string (ae t),.int .i64 k] W fun e w'=>e=.returned (.string (ae (oZ t k)))/\Below W.heap.size W w'):=fun t ht k hk W=>py t k (by omega) W (hps t ht)
 have HF:=aa (fun (u:Value) (L:List (bj × bB)) (j:List UInt8) (W:World) (h:ReadI W.heap.size W u L) (h2:L.length<=1000000)=>ln u L j W h h2);have HPD:=aa (fun (u:Value) (l:List (List UInt8)) (W:World) (h:ReadT W.heap.size W u (al l)) (h2:l.length<=1000000) (h3:∀ t∈l,t.length<=1000000000)=>uB u l W h h2 h3);obtain⟨xn,xp,xi,⟨IA0,in0,ic0⟩,pend,PA,pn,pc⟩:=x;dsimp only at HIT HLN HRP HJD hpl;have hpn:pn=pend.length:=by obtain⟨A,cap,e,_⟩:=HRP.out w (aE _ _);injection e with _ e2 _;have e3:pn=(al pend).length:=e2;rw[e3];unfold al;rw[cr]
 subst hpn;have eU:(ao ⟨xn,xp,xi,(IA0,in0,ic0),pend,(PA,pend.length,pc)⟩).toArray=#[.string (ae xn),.string (ae xp),.slice IA0 in0 ic0,.slice PA pend.length pc]:=rfl;rw[eU];have e1:sl (IA0,in0,ic0)=.slice IA0 in0 ic0:=rfl;have e2:sl (PA,pend.length,pc)=.slice PA pend.length pc:=rfl;rw[e1] at HIT;rw[e2] at HRP;obtain⟨pn,hpn⟩:=ac pend.length;rw[hpn] at hpl HRP ⊢;have HPN:=aa hpn;obtain⟨X0,hX0⟩:=ac (ae xn);obtain⟨X1,hX1⟩:=ac (ae xp);obtain⟨NM,hNM⟩:=ac (ae nm);rw[hX1] at HLN;rw[hX0,hX1,hNM];have HNM:=aa hNM;clear hR hpw hil hs hps eU e1 e2 hpn hX0 hX1 hNM;obtain⟨G,hG⟩:=ac w.heap.size;obtain⟨W1,hW1⟩:=ac (w.alloc (.cells #[.string X0,.string X1,.slice IA0 in0 ic0,.slice PA pn pc] 28));obtain⟨R,hR⟩:=ac W1.heap.size;obtain⟨W2,hW2⟩:=ac (W1.alloc (.cells #[.string ⟨#[]⟩,.string ⟨#[]⟩,.slice none 0 0,.slice none 0 0] 28));have b1:Below w.heap.size w W1:=by rw[<-hW1];exact bp _ _
 have b2:Below W1.heap.size W1 W2:=by rw[<-hW2];exact bp _ _
 have B2:Hid (Below w.heap.size w W2):=b1.trans (b2.mono b1.size);have k1:Bk W1 G 28 #[.string X0,.string X1,.slice IA0 in0 ic0,.slice PA pn pc]:=by rw[<-hW1,<-hG];exact Bk.new _ _ _
 have k2:Bk W2 R 28 #[.string ⟨#[]⟩,.string ⟨#[]⟩,.slice none 0 0,.slice none 0 0]:=by rw[<-hW2,<-hR];exact Bk.new _ _ _
 have KG:=aa (k1.below b2 k1.lt);have KR:=aa k2;have HWR:Hid (w.heap.size<=R):=by rw[<-hR];exact b1.size
 have HX1:Hid (∀ w',Below W2.heap.size W2 w'->w'.cell? ⟨G,1,none⟩=some (.string X1)):=fun w' h=>(KG.out.below h KG.out.lt).cell 1
 have HX2:Hid (∀ w',Below W2.heap.size W2 w'->w'.cell? ⟨G,2,none⟩=some (.slice IA0 in0 ic0)):=fun w' h=>(KG.out.below h KG.out.lt).cell 2
 have HUP:Hid (∀ W,Below W2.heap.size W2 W->Below w.heap.size w W):=fun W hW=>B2.out.trans (hW.mono B2.out.size)
 have HSZ:Hid (w.heap.size<=W2.heap.size):=B2.out.size;clear b1 b2 k1 k2;go_enter Tryz.func54,Tryz.ntmps54;go_upto_region 1 with fail
 (try rw[hW1]);(try rw[hR]);(try rw[hG]);(try rw[hW2]);clear hW1 hW2 hR hG;go_upto_region 1 with fail
 go_cut [5] from 11 to 18 (fun s wx=>∃ (D:Nat) (V1:ByteArray) (IA:Option Addr) (in1 ic:Nat) (L:List (bj × bB)),s=.pointer (some ⟨D,0,none⟩)/\Hid (Bk wx D 28 #[.string NM,.string V1,.slice IA in1 ic,.slice none 0 0])/\Hid (line V1.data.toList 20=true)/\Hid (OwnV az 6 53 w.heap.size wx (.slice IA in1 ic) L)/\Hid (∀ p∈L,OwnT w.heap.size wx (sl p.2) (al p.1.groups))/\Hid (qv 5 L)/\Hid (Below W2.heap.size W2 wx)/\Hid (W2.heap.size<=D))
 case first K1 K0 hJ1 hK0=>
  have bN:Below W2.heap.size W2 W2.drew:=(aE _ _).drew;refine wp_region_held_drew (S:=fun w'=>Below W2.heap.size W2 w'/\w'.cell? ⟨G,1,none⟩=some (.string X1)/\w'.cell? ⟨G,2,none⟩=some (.slice IA0 in0 ic0)) (by kernel_rfl) ?_ (fun hHeld=>?_)
  ·exact⟨bN,HX1.out _ bN,HX2.out _ bN⟩
  obtain⟨wd,hwd⟩:=ac W2.drew;rw[hwd] at bN hHeld ⊢;clear hwd;refine bo 0 (some 11) ?v1 ?y1 ?n1;case y1=>intro w hSw;(try dsimp only at hSw);go_simp;try with_reducible rfl
  try simp only[ay]
  refine bo 1 (some 12) ?v2 ?y2 ?n2;case y2=>intro w hSw;(try dsimp only at hSw);go_simp;try with_reducible rfl
  try simp only[ay]
  refine bo 2 (some 13) ?v3 ?y3 ?n3;case y3=>intro w hSw;(try dsimp only at hSw);go_simp;try with_reducible rfl
  try simp only[ay]
  refine bo 4 (some 15) ?v4 ?y4 ?n4;case y4=>intro w hSw;(try dsimp only at hSw);go_simp;try with_reducible rfl
  try simp only[ay]
  refine bo 5 (some 16) ?v5 ?y5 ?n5;case y5=>intro w hSw;(try dsimp only at hSw);go_simp;try with_reducible rfl
  try simp only[ay]
  refine wpAnyH_ready (rs:=[3,8]) (by kernel_rfl) (by simp) ?_;refine AllReadyH.cons (i:=3) rfl (fun K hK=>?_) (AllReadyH.cons (i:=8) rfl (fun K hK=>?_) AllReadyH.nil)
  ·go_simp;refine(HLN.out wd).mono ?_;rintro e wv1 ⟨⟨V1,rfl,-,-,-,hl⟩,bC⟩;have L1:=aa (hl (by decide));have bN:=bN.trans (bC.mono bN.size);clear hl bC;(go_wp2_with fail);refine hK.out _ _ ?_ (fun hHeld=>?_)
   ·exact⟨bN,HX1.out _ bN,HX2.out _ bN⟩
   clear hK K;(try simp only[ay]);refine wpAnyH_ready (rs:=[6,8]) (by kernel_rfl) (by simp) ?_;refine AllReadyH.cons (i:=6) rfl (fun K hK=>?_) (AllReadyH.cons (i:=8) rfl (fun K hK=>?_) AllReadyH.nil)
   ·go_simp;refine(HIT.out wv1 (HUP.out wv1 bN)).mono ?_;rintro e wv2 ⟨⟨v2,L,rfl,hov,hog,hfew⟩,bC⟩;have hle:w.heap.size<=wv1.heap.size:=co HSZ.out bN.size;have hov:=hov.weak hle;have hog:∀ p∈L,OwnT w.heap.size wv2 (sl p.2) (al p.1.groups):=(fun p hp=>(hog p hp).weakT hle);clear hle;have bN:=bN.trans (bC.mono bN.size);have HFEW:=aa hfew;clear bC hfew;obtain⟨IA,ic,hv2⟩:=hov.slice;obtain⟨in1,hin1⟩:=ac L.length;rw[hin1] at hv2;subst hv2;clear hin1;(go_wp2_with fail);refine hK.out _ _ ?_ (fun hHeld=>?_)
    ·exact⟨bN,HX1.out _ bN,HX2.out _ bN⟩
    clear hK K;(try simp only[ay]);refine bo 7 (some 18) ?v6 ?y6 ?n6;case y6=>intro w hSw;(try dsimp only at hSw);go_simp;try with_reducible rfl
    (try simp only[ay]);refine wpAnyH_ready (rs:=[8]) (by kernel_rfl) (by simp) ?_;refine AllReadyH.cons (i:=8) rfl (fun K hK=>?_) AllReadyH.nil;go_simp;obtain⟨wv3,hwv3⟩:=ac (World.alloc wv2 (.cells #[.string ⟨#[]⟩,.string ⟨#[]⟩,.slice none 0 0,.slice none 0 0] 28));obtain⟨D,hD⟩:=ac wv2.heap.size;have bC:Below wv2.heap.size wv2 wv3:=(by rw[<-hwv3];exact bp _ _);have hov:=hov.below bC;have hog:∀ p∈L,OwnT w.heap.size wv3 (sl p.2) (al p.1.groups):=(fun p hp=>(hog p hp).below bC);have kD:Bk wv3 D 28 #[.string ⟨#[]⟩,.string ⟨#[]⟩,.slice none 0 0,.slice none 0 0]:=(by rw[<-hwv3,<-hD];exact Bk.new _ _ _);have hDW:W2.heap.size<=D:=(by rw[<-hD];exact bN.size);have bN:=bN.trans (bC.mono bN.size);clear bC;(try rw[hwv3]);(try rw[hD]);clear hwv3 hD;refine hK.out _ _ ?_ (fun hHeld=>?_)
    ·exact⟨bN,HX1.out _ bN,HX2.out _ bN⟩
    clear hK K;(try simp only[ay]);refine wpAnyH_ready (rs:=[9]) (by kernel_rfl) (by simp) ?_;refine AllReadyH.cons (i:=9) rfl (fun K hK=>?_) AllReadyH.nil;go_simp;have y0:=kD.cell 0;have z0:=kD.free 0;have y1:=kD.cell 1;have z1:=kD.free 1;have y2:=kD.cell 2;have z2:=kD.free 2;have y3:=kD.cell 3;have z3:=kD.free 3;go_simp;have hov:=hov.butT (dh wv3 D (.string NM) (.string V1) (.slice IA in1 ic) (.slice none 0 0)) kD (by decide);have hog:∀ p∈L,OwnT w.heap.size (bP wv3 D (.string NM) (.string V1) (.slice IA in1 ic) (.slice none 0 0)) (sl p.2) (al p.1.groups):=fun p hp=>(hog p hp).butT (dh wv3 D (.string NM) (.string V1) (.slice IA in1 ic) (.slice none 0 0)) kD (by decide)
    have kD:=bM kD (.string NM) (.string V1) (.slice IA in1 ic) (.slice none 0 0);have bN:=aW bN hDW (.string NM) (.string V1) (.slice IA in1 ic) (.slice none 0 0);refine hK.out _ _ ?_ (fun hHeld=>?_)
    ·exact⟨bN,HX1.out _ bN,HX2.out _ bN⟩
    clear hK K;(try simp only[ay]);refine wpAnyH_done (by kernel_rfl) ?_ _;refine hK0 _ _ (Met.intro (hJ1 _ _ ?_))
    (repeat apply Exists.intro);refine⟨?_,rfl⟩;exact⟨D,V1,IA,in1,ic,L,rfl,kD,L1,hov,hog,HFEW,bN,hDW⟩
   ·go_simp;obtain⟨wv2,hwv2⟩:=ac (World.alloc wv1 (.cells #[.string ⟨#[]⟩,.string ⟨#[]⟩,.slice none 0 0,.slice none 0 0] 28));obtain⟨D,hD⟩:=ac wv1.heap.size;have bC:Below wv1.heap.size wv1 wv2:=(by rw[<-hwv2];exact bp _ _);have kD:Bk wv2 D 28 #[.string ⟨#[]⟩,.string ⟨#[]⟩,.slice none 0 0,.slice none 0 0]:=(by rw[<-hwv2,<-hD];exact Bk.new _ _ _);have hDW:W2.heap.size<=D:=(by rw[<-hD];exact bN.size);have bN:=bN.trans (bC.mono bN.size);clear bC;(try rw[hwv2]);(try rw[hD]);clear hwv2 hD;refine hK.out _ _ ?_ (fun hHeld=>?_)
    ·exact⟨bN,HX1.out _ bN,HX2.out _ bN⟩
    clear hK K;(try simp only[ay]);refine wpAnyH_ready (rs:=[6]) (by kernel_rfl) (by simp) ?_;refine AllReadyH.cons (i:=6) rfl (fun K hK=>?_) AllReadyH.nil;go_simp;refine(HIT.out wv2 (HUP.out wv2 bN)).mono ?_;rintro e wv3 ⟨⟨v2,L,rfl,hov,hog,hfew⟩,bC⟩;have kD:=kD.below bC kD.lt;have hle:w.heap.size<=wv2.heap.size:=co HSZ.out bN.size;have hov:=hov.weak hle;have hog:∀ p∈L,OwnT w.heap.size wv3 (sl p.2) (al p.1.groups):=(fun p hp=>(hog p hp).weakT hle);clear hle;have bN:=bN.trans (bC.mono bN.size);have HFEW:=aa hfew;clear bC hfew;obtain⟨IA,ic,hv2⟩:=hov.slice;obtain⟨in1,hin1⟩:=ac L.length;rw[hin1] at hv2;subst hv2;clear hin1;(go_wp2_with fail);refine hK.out _ _ ?_ (fun hHeld=>?_)
    ·exact⟨bN,HX1.out _ bN,HX2.out _ bN⟩
    clear hK K;(try simp only[ay]);refine bo 7 (some 18) ?v7 ?y7 ?n7;case y7=>intro w hSw;(try dsimp only at hSw);go_simp;try with_reducible rfl
    (try simp only[ay]);refine wpAnyH_ready (rs:=[9]) (by kernel_rfl) (by simp) ?_;refine AllReadyH.cons (i:=9) rfl (fun K hK=>?_) AllReadyH.nil;go_simp;have y0:=kD.cell 0;have z0:=kD.free 0;have y1:=kD.cell 1;have z1:=kD.free 1;have y2:=kD.cell 2;have z2:=kD.free 2;have y3:=kD.cell 3;have z3:=kD.free 3;go_simp;have hov:=hov.butT (dh wv3 D (.string NM) (.string V1) (.slice IA in1 ic) (.slice none 0 0)) kD (by decide);have hog:∀ p∈L,OwnT w.heap.size (bP wv3 D (.string NM) (.string V1) (.slice IA in1 ic) (.slice none 0 0)) (sl p.2) (al p.1.groups):=fun p hp=>(hog p hp).butT (dh wv3 D (.string NM) (.string V1) (.slice IA in1 ic) (.slice none 0 0)) kD (by decide)
    have kD:=bM kD (.string NM) (.string V1) (.slice IA in1 ic) (.slice none 0 0);have bN:=aW bN hDW (.string NM) (.string V1) (.slice IA in1 ic) (.slice none 0 0);refine hK.out _ _ ?_ (fun hHeld=>?_)
    ·exact⟨bN,HX1.out _ bN,HX2.out _ bN⟩
    clear hK K;(try simp only[ay]);refine wpAnyH_done (by kernel_rfl) ?_ _;refine hK0 _ _ (Met.intro (hJ1 _ _ ?_))
    (repeat apply Exists.intro);refine⟨?_,rfl⟩;exact⟨D,V1,IA,in1,ic,L,rfl,kD,L1,hov,hog,HFEW,bN,hDW⟩
  ·go_simp;obtain⟨wv1,hwv1⟩:=ac (World.alloc wd (.cells #[.string ⟨#[]⟩,.string ⟨#[]⟩,.slice none 0 0,.slice none 0 0] 28));obtain⟨D,hD⟩:=ac wd.heap.size;have bC:Below wd.heap.size wd wv1:=(by rw[<-hwv1];exact bp _ _);have kD:Bk wv1 D 28 #[.string ⟨#[]⟩,.string ⟨#[]⟩,.slice none 0 0,.slice none 0 0]:=(by rw[<-hwv1,<-hD];exact Bk.new _ _ _);have hDW:W2.heap.size<=D:=(by rw[<-hD];exact bN.size);have bN:=bN.trans (bC.mono bN.size);clear bC;(try rw[hwv1]);(try rw[hD]);clear hwv1 hD;refine hK.out _ _ ?_ (fun hHeld=>?_)
   ·exact⟨bN,HX1.out _ bN,HX2.out _ bN⟩
   clear hK K;(try simp only[ay]);refine wpAnyH_ready (rs:=[3]) (by kernel_rfl) (by simp) ?_;refine AllReadyH.cons (i:=3) rfl (fun K hK=>?_) AllReadyH.nil;go_simp;refine(HLN.out wv1).mono ?_;rintro e wv2 ⟨⟨V1,rfl,-,-,-,hl⟩,bC⟩;have L1:=aa (hl (by decide));have kD:=kD.below bC kD.lt;have bN:=bN.trans (bC.mono bN.size);clear hl bC;(go_wp2_with fail);refine hK.out _ _ ?_ (fun hHeld=>?_)
   ·exact⟨bN,HX1.out _ bN,HX2.out _ bN⟩
   clear hK K;(try simp only[ay]);refine wpAnyH_ready (rs:=[6]) (by kernel_rfl) (by simp) ?_;refine AllReadyH.cons (i:=6) rfl (fun K hK=>?_) AllReadyH.nil;go_simp;refine(HIT.out wv2 (HUP.out wv2 bN)).mono ?_;rintro e wv3 ⟨⟨v2,L,rfl,hov,hog,hfew⟩,bC⟩;have kD:=kD.below bC kD.lt;have hle:w.heap.size<=wv2.heap.size:=co HSZ.out bN.size;have hov:=hov.weak hle;have hog:∀ p∈L,OwnT w.heap.size wv3 (sl p.2) (al p.1.groups):=(fun p hp=>(hog p hp).weakT hle);clear hle;have bN:=bN.trans (bC.mono bN.size);have HFEW:=aa hfew;clear bC hfew;obtain⟨IA,ic,hv2⟩:=hov.slice;obtain⟨in1,hin1⟩:=ac L.length;rw[hin1] at hv2;subst hv2;clear hin1;(go_wp2_with fail);refine hK.out _ _ ?_ (fun hHeld=>?_)
   ·exact⟨bN,HX1.out _ bN,HX2.out _ bN⟩
   clear hK K;(try simp only[ay]);refine bo 7 (some 18) ?v8 ?y8 ?n8;case y8=>intro w hSw;(try dsimp only at hSw);go_simp;try with_reducible rfl
   (try simp only[ay]);refine wpAnyH_ready (rs:=[9]) (by kernel_rfl) (by simp) ?_;refine AllReadyH.cons (i:=9) rfl (fun K hK=>?_) AllReadyH.nil;go_simp;have y0:=kD.cell 0;have z0:=kD.free 0;have y1:=kD.cell 1;have z1:=kD.free 1;have y2:=kD.cell 2;have z2:=kD.free 2;have y3:=kD.cell 3;have z3:=kD.free 3;go_simp;have hov:=hov.butT (dh wv3 D (.string NM) (.string V1) (.slice IA in1 ic) (.slice none 0 0)) kD (by decide);have hog:∀ p∈L,OwnT w.heap.size (bP wv3 D (.string NM) (.string V1) (.slice IA in1 ic) (.slice none 0 0)) (sl p.2) (al p.1.groups):=fun p hp=>(hog p hp).butT (dh wv3 D (.string NM) (.string V1) (.slice IA in1 ic) (.slice none 0 0)) kD (by decide)
   have kD:=bM kD (.string NM) (.string V1) (.slice IA in1 ic) (.slice none 0 0);have bN:=aW bN hDW (.string NM) (.string V1) (.slice IA in1 ic) (.slice none 0 0);refine hK.out _ _ ?_ (fun hHeld=>?_)
   ·exact⟨bN,HX1.out _ bN,HX2.out _ bN⟩
   clear hK K;(try simp only[ay]);refine wpAnyH_done (by kernel_rfl) ?_ _;refine hK0 _ _ (Met.intro (hJ1 _ _ ?_))
   (repeat apply Exists.intro);refine⟨?_,rfl⟩;exact⟨D,V1,IA,in1,ic,L,rfl,kD,L1,hov,hog,HFEW,bN,hDW⟩
 case rest=>
 obtain⟨D,V1,IA,in1,ic,L,rfl,KD,HV1,HOV,HOG,HFW,BW,hDW⟩:=hcut;have HDW:Hid (W2.heap.size<=D):=hDW;have HRD:Hid (R<D):=by have:=KR.out.lt;have:=HDW.out;unfold Hid;omega
 clear hDW;obtain⟨wz,hwz⟩:∃ z,z=wc:=⟨_,rfl⟩;rw[<-hwz] at KD HOV HOG BW ⊢;clear hwz;have KRz:=aa (KR.out.below BW.out KR.out.lt);have BWZ:Hid (Below w.heap.size w wz):=HUP.out wz BW.out;have HZB:Hid (w.heap.size<=wz.heap.size):=BWZ.out.size;have HCX:Hid (∀ W',Below wz.heap.size wz W'->W'.cell? ⟨G,3,none⟩=some (.slice PA pn pc)):=fun W' h=>(KG.out.below (BW.out.trans (h.mono BW.out.size)) KG.out.lt).cell 3
 have HCD:Hid (∀ W',Below wz.heap.size wz W'->W'.cell? ⟨D,2,none⟩=some (.slice IA in1 ic)):=fun W' h=>(KD.out.below h KD.out.lt).cell 2
 have HRT:Hid (∀ W',Below wz.heap.size wz W'->ReadT W'.heap.size W' (.slice PA pn pc) (al pend)):=fun W' h=>HRP.out W' (BWZ.out.trans (h.mono HZB.out))
 have HRI:Hid (∀ W',Below wz.heap.size wz W'->ReadI W'.heap.size W' (.slice IA in1 ic) L):=fun W' h=>ReadI.of_row ((HOV.out.below h).row (fun _=>rfl)) (fun p hp=>((HOG.out p hp).below h).reads)
 have HLL:Hid (L.length<=1000000):=co HFW.out.len (by decide);have HO0:Hid (OwnT wz.heap.size wz (.slice none 0 0) (al [])):=OwnT.nil _ _;have HN0:Hid (∀ t∈([]:List (List UInt8)),∃ s k,t=dD s k):=fun x hx=>by cases hx
 have HE0:Hid (∀ p∈L,i7 p.1=true->p.1.jid ∉ ([]:List (List UInt8))):=fun p _ _=>by simp
 have HB0:Hid (Below wz.heap.size wz wz):=aE _ _;have HL0:Hid (([]:List (List UInt8)).length<=0):=aq _;go_wp2_with fail
 go_loopw [6,7,8,9,10] (fun lv iv pv xv bv wr=>∃ (q:Nat) (lx:Value) (ys:List (List UInt8)) (u8 u9 u10:Value),lv=lx/\iv=.int .i64 q/\pv=u8/\xv=u9/\bv=u10/\q<=pn/\q<=3/\Hid (ys.length<=q)/\Hid (OwnT wz.heap.size wr lx (al ys))/\Hid (∀ t∈ys,∃ s k,t=dD s k)/\Hid (∀ p∈L,i7 p.1=true->p.1.jid ∉ ys)/\Hid (Below wz.heap.size wz wr)) (fun _ iv _ _ _ _=>3-(intOf iv).toNat)
 case atStart=>exact⟨0,_,[],_,_,_,rfl,rfl,rfl,rfl,rfl,bI _,by omega,HL0,HO0,HN0,HE0,HB0⟩
 case round=>
  clear HO0 HN0 HE0 HB0 HL0;obtain⟨q,lx,ys,u8,u9,u10,hlx,rfl,h8,h9,h10,hq,hq4,YL,OY,NY,EY,BY⟩:=hrel;have hlx2:=hlx.symm;have h82:=h8.symm;have h92:=h9.symm;have h102:=h10.symm;subst hlx2 h82 h92 h102;clear hlx h8 h9 h10;have g9:=HCX.out wr BY.out;go_upto_region 4 with fail
  go_cut [27] from 19 to 27 (fun s wx=>s=.bool (decide (q<pn)&&decide (q<3))/\wx=wr)
  case first=>
   by_cases hlt:q<pn
   ·have hltd:decide (q<pn)=true:=bq hlt;by_cases h4:q<3
    ·have h4d:decide (q<3)=true:=bq h4;have h4i:decide ((q:Int)<3)=true:=bq (by omega);(go_wp2_with fail);go_meet;exact⟨by rw[hltd,h4d];first|rfl|(rw[h4i];rfl),rfl⟩
    ·have h4d:decide (q<3)=false:=bF h4;have h4i:decide ((q:Int)<3)=false:=bF (by omega);(go_wp2_with fail);go_meet;exact⟨by rw[hltd,h4d];first|(simp;done)|(simp;omega),rfl⟩
   ·have hltd:decide (q<pn)=false:=bF hlt;(go_wp2_with fail);go_meet;exact⟨by rw[hltd];rfl,rfl⟩
  case rest=>
  obtain⟨hsl9,hwc⟩:=hcut;have hwc2:=hwc.symm;subst hwc2;clear hwc;obtain⟨cb,hcb⟩:=ac ((decide (q<pn)&&decide (q<3)));rw[hcb] at hsl9;subst hsl9;cases cb with
  | true=>
    obtain⟨hlt9,h49⟩:=Bool.and_eq_true_iff.1 hcb;have hlt:q<pn:=of_decide_eq_true hlt9;have h4:q<3:=of_decide_eq_true h49;clear hlt9 h49 hcb;have hqz:(q:Int)<(pn:Int):=(by omega);have hq0:(0:Int)<=(q:Int):=(by omega);obtain⟨A',cap',he,hcell⟩:=HRT.out wr BY.out;have hsl:(al pend).length=pn:=(by unfold al;rw[cr];exact HPN.out);obtain⟨ad,had,hlb,hc⟩:∃ ad:Addr,PA=some ad/\ad.block<wr.heap.size/\∀ i b,(al pend)[i]?=some b->wr.cell? (ad.add i)=some (.string b):=(by injection he with e1 e2 e3;subst e1;exact hcell (by omega));subst had;obtain⟨x,hx⟩:∃ x,pend[q]?=some x:=⟨_,aQ (by rw[HPN.out];exact hlt)⟩;have cx:=hc q (ae x) (jq hx);have HJX:=aa (HJD.out x (fA hx) q (by omega) wr);obtain⟨XX,hXX⟩:=ac (ae x);rw[hXX] at cx HJX;obtain⟨t,ht⟩:=ac (oZ x q);have HTN:Hid (∃ s k,t=dD s k):=⟨x,q,by rw[<-ht];rfl⟩;rw[ht] at HJX;obtain⟨T,hT⟩:=ac (ae t);have HTT:=aa hT;rw[hT] at HJX;obtain⟨YA,yn,ycap,rfl⟩:∃ A n cap,lx=.slice A n cap:=(by obtain⟨A,cap,e⟩:=OY.out.slice;exact⟨A,_,cap,e⟩);clear he hcell hsl hlb hc hx hXX ht hT;(go_wp2_with fail);refine HJX.out.mono ?_;rintro e w5 ⟨rfl,b5⟩;have BY5:Hid (Below wz.heap.size wz w5):=BY.out.trans (b5.mono BY.out.size);have OY5:=aa (OY.out.below b5);have HFX:=aa (HF.out (.slice IA in1 ic) L t w5 (HRI.out w5 BY5.out) HLL.out);rw[HTT.out] at HFX;have d2:=HCD.out w5 BY5.out;clear b5 HJX cx g9;(go_wp2_with fail);refine HFX.out.mono ?_;rintro e w6 ⟨b6,hcase⟩;have BY6:Hid (Below wz.heap.size wz w6):=BY5.out.trans (b6.mono BY5.out.size);have OY6:=aa (OY5.out.below b6);obtain⟨Wa,hWa⟩:=ac (w6.alloc (.cells #[.string ⟨#[]⟩,.string ⟨#[]⟩,.slice none 0 0,.int .i64 0,.bool false,.bool false] 53));obtain⟨E,hE⟩:=ac w6.heap.size;have KA:Hid (Bk Wa E 53 #[.string ⟨#[]⟩,.string ⟨#[]⟩,.slice none 0 0,.int .i64 0,.bool false,.bool false]):=(by rw[<-hWa,<-hE];exact Bk.new _ _ _);have BA:Below w6.heap.size w6 Wa:=(by rw[<-hWa];exact bp _ _);have HEW:Hid (w6.heap.size<=E):=(by rw[<-hE];exact aq _);have r0:=KA.out.cell 0;have r1:=KA.out.cell 1;have r2:=KA.out.cell 2;have r3:=KA.out.cell 3;have r4:=KA.out.cell 4;have r5:=KA.out.cell 5;have s0:=KA.out.free 0;have s1:=KA.out.free 1;have s2:=KA.out.free 2;have s3:=KA.out.free 3;have s4:=KA.out.free 4;have s5:=KA.out.free 5;simp only[List.getElem?_toArray,List.getElem?_cons_zero,List.getElem?_cons_succ] at r0 r1 r2 r3 r4 r5;clear b6 HFX d2;have HFO:Hid (∃ (bb:Bool) (y:bj) (g:bB),e=.returned (.tuple #[e9 y (sl g),.bool bb])/\(y.sub=0\/y.sub=1\/y.sub=2\/y.sub=3)/\((bb=false/\∀ p∈L,p.1.jid≠t)\/(bb=true/\∀ p∈L,p.1.jid=t->i7 p.1=i7 y))):=by
     rcases hcase with ⟨hnone,rfl⟩|⟨y,hyes,rfl⟩
     ·exact⟨false,⟨[],[],[],0,false,false⟩,(none,0,0),rfl,.inl rfl,.inl ⟨rfl,fun p hp=>by simpa using List.find?_eq_none.1 hnone p hp⟩⟩
     ·refine⟨true,y.1,y.2,rfl,(HFW.out.near y (List.mem_of_find?_eq_some hyes)).sub,.inr ⟨rfl,fun p hp hpt=>?_⟩⟩;have hyt:y.1.jid=t:=(by simpa using List.find?_some hyes);rw[wu HFW.out hp (List.mem_of_find?_eq_some hyes) (by rw[hpt,hyt])]
    clear hcase;obtain⟨bb,⟨yj,ym,yg,ys4,yk,ya⟩,⟨yA,yn2,yc⟩,rfl,hsub,hbb⟩:=HFO.out;clear HFO;have hz:e9 ⟨yj,ym,yg,ys4,yk,ya⟩ (sl (yA,yn2,yc))=.agg #[.string (ae yj),.string (ae ym),.slice yA yn2 yc,.int .i64 ys4,.bool yk,.bool ya]:=rfl;rw[hz];obtain⟨YJ,hYJ⟩:=ac (ae yj);obtain⟨YM,hYM⟩:=ac (ae ym);rw[hYJ,hYM];have HBB:Hid ((bb=false/\∀ p∈L,p.1.jid≠t)\/(bb=true/\∀ p∈L,p.1.jid=t->i7 p.1=(decide (ys4=2)||decide (ys4=3)||ya))):=hbb;have HSUB:Hid (ys4=0\/ys4=1\/ys4=2\/ys4=3):=hsub;clear hz hYJ hYM hbb hsub;have KB:=aa (bs KA.out (.string YJ) (.string YM) (.slice yA yn2 yc) (.int .i64 ys4) (.bool yk) (.bool ya));have BB0:=aa (aF BA HEW.out (.string YJ) (.string YM) (.slice yA yn2 yc) (.int .i64 ys4) (.bool yk) (.bool ya));obtain⟨Wb,hWb⟩:=ac (cL Wa E (.string YJ) (.string YM) (.slice yA yn2 yc) (.int .i64 ys4) (.bool yk) (.bool ya));rw[hWb] at KB BB0;clear BA;(go_upto_region 8 with fail);(try rw[hWb]);clear hWa hE hWb r0 r1 r2 r3 r4 r5 s0 s1 s2 s3 s4 s5;have BYb:Hid (Below wz.heap.size wz Wb):=BY6.out.trans (BB0.out.mono BY6.out.size);have OYb:=aa (OY6.out.below BB0.out);have x3:Wb.cell? ⟨E,3,none⟩=some (.int .i64 ys4):=KB.out.cell 3;have x5:Wb.cell? ⟨E,5,none⟩=some (.bool ya):=KB.out.cell 5;go_cut [60] from 44 to 60 (fun s wx=>s=.bool (!bb||!(decide (ys4=2)||decide (ys4=3)||ya))/\wx=Wb)
    case first=>
     cases bb with
     | false=>(go_wp2_with fail);go_meet;exact⟨rfl,rfl⟩
     | true=>have hm:=HSUB.out;cases ya<;>rcases hm with hm|hm|hm|hm<;>(subst hm;go_wp2_with fail;go_meet;exact⟨rfl,rfl⟩)
    case rest=>
    obtain⟨hsl9,hwc⟩:=hcut;have hwc2:=hwc.symm;subst hwc2;clear hwc x3 x5;obtain⟨db,hdb⟩:=ac ((!bb||!(decide (ys4=2)||decide (ys4=3)||ya)));rw[hdb] at hsl9;subst hsl9;cases db with
    | true=>
      have HET:Hid (∀ p∈L,i7 p.1=true->p.1.jid≠t):=fun p hp hlb he=>by
       rcases HBB.out with ⟨_,h2⟩|⟨h1,h2⟩
       ·exact h2 p hp he
       ·rw[h2 p hp he] at hlb;rw[h1,hlb] at hdb;cases hdb
      clear hdb;have hyl:Hid ((al ys).length<=1000000000000):=(by have:=YL.out;unfold Hid al;rw[cr];omega);have ZB:Hid (wz.heap.size<=Wb.heap.size):=BYb.out.size;(go_wp2_with (at_builtin;refine pC rfl _ _ rfl wz.heap.size (.slice YA yn ycap) (al ys) T Wb rfl OYb.out rfl hyl.out ZB.out ?_));intro v7 w7 o7 b7;have O7:Hid (OwnT wz.heap.size w7 v7 (al (ys++[t]))):=(by unfold Hid;rw[aB];show OwnT wz.heap.size w7 v7 (al ys++[ae t]);rw[HTT.out];exact o7);have B7:Hid (Below wz.heap.size wz w7):=BYb.out.trans b7;have N7:Hid (∀ x∈ys++[t],∃ s k,x=dD s k):=fun x hx=>by
       rcases List.mem_append.1 hx with hx|hx
       ·exact NY.out x hx
       ·rw[List.mem_singleton] at hx;rw[hx];exact HTN.out
      have E7:Hid (∀ p∈L,i7 p.1=true->p.1.jid ∉ ys++[t]):=fun p hp hlb hm=>by
       rcases List.mem_append.1 hm with hm|hm
       ·exact EY.out p hp hlb hm
       ·exact HET.out p hp hlb (by simpa using hm)
      have L7:Hid ((ys++[t]).length<=q+1):=(by have:=YL.out;unfold Hid;rw[de,List.length_singleton];omega);clear o7 b7;(go_wp2_with fail);go_roundw;case rel=>exact⟨q+1,_,_,_,_,_,rfl,by go_num,rfl,rfl,rfl,by omega,by omega,L7,O7,N7,E7,B7⟩
      case measure=>simp[intOf];omega
    | false=>
      clear hdb;have L7:Hid (ys.length<=q+1):=(by have:=YL.out;unfold Hid;omega);(go_wp2_with fail);go_roundw;case rel=>exact⟨q+1,_,ys,_,_,_,rfl,by go_num,rfl,rfl,rfl,by omega,by omega,L7,OYb,NY,EY,BYb⟩
      case measure=>simp[intOf];omega
  | false=>clear hcb;have HGC:=aa (HPD.out lx ys wr OY.out.reads (by have:=YL.out;omega) (fun t ht=>by obtain⟨s,k,e⟩:=NY.out t ht;rw[e];exact co (iD s k) (by decide)));have HYL:Hid (ys.length<=3):=(by have:=YL.out;unfold Hid;omega);obtain⟨YA,yn,ycap,rfl⟩:∃ A n cap,lx=.slice A n cap:=(by obtain⟨A,cap,e⟩:=OY.out.slice;exact⟨A,_,cap,e⟩);clear g9;(go_wp2_with fail);refine HGC.out.mono ?_;rintro e w8 ⟨⟨u,rfl,ou⟩,b8⟩;have BY8:Hid (Below wz.heap.size wz w8):=BY.out.trans (b8.mono BY.out.size);obtain⟨UA,un,ucap,rfl⟩:∃ A n cap,u=.slice A n cap:=(by obtain⟨A,cap,e⟩:=ou.slice;exact⟨A,_,cap,e⟩);have KD8:=aa (KD.out.below BY8.out KD.out.lt);have KR8:=aa (KRz.out.below BY8.out KRz.out.lt);obtain⟨x,hx⟩:∃ x:bk,x=⟨nm,V1.data.toList,L,(IA,in1,ic),aD ys,(UA,un,ucap)⟩:=⟨_,rfl⟩;have OU8:OwnU w.heap.size w8 x:=(by rw[hx];exact⟨(HOV.out.below BY8.out),fun p hp=>(HOG.out p hp).below BY8.out,ou.weakT (co HZB.out BY.out.size)⟩);have HNU:Hid (eO nm x):=(by rw[hx];exact⟨rfl,HV1.out,HFW.out,co (ld ys) HYL.out,fun t ht=>NY.out t ((eZ ys t).1 ht),tY ys,fun p hp hlb hm=>EY.out p hp hlb ((eZ ys _).1 hm)⟩);have HXE:Hid ((ao x).toArray=#[.string NM,.string V1,.slice IA in1 ic,.slice UA un ucap]):=(by rw[hx,<-HNM.out];rfl);have d0:=KD8.out.cell 0;have c9:w8.cell? ⟨D,3,none⟩=some (.slice none 0 0):=KD8.out.cell 3;have f9:w8.frozen? ⟨D,3,none⟩=false:=KD8.out.free 3;obtain⟨w9,hw9⟩:=ac (w8.setCell ⟨D,3,none⟩ (.slice UA un ucap));have but9:But (·=D) w8 w9:=(by rw[<-hw9];exact aH _ _ _ _);have KD9:Hid (Bk w9 D 28 #[.string NM,.string V1,.slice IA in1 ic,.slice UA un ucap]):=(by rw[<-hw9];exact KD8.out.put 3 _);have KR9:Hid (Bk w9 R 28 #[.string ⟨#[]⟩,.string ⟨#[]⟩,.slice none 0 0,.slice none 0 0]):=but9.bkI KR8.out (fun e=>by have:=HRD.out;omega);have OU9:=aa (OU8.butT but9 KD8.out (by decide) (by decide));have BZ9:Hid (Below w.heap.size w w9):=(by rw[<-hw9];exact(BWZ.out.trans (BY8.out.mono BWZ.out.size)).setCell (p:=⟨D,3,none⟩) (show w.heap.size<=D by have:=HSZ.out;have:=HDW.out;omega) _);clear hx b8 ou but9 OU8 d0;(go_upto_region 11 with fail);(try rw[hw9]);clear hw9 c9 f9;have d0:w9.cell? ⟨D,0,none⟩=some (.string NM):=KD9.out.cell 0;have d1:w9.cell? ⟨D,1,none⟩=some (.string V1):=KD9.out.cell 1;have d2:w9.cell? ⟨D,2,none⟩=some (.slice IA in1 ic):=KD9.out.cell 2;have d3:w9.cell? ⟨D,3,none⟩=some (.slice UA un ucap):=KD9.out.cell 3;have r0:w9.cell? ⟨R,0,none⟩=some (.string ⟨#[]⟩):=KR9.out.cell 0;have r1:w9.cell? ⟨R,1,none⟩=some (.string ⟨#[]⟩):=KR9.out.cell 1;have r2:w9.cell? ⟨R,2,none⟩=some (.slice none 0 0):=KR9.out.cell 2;have r3:w9.cell? ⟨R,3,none⟩=some (.slice none 0 0):=KR9.out.cell 3;have s0:=KR9.out.free 0;have s1:=KR9.out.free 1;have s2:=KR9.out.free 2;have s3:=KR9.out.free 3;have KX:=aa (bM KR9.out (.string NM) (.string V1) (.slice IA in1 ic) (.slice UA un ucap));have BX:=aa (aW BZ9.out HWR.out (.string NM) (.string V1) (.slice IA in1 ic) (.slice UA un ucap));have OX:=aa (OU9.out.butT (dh w9 R (.string NM) (.string V1) (.slice IA in1 ic) (.slice UA un ucap)) KR9.out (by decide) (by decide));obtain⟨wX,hwX⟩:=ac (bP w9 R (.string NM) (.string V1) (.slice IA in1 ic) (.slice UA un ucap));rw[hwX] at KX BX OX;(go_wp2_with fail);(try rw[hwX]);have j0:wX.cell? ⟨R,0,none⟩=some (.string NM):=KX.out.cell 0;have j1:wX.cell? ⟨R,1,none⟩=some (.string V1):=KX.out.cell 1;have j2:wX.cell? ⟨R,2,none⟩=some (.slice IA in1 ic):=KX.out.cell 2;have j3:wX.cell? ⟨R,3,none⟩=some (.slice UA un ucap):=KX.out.cell 3;refine bodyPost_ret (v:=.agg #[.string NM,.string V1,.slice IA in1 ic,.slice UA un ucap]) (by simp[results,Tryz.results54,go_sem,j0,j1,j2,j3]) rfl ?_;exact⟨⟨x,by rw[HXE.out],OX.out,HNU.out⟩,BX.out⟩
end Go.Proofs.YtbgaglcgennhiaaGreatDoor
