import Derived.Test.YtbgaglcgennhiaaGreatDoorP33
import Derived.Deep.AppendLies
import Derived.Deep.RegionHeld3
namespace Go.Proofs.YtbgaglcgennhiaaGreatDoor
open Go.RowKit Go.Sort Tx Ct
def jT {α β:Type} (pl:α→β) (L:Nat→Nat→World→α→Prop) (A C:Nat) (W:World) (x y:α):Prop:=pl y=pl x∧L A C W y
theorem el {α β:Type} {pl:α→β} {L:Nat→Nat→World→α→Prop} (h:jj L):eS (jT pl L):=fun A C W W' _ y hu hr=>⟨hr.1,h A C W W' y hu hr.2⟩
def vh {α:Type} (L:Nat→Nat→World→α→Prop):Prop:=∀ A A' C C' W x,A'≤A→C≤C'→L A C W x→L A' C' W x
theorem gM {α β:Type} {pl:α→β} {L:Nat→Nat→World→α→Prop} (h:vh L):no (jT pl L):=fun A A' C C' W _ y h1 h2 hr=>⟨hr.1,h A A' C C' W y h1 h2 hr.2⟩
theorem oB:vh fW:=fun _ _ _ _ _ _ h1 h2 h=>LiveT.wider h h1 h2
theorem fH:vh LiveU:=fun _ _ _ _ _ _ h1 h2 h=>⟨h.1.wider h1 h2,h.2.wider h1 h2⟩
theorem jc:vh LiveH:=fun _ _ _ _ _ _ h1 h2 h=>LiveR.wider h h1 h2
def pR {α β:Type} (ai:α→List Value) (k:Nat) (t:TypeId) (pl:α→β) (L:Nat→Nat→World→α→Prop) (l:List α) (w:World) (e:Ending) (w':World):Prop :=
 ∃ A cap l',e=.returned (.slice A l.length cap)∧l'.map pl=l.map pl∧LiveR ai k t L w.heap.size w'.heap.size w' (.slice A l.length cap) l'∧Below w.heap.size w w'
theorem EachV.live {α β:Type} {ai:α→List Value} {k:Nat} {t:TypeId} {pl:α→β} {L:Nat→Nat→World→α→Prop} {l:List α} {w:World} {e:Ending} {w':World} (h:EachV ai k t (jT pl L) l w e w'):pR ai k t pl L l w e w':=by
 obtain⟨A,cap,l',he,hl,hb,hc⟩:=h
 by_cases h0:0 < l.length
 · obtain⟨g,cut,ha,h1,h2,h3,h4,h5,h6⟩:=hc h0
   refine⟨A,cap,l',he,List.ext_getElem? fun i=>?_,⟨A,cap,by rw[hl],fun _=>⟨g,cut,ha,h1,h2,h3,h4,by rw[hl];exact h5,fun i y hi=>?_⟩⟩,hb⟩
   · rw[List.getElem?_map,List.getElem?_map]
     rcases Nat.lt_or_ge i l.length with hi | hi
     · rw[List.getElem?_eq_getElem hi,List.getElem?_eq_getElem (by omega)]
       have:=(h6 i _ _ (List.getElem?_eq_getElem hi) (List.getElem?_eq_getElem (by omega:i < l'.length))).1
       simp[this]
     · rw[List.getElem?_eq_none hi,List.getElem?_eq_none (by omega)]
   · have hil:=(List.getElem?_eq_some_iff.1 hi).1
     exact(h6 i _ _ (List.getElem?_eq_getElem (by omega:i < l.length)) hi).2
 · obtain rfl:l=[]:=List.length_eq_zero_iff.1 (by omega)
   obtain rfl:l'=[]:=List.length_eq_zero_iff.1 hl
   exact⟨A,cap,[],he,rfl,⟨A,cap,rfl,fun h=>absurd h (by simp)⟩,hb⟩
set_option maxHeartbeats 2000000 in
theorem qk (x:aZ) (gv:Value) (w:World) (hR:ReadT w.heap.size w gv (ac x.groups)) (hl:x.groups.length≤8000000000000) :
 Calls Tryz.prog 60 #[fp x gv] w fun e w'=>∃ gv',e=.returned (fp x gv')∧OwnT w.heap.size w' gv' (ac x.groups)∧Below w.heap.size w w':=by
 obtain⟨A,cap,hv,_⟩:=id hR
 obtain⟨n,hnn⟩:∃ n,(ac x.groups).length=n:=⟨_,rfl⟩
 rw[hnn] at hv;subst hv;have hgl:x.groups.length=n:=by rw[← hnn];exact(List.length_map _).symm
 have hai:∀ A cap,fp x (.slice A n cap)=.agg #[.string (aa x.jid),.string (aa x.name),.slice A n cap,.int .i64 x.sub,.bool x.ask,.bool x.app]:=fun A cap=>rfl
 have HAI:=Lib.hid hai;rw[kQ]
 obtain⟨J,hJ⟩:∃ J,aa x.jid=J:=⟨_,rfl⟩
 obtain⟨N,hN⟩:∃ J,aa x.name=J:=⟨_,rfl⟩
 obtain⟨s,hs2⟩:∃ J,x.sub=J:=⟨_,rfl⟩
 obtain⟨ask,ha⟩:∃ J,x.ask=J:=⟨_,rfl⟩
 obtain⟨app,hp⟩:∃ J,x.app=J:=⟨_,rfl⟩
 rw[hJ,hN,hs2,ha,hp] at HAI ⊢
 obtain⟨W1,hW1⟩:∃ W1,w.alloc (.cells #[.string J,.string N,.slice A n cap,.int .i64 s,.bool ask,.bool app] 53)=W1:=⟨_,rfl⟩
 obtain⟨bx,hbx⟩:∃ bx,w.heap.size=bx:=⟨_,rfl⟩
 obtain⟨W2,hW2⟩:∃ W2,W1.alloc (.cells #[.string ⟨#[]⟩,.string ⟨#[]⟩,.slice none 0 0,.int .i64 0,.bool false,.bool false] 53)=W2:=⟨_,rfl⟩
 obtain⟨rb,hrb1⟩:∃ r,bx+1=r:=⟨_,rfl⟩
 have hrb:W1.heap.size=rb:=by rw[← hW1,World.size_alloc,hbx,hrb1]
 have k1:Bk W1 bx 53 #[.string J,.string N,.slice A n cap,.int .i64 s,.bool ask,.bool app]:=by rw[← hW1,← hbx];exact Bk.new _ _ _
 have K2:Hid (Bk W2 bx 53 #[.string J,.string N,.slice A n cap,.int .i64 s,.bool ask,.bool app]):=by rw[← hW2];exact k1.alloc _
 have R2:Hid (Bk W2 rb 53 #[.string ⟨#[]⟩,.string ⟨#[]⟩,.slice none 0 0,.int .i64 0,.bool false,.bool false]):=by rw[← hW2,← hrb];exact Bk.new _ _ _
 have B2:Hid (Below w.heap.size w W2):=by rw[← hW2,← hW1];exact((Below.refl _ _).alloc (Nat.le_refl _) _).alloc (by rw[World.size_alloc];omega) _
 have HNE:Hid (bx < rb∧w.heap.size≤bx):=by have:=k1.lt;unfold Hid;omega
 have HC:=Lib.hid (jx (.slice A n cap) x.groups W2 w.heap.size (hR.below B2.out) hl);rw[hgl] at HC;have HW1:=Lib.hid hW1;have HW2:=Lib.hid hW2;have HBX:=Lib.hid hbx;have HRB:=Lib.hid hrb1;have c2:W2.cell? ⟨bx,2,none⟩=some (.slice A n cap):=K2.out.cell 2
 obtain⟨G,hG⟩:∃ G,x.groups=G:=⟨_,rfl⟩
 rw[hG] at HC ⊢;have HAI2:Hid (∀ A cap,fp x (.slice A n cap)=.agg #[.string J,.string N,.slice A n cap,.int .i64 s,.bool ask,.bool app]):=HAI;clear hW1 hW2 hbx hrb hrb1 k1 hR hl hnn hgl hai hJ hN hs2 ha hp hG HAI;go_enter Tryz.func60,Tryz.ntmps60
 go_upto_region 1 with fail
 (try rw[HW1.out]);(try rw[HBX.out]);(try rw[HRB.out]);(try rw[HW2.out])
 go_wp2_with fail
 refine HC.out.mono ?_;rintro e w3 ⟨A3,cap3,rfl,hr3,b3⟩;have K3:=K2.out.below b3 K2.out.lt;have R3:=R2.out.below b3 R2.out.lt;have B3:Hid (Below w.heap.size w w3):=B2.out.trans (b3.mono B2.out.size);have f2:w3.frozen? ⟨bx,2,none⟩=false:=K3.free 2;have e2:w3.cell? ⟨bx,2,none⟩=some (.slice A n cap):=K3.cell 2;have K4:=Lib.hid (K3.put 2 (.slice A3 n cap3));have R4:=Lib.hid (R3.far (p:=⟨bx,2,none⟩) (by have:=HNE.out;show rb≠bx;omega) (.slice A3 n cap3));have B4:Hid (Below w.heap.size w (w3.setCell ⟨bx,2,none⟩ (.slice A3 n cap3))):=B3.out.setCell (p:=⟨bx,2,none⟩) HNE.out.2 _;have HR3:=Lib.hid hr3;clear K3 R3 b3 hr3 c2
 go_upto_region 2 with fail
 have O4:Hid (OwnT W2.heap.size (w3.setCell ⟨bx,2,none⟩ (.slice A3 n cap3)) (.slice A3 n cap3) (ac G)):=HR3.out.set K2.out.lt
 obtain⟨w4,hw4⟩:∃ z,w3.setCell ⟨bx,2,none⟩ (.slice A3 n cap3)=z:=⟨_,rfl⟩
 rw[hw4] at K4 R4 B4 O4 ⊢;have k5:Bk w4 bx 53 #[.string J,.string N,.slice A3 n cap3,.int .i64 s,.bool ask,.bool app]:=by simpa using K4.out
 have i0:w4.cell? ⟨bx,0,none⟩=some (.string J):=k5.cell 0;have i1:w4.cell? ⟨bx,1,none⟩=some (.string N):=k5.cell 1;have i2:w4.cell? ⟨bx,2,none⟩=some (.slice A3 n cap3):=k5.cell 2;have i3:w4.cell? ⟨bx,3,none⟩=some (.int .i64 s):=k5.cell 3;have i4:w4.cell? ⟨bx,4,none⟩=some (.bool ask):=k5.cell 4;have i5:w4.cell? ⟨bx,5,none⟩=some (.bool app):=k5.cell 5;have r0:w4.cell? ⟨rb,0,none⟩=some (.string ⟨#[]⟩):=R4.out.cell 0;have g0:w4.frozen? ⟨rb,0,none⟩=false:=R4.out.free 0;have r1:w4.cell? ⟨rb,1,none⟩=some (.string ⟨#[]⟩):=R4.out.cell 1;have g1:w4.frozen? ⟨rb,1,none⟩=false:=R4.out.free 1;have r2:w4.cell? ⟨rb,2,none⟩=some (.slice none 0 0):=R4.out.cell 2;have g2:w4.frozen? ⟨rb,2,none⟩=false:=R4.out.free 2;have r3:w4.cell? ⟨rb,3,none⟩=some (.int .i64 0):=R4.out.cell 3;have g3:w4.frozen? ⟨rb,3,none⟩=false:=R4.out.free 3;have r4:w4.cell? ⟨rb,4,none⟩=some (.bool false):=R4.out.cell 4;have g4:w4.frozen? ⟨rb,4,none⟩=false:=R4.out.free 4;have r5:w4.cell? ⟨rb,5,none⟩=some (.bool false):=R4.out.cell 5;have g5:w4.frozen? ⟨rb,5,none⟩=false:=R4.out.free 5;have hrb2:rb < W2.heap.size:=R2.out.lt;have O5:Hid (OwnT W2.heap.size (cF w4 rb (.string J) (.string N) (.slice A3 n cap3) (.int .i64 s) (.bool ask) (.bool app)) (.slice A3 n cap3) (ac G)):=(((((O4.out.set hrb2).set hrb2).set hrb2).set hrb2).set hrb2).set hrb2;have R5:=Lib.hid (bo R4.out (.string J) (.string N) (.slice A3 n cap3) (.int .i64 s) (.bool ask) (.bool app));have B5:=Lib.hid (aE B4.out (by have:=HNE.out;omega:w.heap.size≤rb) (.string J) (.string N) (.slice A3 n cap3) (.int .i64 s) (.bool ask) (.bool app))
 obtain⟨w5,hw5⟩:∃ z,cF w4 rb (.string J) (.string N) (.slice A3 n cap3) (.int .i64 s) (.bool ask) (.bool app)=z:=⟨_,rfl⟩
 rw[hw5] at O5 R5 B5;clear hw4 k5 f2 e2 hrb2
 go_wp2_with fail
 have j0:w5.cell? ⟨rb,0,none⟩=some (.string J):=R5.out.cell 0;have j1:w5.cell? ⟨rb,1,none⟩=some (.string N):=R5.out.cell 1;have j2:w5.cell? ⟨rb,2,none⟩=some (.slice A3 n cap3):=R5.out.cell 2;have j3:w5.cell? ⟨rb,3,none⟩=some (.int .i64 s):=R5.out.cell 3;have j4:w5.cell? ⟨rb,4,none⟩=some (.bool ask):=R5.out.cell 4;have j5:w5.cell? ⟨rb,5,none⟩=some (.bool app):=R5.out.cell 5;refine bodyPost_ret (v:=.agg #[.string J,.string N,.slice A3 n cap3,.int .i64 s,.bool ask,.bool app]) (by simp[results,Tryz.results60,go_sem,j0,j1,j2,j3,j4,j5]) rfl ?_
 exact⟨.slice A3 n cap3,by rw[HAI2.out],O5.out.less B2.out.size,B5.out⟩
theorem lr (x:aZ × bm) (w:World) (hR:ReadT w.heap.size w (sl x.2) (ac x.1.groups)) (hl:x.1.groups.length≤8000000000000) :
 Calls Tryz.prog 60 #[.agg (aq x).toArray] w fun e w'=>∃ y,e=.returned (.agg (aq y).toArray)∧jT (fun p:aZ × bm=>p.1) fW w.heap.size w'.heap.size w' x y∧Below w.heap.size w w':=by
 refine(qk x.1 (sl x.2) w hR hl).mono ?_
 rintro e w' ⟨gv,rfl,ho,hb⟩
 obtain⟨A,cap,hv⟩:=ho.slice
 refine⟨(x.1,A,_,cap),by rw[hv];rfl,⟨rfl,?_⟩,hb⟩
 have:=LiveT.of_own ho
 rw[hv] at this;exact this
theorem k8 (v:Value) (l:List (aZ × bm)) (w:World) (hR:ReadI w.heap.size w v l) (hl:l.length≤1000000) (hs:∀ p∈l,p.1.groups.length≤1000000) :
 Calls Tryz.prog 59 #[v,.func (.func 60) #[] #[]] w fun e w'=>pR aq 6 53 (fun p:aZ × bm=>p.1) fW l w e w':=by
 refine(qT (jT (fun p:aZ × bm=>p.1) fW) (el dn) (gM oB) 60 (Go.Proofs.enters_of Tryz.func60 (by kernel_rfl) rfl) v l w hR.row hl fun W hW x hx=>?_).mono fun _ _ h=>h.live
 obtain⟨_,_,_,_,hT⟩:=hR
 exact lr x W ((hT x hx).upon hW) (by have:=hs x hx;omega)
set_option maxHeartbeats 4000000 in
theorem dV (x:aC) (w:World) (hI:InU w x) (hs:lK x) :
 Calls Tryz.prog 32 #[.agg (af x).toArray] w fun e w'=>∃ y,e=.returned (.agg (af y).toArray)∧jT cG LiveU w.heap.size w'.heap.size w' x y∧Below w.heap.size w w':=by
 have HE0:=fun (W:World) (hW:Below w.heap.size w W)=>k8 (sl x.iv) x.items W (hI.upon hW).1 hs.items (fun p hp=>(hs.eachI p hp).groups)
 have HC0:=fun (W:World) (hW:Below w.heap.size w W)=>jx (sl x.pv) x.pend W W.heap.size (hI.upon hW).2 (by have:=hs.pend;omega)
 have HY:Hid (∀ (is:List (aZ × bm)) (A D:Option Addr) (n c m d:Nat),is.map (·.1)=x.items.map (·.1)→cG ⟨x.name,x.pw,is,(A,n,c),x.pend,(D,m,d)⟩=cG x):=fun is A D n c m d h=>by
  unfold cG;rw[h]
 have HEN:Hid (∀ (is:List (aZ × bm)) (A D:Option Addr) (n c m d:Nat),(af ⟨x.name,x.pw,is,(A,n,c),x.pend,(D,m,d)⟩).toArray=#[.string (aa x.name),.string (aa x.pw),.slice A n c,.slice D m d]):=fun _ _ _ _ _ _ _=>rfl
 have hx0:(af x).toArray=#[.string (aa x.name),.string (aa x.pw),.slice x.iv.1 x.iv.2.1 x.iv.2.2,.slice x.pv.1 x.pv.2.1 x.pv.2.2]:=rfl;have h1:sl x.iv=.slice x.iv.1 x.iv.2.1 x.iv.2.2:=rfl;have h2:sl x.pv=.slice x.pv.1 x.pv.2.1 x.pv.2.2:=rfl;rw[hx0];rw[h1] at HE0;rw[h2] at HC0
 obtain⟨X,hX⟩:∃ X,aa x.name=X:=⟨_,rfl⟩
 obtain⟨M,hM⟩:∃ X,aa x.pw=X:=⟨_,rfl⟩
 rw[hX,hM] at HEN ⊢
 obtain⟨A,hA⟩:∃ A,x.iv.1=A:=⟨_,rfl⟩
 obtain⟨n,hn⟩:∃ A,x.iv.2.1=A:=⟨_,rfl⟩
 obtain⟨c,hc⟩:∃ A,x.iv.2.2=A:=⟨_,rfl⟩
 obtain⟨D,hD⟩:∃ A,x.pv.1=A:=⟨_,rfl⟩
 obtain⟨m,hm⟩:∃ A,x.pv.2.1=A:=⟨_,rfl⟩
 obtain⟨d,hd⟩:∃ A,x.pv.2.2=A:=⟨_,rfl⟩
 rw[hA,hn,hc] at HE0;rw[hD,hm,hd] at HC0;rw[hA,hn,hc,hD,hm,hd];clear hx0 h1 h2 hX hM hA hn hc hD hm hd hI hs
 obtain⟨W1,hW1⟩:∃ W1,w.alloc (.cells #[.string X,.string M,.slice A n c,.slice D m d] 28)=W1:=⟨_,rfl⟩
 obtain⟨bx,hbx⟩:∃ bx,w.heap.size=bx:=⟨_,rfl⟩
 obtain⟨W2,hW2⟩:∃ W2,W1.alloc (.cells #[.string ⟨#[]⟩,.string ⟨#[]⟩,.slice none 0 0,.slice none 0 0] 28)=W2:=⟨_,rfl⟩
 obtain⟨rb,hrb1⟩:∃ r,bx+1=r:=⟨_,rfl⟩
 have hrb:W1.heap.size=rb:=by rw[← hW1,World.size_alloc,hbx,hrb1]
 have k1:Bk W1 bx 28 #[.string X,.string M,.slice A n c,.slice D m d]:=by rw[← hW1,← hbx];exact Bk.new _ _ _
 have K2:Hid (Bk W2 bx 28 #[.string X,.string M,.slice A n c,.slice D m d]):=by rw[← hW2];exact k1.alloc _
 have R2:Hid (Bk W2 rb 28 #[.string ⟨#[]⟩,.string ⟨#[]⟩,.slice none 0 0,.slice none 0 0]):=by rw[← hW2,← hrb];exact Bk.new _ _ _
 have B2:Hid (Below w.heap.size w W2):=by rw[← hW2,← hW1];exact((Below.refl _ _).alloc (Nat.le_refl _) _).alloc (by rw[World.size_alloc];omega) _
 have HNE:Hid (bx < rb∧w.heap.size≤bx):=by have:=k1.lt;unfold Hid;omega
 have HE:Hid (∀ W,Below W2.heap.size W2 W→Calls Tryz.prog 59 #[.slice A n c,.func (.func 60) #[] #[]] W fun e w'=>∃ A' n' c' is,e=.returned (.slice A' n' c')∧is.map (·.1)=x.items.map (·.1)∧LiveR aq 6 53 fW W2.heap.size w'.heap.size w' (.slice A' n' c') is∧Below W2.heap.size W2 w'):=fun W hW =>
  (HE0 W (B2.out.trans (hW.mono B2.out.size))).mono fun e w' h=>by
   obtain⟨A',c',is,he,hp,hl,hb⟩:=h
   exact⟨A',_,c',is,he,hp,hl.wider hW.size (Nat.le_refl _),hW.trans (hb.mono hW.size)⟩
 have HC:Hid (∀ W,Below W2.heap.size W2 W→Calls Tryz.prog 61 #[.slice D m d] W fun e w'=>∃ A' n' c',e=.returned (.slice A' n' c')∧LiveT W2.heap.size w'.heap.size w' (.slice A' n' c') x.pend∧Below W.heap.size W w'):=fun W hW =>
  (HC0 W (B2.out.trans (hW.mono B2.out.size))).mono fun e w' h=>by
   obtain⟨A',c',he,ho,hb⟩:=h
   exact⟨A',_,c',he,(LiveT.of_own ho).wider hW.size (Nat.le_refl _),hb⟩
 have HW1:=Lib.hid hW1;have HW2:=Lib.hid hW2;have HBX:=Lib.hid hbx;have HRB:=Lib.hid hrb1;have HSB:Hid (bx < W2.heap.size∧rb < W2.heap.size):=⟨K2.out.lt,R2.out.lt⟩;have cc2:W2.cell? ⟨bx,2,none⟩=some (.slice A n c):=K2.out.cell 2;have cc3:W2.cell? ⟨bx,3,none⟩=some (.slice D m d):=K2.out.cell 3;have ff2:W2.frozen? ⟨bx,2,none⟩=false:=K2.out.free 2;have ff3:W2.frozen? ⟨bx,3,none⟩=false:=K2.out.free 3;clear hW1 hW2 hbx hrb hrb1 k1 HE0 HC0;go_enter Tryz.func32,Tryz.ntmps32
 go_upto_region 1 with fail
 (try rw[HW1.out]);(try rw[HBX.out]);(try rw[HRB.out]);(try rw[HW2.out])
 go_region_law (first
  | (go_simp;go_at_call 59;refine(HE.out _ (Below.refl _ _).drew).mono ?_;rintro e w3 ⟨A3,n3,c3,is,rfl,hm3,hl3,b3⟩;have g2:w3.cell? ⟨bx,2,none⟩=some (.slice A n c):=(K2.out.below b3 K2.out.lt).cell 2;have g3:w3.cell? ⟨bx,3,none⟩=some (.slice D m d):=(K2.out.below b3 K2.out.lt).cell 3)
  | (go_simp;go_at_call 61;refine(HC.out _ b3).mono ?_;rintro e w4 ⟨A4,n4,c4,rfl,hl4,b4⟩;have k2:w4.cell? ⟨bx,2,none⟩=some (.slice A n c):=(K2.out.below (b3.trans (b4.mono b3.size)) K2.out.lt).cell 2;have k3:w4.cell? ⟨bx,3,none⟩=some (.slice D m d):=(K2.out.below (b3.trans (b4.mono b3.size)) K2.out.lt).cell 3;have l2:w4.frozen? ⟨bx,2,none⟩=false:=(K2.out.below (b3.trans (b4.mono b3.size)) K2.out.lt).free 2;have l3:w4.frozen? ⟨bx,3,none⟩=false:=(K2.out.below (b3.trans (b4.mono b3.size)) K2.out.lt).free 3))
 all_goals
  obtain⟨w5,hw5⟩:∃ z,(w4.setCell ⟨bx,2,none⟩ (.slice A3 n3 c3)).setCell ⟨bx,3,none⟩ (.slice A4 n4 c4)=z:=⟨_,rfl⟩
  have B4:Hid (Below W2.heap.size W2 w4):=b3.trans (b4.mono b3.size);have K4:=K2.out.below B4.out K2.out.lt;have K5:Hid (Bk w5 bx 28 #[.string X,.string M,.slice A3 n3 c3,.slice A4 n4 c4]):=by
   unfold Hid;rw[← hw5]
   have:=(K4.put 2 (.slice A3 n3 c3)).put 3 (.slice A4 n4 c4)
   simpa using this
  have R4:=R2.out.below B4.out R2.out.lt;have R5:Hid (Bk w5 rb 28 #[.string ⟨#[]⟩,.string ⟨#[]⟩,.slice none 0 0,.slice none 0 0]):=by
   rw[← hw5]
   exact(R4.far (p:=⟨bx,2,none⟩) (by have:=HNE.out.1;show rb≠bx;omega) _).far (p:=⟨bx,3,none⟩) (by have:=HNE.out.1;show rb≠bx;omega) _
  have BW4:Below w.heap.size w w4:=B2.out.trans (B4.out.mono B2.out.size);have B5:Hid (Below w.heap.size w w5):=by rw[← hw5];exact(BW4.setCell (p:=⟨bx,2,none⟩) HNE.out.2 _).setCell (p:=⟨bx,3,none⟩) HNE.out.2 _
  have U45:lV W2.heap.size w4.heap.size w4 w5:=fun b hb _=>by
   rw[← hw5,Below.heap_setCell _ ⟨bx,3,none⟩ _ b (fun e=>by have h1:b=bx:=e;have:=HSB.out.1;omega),Below.heap_setCell _ ⟨bx,2,none⟩ _ b (fun e=>by have h1:b=bx:=e;have:=HSB.out.1;omega)]
  have hsz5:w5.heap.size=w4.heap.size:=by rw[← hw5,World.size_setCell,World.size_setCell]
  have L5:Hid (LiveU W2.heap.size w4.heap.size w5 ⟨x.name,x.pw,is,(A3,n3,c3),x.pend,(A4,n4,c4)⟩):=by
   have h1:LiveR aq 6 53 fW W2.heap.size w4.heap.size w4 (.slice A3 n3 c3) is:=(hl3.upto dn (dw (C:=w3.heap.size) b4 (Nat.le_refl _))).wider (Nat.le_refl _) b4.size
   exact⟨h1.upto dn U45,hl4.upto U45⟩
  have HPL:=Lib.hid (HY.out is A3 A4 n3 c3 n4 c4 hm3);have HAG:=Lib.hid (HEN.out is A3 A4 n3 c3 n4 c4);have HSZ:Hid (w.heap.size≤W2.heap.size∧w5.heap.size=w4.heap.size):=⟨B2.out.size,hsz5⟩;clear K4 R4 BW4 U45 hsz5 hl3 hl4 hm3 b3 b4 B4 g2 g3 k2 k3 l2 l3;(try rw[hw5]);clear hw5;have i0:w5.cell? ⟨bx,0,none⟩=some (.string X):=K5.out.cell 0;have i1:w5.cell? ⟨bx,1,none⟩=some (.string M):=K5.out.cell 1;have i2:w5.cell? ⟨bx,2,none⟩=some (.slice A3 n3 c3):=K5.out.cell 2;have i3:w5.cell? ⟨bx,3,none⟩=some (.slice A4 n4 c4):=K5.out.cell 3;have r0:w5.cell? ⟨rb,0,none⟩=some (.string ⟨#[]⟩):=R5.out.cell 0;have g0:w5.frozen? ⟨rb,0,none⟩=false:=R5.out.free 0;have r1:w5.cell? ⟨rb,1,none⟩=some (.string ⟨#[]⟩):=R5.out.cell 1;have g1:w5.frozen? ⟨rb,1,none⟩=false:=R5.out.free 1;have r2:w5.cell? ⟨rb,2,none⟩=some (.slice none 0 0):=R5.out.cell 2;have g2:w5.frozen? ⟨rb,2,none⟩=false:=R5.out.free 2;have r3:w5.cell? ⟨rb,3,none⟩=some (.slice none 0 0):=R5.out.cell 3;have g3:w5.frozen? ⟨rb,3,none⟩=false:=R5.out.free 3;have R6:=Lib.hid (aF R5.out (.string X) (.string M) (.slice A3 n3 c3) (.slice A4 n4 c4));have B6:=Lib.hid (aj B5.out (by have:=HNE.out;omega:w.heap.size≤rb) (.string X) (.string M) (.slice A3 n3 c3) (.slice A4 n4 c4));have L6:Hid (LiveU W2.heap.size w4.heap.size (bj w5 rb (.string X) (.string M) (.slice A3 n3 c3) (.slice A4 n4 c4)) ⟨x.name,x.pw,is,(A3,n3,c3),x.pend,(A4,n4,c4)⟩):=aI _ _ _ _ _ (fun b hb _=>a5 rb [.string X,.string M,.slice A3 n3 c3,.slice A4 n4 c4] 0 w5 b (by have:=HSB.out.2;omega)) L5.out;have HSZ6:Hid ((bj w5 rb (.string X) (.string M) (.slice A3 n3 c3) (.slice A4 n4 c4)).heap.size=w5.heap.size):=bz rb [.string X,.string M,.slice A3 n3 c3,.slice A4 n4 c4] 0 w5
  obtain⟨w6,hw6⟩:∃ z,bj w5 rb (.string X) (.string M) (.slice A3 n3 c3) (.slice A4 n4 c4)=z:=⟨_,rfl⟩
  rw[hw6] at R6 B6 L6 HSZ6
  go_wp2_with fail
  (try rw[hw6]);have j0:w6.cell? ⟨rb,0,none⟩=some (.string X):=R6.out.cell 0;have j1:w6.cell? ⟨rb,1,none⟩=some (.string M):=R6.out.cell 1;have j2:w6.cell? ⟨rb,2,none⟩=some (.slice A3 n3 c3):=R6.out.cell 2;have j3:w6.cell? ⟨rb,3,none⟩=some (.slice A4 n4 c4):=R6.out.cell 3;refine bodyPost_ret (v:=.agg #[.string X,.string M,.slice A3 n3 c3,.slice A4 n4 c4]) (by simp[results,Tryz.results32,go_sem,j0,j1,j2,j3]) rfl ?_
  exact⟨_,by rw[HAG.out],⟨HPL.out,fH _ _ _ _ _ _ HSZ.out.1 (by rw[HSZ6.out,HSZ.out.2];exact Nat.le_refl _) L6.out⟩,B6.out⟩
theorem lU (v:Value) (l:List aC) (w:World) (hR:ReadU w v l) (hl:l.length≤1000000) (hs:∀ u∈l,lK u) :
 Calls Tryz.prog 63 #[v,.func (.func 32) #[] #[]] w fun e w'=>pR af 4 28 cG LiveU l w e w' :=
 (qD (jT cG LiveU) (el aI) (gM fH) 32 (Go.Proofs.enters_of Tryz.func32 (by kernel_rfl) rfl) v l w hR.1 hl fun W hW x hx =>
  dV x W ((hR.2 x hx).upon hW) (hs x hx)).mono fun _ _ h=>h.live
set_option maxHeartbeats 4000000 in
theorem lm (x:aK) (w:World) (hI:ReadU w (sl x.uv) x.users) (hs:iD x) :
 Calls Tryz.prog 34 #[.agg (aA x).toArray] w fun e w'=>∃ y,e=.returned (.agg (aA y).toArray)∧jT cK LiveH w.heap.size w'.heap.size w' x y∧Below w.heap.size w w':=by
 have HE0:=fun (W:World) (hW:Below w.heap.size w W)=>lU (sl x.uv) x.users W (hI.upon hW) hs.users hs.each
 have HY:Hid (∀ (us:List aC) (A:Option Addr) (n c:Nat),us.map cG=x.users.map cG→cK ⟨x.name,us,(A,n,c)⟩=cK x):=fun us A n c h=>by
  unfold cK;rw[h]
 have HEN:Hid (∀ (us:List aC) (A:Option Addr) (n c:Nat),(aA ⟨x.name,us,(A,n,c)⟩).toArray=#[.string (aa x.name),.slice A n c]):=fun _ _ _ _=>rfl
 have hx0:(aA x).toArray=#[.string (aa x.name),.slice x.uv.1 x.uv.2.1 x.uv.2.2]:=rfl;have h1:sl x.uv=.slice x.uv.1 x.uv.2.1 x.uv.2.2:=rfl;rw[hx0];rw[h1] at HE0
 obtain⟨X,hX⟩:∃ X,aa x.name=X:=⟨_,rfl⟩
 rw[hX] at HEN ⊢
 obtain⟨A,hA⟩:∃ A,x.uv.1=A:=⟨_,rfl⟩
 obtain⟨n,hn⟩:∃ A,x.uv.2.1=A:=⟨_,rfl⟩
 obtain⟨c,hc⟩:∃ A,x.uv.2.2=A:=⟨_,rfl⟩
 rw[hA,hn,hc] at HE0;rw[hA,hn,hc];clear hx0 h1 hX hA hn hc hI hs
 obtain⟨W1,hW1⟩:∃ W1,w.alloc (.cells #[.string X,.slice A n c] 47)=W1:=⟨_,rfl⟩
 obtain⟨bx,hbx⟩:∃ bx,w.heap.size=bx:=⟨_,rfl⟩
 obtain⟨W2,hW2⟩:∃ W2,W1.alloc (.cells #[.string ⟨#[]⟩,.slice none 0 0] 47)=W2:=⟨_,rfl⟩
 obtain⟨rb,hrb1⟩:∃ r,bx+1=r:=⟨_,rfl⟩
 have hrb:W1.heap.size=rb:=by rw[← hW1,World.size_alloc,hbx,hrb1]
 have k1:Bk W1 bx 47 #[.string X,.slice A n c]:=by rw[← hW1,← hbx];exact Bk.new _ _ _
 have K2:Hid (Bk W2 bx 47 #[.string X,.slice A n c]):=by rw[← hW2];exact k1.alloc _
 have R2:Hid (Bk W2 rb 47 #[.string ⟨#[]⟩,.slice none 0 0]):=by rw[← hW2,← hrb];exact Bk.new _ _ _
 have B2:Hid (Below w.heap.size w W2):=by rw[← hW2,← hW1];exact((Below.refl _ _).alloc (Nat.le_refl _) _).alloc (by rw[World.size_alloc];omega) _
 have HNE:Hid (bx < rb∧w.heap.size≤bx):=by have:=k1.lt;unfold Hid;omega
 have HE:=Lib.hid (HE0 W2 B2.out);have HW1:=Lib.hid hW1;have HW2:=Lib.hid hW2;have HBX:=Lib.hid hbx;have HRB:=Lib.hid hrb1;have HSB:Hid (bx < W2.heap.size∧rb < W2.heap.size):=⟨K2.out.lt,R2.out.lt⟩;have c1:W2.cell? ⟨bx,1,none⟩=some (.slice A n c):=K2.out.cell 1;clear hW1 hW2 hbx hrb hrb1 k1 HE0;go_enter Tryz.func34,Tryz.ntmps34
 go_upto_region 1 with fail
 (try rw[HW1.out]);(try rw[HBX.out]);(try rw[HRB.out]);(try rw[HW2.out])
 go_wp2_with fail
 refine HE.out.mono ?_;rintro e w4 ⟨A3,c3,us,rfl,hm3,hl3,b4⟩
 obtain⟨n3,hn3⟩:∃ n,x.users.length=n:=⟨_,rfl⟩
 rw[hn3] at hl3 ⊢;have K4:=K2.out.below b4 K2.out.lt;have R4:=R2.out.below b4 R2.out.lt;have f1:w4.frozen? ⟨bx,1,none⟩=false:=K4.free 1;have e1:w4.cell? ⟨bx,1,none⟩=some (.slice A n c):=K4.cell 1
 obtain⟨w5,hw5⟩:∃ z,w4.setCell ⟨bx,1,none⟩ (.slice A3 n3 c3)=z:=⟨_,rfl⟩
 have K5:Hid (Bk w5 bx 47 #[.string X,.slice A3 n3 c3]):=by
  unfold Hid;rw[← hw5]
  have:=K4.put 1 (.slice A3 n3 c3)
  simpa using this
 have R5:Hid (Bk w5 rb 47 #[.string ⟨#[]⟩,.slice none 0 0]):=by
  rw[← hw5];exact R4.far (p:=⟨bx,1,none⟩) (by have:=HNE.out.1;show rb≠bx;omega) _
 have BW4:Below w.heap.size w w4:=B2.out.trans (b4.mono B2.out.size);have B5:Hid (Below w.heap.size w w5):=by rw[← hw5];exact BW4.setCell (p:=⟨bx,1,none⟩) HNE.out.2 _
 have U45:lV W2.heap.size w4.heap.size w4 w5:=fun b hb _=>by
  rw[← hw5,Below.heap_setCell _ ⟨bx,1,none⟩ _ b (fun e=>by have h1:b=bx:=e;have:=HSB.out.1;omega)]
 have hsz5:w5.heap.size=w4.heap.size:=by rw[← hw5,World.size_setCell]
 have L5:Hid (LiveH W2.heap.size w4.heap.size w5 ⟨x.name,us,(A3,n3,c3)⟩):=bI _ _ _ _ _ U45 hl3;have HPL:=Lib.hid (HY.out us A3 n3 c3 hm3);have HAG:=Lib.hid (HEN.out us A3 n3 c3);have HSZ:Hid (w.heap.size≤W2.heap.size∧w5.heap.size=w4.heap.size):=⟨B2.out.size,hsz5⟩;clear K4 R4 BW4 U45 hsz5 hl3 hm3 b4 c1 hn3
 go_upto_region 2 with fail
 (try rw[hw5]);clear hw5 f1 e1;have i0:w5.cell? ⟨bx,0,none⟩=some (.string X):=K5.out.cell 0;have i1:w5.cell? ⟨bx,1,none⟩=some (.slice A3 n3 c3):=K5.out.cell 1;have r0:w5.cell? ⟨rb,0,none⟩=some (.string ⟨#[]⟩):=R5.out.cell 0;have g0:w5.frozen? ⟨rb,0,none⟩=false:=R5.out.free 0;have r1:w5.cell? ⟨rb,1,none⟩=some (.slice none 0 0):=R5.out.cell 1;have g1:w5.frozen? ⟨rb,1,none⟩=false:=R5.out.free 1;have R6:=Lib.hid (dv R5.out (.string X) (.slice A3 n3 c3));have B6:=Lib.hid (cn B5.out (by have:=HNE.out;omega:w.heap.size≤rb) (.string X) (.slice A3 n3 c3));have L6:Hid (LiveH W2.heap.size w4.heap.size (dE w5 rb (.string X) (.slice A3 n3 c3)) ⟨x.name,us,(A3,n3,c3)⟩):=bI _ _ _ _ _ (fun b hb _=>a5 rb [.string X,.slice A3 n3 c3] 0 w5 b (by have:=HSB.out.2;omega)) L5.out;have HSZ6:Hid ((dE w5 rb (.string X) (.slice A3 n3 c3)).heap.size=w5.heap.size):=bz rb [.string X,.slice A3 n3 c3] 0 w5
 obtain⟨w6,hw6⟩:∃ z,dE w5 rb (.string X) (.slice A3 n3 c3)=z:=⟨_,rfl⟩
 rw[hw6] at R6 B6 L6 HSZ6
 go_wp2_with fail
 (try rw[hw6]);have j0:w6.cell? ⟨rb,0,none⟩=some (.string X):=R6.out.cell 0;have j1:w6.cell? ⟨rb,1,none⟩=some (.slice A3 n3 c3):=R6.out.cell 1;refine bodyPost_ret (v:=.agg #[.string X,.slice A3 n3 c3]) (by simp[results,Tryz.results34,go_sem,j0,j1]) rfl ?_
 exact⟨_,by rw[HAG.out],⟨HPL.out,jc _ _ _ _ _ _ HSZ.out.1 (by rw[HSZ6.out,HSZ.out.2];exact Nat.le_refl _) L6.out⟩,B6.out⟩
theorem lZ (v:Value) (l:List aK) (w:World) (hR:ReadH w v l) (hl:l.length≤1000000) (hs:∀ h∈l,iD h) :
 Calls Tryz.prog 33 #[v,.func (.func 34) #[] #[]] w fun e w'=>pR aA 2 47 cK LiveH l w e w' :=
 (r6 (jT cK LiveH) (el bI) (gM jc) 34 (Go.Proofs.enters_of Tryz.func34 (by kernel_rfl) rfl) v l w hR.1 hl fun W hW x hx =>
  lm x W ((hR.2 x hx).upon hW) (hs x hx)).mono fun _ _ h=>h.live
end Go.Proofs.YtbgaglcgennhiaaGreatDoor
