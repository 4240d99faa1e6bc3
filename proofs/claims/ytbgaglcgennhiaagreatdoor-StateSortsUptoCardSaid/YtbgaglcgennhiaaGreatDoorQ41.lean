import Derived.Test.YtbgaglcgennhiaaGreatDoorQ40
import Derived.Test.YtbgaglcgennhiaaGreatDoorQ35
set_option maxHeartbeats 4000000
namespace Go.Proofs.YtbgaglcgennhiaaGreatDoor
open Go.RowKit Go.Lib Go.Sort Sy Tx Ct
def GoodIs (A C:Nat) (W:World) (v:Value) (l:List (bj × bB)):Prop:=RowIn az 6 A C W v l/\∀ p∈l,LiveT A C W (sl p.2) p.1.groups
theorem GoodIs.upto {A C:Nat} {W W':World} {v:Value} {l:List (bj × bB)} (h:GoodIs A C W v l) (hu:gW A C W W'):GoodIs A C W' v l:=⟨h.1.upto hu,fun p hp=>(h.2 p hp).upto hu⟩
theorem GoodIs.wider {A C A' C':Nat} {W:World} {v:Value} {l:List (bj × bB)} (h:GoodIs A C W v l) (hA:A'<=A) (hC:C<=C'):GoodIs A' C' W v l:=⟨h.1.wider hA hC,fun p hp=>(h.2 p hp).wider hA hC⟩
def GoodU (A C:Nat) (W:World) (u:bk):Prop:=GoodIs A C W (sl u.iv) u.items/\LiveT A C W (sl u.pv) u.pend
theorem dY:fC GoodU:=fun _ _ _ _ _ hu h=>⟨h.1.upto hu,h.2.upto hu⟩
theorem dG:oh GoodU:=fun _ _ _ _ _ _ h1 h2 h=>⟨h.1.wider h1 h2,h.2.wider h1 h2⟩
def GoodH (A C:Nat) (W:World) (x:aN):Prop:=RowIn ao 4 A C W (sl x.uv) x.users/\∀ u∈x.users,GoodU A C W u
theorem dy:fC GoodH:=fun _ _ _ _ _ hu h=>⟨h.1.upto hu,fun u hx=>dY _ _ _ _ _ hu (h.2 u hx)⟩
theorem ek:oh GoodH:=fun _ _ _ _ _ _ h1 h2 h=>⟨h.1.wider h1 h2,fun u hx=>dG _ _ _ _ _ _ h1 h2 (h.2 u hx)⟩
theorem GoodU.reads {A C:Nat} {W:World} {u:bk} (h:GoodU A C W u) (hC:C<=W.heap.size):InU W u:=⟨ReadI.of_row (h.1.1.row hC) fun p hp=>(h.1.2 p hp).reads hC,h.2.reads hC⟩
theorem GoodH.reads {A C:Nat} {W:World} {x:aN} (h:GoodH A C W x) (hC:C<=W.heap.size):ReadU W (sl x.uv) x.users:=⟨h.1.row hC,fun u hu=>(h.2 u hu).reads hC⟩
def GoodS (A C:Nat) (W:World) (v:Value) (l:List aN):Prop:=RowIn aw 2 A C W v l/\∀ x∈l,GoodH A C W x
theorem GoodS.upto {A C:Nat} {W W':World} {v:Value} {l:List aN} (h:GoodS A C W v l) (hu:gW A C W W'):GoodS A C W' v l:=⟨h.1.upto hu,fun p hp=>dy _ _ _ _ _ hu (h.2 p hp)⟩
theorem GoodS.reads {A C:Nat} {W:World} {v:Value} {l:List aN} (h:GoodS A C W v l) (hC:C<=W.heap.size):ReadH W v l:=⟨h.1.row hC,fun u hu=>(h.2 u hu).reads hC⟩
abbrev AD:=List UInt8 × List UInt8 × List bj × List (List UInt8)
abbrev zL:=List UInt8 × List AD
def d9 (p:AD):AD:=(p.1,p.2.1,af oa p.2.2.1,aD p.2.2.2)
def nj (x y:AD):Bool:=Jd.ltL x.1 y.1
def ni (x y:zL):Bool:=Jd.ltL x.1 y.1
def er (p:zL):zL:=(p.1,af nj (p.2.map d9))
def fs (l:List zL):List zL:=af ni (l.map er)
theorem xl:Weak yG:=⟨fun h=>ltL_weak.asym h,fun h y=>ltL_weak.neg h y.name⟩
theorem xd:Weak yF:=⟨fun h=>ltL_weak.asym h,fun h y=>ltL_weak.neg h y.name⟩
theorem mt:Weak nj:=⟨fun h=>ltL_weak.asym h,fun h y=>ltL_weak.neg h y.1⟩
theorem ja:Weak ni:=⟨fun h=>ltL_weak.asym h,fun h y=>ltL_weak.neg h y.1⟩
def AH (A C:Nat) (W:World) (x y:bk):Prop:=cY y=d9 (cY x)/\GoodU A C W y
def AG (A C:Nat) (W:World) (x y:aN):Prop:=bD y=er (bD x)/\GoodH A C W y
theorem zw {x y:bk} (h:cY y=d9 (cY x)) (hs:nZ x):nZ y:=by
 have e1:y.name=x.name:=congrArg Prod.fst h;have e2:y.pw=x.pw:=congrArg (fun p=>p.2.1) h;have e3:y.items.map (·.1)=af oa (x.items.map (·.1)):=congrArg (fun p=>p.2.2.1) h;have e4:y.pend=aD x.pend:=congrArg (fun p=>p.2.2.2) h;have hp:(y.items.map (·.1)).Perm (x.items.map (·.1)):=by rw[e3];exact bQ _
 refine⟨by rw[e1];exact hs.name,by rw[e2];exact hs.pw,?_,fun p hp2=>?_,?_,fun t ht=>?_⟩
 ·have:=hp.length_eq;rw[cr,cr] at this;rw[this];exact hs.items
 ·obtain⟨q,hq,e⟩:=List.mem_map.1 (hp.mem_iff.1 (List.mem_map.2 ⟨p,hp2,rfl⟩));rw[<-e];exact hs.eachI q hq
 ·rw[e4];exact co (ld _) hs.pend
 ·rw[e4,eZ] at ht;exact hs.eachP t ht
theorem zu {x y:aN} (h:bD y=er (bD x)) (hs:gS x):gS y:=by
 have e1:y.name=x.name:=congrArg Prod.fst h;have e2:y.users.map cY=af nj ((x.users.map cY).map d9):=congrArg Prod.snd h;have hp:(y.users.map cY).Perm ((x.users.map cY).map d9):=by rw[e2];exact bQ _
 refine⟨by rw[e1];exact hs.name,?_,fun u hu=>?_⟩
 ·have:=hp.length_eq;rw[cr,cr,cr] at this;rw[this];exact hs.users
 ·obtain⟨q,hq,e⟩:=List.mem_map.1 (hp.mem_iff.1 (List.mem_map.2 ⟨u,hu,rfl⟩));obtain⟨z,hz,rfl⟩:=List.mem_map.1 hq;exact zw e.symm (hs.each z hz)
theorem EachV.good {α β:Type} {enc:α->List Value} {k:Nat} {t:TypeId} {pl:α->β} {f:β->β} {L:Nat->Nat->World->α->Prop} (hW:oh L) {l:List α} {w:World} {e:Ending} {w':World} (h:EachV enc k t (fun A C W x y=>pl y=f (pl x)/\L A C W y) l w e w'):
 ∃ A cap l',e=.returned (.slice A l.length cap)/\l'.map pl=l.map (fun x=>f (pl x))/\RowV enc k w'.heap.size w' (.slice A l.length cap) l'/\(∀ y∈l',L w.heap.size w'.heap.size w' y)/\Below w.heap.size w w':=by
 obtain⟨A,cap,l',he,hl,hb,hc⟩:=h;by_cases h0:0<l.length
 ·obtain⟨g,cut,ha,h1,h2,h3,h4,h5,h6⟩:=hc h0;refine⟨A,cap,l',he,List.ext_getElem? fun i=>?_,?_,fun y hy=>?_,hb⟩
  ·rw[List.getElem?_map,List.getElem?_map];rcases Nat.lt_or_ge i l.length with hi|hi
   ·rw[aQ hi,aQ (by omega)];have:=(h6 i _ _ (aQ hi) (aQ (by omega:i<l'.length))).1;simp[this]
   ·rw[List.getElem?_eq_none hi,List.getElem?_eq_none (by omega)];rfl
  ·rw[ha];exact h2.row (by have:=bT h4 (bI l.length);omega) _ cap hl
  ·obtain⟨i,hi,rfl⟩:=List.getElem_of_mem hy;have h7:=(h6 i _ _ (aQ (by omega:i<l.length)) (aQ hi)).2;refine hW _ _ _ _ _ _ ?_ ?_ h7
   ·have:=bT h4 (bI i);omega
   ·have:=bT h4 (show i+1<=l.length by omega);omega
 ·obtain rfl:l=[]:=eB (by omega);obtain rfl:l'=[]:=eB hl;exact⟨A,cap,[],he,rfl,⟨A,cap,rfl,fun h=>absurd h (by simp)⟩,fun y hy=>(by cases hy),hb⟩
theorem lH {α β:Type} {pl:α->β} {f:β->β} {L:Nat->Nat->World->α->Prop} (h:fC L):e7 (fun A C W x y=>pl y=f (pl x)/\L A C W y):=fun A C W W' _ y hu hr=>⟨hr.1,h A C W W' y hu hr.2⟩
theorem p8 {α β:Type} {pl:α->β} {f:β->β} {L:Nat->Nat->World->α->Prop} (h:oh L):me (fun A C W x y=>pl y=f (pl x)/\L A C W y):=fun A A' C C' W _ y h1 h2 hr=>⟨hr.1,h A A' C C' W y h1 h2 hr.2⟩
theorem r7 (v:Value) (l:List (bj × bB)) (w:World) (hO:Okw w) (hR:ReadI w.heap.size w v l) (hl:l.length<=1000000) (h:∀ p∈l,Ax p.1):
 Calls Tryz.prog 108 #[v] w fun e w'=>∃ A n c l',e=.returned (.slice A n c)/\l'.map (·.1)=af oa (l.map (·.1))/\GoodIs w.heap.size w'.heap.size w' (.slice A n c) l'/\Below w.heap.size w w':=by
 refine(pY v l w hO hR hl (fun p hp=>by have:=(h p hp).jid;omega) (fun p hp=>by have:=(h p hp).groups;omega)).mono ?_;rintro e w' ⟨v',l',rfl,hr,hm,hb,a,cap,rfl,hg,hT⟩;refine⟨_,_,_,l',rfl,hm,⟨⟨a,cap,rfl,fun h0=>?_⟩,fun p hp=>LiveT.of_own (hT p hp)⟩,hb⟩;obtain⟨g,rfl,hge⟩:=hg h0;obtain⟨A2,cap2,hv,hc,_⟩:=hr;obtain⟨b,off,ha,hb2,hcc⟩:=hc h0;injection hv with e1 _ _;rw[ha] at e1;injection e1 with e1;injection e1 with e2 e3 _;exact⟨g,rfl,hge,by omega,fun i p hp c u hu=>by have:=hcc i p hp c u hu;rw[<-e2,<-e3,Nat.zero_add] at this;exact this⟩
theorem jW (x:bk) (w:World) (hO:Okw w) (hI:InU w x) (hs:nZ x):
 Calls Tryz.prog 80 #[.agg (ao x).toArray] w fun e w'=>∃ y,e=.returned (.agg (ao y).toArray)/\AH w.heap.size w'.heap.size w' x y/\Below w.heap.size w w':=by
 have HE0:=fun (W:World) (hW:Below w.heap.size w W)=>r7 (sl x.iv) x.items W (hO.below hW) (hI.upon hW).1 hs.items (fun p hp=>hs.eachI p hp)
 have HC0:=fun (W:World) (hW:Below w.heap.size w W)=>nR (sl x.pv) x.pend W (hO.below hW) (hI.upon hW).2 hs.pend (fun t ht=>by have:=hs.eachP t ht;omega)
 have HY:Hid (∀ (is:List (bj × bB)) (A D:Option Addr) (n c m d:Nat),is.map (·.1)=af oa (x.items.map (·.1))->cY ⟨x.name,x.pw,is,(A,n,c),aD x.pend,(D,m,d)⟩=d9 (cY x)):=fun is A D n c m d h=>by unfold cY d9;rw[h]
 have HEN:Hid (∀ (is:List (bj × bB)) (A D:Option Addr) (n c m d:Nat),(ao ⟨x.name,x.pw,is,(A,n,c),aD x.pend,(D,m,d)⟩).toArray=#[.string (ae x.name),.string (ae x.pw),.slice A n c,.slice D m d]):=fun _ _ _ _ _ _ _=>rfl
 have hx0:(ao x).toArray=#[.string (ae x.name),.string (ae x.pw),.slice x.iv.1 x.iv.2.1 x.iv.2.2,.slice x.pv.1 x.pv.2.1 x.pv.2.2]:=rfl;have h1:sl x.iv=.slice x.iv.1 x.iv.2.1 x.iv.2.2:=rfl;have h2:sl x.pv=.slice x.pv.1 x.pv.2.1 x.pv.2.2:=rfl;rw[hx0];rw[h1] at HE0;rw[h2] at HC0;obtain⟨X,hX⟩:=ac (ae x.name);obtain⟨M,hM⟩:=ac (ae x.pw);rw[hX,hM] at HEN ⊢;obtain⟨A,hA⟩:=ac x.iv.1;obtain⟨n,hn⟩:=ac x.iv.2.1;obtain⟨c,hc⟩:=ac x.iv.2.2;obtain⟨D,hD⟩:=ac x.pv.1;obtain⟨m,hm⟩:=ac x.pv.2.1;obtain⟨d,hd⟩:=ac x.pv.2.2;rw[hA,hn,hc] at HE0;rw[hD,hm,hd] at HC0;rw[hA,hn,hc,hD,hm,hd];clear hx0 h1 h2 hX hM hA hn hc hD hm hd hI hs hO;obtain⟨W1,hW1⟩:=ac (w.alloc (.cells #[.string X,.string M,.slice A n c,.slice D m d] 28));obtain⟨bx,hbx⟩:=ac w.heap.size;obtain⟨W2,hW2⟩:=ac (W1.alloc (.cells #[.string ⟨#[]⟩,.string ⟨#[]⟩,.slice none 0 0,.slice none 0 0] 28));obtain⟨rb,hrb1⟩:=ac (bx+1);have hrb:W1.heap.size=rb:=by rw[<-hW1,World.size_alloc,hbx,hrb1]
 have k1:Bk W1 bx 28 #[.string X,.string M,.slice A n c,.slice D m d]:=by rw[<-hW1,<-hbx];exact Bk.new _ _ _
 have K2:Hid (Bk W2 bx 28 #[.string X,.string M,.slice A n c,.slice D m d]):=by rw[<-hW2];exact k1.alloc _
 have R2:Hid (Bk W2 rb 28 #[.string ⟨#[]⟩,.string ⟨#[]⟩,.slice none 0 0,.slice none 0 0]):=by rw[<-hW2,<-hrb];exact Bk.new _ _ _
 have B2:Hid (Below w.heap.size w W2):=by rw[<-hW2,<-hW1];exact(bp _ _).alloc (by rw[World.size_alloc];omega) _
 have HNE:Hid (bx<rb/\w.heap.size<=bx):=by have:=k1.lt;unfold Hid;omega
 have HE:Hid (∀ W,Below W2.heap.size W2 W->Calls Tryz.prog 108 #[.slice A n c] W fun e w'=>∃ A' n' c' is,e=.returned (.slice A' n' c')/\is.map (·.1)=af oa (x.items.map (·.1))/\GoodIs W2.heap.size w'.heap.size w' (.slice A' n' c') is/\Below W2.heap.size W2 w'):=fun W hW=>(HE0 W (B2.out.trans (hW.mono B2.out.size))).mono fun e w' h=>by obtain⟨A',n',c',is,he,hp,hl,hb⟩:=h;exact⟨A',n',c',is,he,hp,hl.wider hW.size (aq _),hW.trans (hb.mono hW.size)⟩
 have HC:Hid (∀ W,Below W2.heap.size W2 W->Calls Tryz.prog 24 #[.slice D m d] W fun e w'=>∃ A' n' c',e=.returned (.slice A' n' c')/\LiveT W2.heap.size w'.heap.size w' (.slice A' n' c') (aD x.pend)/\Below W.heap.size W w'):=fun W hW=>(HC0 W (B2.out.trans (hW.mono B2.out.size))).mono fun e w' h=>by obtain⟨A',n',c',he,ho,hb⟩:=h;exact⟨A',n',c',he,ho.wider hW.size (aq _),hb⟩
 have HW1:=aa hW1;have HW2:=aa hW2;have HBX:=aa hbx;have HRB:=aa hrb1;have HSB:Hid (bx<W2.heap.size/\rb<W2.heap.size):=⟨K2.out.lt,R2.out.lt⟩;have cc2:W2.cell? ⟨bx,2,none⟩=some (.slice A n c):=K2.out.cell 2;have cc3:W2.cell? ⟨bx,3,none⟩=some (.slice D m d):=K2.out.cell 3;have ff2:W2.frozen? ⟨bx,2,none⟩=false:=K2.out.free 2;have ff3:W2.frozen? ⟨bx,3,none⟩=false:=K2.out.free 3;clear hW1 hW2 hbx hrb hrb1 k1 HE0 HC0;go_enter Tryz.func80,Tryz.ntmps80;go_upto_region 1 with fail
 (try rw[HW1.out]);(try rw[HBX.out]);(try rw[HRB.out]);(try rw[HW2.out]);go_region_law (first
  |(go_simp;go_at_call 108;refine(HE.out _ (aE _ _).drew).mono ?_;rintro e w3 ⟨A3,n3,c3,is,rfl,hm3,hl3,b3⟩;have g2:w3.cell? ⟨bx,2,none⟩=some (.slice A n c):=(K2.out.below b3 K2.out.lt).cell 2;have g3:w3.cell? ⟨bx,3,none⟩=some (.slice D m d):=(K2.out.below b3 K2.out.lt).cell 3)
  |(go_simp;go_at_call 24;refine(HC.out _ b3).mono ?_;rintro e w4 ⟨A4,n4,c4,rfl,hl4,b4⟩;have k2:w4.cell? ⟨bx,2,none⟩=some (.slice A n c):=(K2.out.below (b3.trans (b4.mono b3.size)) K2.out.lt).cell 2;have k3:w4.cell? ⟨bx,3,none⟩=some (.slice D m d):=(K2.out.below (b3.trans (b4.mono b3.size)) K2.out.lt).cell 3;have l2:w4.frozen? ⟨bx,2,none⟩=false:=(K2.out.below (b3.trans (b4.mono b3.size)) K2.out.lt).free 2;have l3:w4.frozen? ⟨bx,3,none⟩=false:=(K2.out.below (b3.trans (b4.mono b3.size)) K2.out.lt).free 3))
 all_goals
  obtain⟨w5,hw5⟩:=ac ((w4.setCell ⟨bx,2,none⟩ (.slice A3 n3 c3)).setCell ⟨bx,3,none⟩ (.slice A4 n4 c4));have B4:Hid (Below W2.heap.size W2 w4):=b3.trans (b4.mono b3.size);have K4:=K2.out.below B4.out K2.out.lt;have K5:Hid (Bk w5 bx 28 #[.string X,.string M,.slice A3 n3 c3,.slice A4 n4 c4]):=by unfold Hid;rw[<-hw5];have:=(K4.put 2 (.slice A3 n3 c3)).put 3 (.slice A4 n4 c4);simpa using this
  have R4:=R2.out.below B4.out R2.out.lt;have R5:Hid (Bk w5 rb 28 #[.string ⟨#[]⟩,.string ⟨#[]⟩,.slice none 0 0,.slice none 0 0]):=by rw[<-hw5];exact(R4.far (p:=⟨bx,2,none⟩) (by have:=HNE.out.1;show rb≠bx;omega) _).far (p:=⟨bx,3,none⟩) (by have:=HNE.out.1;show rb≠bx;omega) _
  have BW4:Below w.heap.size w w4:=B2.out.trans (B4.out.mono B2.out.size);have B5:Hid (Below w.heap.size w w5):=by rw[<-hw5];exact(BW4.setCell (p:=⟨bx,2,none⟩) HNE.out.2 _).setCell (p:=⟨bx,3,none⟩) HNE.out.2 _
  have U45:gW W2.heap.size w4.heap.size w4 w5:=fun b hb _=>by rw[<-hw5,Below.heap_setCell _ ⟨bx,3,none⟩ _ b (fun e=>by have h1:b=bx:=e;have:=HSB.out.1;omega),Below.heap_setCell _ ⟨bx,2,none⟩ _ b (fun e=>by have h1:b=bx:=e;have:=HSB.out.1;omega)]
  have hsz5:w5.heap.size=w4.heap.size:=by rw[<-hw5,World.size_setCell,World.size_setCell]
  have L5:Hid (GoodU W2.heap.size w4.heap.size w5 ⟨x.name,x.pw,is,(A3,n3,c3),aD x.pend,(A4,n4,c4)⟩):=by have h1:GoodIs W2.heap.size w4.heap.size w4 (.slice A3 n3 c3) is:=(hl3.upto (cO (C:=w3.heap.size) b4 (aq _))).wider (aq _) b4.size;exact⟨h1.upto U45,hl4.upto U45⟩
  have HPL:=aa (HY.out is A3 A4 n3 c3 n4 c4 hm3);have HAG:=aa (HEN.out is A3 A4 n3 c3 n4 c4);have HSZ:Hid (w.heap.size<=W2.heap.size/\w5.heap.size=w4.heap.size):=⟨B2.out.size,hsz5⟩;clear K4 R4 BW4 U45 hsz5 hl3 hl4 hm3 b3 b4 B4 g2 g3 k2 k3 l2 l3;(try rw[hw5]);clear hw5;have i0:w5.cell? ⟨bx,0,none⟩=some (.string X):=K5.out.cell 0;have i1:w5.cell? ⟨bx,1,none⟩=some (.string M):=K5.out.cell 1;have i2:w5.cell? ⟨bx,2,none⟩=some (.slice A3 n3 c3):=K5.out.cell 2;have i3:w5.cell? ⟨bx,3,none⟩=some (.slice A4 n4 c4):=K5.out.cell 3;have r0:w5.cell? ⟨rb,0,none⟩=some (.string ⟨#[]⟩):=R5.out.cell 0;have g0:w5.frozen? ⟨rb,0,none⟩=false:=R5.out.free 0;have r1:w5.cell? ⟨rb,1,none⟩=some (.string ⟨#[]⟩):=R5.out.cell 1;have g1:w5.frozen? ⟨rb,1,none⟩=false:=R5.out.free 1;have r2:w5.cell? ⟨rb,2,none⟩=some (.slice none 0 0):=R5.out.cell 2;have g2:w5.frozen? ⟨rb,2,none⟩=false:=R5.out.free 2;have r3:w5.cell? ⟨rb,3,none⟩=some (.slice none 0 0):=R5.out.cell 3;have g3:w5.frozen? ⟨rb,3,none⟩=false:=R5.out.free 3;have R6:=aa (bM R5.out (.string X) (.string M) (.slice A3 n3 c3) (.slice A4 n4 c4));have B6:=aa (aW B5.out (by have:=HNE.out;omega:w.heap.size<=rb) (.string X) (.string M) (.slice A3 n3 c3) (.slice A4 n4 c4));have L6:Hid (GoodU W2.heap.size w4.heap.size (bP w5 rb (.string X) (.string M) (.slice A3 n3 c3) (.slice A4 n4 c4)) ⟨x.name,x.pw,is,(A3,n3,c3),aD x.pend,(A4,n4,c4)⟩):=dY _ _ _ _ _ (fun b hb _=>aL rb [.string X,.string M,.slice A3 n3 c3,.slice A4 n4 c4] 0 w5 b (by have:=HSB.out.2;omega)) L5.out;have HSZ6:Hid ((bP w5 rb (.string X) (.string M) (.slice A3 n3 c3) (.slice A4 n4 c4)).heap.size=w5.heap.size):=bh rb [.string X,.string M,.slice A3 n3 c3,.slice A4 n4 c4] 0 w5;obtain⟨w6,hw6⟩:=ac (bP w5 rb (.string X) (.string M) (.slice A3 n3 c3) (.slice A4 n4 c4));rw[hw6] at R6 B6 L6 HSZ6;go_wp2_with fail
  (try rw[hw6]);have j0:w6.cell? ⟨rb,0,none⟩=some (.string X):=R6.out.cell 0;have j1:w6.cell? ⟨rb,1,none⟩=some (.string M):=R6.out.cell 1;have j2:w6.cell? ⟨rb,2,none⟩=some (.slice A3 n3 c3):=R6.out.cell 2;have j3:w6.cell? ⟨rb,3,none⟩=some (.slice A4 n4 c4):=R6.out.cell 3;refine bodyPost_ret (v:=.agg #[.string X,.string M,.slice A3 n3 c3,.slice A4 n4 c4]) (by simp[results,Tryz.results80,go_sem,j0,j1,j2,j3]) rfl ?_;exact⟨_,by rw[HAG.out],⟨HPL.out,dG _ _ _ _ _ _ HSZ.out.1 (by rw[HSZ6.out,HSZ.out.2];exact aq _) L6.out⟩,B6.out⟩
theorem mX (v:Value) (l:List bk) (w:World) (hO:Okw w) (hR:ReadU w v l) (hl:l.length<=1000000) (hs:∀ u∈l,nZ u):
 Calls Tryz.prog 63 #[v,.func (.func 80) #[] #[]] w fun e w'=>∃ A n cap l',e=.returned (.slice A n cap)/\l'.map cY=(l.map cY).map d9/\RowV ao 4 w'.heap.size w' (.slice A n cap) l'/\(∀ y∈l',GoodU w.heap.size w'.heap.size w' y)/\Below w.heap.size w w':=
 (mi AH (lH dY) (p8 dG) 80 (enters_of Tryz.func80 (by kernel_rfl) rfl) v l w hR.1 hl fun W hW x hx=>jW x W (hO.below hW) ((hR.2 x hx).upon hW) (hs x hx)).mono fun e w' h=>by obtain⟨A,cap,l',he,hm,hr,hg,hb⟩:=EachV.good (f:=d9) (pl:=cY) dG h;exact⟨A,_,cap,l',he,by rw[hm,List.map_map];rfl,hr,hg,hb⟩
theorem nO (v:Value) (l:List bk) (w:World) (hr:RowV ao 4 w.heap.size w v l) (hl:l.length<=1000000) {A:Nat} (hA:A<=w.heap.size) (hg:∀ y∈l,GoodU A w.heap.size w y):
 Calls Tryz.prog 79 #[.agg #[.int .i64 20,.func (.func 95) #[] #[],.func (.func 96) #[] #[]],v] w fun e w'=>∃ a n c l',e=.returned (.slice a n c)/\l'.map cY=af nj (l.map cY)/\RowIn ao 4 A w'.heap.size w' (.slice a n c) l'/\(∀ y∈l',GoodU A w'.heap.size w' y)/\Below w.heap.size w w':=by
 refine(nN yG xl 20 95 96 (enters_of Tryz.func95 (by kernel_rfl) rfl) v l w hr hl (fun W' _ x y=>sM x y W')).mono ?_;rintro e w' ⟨v',rfl,hR,hb⟩;have hI:=hR.rowIn encU_enc;obtain⟨a,cap,rfl,_⟩:=id hI;refine⟨a,_,cap,af yG l,rfl,(dP cY (lt:=yG) (lt':=nj) (fun _ _=>rfl) l).symm,hI.wider hA (aq _),fun y hy=>?_,hb⟩;exact dG _ _ _ _ _ _ (aq _) hb.size (dY _ _ _ _ _ (cO hb (aq _)) (hg y ((bQ l).mem_iff.1 hy)))
theorem jV (x:aN) (w:World) (hO:Okw w) (hI:ReadU w (sl x.uv) x.users) (hs:gS x):
 Calls Tryz.prog 45 #[.agg (aw x).toArray] w fun e w'=>∃ y,e=.returned (.agg (aw y).toArray)/\AG w.heap.size w'.heap.size w' x y/\Below w.heap.size w w':=by
 have HE0:=fun (W:World) (hW:Below w.heap.size w W)=>mX (sl x.uv) x.users W (hO.below hW) (hI.upon hW) hs.users hs.each
 have HY:Hid (∀ (us:List bk) (A:Option Addr) (n c:Nat),us.map cY=af nj ((x.users.map cY).map d9)->bD ⟨x.name,us,(A,n,c)⟩=er (bD x)):=fun us A n c h=>by unfold bD er;rw[h]
 have HEN:Hid (∀ (us:List bk) (A:Option Addr) (n c:Nat),(aw ⟨x.name,us,(A,n,c)⟩).toArray=#[.string (ae x.name),.slice A n c]):=fun _ _ _ _=>rfl
 have hx0:(aw x).toArray=#[.string (ae x.name),.slice x.uv.1 x.uv.2.1 x.uv.2.2]:=rfl;have h1:sl x.uv=.slice x.uv.1 x.uv.2.1 x.uv.2.2:=rfl;have HUL:=aa hs.users;rw[hx0];rw[h1] at HE0;obtain⟨X,hX⟩:=ac (ae x.name);rw[hX] at HEN ⊢;obtain⟨A,hA⟩:=ac x.uv.1;obtain⟨n,hn⟩:=ac x.uv.2.1;obtain⟨c,hc⟩:=ac x.uv.2.2;rw[hA,hn,hc] at HE0;rw[hA,hn,hc];clear hx0 h1 hX hA hn hc hI hs hO;obtain⟨W1,hW1⟩:=ac (w.alloc (.cells #[.string X,.slice A n c] 47));obtain⟨bx,hbx⟩:=ac w.heap.size;obtain⟨W2,hW2⟩:=ac (W1.alloc (.cells #[.string ⟨#[]⟩,.slice none 0 0] 47));obtain⟨rb,hrb1⟩:=ac (bx+1);have hrb:W1.heap.size=rb:=by rw[<-hW1,World.size_alloc,hbx,hrb1]
 have k1:Bk W1 bx 47 #[.string X,.slice A n c]:=by rw[<-hW1,<-hbx];exact Bk.new _ _ _
 have K2:Hid (Bk W2 bx 47 #[.string X,.slice A n c]):=by rw[<-hW2];exact k1.alloc _
 have R2:Hid (Bk W2 rb 47 #[.string ⟨#[]⟩,.slice none 0 0]):=by rw[<-hW2,<-hrb];exact Bk.new _ _ _
 have B2:Hid (Below w.heap.size w W2):=by rw[<-hW2,<-hW1];exact(bp _ _).alloc (by rw[World.size_alloc];omega) _
 have HNE:Hid (bx<rb/\w.heap.size<=bx):=by have:=k1.lt;unfold Hid;omega
 have HU:Hid (∀ W,Below W2.heap.size W2 W->Calls Tryz.prog 67 #[] W fun e w'=>e=.returned (.agg #[.int .i64 20,.func (.func 95) #[] #[],.func (.func 96) #[] #[]])/\Below W2.heap.size W2 w'):=fun W hW=>(lO W).mono fun e w' h=>⟨h.1,hW.trans (h.2.mono hW.size)⟩
 have HE:Hid (∀ W,Below W2.heap.size W2 W->Calls Tryz.prog 63 #[.slice A n c,.func (.func 80) #[] #[]] W fun e w'=>∃ A' n' c' us,e=.returned (.slice A' n' c')/\us.map cY=(x.users.map cY).map d9/\RowV ao 4 w'.heap.size w' (.slice A' n' c') us/\(∀ y∈us,GoodU W2.heap.size w'.heap.size w' y)/\Below W2.heap.size W2 w'):=fun W hW=>(HE0 W (B2.out.trans (hW.mono B2.out.size))).mono fun e w' h=>by obtain⟨A',n',c',us,he,hp,hr,hg,hb⟩:=h;exact⟨A',n',c',us,he,hp,hr,fun y hy=>dG _ _ _ _ _ _ hW.size (aq _) (hg y hy),hW.trans (hb.mono hW.size)⟩
 have HS:Hid (∀ (W:World) (us:List bk) (A':Option Addr) (n' c':Nat),Below W2.heap.size W2 W->us.map cY=(x.users.map cY).map d9->RowV ao 4 W.heap.size W (.slice A' n' c') us->(∀ y∈us,GoodU W2.heap.size W.heap.size W y)->Calls Tryz.prog 79 #[.agg #[.int .i64 20,.func (.func 95) #[] #[],.func (.func 96) #[] #[]],.slice A' n' c'] W fun e w'=>∃ a m d us',e=.returned (.slice a m d)/\us'.map cY=af nj ((x.users.map cY).map d9)/\GoodH W2.heap.size w'.heap.size w' ⟨x.name,us',(a,m,d)⟩/\Below W2.heap.size W2 w'):=fun W us A' n' c' hW hp hr hg=>(nO (.slice A' n' c') us W hr (by have h2:=congrArg List.length hp;rw[cr,cr,cr] at h2;rw[h2];exact HUL.out) hW.size hg).mono fun e w' h=>by obtain⟨a,m,d,us',he,hp',hr',hg',hb⟩:=h;exact⟨a,m,d,us',he,by rw[hp',hp],⟨hr',hg'⟩,hW.trans (hb.mono hW.size)⟩
 have HW1:=aa hW1;have HW2:=aa hW2;have HBX:=aa hbx;have HRB:=aa hrb1;have HSB:Hid (bx<W2.heap.size/\rb<W2.heap.size):=⟨K2.out.lt,R2.out.lt⟩;have c1:W2.cell? ⟨bx,1,none⟩=some (.slice A n c):=K2.out.cell 1;clear hW1 hW2 hbx hrb hrb1 k1 HE0;go_enter Tryz.func45,Tryz.ntmps45;go_upto_region 1 with fail
 (try rw[HW1.out]);(try rw[HBX.out]);(try rw[HRB.out]);(try rw[HW2.out]);go_region_law (first
  |(go_simp;go_at_call 67;refine(HU.out _ (aE _ _).drew).mono ?_;rintro e w3 ⟨rfl,b3⟩;have g1:w3.cell? ⟨bx,1,none⟩=some (.slice A n c):=(K2.out.below b3 K2.out.lt).cell 1)
  |(go_simp;go_at_call 63;refine(HE.out _ b3).mono ?_;rintro e w4 ⟨A4,n4,c4,us4,rfl,hm4,hr4,hg4,b4⟩;have k1:w4.cell? ⟨bx,1,none⟩=some (.slice A n c):=(K2.out.below b4 K2.out.lt).cell 1)
  |(go_simp;go_at_call 79;refine(HS.out _ us4 A4 n4 c4 b4 hm4 hr4 hg4).mono ?_;rintro e w5 ⟨A5,n5,c5,us,rfl,hm5,hl5,b5⟩;have l1:w5.cell? ⟨bx,1,none⟩=some (.slice A n c):=(K2.out.below b5 K2.out.lt).cell 1;have m1:w5.frozen? ⟨bx,1,none⟩=false:=(K2.out.below b5 K2.out.lt).free 1))
 all_goals
  have K4:=K2.out.below b5 K2.out.lt;have R4:=R2.out.below b5 R2.out.lt;obtain⟨w6,hw6⟩:=ac (w5.setCell ⟨bx,1,none⟩ (.slice A5 n5 c5));have K5:Hid (Bk w6 bx 47 #[.string X,.slice A5 n5 c5]):=by unfold Hid;rw[<-hw6];have:=K4.put 1 (.slice A5 n5 c5);simpa using this
  have R5:Hid (Bk w6 rb 47 #[.string ⟨#[]⟩,.slice none 0 0]):=by rw[<-hw6];exact R4.far (p:=⟨bx,1,none⟩) (by have:=HNE.out.1;show rb≠bx;omega) _
  have BW5:Below w.heap.size w w5:=B2.out.trans (b5.mono B2.out.size);have B6:Hid (Below w.heap.size w w6):=by rw[<-hw6];exact BW5.setCell (p:=⟨bx,1,none⟩) HNE.out.2 _
  have U56:gW W2.heap.size w5.heap.size w5 w6:=fun b hb _=>by rw[<-hw6,Below.heap_setCell _ ⟨bx,1,none⟩ _ b (fun e=>by have h1:b=bx:=e;have:=HSB.out.1;omega)]
  have hsz6:w6.heap.size=w5.heap.size:=by rw[<-hw6,World.size_setCell]
  have L6:Hid (GoodH W2.heap.size w5.heap.size w6 ⟨x.name,us,(A5,n5,c5)⟩):=dy _ _ _ _ _ U56 hl5;have HPL:=aa (HY.out us A5 n5 c5 hm5);have HAG:=aa (HEN.out us A5 n5 c5);have HSZ:Hid (w.heap.size<=W2.heap.size/\w6.heap.size=w5.heap.size):=⟨B2.out.size,hsz6⟩;clear K4 R4 BW5 U56 hsz6 hl5 hm5 b5 b4 b3 g1 k1 l1 m1 hm4 hr4 hg4 c1;(try rw[hw6]);clear hw6;have i0:w6.cell? ⟨bx,0,none⟩=some (.string X):=K5.out.cell 0;have i1:w6.cell? ⟨bx,1,none⟩=some (.slice A5 n5 c5):=K5.out.cell 1;have r0:w6.cell? ⟨rb,0,none⟩=some (.string ⟨#[]⟩):=R5.out.cell 0;have g0:w6.frozen? ⟨rb,0,none⟩=false:=R5.out.free 0;have r1:w6.cell? ⟨rb,1,none⟩=some (.slice none 0 0):=R5.out.cell 1;have g1:w6.frozen? ⟨rb,1,none⟩=false:=R5.out.free 1;have R6:=aa (dI R5.out (.string X) (.slice A5 n5 c5));have B7:=aa (cw B6.out (by have:=HNE.out;omega:w.heap.size<=rb) (.string X) (.slice A5 n5 c5));have L7:Hid (GoodH W2.heap.size w5.heap.size (dz w6 rb (.string X) (.slice A5 n5 c5)) ⟨x.name,us,(A5,n5,c5)⟩):=dy _ _ _ _ _ (fun b hb _=>aL rb [.string X,.slice A5 n5 c5] 0 w6 b (by have:=HSB.out.2;omega)) L6.out;have HSZ6:Hid ((dz w6 rb (.string X) (.slice A5 n5 c5)).heap.size=w6.heap.size):=bh rb [.string X,.slice A5 n5 c5] 0 w6;obtain⟨w7,hw7⟩:=ac (dz w6 rb (.string X) (.slice A5 n5 c5));rw[hw7] at R6 B7 L7 HSZ6;go_wp2_with fail
  (try rw[hw7]);have j0:w7.cell? ⟨rb,0,none⟩=some (.string X):=R6.out.cell 0;have j1:w7.cell? ⟨rb,1,none⟩=some (.slice A5 n5 c5):=R6.out.cell 1;refine bodyPost_ret (v:=.agg #[.string X,.slice A5 n5 c5]) (by simp[results,Tryz.results45,go_sem,j0,j1]) rfl ?_;exact⟨_,by rw[HAG.out],⟨HPL.out,ek _ _ _ _ _ _ HSZ.out.1 (by rw[HSZ6.out,HSZ.out.2];exact aq _) L7.out⟩,B7.out⟩
theorem mW (v:Value) (l:List aN) (w:World) (hO:Okw w) (hR:ReadH w v l) (hl:l.length<=1000000) (hs:∀ x∈l,gS x):
 Calls Tryz.prog 33 #[v,.func (.func 45) #[] #[]] w fun e w'=>∃ A n cap l',e=.returned (.slice A n cap)/\l'.map bD=(l.map bD).map er/\RowV aw 2 w'.heap.size w' (.slice A n cap) l'/\(∀ y∈l',GoodH w.heap.size w'.heap.size w' y)/\Below w.heap.size w w':=
 (mh AG (lH dy) (p8 ek) 45 (enters_of Tryz.func45 (by kernel_rfl) rfl) v l w hR.1 hl fun W hW x hx=>jV x W (hO.below hW) ((hR.2 x hx).upon hW) (hs x hx)).mono fun e w' h=>by obtain⟨A,cap,l',he,hm,hr,hg,hb⟩:=EachV.good (f:=er) (pl:=bD) ek h;exact⟨A,_,cap,l',he,by rw[hm,List.map_map];rfl,hr,hg,hb⟩
theorem nK (v:Value) (l:List aN) (w:World) (hr:RowV aw 2 w.heap.size w v l) (hl:l.length<=1000000) {A:Nat} (hA:A<=w.heap.size) (hg:∀ y∈l,GoodH A w.heap.size w y):
 Calls Tryz.prog 44 #[.agg #[.int .i64 5,.func (.func 64) #[] #[],.func (.func 65) #[] #[]],v] w fun e w'=>∃ a n c l',e=.returned (.slice a n c)/\l'.map bD=af ni (l.map bD)/\GoodS A w'.heap.size w' (.slice a n c) l'/\Below w.heap.size w w':=by
 refine(nL yF xd 5 64 65 (enters_of Tryz.func64 (by kernel_rfl) rfl) v l w hr hl (fun W' _ x y=>sL x y W')).mono ?_;rintro e w' ⟨v',rfl,hR,hb⟩;have hI:=hR.rowIn encH_enc;obtain⟨a,cap,rfl,_⟩:=id hI;refine⟨a,_,cap,af yF l,rfl,(dP bD (lt:=yF) (lt':=ni) (fun _ _=>rfl) l).symm,⟨hI.wider hA (aq _),fun y hy=>?_⟩,hb⟩;exact ek _ _ _ _ _ _ (aq _) hb.size (dy _ _ _ _ _ (cO hb (aq _)) (hg y ((bQ l).mem_iff.1 hy)))
def kg (l:List aN) (w:World) (e:Ending) (w':World):Prop:=∃ v l',e=.returned (.agg #[v])/\ReadH w' v l'/\l'.map bD=fs (l.map bD)/\Below w.heap.size w w'
theorem j8 {l m:List aN} (h:m.map bD=fs (l.map bD)) (hs:∀ x∈l,gS x):∀ x∈m,gS x:=fun x hx=>by
 have hp:(m.map bD).Perm ((l.map bD).map er):=by rw[h];exact bQ _
 obtain⟨q,hq,e⟩:=List.mem_map.1 (hp.mem_iff.1 (List.mem_map.2 ⟨x,hx,rfl⟩));obtain⟨z,hz,rfl⟩:=List.mem_map.1 hq;exact zu e.symm (hs z hz)
theorem iB {l m:List aN} (h:m.map bD=fs (l.map bD)):m.length=l.length:=by have:=congrArg List.length h;rw[cr,fs,aI,cr,cr] at this;exact this
theorem gp (v:Value) (l:List aN) (w:World) (hO:Okw w) (hR:ReadH w v l) (hl:l.length<=1000000) (hs:∀ x∈l,gS x):
 Calls Tryz.prog 21 #[.agg #[v]] w fun e w'=>kg l w e w':=by
 have HE0:=fun (W:World) (hW:Below w.heap.size w W)=>mW v l W (hO.below hW) (hR.upon hW) hl hs
 obtain⟨A,n,c,rfl⟩:∃ a n c,v=.slice a n c:=by obtain⟨⟨A,cap,hv,_⟩,_⟩:=hR;exact⟨A,_,cap,hv⟩
 have HUL:=aa hl;clear hR hs hO hl;obtain⟨W1,hW1⟩:=ac (w.alloc (.cells #[.slice A n c] 24));obtain⟨bx,hbx⟩:=ac w.heap.size;obtain⟨W2,hW2⟩:=ac (W1.alloc (.cells #[.slice none 0 0] 24));obtain⟨rb,hrb1⟩:=ac (bx+1);have hrb:W1.heap.size=rb:=by rw[<-hW1,World.size_alloc,hbx,hrb1]
 have k1:Bk W1 bx 24 #[.slice A n c]:=by rw[<-hW1,<-hbx];exact Bk.new _ _ _
 have K2:Hid (Bk W2 bx 24 #[.slice A n c]):=by rw[<-hW2];exact k1.alloc _
 have R2:Hid (Bk W2 rb 24 #[.slice none 0 0]):=by rw[<-hW2,<-hrb];exact Bk.new _ _ _
 have B2:Hid (Below w.heap.size w W2):=by rw[<-hW2,<-hW1];exact(bp _ _).alloc (by rw[World.size_alloc];omega) _
 have HNE:Hid (bx<rb/\w.heap.size<=bx):=by have:=k1.lt;unfold Hid;omega
 have HU:Hid (∀ W,Below W2.heap.size W2 W->Calls Tryz.prog 35 #[] W fun e w'=>e=.returned (.agg #[.int .i64 5,.func (.func 64) #[] #[],.func (.func 65) #[] #[]])/\Below W2.heap.size W2 w'):=fun W hW=>(lw W).mono fun e w' h=>⟨h.1,hW.trans (h.2.mono hW.size)⟩
 have HE:Hid (∀ W,Below W2.heap.size W2 W->Calls Tryz.prog 33 #[.slice A n c,.func (.func 45) #[] #[]] W fun e w'=>∃ A' n' c' us,e=.returned (.slice A' n' c')/\us.map bD=(l.map bD).map er/\RowV aw 2 w'.heap.size w' (.slice A' n' c') us/\(∀ y∈us,GoodH W2.heap.size w'.heap.size w' y)/\Below W2.heap.size W2 w'):=fun W hW=>(HE0 W (B2.out.trans (hW.mono B2.out.size))).mono fun e w' h=>by obtain⟨A',n',c',us,he,hp,hr,hg,hb⟩:=h;exact⟨A',n',c',us,he,hp,hr,fun y hy=>ek _ _ _ _ _ _ hW.size (aq _) (hg y hy),hW.trans (hb.mono hW.size)⟩
 have HS:Hid (∀ (W:World) (us:List aN) (A':Option Addr) (n' c':Nat),Below W2.heap.size W2 W->us.map bD=(l.map bD).map er->RowV aw 2 W.heap.size W (.slice A' n' c') us->(∀ y∈us,GoodH W2.heap.size W.heap.size W y)->Calls Tryz.prog 44 #[.agg #[.int .i64 5,.func (.func 64) #[] #[],.func (.func 65) #[] #[]],.slice A' n' c'] W fun e w'=>∃ a m d us',e=.returned (.slice a m d)/\us'.map bD=fs (l.map bD)/\GoodS W2.heap.size w'.heap.size w' (.slice a m d) us'/\Below W2.heap.size W2 w'):=fun W us A' n' c' hW hp hr hg=>(nK (.slice A' n' c') us W hr (by have h2:=congrArg List.length hp;rw[cr,cr,cr] at h2;rw[h2];exact HUL.out) hW.size hg).mono fun e w' h=>by obtain⟨a,m,d,us',he,hp',hr',hb⟩:=h;exact⟨a,m,d,us',he,by rw[hp',hp];rfl,hr',hW.trans (hb.mono hW.size)⟩
 have HW1:=aa hW1;have HW2:=aa hW2;have HBX:=aa hbx;have HRB:=aa hrb1;have HSB:Hid (bx<W2.heap.size/\rb<W2.heap.size):=⟨K2.out.lt,R2.out.lt⟩;have c1:W2.cell? ⟨bx,0,none⟩=some (.slice A n c):=K2.out.cell 0;have d1:W2.frozen? ⟨rb,0,none⟩=false:=R2.out.free 0;clear hW1 hW2 hbx hrb hrb1 k1 HE0;go_enter Tryz.func21,Tryz.ntmps21;go_upto_region 1 with fail
 (try rw[HW1.out]);(try rw[HBX.out]);(try rw[HRB.out]);(try rw[HW2.out]);go_region_law (first
  |(go_simp;go_at_call 35;refine(HU.out _ (aE _ _).drew).mono ?_;rintro e w3 ⟨rfl,b3⟩;have g1:w3.cell? ⟨bx,0,none⟩=some (.slice A n c):=(K2.out.below b3 K2.out.lt).cell 0)
  |(go_simp;go_at_call 33;refine(HE.out _ b3).mono ?_;rintro e w4 ⟨A4,n4,c4,us4,rfl,hm4,hr4,hg4,b4⟩;have k1:w4.cell? ⟨bx,0,none⟩=some (.slice A n c):=(K2.out.below b4 K2.out.lt).cell 0)
  |(go_simp;go_at_call 44;refine(HS.out _ us4 A4 n4 c4 b4 hm4 hr4 hg4).mono ?_;rintro e w5 ⟨A5,n5,c5,us,rfl,hm5,hl5,b5⟩;have l1:w5.cell? ⟨rb,0,none⟩=some (.slice none 0 0):=(R2.out.below b5 R2.out.lt).cell 0;have m1:w5.frozen? ⟨rb,0,none⟩=false:=(R2.out.below b5 R2.out.lt).free 0))
 all_goals
  have R6:=aa (dH (R2.out.below b5 R2.out.lt) (.slice A5 n5 c5));have B7:Hid (Below w.heap.size w (cM w5 rb (.slice A5 n5 c5))):=bV (B2.out.trans (b5.mono B2.out.size)) (by have:=HNE.out;omega:w.heap.size<=rb) (.slice A5 n5 c5);have L7:Hid (Below W2.heap.size W2 w5):=b5;have HR5:=aa hl5;have HM5:=aa hm5;obtain⟨w7,hw7⟩:=ac (cM w5 rb (.slice A5 n5 c5));have G7:Hid (GoodS W2.heap.size w5.heap.size w7 (.slice A5 n5 c5) us):=by unfold Hid;rw[<-hw7];exact hl5.upto fun b hb _=>aL rb [.slice A5 n5 c5] 0 w5 b (by have:=HSB.out.2;omega)
  have S7:Hid (w5.heap.size<=w7.heap.size):=by unfold Hid;rw[<-hw7];exact Nat.le_of_eq (bh rb [.slice A5 n5 c5] 0 w5).symm
  rw[hw7] at R6 B7;clear b5 b4 b3 hl5 hm5 hm4 hr4 hg4;have hw8:w5.setCell ⟨rb,0,none⟩ (.slice A5 n5 c5)=w7:=hw7;(try rw[hw8]);clear hw7 hw8;go_wp2_with fail
  have j0:w7.cell? ⟨rb,0,none⟩=some (.slice A5 n5 c5):=R6.out.cell 0;refine bodyPost_ret (v:=.agg #[.slice A5 n5 c5]) (by simp[results,Tryz.results21,go_sem,j0]) rfl ?_;exact⟨_,us,rfl,G7.out.reads S7.out,HM5.out,B7.out⟩
end Go.Proofs.YtbgaglcgennhiaaGreatDoor
