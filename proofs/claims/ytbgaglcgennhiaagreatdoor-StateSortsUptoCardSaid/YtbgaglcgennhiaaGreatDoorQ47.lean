import Derived.Test.YtbgaglcgennhiaaGreatDoorQ44
import Derived.Test.YtbgaglcgennhiaaGreatDoorQ46
set_option maxHeartbeats 8000000
set_option maxRecDepth 100000
namespace Go.Proofs.YtbgaglcgennhiaaGreatDoor
section
open Go.RowKit Go.Sort Tx Ct
theorem qP {x:bj} {n:Nat} (h:cI x<=n) (hn:n<=1000000):Ax x/\AE x:=by have h0:cI x=5+x.jid.length+x.name.length+aR x.groups:=rfl;have h1:=fe x.groups;exact⟨⟨by omega,by omega,by omega,fun g hg=>by have:=ff hg;omega⟩,⟨by omega,by omega,by omega,fun g hg=>by have:=ff hg;omega⟩⟩
theorem qR {u:bk} {n:Nat} (h:bJ u<=n) (hn:n<=1000000):nZ u/\AF u:=by
 have h0:bJ u=5+u.name.length+u.pw.length+aR u.pend+cQ u.items:=rfl;have h1:=fe u.pend;have h2:=jw u.items;have h3:∀ p∈u.items,Ax p.1/\AE p.1:=fun p hp=>qP (n:=n) (by have:=jx hp;omega) hn
 exact⟨⟨by omega,by omega,by omega,fun p hp=>(h3 p hp).1,by omega,fun t ht=>by have:=ff ht;omega⟩,⟨by omega,by omega,fun p hp=>(h3 p hp).2,by omega,fun t ht=>by have:=ff ht;omega⟩⟩
theorem ee {hs:List aN} {n:Nat} (h:cK hs<=n) (hn:n<=1000000):hs.length<=1000000/\(∀ x∈hs,gS x)/\∀ x∈hs,x.users.length<=1000000/\∀ u∈x.users,AF u:=by
 have h0:∀ x∈hs,1+x.name.length+(x.users.map bJ).sum<=n:=fun x hx=>by have h1:cg x<=cK hs:=qQ hx;have h2:cg x=1+x.name.length+(x.users.map bJ).sum:=rfl;omega
 have h3:∀ x∈hs,∀ u∈x.users,nZ u/\AF u:=fun x hx u hu=>qR (n:=n) (by have:=h0 x hx;have:=iN bJ hu;omega) hn
 refine⟨by have:=kO hs;omega,fun x hx=>⟨by have:=h0 x hx;omega,by have:=h0 x hx;have:=fI x.users;omega,fun u hu=>(h3 x hx u hu).1⟩,fun x hx=>⟨by have:=h0 x hx;have:=fI x.users;omega,fun u hu=>(h3 x hx u hu).2⟩⟩
structure OneS (B:Nat) (W:World) (ib pb ub hb:Nat):Prop where
 ki:Bk W ib 53 #[.string ⟨#[98,64,104]⟩,.string ⟨#[]⟩,.slice none 0 0,.int .i64 0,.bool false,.bool false,.string ⟨#[99,64,104]⟩,.string ⟨#[]⟩,.slice none 0 0,.int .i64 2,.bool false,.bool false]
 kp:Bk W pb 9 #[.string ⟨#[100,64,104]⟩]
 ku:Bk W ub 28 #[.string ⟨#[97]⟩,.string ⟨#[112]⟩,.slice (some ⟨ib,0,none⟩) 2 2,.slice (some ⟨pb,0,none⟩) 1 1]
 kh:Bk W hb 47 #[.string ⟨#[104]⟩,.slice (some ⟨ub,0,none⟩) 1 1]
 low:B<=ib
 ip:ib<pb
 pu:pb<ub
 uh:ub<hb
theorem np (w:World):Calls Tryz.prog 28 #[] w fun e w'=>∃ ib pb ub hb,e=.returned (.agg #[.slice (some ⟨hb,0,none⟩) 1 1])/\OneS w.heap.size w' ib pb ub hb/\Below w.heap.size w w':=by
 obtain⟨W0,hW0⟩:=ac (w.alloc (.cells #[.slice none 0 0] 24));obtain⟨rb,hrb⟩:=ac w.heap.size;have K0:Bk W0 rb 24 #[.slice none 0 0]:=by rw[<-hW0,<-hrb];exact Bk.new _ _ _
 have z0:W0.heap.size=rb+1:=by rw[<-hW0,World.size_alloc,hrb]
 have B0:Below rb w W0:=by rw[<-hW0,<-hrb];exact bp _ _
 obtain⟨ib,hib⟩:=ac (rb+1);obtain⟨pb,hpb⟩:=ac (ib+1);obtain⟨ub,hub⟩:=ac (pb+1);obtain⟨hb,hhb⟩:=ac (ub+1);obtain⟨W1,hW1⟩:=ac (W0.alloc (.cells #[.string ⟨#[98,64,104]⟩,.string ⟨#[]⟩,.slice none 0 0,.int .i64 0,.bool false,.bool false,.string ⟨#[99,64,104]⟩,.string ⟨#[]⟩,.slice none 0 0,.int .i64 2,.bool false,.bool false] 53));have s0:W0.heap.size=ib:=by rw[z0,hib]
 have K1:Bk W1 ib 53 #[.string ⟨#[98,64,104]⟩,.string ⟨#[]⟩,.slice none 0 0,.int .i64 0,.bool false,.bool false,.string ⟨#[99,64,104]⟩,.string ⟨#[]⟩,.slice none 0 0,.int .i64 2,.bool false,.bool false]:=by rw[<-hW1,<-s0];exact Bk.new _ _ _
 have z1:W1.heap.size=ib+1:=by rw[<-hW1,World.size_alloc,s0]
 have B1:Below rb w W1:=by rw[<-hW1];exact B0.alloc (by omega) _
 obtain⟨W2,hW2⟩:=ac (W1.alloc (.cells #[.string ⟨#[100,64,104]⟩] 9));have s1:W1.heap.size=pb:=by rw[z1,hpb]
 have K2:Bk W2 pb 9 #[.string ⟨#[100,64,104]⟩]:=by rw[<-hW2,<-s1];exact Bk.new _ _ _
 have z2:W2.heap.size=pb+1:=by rw[<-hW2,World.size_alloc,s1]
 have B2:Below rb w W2:=by rw[<-hW2];exact B1.alloc (by omega) _
 obtain⟨W3,hW3⟩:=ac (W2.alloc (.cells #[.string ⟨#[97]⟩,.string ⟨#[112]⟩,.slice (some ⟨ib,0,none⟩) 2 2,.slice (some ⟨pb,0,none⟩) 1 1] 28));have s2:W2.heap.size=ub:=by rw[z2,hub]
 have K3:Bk W3 ub 28 #[.string ⟨#[97]⟩,.string ⟨#[112]⟩,.slice (some ⟨ib,0,none⟩) 2 2,.slice (some ⟨pb,0,none⟩) 1 1]:=by rw[<-hW3,<-s2];exact Bk.new _ _ _
 have z3:W3.heap.size=ub+1:=by rw[<-hW3,World.size_alloc,s2]
 have B3:Below rb w W3:=by rw[<-hW3];exact B2.alloc (by omega) _
 obtain⟨W4,hW4⟩:=ac (W3.alloc (.cells #[.string ⟨#[104]⟩,.slice (some ⟨ub,0,none⟩) 1 1] 47));have s3:W3.heap.size=hb:=by rw[z3,hhb]
 have K4:Bk W4 hb 47 #[.string ⟨#[104]⟩,.slice (some ⟨ub,0,none⟩) 1 1]:=by rw[<-hW4,<-s3];exact Bk.new _ _ _
 have z4:W4.heap.size=hb+1:=by rw[<-hW4,World.size_alloc,s3]
 have B4:Below rb w W4:=by rw[<-hW4];exact B3.alloc (by omega) _
 have k0:Bk W4 rb 24 #[.slice none 0 0]:=by rw[<-hW4,<-hW3,<-hW2,<-hW1];exact(((K0.alloc _).alloc _).alloc _).alloc _
 have k1:Bk W4 ib 53 #[.string ⟨#[98,64,104]⟩,.string ⟨#[]⟩,.slice none 0 0,.int .i64 0,.bool false,.bool false,.string ⟨#[99,64,104]⟩,.string ⟨#[]⟩,.slice none 0 0,.int .i64 2,.bool false,.bool false]:=by rw[<-hW4,<-hW3,<-hW2];exact((K1.alloc _).alloc _).alloc _
 have k2:Bk W4 pb 9 #[.string ⟨#[100,64,104]⟩]:=by rw[<-hW4,<-hW3];exact(K2.alloc _).alloc _
 have k3:Bk W4 ub 28 #[.string ⟨#[97]⟩,.string ⟨#[112]⟩,.slice (some ⟨ib,0,none⟩) 2 2,.slice (some ⟨pb,0,none⟩) 1 1]:=by rw[<-hW4];exact K3.alloc _
 have c0:W4.cell? ⟨rb,0,none⟩=some (.slice none 0 0):=k0.cell 0;have f0:W4.frozen? ⟨rb,0,none⟩=false:=k0.free 0;have R5:=aa (dH k0 (.slice (some ⟨hb,0,none⟩) 1 1));have B5:Hid (Below w.heap.size w (cM W4 rb (.slice (some ⟨hb,0,none⟩) 1 1))):=bV (by rw[hrb];exact B4) (by omega) _;have O5:Hid (OneS w.heap.size (cM W4 rb (.slice (some ⟨hb,0,none⟩) 1 1)) ib pb ub hb):=⟨k1.far (p:=⟨rb,0,none⟩) (by show ib≠rb;omega) _,k2.far (p:=⟨rb,0,none⟩) (by show pb≠rb;omega) _,k3.far (p:=⟨rb,0,none⟩) (by show ub≠rb;omega) _,K4.far (p:=⟨rb,0,none⟩) (by show hb≠rb;omega) _,by omega,by omega,by omega,by omega⟩;obtain⟨w5,hw5⟩:=ac (cM W4 rb (.slice (some ⟨hb,0,none⟩) 1 1));rw[hw5] at R5 B5 O5;clear k0 k1 k2 k3 K0 K1 K2 K3 K4 B0 B1 B2 B3 B4;go_enter Tryz.func28,Tryz.ntmps28;go_wp2_with fail
 (try rw[hw5]);have j0:w5.cell? ⟨rb,0,none⟩=some (.slice (some ⟨hb,0,none⟩) 1 1):=R5.out.cell 0;refine bodyPost_ret (v:=.agg #[.slice (some ⟨hb,0,none⟩) 1 1]) (by simp[results,Tryz.results28,go_sem,j0]) rfl ?_;exact⟨ib,pb,ub,hb,rfl,O5.out,B5.out⟩
def so (ib pb:Nat):bk:=tR [97] [112] [98,64,104] [99,64,104] false [[100,64,104]] (none,0,0) (none,0,0) (some ⟨ib,0,none⟩,2,2) (some ⟨pb,0,none⟩,1,1)
def fH (ib pb ub:Nat):aN:=⟨[104],[so ib pb],(some ⟨ub,0,none⟩,1,1)⟩
theorem ze (a b:bj) (ha:a.groups=[]) (hb:b.groups=[]):NoG [(a,none,0,0),(b,none,0,0)]:=fun p hp=>by
 rcases List.mem_cons.1 hp with rfl|hp
 ·exact⟨ha,rfl⟩
 ·obtain rfl:=List.mem_singleton.1 hp;exact⟨hb,rfl⟩
theorem OneS.reads {B:Nat} {W:World} {ib pb ub hb:Nat} (h:OneS B W ib pb ub hb):ReadH W (.slice (some ⟨hb,0,none⟩) 1 1) [fH ib pb ub]:=by have rI:RowB az 6 53 W ib (so ib pb).items:=j7 h.ki rfl (fun _=>rfl);have rP:RowB lU 1 9 W pb (so ib pb).pend:=j7 h.kp rfl (fun _=>rfl);have rU:RowB ao 4 28 W ub [so ib pb]:=j7 h.ku rfl (fun _=>rfl);have rH:RowB aw 2 47 W hb [fH ib pb ub]:=j7 h.kh rfl (fun _=>rfl);refine⟨rH.row rH.lt 1 1 rfl,fun x hx=>?_⟩;obtain rfl:=List.mem_singleton.1 hx;refine⟨rU.row rU.lt 1 1 rfl,fun u hu=>?_⟩;obtain rfl:=List.mem_singleton.1 hu;exact⟨lk (rI.row rI.lt 2 2 rfl) (ze _ _ rfl rfl),ur (rP.row rP.lt 1 1 rfl)⟩
theorem x8 (j:List UInt8) (s:Int) (a b:Bool) (hj:j.length<=1000):Ax (yH j s a b):=⟨co hj (by decide),bI _,bI _,fun g hg=>absurd hg (by simp[yH])⟩
theorem zt (n pw j0 j1:List UInt8) (app:Bool) (ps:List (List UInt8)) (q0 q1 iv pv:bB) (h1:n.length<=1000) (h2:pw.length<=1000) (h3:j0.length<=1000) (h4:j1.length<=1000) (h5:ps.length<=1000) (h6:∀ t∈ps,t.length<=1000):nZ (tR n pw j0 j1 app ps q0 q1 iv pv):=by
 refine⟨co h1 (by decide),co h2 (by decide),by simp[tR],fun p hp=>?_,co h5 (by decide),fun t ht=>co (h6 t ht) (by decide)⟩;have hp2:p∈[(yH j0 0 false false,q0),(yH j1 2 false app,q1)]:=hp;rcases List.mem_cons.1 hp2 with rfl|hp2
 ·exact x8 _ _ _ _ h3
 ·obtain rfl:=List.mem_singleton.1 hp2;exact x8 _ _ _ _ h4
theorem nJ (ib pb ub:Nat):∀ h∈[fH ib pb ub],gS h:=fun h hh=>by obtain rfl:=List.mem_singleton.1 hh;refine⟨by simp[fH],by simp[fH],fun u hu=>?_⟩;have hu2:u∈[so ib pb]:=hu;obtain rfl:=List.mem_singleton.1 hu2;exact zt _ _ _ _ _ _ _ _ _ _ (by decide) (by decide) (by decide) (by decide) (by decide) (fun t ht=>by obtain rfl:=List.mem_singleton.1 ht;decide)
theorem mj {ib pb ub i k:Nat} {s:List UInt8} {h:aN} {u:bk} (hf:FirstU [fH ib pb ub] s i k h u):i=0/\k=0/\h=fH ib pb ub/\u=so ib pb:=by
 have hi:=(cD hf.host).1;obtain rfl:i=0:=by simpa using hi
 obtain rfl:fH ib pb ub=h:=by simpa using hf.host
 have hk:=(cD hf.user).1;obtain rfl:k=0:=by simpa [fH] using hk
 exact⟨rfl,rfl,rfl,by simpa [fH] using hf.user.symm⟩
theorem xu {ib pb ub:Nat}:¬ NoU [fH ib pb ub] [97,64,104]:=fun h=>h _ List.mem_cons_self _ List.mem_cons_self rfl
theorem pp {α:Type} {l:List α} (h:l.length=1):∃ x,l=[x]:=List.length_eq_one_iff.1 h
theorem zl {ib pb ub:Nat} {u:bk} {l':List aN} (hu:u=⟨[],[113],[],(none,0,0),[],(none,0,0)⟩) (h:l'.map bD=zk [fH ib pb ub] 0 0 (fH ib pb ub) (so ib pb) u):∃ h' u',l'=[h']/\h'.users=[u']/\u'.name=[97]/\u'.pw=[113]:=by
 subst hu;have hl:l'.length=1:=by have:=congrArg List.length h;simpa [zk] using this
 obtain⟨h',rfl⟩:=pp hl;have h2:bD h'=([104],[([97],[113],[],[])]):=by have:[bD h']=[([104],[([97],[113],[],[])])]:=h;exact(List.cons.inj this).1
 have h3:h'.users.map cY=[([97],[113],[],[])]:=congrArg Prod.snd h2;have hl2:h'.users.length=1:=by have:=congrArg List.length h3;simpa using this
 obtain⟨u',hu'⟩:=pp hl2;rw[hu'] at h3;have h4:cY u'=([97],[113],[],[]):=(List.cons.inj h3).1;exact⟨h',u',rfl,hu',congrArg Prod.fst h4,congrArg (fun z=>z.2.1) h4⟩
theorem xZ (w:World) (hO:Okw w) (hT:Tabs w):Calls Tryz.prog 11 #[] w fun e w'=>e=.returned (.bool true)/\Below w.heap.size w w':=by
 have HO:=aa hO;have HT:=aa hT;clear hO hT;go_enter Tryz.func11,Tryz.ntmps11;go_wp2_with fail
 refine(np _).mono ?_;rintro e w1 ⟨ib,pb,ub,hb,rfl,o1,b1⟩;have B1:=aa b1;have HF1:=aa (uN (.slice (some ⟨hb,0,none⟩) 1 1) [fH ib pb ub] [97,64,104] w1 o1.reads (by simp) (nJ ib pb ub) (by simp));clear b1 o1;go_wp2_with fail
 refine HF1.out.mono ?_;rintro e w2 ⟨b2,h2⟩;have B2:=aa (B1.out.trans (b2.mono B1.out.size));clear b2;rcases h2 with ⟨hno,_⟩|⟨i,k,h,u,y,hf,rfl,hpl,_⟩
 ·exact absurd hno xu
 obtain⟨_,_,_,rfl⟩:=mj hf;clear hf;have hpw:y.pw=[112]:=congrArg (fun z=>z.2.1) hpl;clear hpl;obtain⟨yj,ym,yis,⟨A2,n2,c2⟩,yps,⟨D2,m2,d2⟩⟩:=y;have hpw2:ym=[112]:=hpw;subst hpw2;obtain⟨YJ,hYJ⟩:=ac (ae yj);have eY:(ao (⟨yj,[112],yis,⟨A2,n2,c2⟩,yps,⟨D2,m2,d2⟩⟩:bk)).toArray=#[.string YJ,.string ⟨#[112]⟩,.slice A2 n2 c2,.slice D2 m2 d2]:=by rw[<-hYJ];rfl
 rw[eY];clear eY hYJ hpw;obtain⟨W3,hW3⟩:=ac (w2.alloc (.cells #[.string ⟨#[]⟩,.string ⟨#[]⟩,.slice none 0 0,.slice none 0 0] 28));obtain⟨p,hp⟩:=ac w2.heap.size;have K3:Hid (Bk W3 p 28 #[.string ⟨#[]⟩,.string ⟨#[]⟩,.slice none 0 0,.slice none 0 0]):=by rw[<-hW3,<-hp];exact Bk.new _ _ _
 have b3:Below w2.heap.size w2 W3:=by rw[<-hW3];exact bp _ _
 have HPW:Hid (w2.heap.size<=p):=by rw[<-hp];exact aq _
 have z0:W3.cell? ⟨p,0,none⟩=some (.string ⟨#[]⟩):=K3.out.cell 0;have zf0:W3.frozen? ⟨p,0,none⟩=false:=K3.out.free 0;have z1:W3.cell? ⟨p,1,none⟩=some (.string ⟨#[]⟩):=K3.out.cell 1;have zf1:W3.frozen? ⟨p,1,none⟩=false:=K3.out.free 1;have z2:W3.cell? ⟨p,2,none⟩=some (.slice none 0 0):=K3.out.cell 2;have zf2:W3.frozen? ⟨p,2,none⟩=false:=K3.out.free 2;have z3:W3.cell? ⟨p,3,none⟩=some (.slice none 0 0):=K3.out.cell 3;have zf3:W3.frozen? ⟨p,3,none⟩=false:=K3.out.free 3;have K4:=aa (bM K3.out (.string YJ) (.string ⟨#[112]⟩) (.slice A2 n2 c2) (.slice D2 m2 d2));have B34:=aa (aW b3 HPW.out (.string YJ) (.string ⟨#[112]⟩) (.slice A2 n2 c2) (.slice D2 m2 d2));obtain⟨w4,hw4⟩:=ac (bP W3 p (.string YJ) (.string ⟨#[112]⟩) (.slice A2 n2 c2) (.slice D2 m2 d2));rw[hw4] at K4 B34;have B4:Hid (Below w.heap.size w w4):=B2.out.trans (B34.out.mono B2.out.size);clear b3;go_upto_region 2 with fail
 (try rw[hw4]);clear hW3 hw4 z0 zf0 z1 zf1 z2 zf2 z3 zf3 hp;go_wp2_with fail
 refine(np _).mono ?_;rintro e w5 ⟨ib2,pb2,ub2,hb2,rfl,o5,b5⟩;have B5:Hid (Below w.heap.size w w5):=B4.out.trans (b5.mono B4.out.size);have K5:=aa (K4.out.below b5 K4.out.lt);have HP5:=aa (yh (.slice (some ⟨hb2,0,none⟩) 1 1) [fH ib2 pb2 ub2] [97,64,104] ⟨[],[113],[],(none,0,0),[],(none,0,0)⟩ w5 o5.reads (by simp) (nJ ib2 pb2 ub2) (by simp)
  ⟨lk ⟨none,0,rfl,fun h=>absurd h (by simp)⟩ (fun p hp=>absurd hp (by simp)),my w5 _ 0⟩ ⟨by simp,by simp,by simp,fun p hp=>absurd hp (by simp),by simp,fun p hp=>absurd hp (by simp)⟩)
 have eU:(ao (⟨[],[113],[],(none,0,0),[],(none,0,0)⟩:bk)).toArray=#[.string ⟨#[]⟩,.string ⟨#[113]⟩,.slice none 0 0,.slice none 0 0]:=rfl;rw[eU] at HP5;clear b5 o5 eU;go_wp2_with fail
 refine HP5.out.mono ?_;rintro e w6 ⟨b6,A,n,c,l',hr6,h6⟩;have B6:Hid (Below w.heap.size w w6):=B5.out.trans (b6.mono B5.out.size);have K6:=aa (K5.out.below b6 K5.out.lt);clear b6;rcases h6 with ⟨hno,_⟩|⟨i,k,h,u,hf,rfl,hpl⟩
 ·exact absurd hno xu
 obtain⟨rfl,rfl,rfl,rfl⟩:=mj hf;obtain⟨h',u',rfl,hus,hn1,hn2⟩:=zl rfl hpl;obtain⟨⟨AA,cap,hv,hcA⟩,hU6⟩:=hr6;have hv2:Value.slice A n c=.slice AA 1 cap:=hv;injection hv2 with v1 v2 v3;subst v1 v2 v3;obtain⟨gb,go,rfl,hgb,hgc⟩:=hcA (by simp);have hcell1:=hgc 0 h' rfl 1 _ rfl;have hU7:=hU6 h' List.mem_cons_self;obtain⟨⟨AU,capU,hvU,hcU⟩,_⟩:=hU7;rw[hus] at hvU hcU;obtain⟨xb,xo,rfl,hxb,hxc⟩:=hcU (by simp);have hx0:=hxc 0 u' rfl 0 _ rfl;have hx1:=hxc 0 u' rfl 1 _ rfl;rw[hvU] at hcell1;have hg1:Hid (w6.cell? ⟨gb,go+1,none⟩=some (.slice (some ⟨xb,xo,none⟩) 1 capU)):=by
  have e:go+0*2+1=go+1:=by omega
  rw[e] at hcell1;exact hcell1
 have hg2:Hid (w6.cell? ⟨xb,xo,none⟩=some (.string ⟨#[97]⟩)):=by
  have e:xo+0*4+0=xo:=by omega
  rw[e,hn1] at hx0;exact hx0
 have hg3:Hid (w6.cell? ⟨xb,xo+1,none⟩=some (.string ⟨#[113]⟩)):=by
  have e:xo+0*4+1=xo+1:=by omega
  rw[e,hn2] at hx1;exact hx1
 have HLT:Hid (gb<w6.heap.size/\xb<w6.heap.size):=⟨hgb,hxb⟩;clear hf hpl hv hcA hU6 hgc hcell1 hvU hcU hxc hx0 hx1 hus hn1 hn2 hgb hxb HF1 HP5;obtain⟨W7,hW7⟩:=ac (w6.alloc (.cells #[.slice none 0 0] 24));obtain⟨q,hq⟩:=ac w6.heap.size;have K7:Hid (Bk W7 q 24 #[.slice none 0 0]):=by rw[<-hW7,<-hq];exact Bk.new _ _ _
 have b7:Below w6.heap.size w6 W7:=by rw[<-hW7];exact bp _ _
 have HQW:Hid (w6.heap.size<=q):=by rw[<-hq];exact aq _
 have z0:W7.cell? ⟨q,0,none⟩=some (.slice none 0 0):=K7.out.cell 0;have zf0:W7.frozen? ⟨q,0,none⟩=false:=K7.out.free 0;have K8:=aa (dH K7.out (.slice (some ⟨gb,go,none⟩) 1 c));have B68:=aa (bV b7 HQW.out (.slice (some ⟨gb,go,none⟩) 1 c));obtain⟨w8,hw8⟩:=ac (cM W7 q (.slice (some ⟨gb,go,none⟩) 1 c));rw[hw8] at K8 B68;have B8:Hid (Below w.heap.size w w8):=B6.out.trans (B68.out.mono B6.out.size);have KU8:=aa (K6.out.below B68.out K6.out.lt);clear b7;go_upto_region 3 with fail
 (try rw[hw8]);clear hW7 hw8 z0 zf0 hq;go_wp2_with fail
 refine(np _).mono ?_;rintro e w9 ⟨ib3,pb3,ub3,hb3,rfl,o9,b9⟩;have B9:Hid (Below w.heap.size w w9):=B8.out.trans (b9.mono B8.out.size);have HR9:=aa (lG (.slice (some ⟨hb3,0,none⟩) 1 1) [fH ib3 pb3 ub3] w9 (HO.out.below B9.out) (HT.out.below B9.out) o9.reads (by simp) (nJ ib3 pb3 ub3));have hro:fp [fH ib3 pb3 ub3]=true:=nH _ _ _ _ _;rw[hro] at HR9;have HB89:=aa b9;clear b9 o9 hro;go_wp2_with fail
 refine HR9.out.mono ?_;rintro e w10 ⟨rfl,b10⟩;have B10:Hid (Below w.heap.size w w10):=B9.out.trans (b10.mono B9.out.size);have B810:Below w8.heap.size w8 w10:=HB89.out.trans (b10.mono HB89.out.size);have B610:Below w6.heap.size w6 w10:=B68.out.trans (B810.mono B68.out.size);have e1:w10.cell? ⟨p,1,none⟩=some (.string ⟨#[112]⟩):=(KU8.out.below B810 KU8.out.lt).cell 1;have e2:w10.cell? ⟨q,0,none⟩=some (.slice (some ⟨gb,go,none⟩) 1 c):=(K8.out.below B810 K8.out.lt).cell 0;have e3:w10.cell? ⟨gb,go+1,none⟩=some (.slice (some ⟨xb,xo,none⟩) 1 capU):=by rw[B610.cell (p:=⟨gb,go+1,none⟩) HLT.out.1];exact hg1.out
 have e4:w10.cell? ⟨xb,xo,none⟩=some (.string ⟨#[97]⟩):=by rw[B610.cell (p:=⟨xb,xo,none⟩) HLT.out.2];exact hg2.out
 have e5:w10.cell? ⟨xb,xo+1,none⟩=some (.string ⟨#[113]⟩):=by rw[B610.cell (p:=⟨xb,xo+1,none⟩) HLT.out.2];exact hg3.out
 clear b10 B810 B610;go_wp2_with fail
 go_ret;exact⟨rfl,B10.out⟩
theorem qW (x y:bk) (w:World) (h:cY x=cY y) (hx:InU w x) (hy:InU w y) (hs:nZ x):
 Calls Tryz.prog 22 #[.agg (ao x).toArray,.agg (ao y).toArray] w fun e w'=>e=.returned (.bool true)/\Below w.heap.size w w':=by
 have e1:x.name=y.name:=congrArg Prod.fst h;have e2:x.pw=y.pw:=congrArg (fun z=>z.2.1) h;have e3:x.items.map (·.1)=y.items.map (·.1):=congrArg (fun z=>z.2.2.1) h;have e4:x.pend=y.pend:=congrArg (fun z=>z.2.2.2) h;have HI0:=fun (W:World) (hW:Below w.heap.size w W)=>oY (sl x.iv) (sl y.iv) x.items y.items W (hx.upon hW).1 (hy.upon hW).1 e3 hs.items (fun p hp=>by have:=(hs.eachI p hp).groups;omega)
 have HP0:∀ W,Below w.heap.size w W->Calls Tryz.prog 23 #[sl x.pv,sl y.pv] W fun e w'=>e=.returned (.bool true)/\Below W.heap.size W w':=fun W hW=>by have hy2:=(hy.upon hW).2;rw[<-e4] at hy2;have:=lg W.heap.size (sl x.pv) (sl y.pv) (al x.pend) (al x.pend) W (hx.upon hW).2 hy2 (by unfold al;rw[cr];have:=hs.pend;omega) (by unfold al;rw[cr];have:=hs.pend;omega);rw[bq rfl] at this;exact this
 obtain⟨xj,xm,xis,⟨xA,xn,xc⟩,xps,⟨xD,xe,xf⟩⟩:=x;obtain⟨yj,ym,yis,⟨yA,yn,yc⟩,yps,⟨yD,ye,yf⟩⟩:=y;have e1':xj=yj:=e1;have e2':xm=ym:=e2;subst e1' e2';clear h hx hy hs e1 e2 e3 e4;dsimp only[sl] at HI0 HP0;obtain⟨X,hX⟩:=ac (ae xj);obtain⟨M,hM⟩:=ac (ae xm);have ex:(ao (⟨xj,xm,xis,⟨xA,xn,xc⟩,xps,⟨xD,xe,xf⟩⟩:bk)).toArray=#[.string X,.string M,.slice xA xn xc,.slice xD xe xf]:=by rw[<-hX,<-hM];rfl
 have ey:(ao (⟨xj,xm,yis,⟨yA,yn,yc⟩,yps,⟨yD,ye,yf⟩⟩:bk)).toArray=#[.string X,.string M,.slice yA yn yc,.slice yD ye yf]:=by rw[<-hX,<-hM];rfl
 rw[ex,ey];clear ex ey hX hM;obtain⟨W1,hW1⟩:=ac (w.alloc (.cells #[.string X,.string M,.slice xA xn xc,.slice xD xe xf] 28));obtain⟨p,hp⟩:=ac w.heap.size;have k1:Bk W1 p 28 #[.string X,.string M,.slice xA xn xc,.slice xD xe xf]:=by rw[<-hW1,<-hp];exact Bk.new _ _ _
 have b1:Below w.heap.size w W1:=by rw[<-hW1];exact bp _ _
 obtain⟨W2,hW2⟩:∃ W1',W1.alloc (.cells #[.string X,.string M,.slice yA yn yc,.slice yD ye yf] 28)=W1':=⟨_,rfl⟩;obtain⟨q,hq⟩:=ac W1.heap.size;have k2:Bk W2 q 28 #[.string X,.string M,.slice yA yn yc,.slice yD ye yf]:=by rw[<-hW2,<-hq];exact Bk.new _ _ _
 have b2:Below W1.heap.size W1 W2:=by rw[<-hW2];exact bp _ _
 have B2:Hid (Below w.heap.size w W2):=b1.trans (b2.mono b1.size);have K1:=aa (k1.below b2 k1.lt);have K2:=aa k2;have HP:=aa hp;have HI2:=aa (HI0 W2 B2.out);have HP2:=aa HP0;have t1:(X.toList==X.toList)=true:=by simp
 have t2:(M.toList==M.toList)=true:=by simp
 have c0:W2.cell? ⟨p,0,none⟩=some (.string X):=K1.out.cell 0;have d0:W2.cell? ⟨q,0,none⟩=some (.string X):=K2.out.cell 0;have c1:W2.cell? ⟨p,1,none⟩=some (.string M):=K1.out.cell 1;have d1:W2.cell? ⟨q,1,none⟩=some (.string M):=K2.out.cell 1;have c2:W2.cell? ⟨p,2,none⟩=some (.slice xA xn xc):=K1.out.cell 2;have d2:W2.cell? ⟨q,2,none⟩=some (.slice yA yn yc):=K2.out.cell 2;have c3:W2.cell? ⟨p,3,none⟩=some (.slice xD xe xf):=K1.out.cell 3;have d3:W2.cell? ⟨q,3,none⟩=some (.slice yD ye yf):=K2.out.cell 3;clear k1 k2 b1 b2 HI0 HP0;go_enter Tryz.func22,Tryz.ntmps22;go_wp2_with fail
 refine HI2.out.mono ?_;rintro e w3 ⟨rfl,b3⟩;have B3:Hid (Below w.heap.size w w3):=B2.out.trans (b3.mono B2.out.size);have m3:w3.cell? ⟨p,3,none⟩=some (.slice xD xe xf):=(K1.out.below b3 K1.out.lt).cell 3;have n3:w3.cell? ⟨q,3,none⟩=some (.slice yD ye yf):=(K2.out.below b3 K2.out.lt).cell 3;have HP3:=aa (HP2.out w3 B3.out);clear b3 c0 d0 c1 d1 c2 d2 c3 d3;go_wp2_with fail
 refine HP3.out.mono ?_;rintro e w4 ⟨rfl,b4⟩;have B4:Hid (Below w.heap.size w w4):=B3.out.trans (b4.mono B3.out.size);clear b4;go_wp2_with fail
 go_ret;exact⟨rfl,by first|exact B4.out|(rw[<-HP.out];exact B4.out)⟩
theorem rN (v u:Value) (l l2:List bk) (w:World) (h1:RowV ao 4 w.heap.size w v l) (h2:RowV ao 4 w.heap.size w u l2) (r1:∀ p∈l,InU w p) (r2:∀ p∈l2,InU w p) (hm:l.map cY=l2.map cY) (hl:l.length<=1000000) (hs:∀ p∈l,nZ p):
 Calls Tryz.prog 76 #[v,u,.func (.func 22) #[] #[]] w fun e w'=>e=.returned (.bool true)/\Below w.heap.size w w':=by
 obtain⟨A1,cap1,rfl,hA1⟩:=h1;obtain⟨A2,cap2,rfl,hA2⟩:=h2;have hll:l2.length=l.length:=by have:=congrArg List.length hm;simpa using this.symm
 rw[hll] at hA2 ⊢;obtain⟨n,hn⟩:=ac l.length;have HN:=aa hn;rw[hn] at hA1 hA2 hl ⊢;have HA1:=aa hA1;have HA2:=aa hA2;have HT1:=aa r1;have HT2:=aa r2;have HMM:=aa hm;have HSM:=aa hs;have hnn:((n:Int) != (n:Int))=false:=by simp
 clear hA1 hA2 r1 r2 hm hs hn hll;go_enter Tryz.func76,Tryz.ntmps76;go_wp2_with fail
 go_loopw [7] (fun i wr=>∃ (k:Nat),k<=n/\i=.int .i64 k/\Hid (Below w.heap.size w wr)) (fun i _=>n-(intOf i).toNat)
 case atStart=>exact⟨0,bI _,rfl,aE _ _⟩
 case round=>
  obtain⟨k,hk,rfl,BW⟩:=hrel;by_cases hkn:k<n
  ·have hkz:(k:Int)<(n:Int):=(by omega);have hk0:(0:Int)<=(k:Int):=(by omega);obtain⟨b1,o1,rfl,hb1,hc1⟩:=HA1.out (by omega);obtain⟨b2,o2,rfl,hb2,hc2⟩:=HA2.out (by omega);obtain⟨x,hx⟩:∃ p,l[k]?=some p:=⟨_,aQ (by rw[HN.out];exact hkn)⟩;obtain⟨y,hx2,hpl⟩:=dA HMM.out hx;have hm1:x∈l:=fA hx;have hm2:y∈l2:=fA hx2;have BWW:∀ W,Below wr.heap.size wr W->Below w.heap.size w W:=(fun W hW=>BW.out.trans (hW.mono BW.out.size));have hcal0:∀ p:Sy.Bel wr,Calls Tryz.prog 22 #[.agg (ao x).toArray,.agg (ao y).toArray] p.v fun e w'=>e=.returned (.bool true)/\Below p.v.heap.size p.v w':=(fun p=>qW x y p.v hpl.symm ((HT1.out _ hm1).upon (BWW p.v p.h)) ((HT2.out _ hm2).upon (BWW p.v p.h)) (HSM.out _ hm1));obtain⟨P,hP⟩:=ac (o1+k*4);obtain⟨Q,hQ⟩:=ac (o2+k*4);have cx:=(fun c u hu=>hc1 k x hx c u hu);have cy:=(fun c u hu=>hc2 k y hx2 c u hu);rw[hP] at cx;rw[hQ] at cy;clear hpl hx hx2 hm1 hm2 hc1 hc2;obtain⟨xj,xm,xis,⟨xA,xn,xc⟩,xps,⟨xD,xe,xf⟩⟩:=x;obtain⟨yj,ym,yis,⟨yA,yn,yc⟩,yps,⟨yD,ye,yf⟩⟩:=y;obtain⟨xX,hxX⟩:=ac (ae xj);obtain⟨xM,hxM⟩:=ac (ae xm);have ex:ao (⟨xj,xm,xis,⟨xA,xn,xc⟩,xps,⟨xD,xe,xf⟩⟩:bk)=[.string xX,.string xM,.slice xA xn xc,.slice xD xe xf]:=(by rw[<-hxX];rw[<-hxM];rfl);rw[ex] at cx hcal0;obtain⟨yX,hyX⟩:=ac (ae yj);obtain⟨yM,hyM⟩:=ac (ae ym);have ey:ao (⟨yj,ym,yis,⟨yA,yn,yc⟩,yps,⟨yD,ye,yf⟩⟩:bk)=[.string yX,.string yM,.slice yA yn yc,.slice yD ye yf]:=(by rw[<-hyX];rw[<-hyM];rfl);rw[ey] at cy hcal0;have hcal:∀ p:Sy.Bel wr,Calls Tryz.prog 22 (#[.agg #[.string xX,.string xM,.slice xA xn xc,.slice xD xe xf],.agg #[.string yX,.string yM,.slice yA yn yc,.slice yD ye yf]]++#[]) p.v fun e w'=>e=.returned (.bool true)/\Below p.v.heap.size p.v w':=hcal0;have q0:∀ v:Sy.Bel wr,v.v.cell? ⟨b1,P,none⟩=some (.string xX):=(fun v=>by rw[(BWW v.v v.h).cell (p:=⟨b1,P,none⟩) hb1];exact cx 0 _ rfl);have r0:∀ v:Sy.Bel wr,v.v.cell? ⟨b2,Q,none⟩=some (.string yX):=(fun v=>by rw[(BWW v.v v.h).cell (p:=⟨b2,Q,none⟩) hb2];exact cy 0 _ rfl);have q1:∀ v:Sy.Bel wr,v.v.cell? ⟨b1,P+1,none⟩=some (.string xM):=(fun v=>by rw[(BWW v.v v.h).cell (p:=⟨b1,P+1,none⟩) hb1];exact cx 1 _ rfl);have r1:∀ v:Sy.Bel wr,v.v.cell? ⟨b2,Q+1,none⟩=some (.string yM):=(fun v=>by rw[(BWW v.v v.h).cell (p:=⟨b2,Q+1,none⟩) hb2];exact cy 1 _ rfl);have q2:∀ v:Sy.Bel wr,v.v.cell? ⟨b1,P+2,none⟩=some (.slice xA xn xc):=(fun v=>by rw[(BWW v.v v.h).cell (p:=⟨b1,P+2,none⟩) hb1];exact cx 2 _ rfl);have r2:∀ v:Sy.Bel wr,v.v.cell? ⟨b2,Q+2,none⟩=some (.slice yA yn yc):=(fun v=>by rw[(BWW v.v v.h).cell (p:=⟨b2,Q+2,none⟩) hb2];exact cy 2 _ rfl);have q3:∀ v:Sy.Bel wr,v.v.cell? ⟨b1,P+3,none⟩=some (.slice xD xe xf):=(fun v=>by rw[(BWW v.v v.h).cell (p:=⟨b1,P+3,none⟩) hb1];exact cx 3 _ rfl);have r3:∀ v:Sy.Bel wr,v.v.cell? ⟨b2,Q+3,none⟩=some (.slice yD ye yf):=(fun v=>by rw[(BWW v.v v.h).cell (p:=⟨b2,Q+3,none⟩) hb2];exact cy 3 _ rfl);clear ex ey hxX hxM hyX hyM cx cy BWW hb1 hb2 hcal0;have egN:=enters_of Tryz.func22 (by kernel_rfl) rfl;(go_wp2_with fail);refine ew ?_
   repeat (go_big_quiet_step (first|(go_at_call 22;exact Sy.Calls.bel_of (hcal _))|(go_at_fn 22;exact Sy.Calls.bel_of (hcal _))))
   refine wpQuiet_nil ?_;intro w5 hw';have hb5:Below wr.heap.size wr w5:=(by obtain⟨v,rfl⟩:=hw';exact v.h);have B5:Hid (Below w.heap.size w w5):=BW.out.trans (hb5.mono BW.out.size);clear hw' hb5 hcal hP hQ q0 r0 q1 r1 q2 r2 q3 r3;(go_wp2_with fail);go_roundw;case rel=>exact⟨k+1,by omega,by go_num,B5⟩
   case measure=>simp[intOf];omega
  ·have hkz:¬ (k:Int)<(n:Int):=(by omega);(go_wp2_with fail);go_ret;exact⟨rfl,BW.out⟩
def InH (w:World) (h:aN):Prop:=ReadU w (sl h.uv) h.users
theorem InH.upon {w W:World} {h:aN} (hh:InH w h) (hb:Below w.heap.size w W):InH W h:=ReadU.upon hh hb
theorem qT (x y:aN) (w:World) (h:bD x=bD y) (hx:InH w x) (hy:InH w y) (hs:gS x):
 Calls Tryz.prog 43 #[.agg (aw x).toArray,.agg (aw y).toArray] w fun e w'=>e=.returned (.bool true)/\Below w.heap.size w w':=by
 have e1:=em h;have e3:=dM h;have HI0:=fun (W:World) (hW:Below w.heap.size w W)=>rN (sl x.uv) (sl y.uv) x.users y.users W (hx.upon hW).1 (hy.upon hW).1 (hx.upon hW).2 (hy.upon hW).2 e3 hs.users hs.each
 obtain⟨xj,xus,⟨xA,xn,xc⟩⟩:=x;obtain⟨yj,yus,⟨yA,yn,yc⟩⟩:=y;have e1':xj=yj:=e1;subst e1';clear h hx hy hs e1 e3;dsimp only[sl] at HI0;obtain⟨X,hX⟩:=ac (ae xj);have ex:(aw (⟨xj,xus,⟨xA,xn,xc⟩⟩:aN)).toArray=#[.string X,.slice xA xn xc]:=by rw[<-hX];rfl
 have ey:(aw (⟨xj,yus,⟨yA,yn,yc⟩⟩:aN)).toArray=#[.string X,.slice yA yn yc]:=by rw[<-hX];rfl
 rw[ex,ey];clear ex ey hX;obtain⟨W1,hW1⟩:=ac (w.alloc (.cells #[.string X,.slice xA xn xc] 47));obtain⟨p,hp⟩:=ac w.heap.size;have k1:Bk W1 p 47 #[.string X,.slice xA xn xc]:=by rw[<-hW1,<-hp];exact Bk.new _ _ _
 have b1:Below w.heap.size w W1:=by rw[<-hW1];exact bp _ _
 obtain⟨W2,hW2⟩:∃ W1',W1.alloc (.cells #[.string X,.slice yA yn yc] 47)=W1':=⟨_,rfl⟩;obtain⟨q,hq⟩:=ac W1.heap.size;have k2:Bk W2 q 47 #[.string X,.slice yA yn yc]:=by rw[<-hW2,<-hq];exact Bk.new _ _ _
 have b2:Below W1.heap.size W1 W2:=by rw[<-hW2];exact bp _ _
 have B2:Hid (Below w.heap.size w W2):=b1.trans (b2.mono b1.size);have K1:=aa (k1.below b2 k1.lt);have K2:=aa k2;have HP:=aa hp;have HI2:=aa (HI0 W2 B2.out);have t1:(X.toList==X.toList)=true:=by simp
 have c0:W2.cell? ⟨p,0,none⟩=some (.string X):=K1.out.cell 0;have d0:W2.cell? ⟨q,0,none⟩=some (.string X):=K2.out.cell 0;have c1:W2.cell? ⟨p,1,none⟩=some (.slice xA xn xc):=K1.out.cell 1;have d1:W2.cell? ⟨q,1,none⟩=some (.slice yA yn yc):=K2.out.cell 1;clear k1 k2 b1 b2 HI0;go_enter Tryz.func43,Tryz.ntmps43;go_wp2_with fail
 refine HI2.out.mono ?_;rintro e w3 ⟨rfl,b3⟩;have B3:Hid (Below w.heap.size w w3):=B2.out.trans (b3.mono B2.out.size);clear b3;go_wp2_with fail
 go_ret;exact⟨rfl,by first|exact B3.out|(rw[<-HP.out];exact B3.out)⟩
theorem rL (v u:Value) (l l2:List aN) (w:World) (h1:RowV aw 2 w.heap.size w v l) (h2:RowV aw 2 w.heap.size w u l2) (r1:∀ p∈l,InH w p) (r2:∀ p∈l2,InH w p) (hm:l.map bD=l2.map bD) (hl:l.length<=1000000) (hs:∀ p∈l,gS p):
 Calls Tryz.prog 42 #[v,u,.func (.func 43) #[] #[]] w fun e w'=>e=.returned (.bool true)/\Below w.heap.size w w':=by
 obtain⟨A1,cap1,rfl,hA1⟩:=h1;obtain⟨A2,cap2,rfl,hA2⟩:=h2;have hll:l2.length=l.length:=by have:=congrArg List.length hm;simpa using this.symm
 rw[hll] at hA2 ⊢;obtain⟨n,hn⟩:=ac l.length;have HN:=aa hn;rw[hn] at hA1 hA2 hl ⊢;have HA1:=aa hA1;have HA2:=aa hA2;have HT1:=aa r1;have HT2:=aa r2;have HMM:=aa hm;have HSM:=aa hs;have hnn:((n:Int) != (n:Int))=false:=by simp
 clear hA1 hA2 r1 r2 hm hs hn hll;go_enter Tryz.func42,Tryz.ntmps42;go_wp2_with fail
 go_loopw [7] (fun i wr=>∃ (k:Nat),k<=n/\i=.int .i64 k/\Hid (Below w.heap.size w wr)) (fun i _=>n-(intOf i).toNat)
 case atStart=>exact⟨0,bI _,rfl,aE _ _⟩
 case round=>
  obtain⟨k,hk,rfl,BW⟩:=hrel;by_cases hkn:k<n
  ·have hkz:(k:Int)<(n:Int):=(by omega);have hk0:(0:Int)<=(k:Int):=(by omega);obtain⟨b1,o1,rfl,hb1,hc1⟩:=HA1.out (by omega);obtain⟨b2,o2,rfl,hb2,hc2⟩:=HA2.out (by omega);obtain⟨x,hx⟩:∃ p,l[k]?=some p:=⟨_,aQ (by rw[HN.out];exact hkn)⟩;obtain⟨y,hx2,hpl⟩:=dA HMM.out hx;have hm1:x∈l:=fA hx;have hm2:y∈l2:=fA hx2;have BWW:∀ W,Below wr.heap.size wr W->Below w.heap.size w W:=(fun W hW=>BW.out.trans (hW.mono BW.out.size));have hcal0:∀ p:Sy.Bel wr,Calls Tryz.prog 43 #[.agg (aw x).toArray,.agg (aw y).toArray] p.v fun e w'=>e=.returned (.bool true)/\Below p.v.heap.size p.v w':=(fun p=>qT x y p.v hpl.symm ((HT1.out _ hm1).upon (BWW p.v p.h)) ((HT2.out _ hm2).upon (BWW p.v p.h)) (HSM.out _ hm1));obtain⟨P,hP⟩:=ac (o1+k*2);obtain⟨Q,hQ⟩:=ac (o2+k*2);have cx:=(fun c u hu=>hc1 k x hx c u hu);have cy:=(fun c u hu=>hc2 k y hx2 c u hu);rw[hP] at cx;rw[hQ] at cy;clear hpl hx hx2 hm1 hm2 hc1 hc2;obtain⟨xj,xus,⟨xA,xn,xc⟩⟩:=x;obtain⟨yj,yus,⟨yA,yn,yc⟩⟩:=y;obtain⟨xX,hxX⟩:=ac (ae xj);have ex:aw (⟨xj,xus,⟨xA,xn,xc⟩⟩:aN)=[.string xX,.slice xA xn xc]:=(by rw[<-hxX];rfl);rw[ex] at cx hcal0;obtain⟨yX,hyX⟩:=ac (ae yj);have ey:aw (⟨yj,yus,⟨yA,yn,yc⟩⟩:aN)=[.string yX,.slice yA yn yc]:=(by rw[<-hyX];rfl);rw[ey] at cy hcal0;have hcal:∀ p:Sy.Bel wr,Calls Tryz.prog 43 (#[.agg #[.string xX,.slice xA xn xc],.agg #[.string yX,.slice yA yn yc]]++#[]) p.v fun e w'=>e=.returned (.bool true)/\Below p.v.heap.size p.v w':=hcal0;have q0:∀ v:Sy.Bel wr,v.v.cell? ⟨b1,P,none⟩=some (.string xX):=(fun v=>by rw[(BWW v.v v.h).cell (p:=⟨b1,P,none⟩) hb1];exact cx 0 _ rfl);have r0:∀ v:Sy.Bel wr,v.v.cell? ⟨b2,Q,none⟩=some (.string yX):=(fun v=>by rw[(BWW v.v v.h).cell (p:=⟨b2,Q,none⟩) hb2];exact cy 0 _ rfl);have q1:∀ v:Sy.Bel wr,v.v.cell? ⟨b1,P+1,none⟩=some (.slice xA xn xc):=(fun v=>by rw[(BWW v.v v.h).cell (p:=⟨b1,P+1,none⟩) hb1];exact cx 1 _ rfl);have r1:∀ v:Sy.Bel wr,v.v.cell? ⟨b2,Q+1,none⟩=some (.slice yA yn yc):=(fun v=>by rw[(BWW v.v v.h).cell (p:=⟨b2,Q+1,none⟩) hb2];exact cy 1 _ rfl);clear ex ey hxX hyX cx cy BWW hb1 hb2 hcal0;have egN:=enters_of Tryz.func43 (by kernel_rfl) rfl;(go_wp2_with fail);refine ew ?_
   repeat (go_big_quiet_step (first|(go_at_call 43;exact Sy.Calls.bel_of (hcal _))|(go_at_fn 43;exact Sy.Calls.bel_of (hcal _))))
   refine wpQuiet_nil ?_;intro w5 hw';have hb5:Below wr.heap.size wr w5:=(by obtain⟨v,rfl⟩:=hw';exact v.h);have B5:Hid (Below w.heap.size w w5):=BW.out.trans (hb5.mono BW.out.size);clear hw' hb5 hcal hP hQ q0 r0 q1 r1;(go_wp2_with fail);go_roundw;case rel=>exact⟨k+1,by omega,by go_num,B5⟩
   case measure=>simp[intOf];omega
  ·have hkz:¬ (k:Int)<(n:Int):=(by omega);(go_wp2_with fail);go_ret;exact⟨rfl,BW.out⟩
theorem qV (v u:Value) (l l2:List aN) (w:World) (hx:ReadH w v l) (hy:ReadH w u l2) (hm:l.map bD=l2.map bD) (hl:l.length<=1000000) (hs:∀ h∈l,gS h):
 Calls Tryz.prog 20 #[.agg #[v],.agg #[u]] w fun e w'=>e=.returned (.bool true)/\Below w.heap.size w w':=by
 have HI0:=fun (W:World) (hW:Below w.heap.size w W)=>rL v u l l2 W (hx.upon hW).1 (hy.upon hW).1 (hx.upon hW).2 (hy.upon hW).2 hm hl hs
 obtain⟨xA,xn,xc,rfl⟩:∃ A n c,v=.slice A n c:=by obtain⟨⟨A,cap,hv,_⟩,_⟩:=hx;exact⟨A,_,cap,hv⟩
 obtain⟨yA,yn,yc,rfl⟩:∃ A n c,u=.slice A n c:=by obtain⟨⟨A,cap,hv,_⟩,_⟩:=hy;exact⟨A,_,cap,hv⟩
 clear hx hy hm hl hs;obtain⟨W1,hW1⟩:=ac (w.alloc (.cells #[.slice xA xn xc] 24));obtain⟨p,hp⟩:=ac w.heap.size;have k1:Bk W1 p 24 #[.slice xA xn xc]:=by rw[<-hW1,<-hp];exact Bk.new _ _ _
 have b1:Below w.heap.size w W1:=by rw[<-hW1];exact bp _ _
 obtain⟨W2,hW2⟩:∃ W1',W1.alloc (.cells #[.slice yA yn yc] 24)=W1':=⟨_,rfl⟩;obtain⟨q,hq⟩:=ac W1.heap.size;have k2:Bk W2 q 24 #[.slice yA yn yc]:=by rw[<-hW2,<-hq];exact Bk.new _ _ _
 have b2:Below W1.heap.size W1 W2:=by rw[<-hW2];exact bp _ _
 have B2:Hid (Below w.heap.size w W2):=b1.trans (b2.mono b1.size);have K1:=aa (k1.below b2 k1.lt);have K2:=aa k2;have HP:=aa hp;have HI2:=aa (HI0 W2 B2.out);have c0:W2.cell? ⟨p,0,none⟩=some (.slice xA xn xc):=K1.out.cell 0;have d0:W2.cell? ⟨q,0,none⟩=some (.slice yA yn yc):=K2.out.cell 0;clear k1 k2 b1 b2 HI0;go_enter Tryz.func20,Tryz.ntmps20;go_wp2_with fail
 refine HI2.out.mono ?_;rintro e w3 ⟨rfl,b3⟩;have B3:Hid (Below w.heap.size w w3):=B2.out.trans (b3.mono B2.out.size);clear b3;go_wp2_with fail
 go_ret;exact⟨rfl,by first|exact B3.out|(rw[<-HP.out];exact B3.out)⟩
end
section
open Go.RowKit Go.Sort Sy Tx Ct
theorem xt {n:List UInt8} {u:bk} (h:eO n u) (hn:n.length<=1000):nZ u:=by
 refine⟨by rw[h.name];omega,?_,co h.items.len (by decide),fun p hp=>?_,co h.len (by decide),fun t ht=>?_⟩
 ·have:=i8 (n:=20) h.pw;omega
 ·obtain⟨h1,h2,h3,h4⟩:=(h.items.near p hp).sizes;exact⟨by omega,by omega,by omega,fun g hg=>by have:=h4 g hg;omega⟩
 ·obtain⟨s,k,e⟩:=h.near t ht;rw[e];exact co (iD s k) (by decide)
theorem vB (k:Nat):(dX k).length<=1000:=by
 unfold dX;repeat' split
 all_goals simp
theorem tw (k:Nat):(iu k).length<=1000:=by
 unfold iu;repeat' split
 all_goals simp
theorem zd {l:List aN} (h:eN l):∀ x∈l,gS x:=fun x hx=>by obtain⟨i,hi,rfl⟩:=List.getElem_of_mem hx;have hm:=h.each i _ (aQ hi);refine⟨by rw[hm.name];exact co (tw i) (by decide),co hm.len (by decide),fun u hu=>?_⟩;obtain⟨k,hk,rfl⟩:=List.getElem_of_mem hu;exact xt (hm.near k _ (aQ hk)) (vB k)
theorem own_reads {B:Nat} {w:World} {v:Value} {l:List aN} (h:OwnV aw 2 47 B w v l) (ha:∀ x∈l,OwnHU B w x):ReadH w v l:=⟨h.row (fun _=>rfl),fun x hx=>⟨(ha x hx).1.row (fun _=>rfl),fun u hu=>((ha x hx).2 u hu).inU⟩⟩
end
end Go.Proofs.YtbgaglcgennhiaaGreatDoor

