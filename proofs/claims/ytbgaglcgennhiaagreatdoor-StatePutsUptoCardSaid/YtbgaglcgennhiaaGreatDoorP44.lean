import Derived.Test.YtbgaglcgennhiaaGreatDoorP37
import Derived.Test.YtbgaglcgennhiaaGreatDoorP30
import Derived.Test.YtbgaglcgennhiaaGreatDoorP40
import Derived.Test.YtbgaglcgennhiaaGreatDoorP43
namespace Go.Proofs.YtbgaglcgennhiaaGreatDoor
open Go.RowKit Go.Sort Tx Ct
def tl (l:List (aZ × bm)) (e:Ending):Prop:=∃ b,e=.returned (.bool b)∧(b=true→l.length≤150∧be l≤20000)
theorem iQ {x:aZ} {n:Nat} (h:bV x≤n) (hn:n≤1000000):wJ x∧wR x:=by
 have h0:bV x=5+x.jid.length+x.name.length+ax x.groups:=rfl;have h1:=cV x.groups
 exact⟨⟨by omega,by omega,by omega,fun g hg=>by have:=dC hg;omega⟩,⟨by omega,by omega,by omega,fun g hg=>by have:=dC hg;omega⟩⟩
theorem oE {u:aC} {n:Nat} (h:aY u≤n) (hn:n≤1000000):lK u∧wF u:=by
 have h0:aY u=5+u.name.length+u.pw.length+ax u.pend+be u.items:=rfl;have h1:=cV u.pend;have h2:=ep u.items;have h3:∀ p∈u.items,wJ p.1∧wR p.1:=fun p hp=>iQ (n:=n) (by have:=ew hp;omega) hn
 exact⟨⟨by omega,by omega,by omega,fun p hp=>(h3 p hp).1,by omega,fun t ht=>by have:=dC ht;omega⟩,⟨by omega,by omega,fun p hp=>(h3 p hp).2,by omega,fun t ht=>by have:=dC ht;omega⟩⟩
theorem kG {hs:List aK} {n:Nat} (h:bW hs≤n) (hn:n≤1000000):hs.length≤1000000∧(∀ x∈hs,iD x)∧∀ x∈hs,x.users.length≤1000000∧∀ u∈x.users,wF u:=by
 have h0:∀ x∈hs,1+x.name.length+(x.users.map aY).sum≤n:=fun x hx=>by
  have h1:bK x≤bW hs:=pF hx;have h2:bK x=1+x.name.length+(x.users.map aY).sum:=rfl;omega
 have h3:∀ x∈hs,∀ u∈x.users,lK u∧wF u:=fun x hx u hu=>oE (n:=n) (by have:=h0 x hx;have:=fX aY hu;omega) hn
 refine⟨by have:=i9 hs;omega,fun x hx=>⟨by have:=h0 x hx;omega,by have:=h0 x hx;have:=em x.users;omega,fun u hu=>(h3 x hx u hu).1⟩,fun x hx=>⟨by have:=h0 x hx;have:=em x.users;omega,fun u hu=>(h3 x hx u hu).2⟩⟩
set_option maxHeartbeats 2000000 in
theorem ph (v:Value) (l:List (aZ × bm)) (w:World) (hR:ReadI w.heap.size w v l) (hg:be l≤50000000) :
 Calls Tryz.prog 9 #[v] w fun e w'=>tl l e∧Below w.heap.size w w':=by
 obtain⟨A,cap,hv,_⟩:=id hR
 subst hv
 obtain⟨len,hlen⟩:∃ n,l.length=n:=⟨_,rfl⟩
 have HLEN:=Lib.hid hlen
 by_cases h1:len≤150
 · have h1z:(len:Int)≤150:=by omega
   have h1d:decide ((len:Int)≤150)=true:=decide_eq_true h1z;have H1:=Lib.hid h1
   obtain⟨W1,hW1⟩:∃ W,w.alloc (.cells #[.string ⟨#[]⟩,.string ⟨#[]⟩,.slice A l.length cap,.slice none 0 0] 28)=W:=⟨_,rfl⟩
   obtain⟨ub,hub⟩:∃ b,w.heap.size=b:=⟨_,rfl⟩
   obtain⟨W2,hW2⟩:∃ W,W1.alloc (.cells #[.string ⟨#[]⟩,.slice (some ⟨ub,0,none⟩) 1 1] 47)=W:=⟨_,rfl⟩
   obtain⟨hb,hhb⟩:∃ b,ub+1=b:=⟨_,rfl⟩
   have hs1:W1.heap.size=hb:=by rw[← hW1,World.size_alloc,hub,hhb]
   have k1:Bk W1 ub 28 #[.string ⟨#[]⟩,.string ⟨#[]⟩,.slice A l.length cap,.slice none 0 0]:=by rw[← hW1,← hub];exact Bk.new _ _ _
   have k2:Bk W2 ub 28 #[.string ⟨#[]⟩,.string ⟨#[]⟩,.slice A l.length cap,.slice none 0 0]:=by rw[← hW2];exact k1.alloc _
   have kh:Bk W2 hb 47 #[.string ⟨#[]⟩,.slice (some ⟨ub,0,none⟩) 1 1]:=by rw[← hW2,← hs1];exact Bk.new _ _ _
   have b2:Below w.heap.size w W2:=by rw[← hW2,← hW1];exact((Below.refl _ _).alloc (Nat.le_refl _) _).alloc (by rw[World.size_alloc];omega) _
   have hR2:ReadI W2.heap.size W2 (.slice A l.length cap) l:=by
    obtain⟨A2,cap2,hv2,hc2,hT2⟩:=hR
    refine⟨A2,cap2,hv2,fun h0=>?_,fun p hp=>((hT2 p hp).below b2).more b2.size⟩
    obtain⟨b,off,ha,hbb,hc⟩:=hc2 h0
    exact⟨b,off,ha,Nat.lt_of_lt_of_le hbb b2.size,fun i p hp c u hu=>by rw[b2.cell (p:=⟨b,off+i*6+c,none⟩) hbb];exact hc i p hp c u hu⟩
   have rU:RowB af 4 28 W2 ub [(⟨[],[],l,(A,l.length,cap),[],(none,0,0)⟩:aC)]:=fh k2 (by simp[aO,af,sl,aa]) (fun _=>rfl);have rH:RowB aA 2 47 W2 hb [(⟨[],[⟨[],[],l,(A,l.length,cap),[],(none,0,0)⟩],(some ⟨ub,0,none⟩,1,1)⟩:aK)]:=fh kh (by simp[aO,aA,sl,aa]) (fun _=>rfl);have hRH:ReadH W2 (.slice (some ⟨hb,0,none⟩) 1 1) [(⟨[],[⟨[],[],l,(A,l.length,cap),[],(none,0,0)⟩],(some ⟨ub,0,none⟩,1,1)⟩:aK)]:=by
    refine⟨rH.row rH.lt _ 1 rfl,fun h hh=>?_⟩
    obtain rfl:=List.mem_singleton.1 hh
    refine⟨rU.row rU.lt _ 1 rfl,fun u hu=>?_⟩
    obtain rfl:=List.mem_singleton.1 hu
    exact⟨hR2,gL W2 _ 0⟩
   have htot:bW [(⟨[],[⟨[],[],l,(A,l.length,cap),[],(none,0,0)⟩],(some ⟨ub,0,none⟩,1,1)⟩:aK)]=6+be l:=by simp[bW,bK,aY,ax];omega
   have hq:=kO (.slice (some ⟨hb,0,none⟩) 1 1) _ W2 hRH (by rw[htot];omega);rw[htot] at hq;have HQ:=Lib.hid hq;clear hq htot hRH rU rH;rw[hlen] at hW1 ⊢;have B2:=Lib.hid b2;have HW1:=Lib.hid hW1;have HW2:=Lib.hid hW2;have HUB:=Lib.hid hub;have HHB:=Lib.hid hhb;clear b2 k1 k2 kh hs1 hR hR2 hg hlen h1 hW1 hW2 hub hhb;go_enter Tryz.func9,Tryz.ntmps9
   go_wp2_with fail
   (try rw[HW1.out]);(try rw[HUB.out]);(try rw[HHB.out]);(try rw[HW2.out]);refine HQ.out.mono ?_;rintro e w3 ⟨rfl,b3⟩
   go_wp2_with fail
   go_ret
   exact⟨⟨_,rfl,fun hd=>⟨by rw[HLEN.out];exact H1.out,by have:=of_decide_eq_true hd;omega⟩⟩,B2.out.trans (b3.mono B2.out.size)⟩
 · have h1z:¬ (len:Int)≤150:=by omega
   have h1d:decide ((len:Int)≤150)=false:=decide_eq_false h1z;rw[hlen];clear hR hg hlen h1;go_enter Tryz.func9,Tryz.ntmps9
   go_wp2_with fail
   go_ret
   exact⟨⟨false,rfl,fun h=>by cases h⟩,Below.refl _ _⟩
end Go.Proofs.YtbgaglcgennhiaaGreatDoor
