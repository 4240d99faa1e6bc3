import Derived.Test.YtbgaglcgennhiaaGreatDoorP12
import Derived.Test.YtbgaglcgennhiaaGreatDoorP08
import Derived.Test.YtbgaglcgennhiaaGreatDoorP02
import Derived.Test.YtbgaglcgennhiaaGreatDoorP13
import Derived.Test.YtbgaglcgennhiaaGreatDoorP20
import Derived.Test.YtbgaglcgennhiaaGreatDoorP14
section
namespace Go.Proofs.YtbgaglcgennhiaaGreatDoor
open Go.RowKit Rg Tx
theorem qx (c:Nat):Pr.wrong 1 c=(bD ay c||([32,34,38,39,47,58,60,62,64]:List Nat).any fun d=>(d:Int)==(c:Int)):=by
 have h:bD Pr.besideBL c=([32,34,38,39,47,58,60,62,64]:List Nat).any fun d=>(d:Int)==(c:Int):=by
  rw[Bool.eq_iff_iff]
  simp[bD,Pr.besideBL]
  omega
 rw[← h];rfl
theorem ra (c:Nat):(!Pr.wrong 2 c)=(decide ((48:Int)≤c)&&decide ((c:Int)≤57)||(c:Int)==45||(c:Int)==46||bD am c||bD ab c):=by
 have h:bD Pr.besideLL c=(decide ((48:Int)≤c)&&decide ((c:Int)≤57)||(c:Int)==45||(c:Int)==46):=by
  rw[Bool.eq_iff_iff]
  simp[bD,Pr.besideLL]
  omega
 rw[← h];show (!(!(bD am c||bD ab c||bD Pr.besideLL c)))=_;cases bD am c<;>cases bD ab c<;>cases bD Pr.besideLL c<;>rfl
theorem xl:(cr [32,34,38,39,47,58,60,62,64]).toArray=#[.int .i64 32,.int .i64 34,.int .i64 38,.int .i64 39,.int .i64 47,.int .i64 58,.int .i64 60,.int .i64 62,.int .i64 64]:=by
 unfold cr;rfl
set_option maxHeartbeats 4000000 in
theorem jW (c:Nat) (w:World):Calls Tryz.prog 132 #[.int .i64 1,.int .i64 c] w fun e w'=>e=.returned (.bool (!Pr.wrong 1 c))∧Below w.heap.size w w':=by
 have HB:=Lib.hid ft;have HI:=Lib.hid (fun (B:Nat) v W (h:OwnR B W v ay)=>cU v ay c W h.reads (by simp[ay]));have hn:=xl
 obtain⟨x,hx⟩:∃ x:List Nat,x=[32,34,38,39,47,58,60,62,64]:=⟨_,rfl⟩
 have hxl:x.length=9:=by rw[hx];rfl
 have hw:=qx c;rw[← hx] at hw hn;have HH:=Lib.hid (fun (W:World)=>uN (.slice (some ⟨W.heap.size,0,none⟩) 9 9) x c (W.alloc (.cells (cr x).toArray 3)) ((Reads.made W 3 x _ 9 9 rfl hxl).more (by simp)) (by omega));rw[hn] at HH
 obtain⟨g1,h1⟩:∃ g,bD ay c=g:=⟨_,rfl⟩
 obtain⟨g2,h2⟩:∃ g,(x.any fun d=>(d:Int)==(c:Int))=g:=⟨_,rfl⟩
 rw[h1,h2] at hw;rw[h1] at HI;rw[h2] at HH;rw[hw]
 obtain⟨z,hz⟩:∃ z:Int,(c:Int)=z:=⟨_,rfl⟩
 rw[hz] at HI HH ⊢;clear hn hx hxl hw h1 h2 hz;cases g1<;>cases g2
 all_goals
  go_enter Tryz.func132,Tryz.ntmps132
  go_wp2_with fail
  refine(HB.out w).mono ?_
  rintro e w1 ⟨v1,rfl,o1,b1⟩;have O1:=Lib.hid o1
  obtain⟨A1,c1,rfl⟩:=o1.slice
  clear o1
  go_wp2_with fail
  refine(HI.out _ _ w1 O1.out).mono ?_
  rintro e w2 ⟨rfl,b2⟩;have B2:=Lib.hid (b1.trans (b2.mono b1.size));have H2:=Lib.hid (HH.out w2);have B3:=Lib.hid (B2.out.alloc B2.out.size (.cells #[.int .i64 32,.int .i64 34,.int .i64 38,.int .i64 39,.int .i64 47,.int .i64 58,.int .i64 60,.int .i64 62,.int .i64 64] 3));clear b1 b2
  (go_wp2_with (go_at_call 174;refine H2.out.mono ?_;rintro e w4 ⟨rfl,rfl⟩))
  go_ret
  first | exact⟨rfl,B3.out⟩ | exact⟨rfl,B2.out⟩
set_option maxHeartbeats 4000000 in
theorem jO (c:Nat) (w:World):Calls Tryz.prog 132 #[.int .i64 3,.int .i64 c] w fun e w'=>e=.returned (.bool (!Pr.wrong 3 c))∧Below w.heap.size w w':=by
 have HB:=Lib.hid ft;have HI:=Lib.hid (fun (B:Nat) v W (h:OwnR B W v ay)=>cU v ay c W h.reads (by simp[ay]));have hw:Pr.wrong 3 c=bD ay c:=rfl
 obtain⟨g1,h1⟩:∃ g,bD ay c=g:=⟨_,rfl⟩
 rw[h1] at hw HI;rw[hw]
 obtain⟨z,hz⟩:∃ z:Int,(c:Int)=z:=⟨_,rfl⟩
 rw[hz] at HI ⊢;clear hw h1 hz;cases g1
 all_goals
  go_enter Tryz.func132,Tryz.ntmps132
  go_wp2_with fail
  refine(HB.out w).mono ?_
  rintro e w1 ⟨v1,rfl,o1,b1⟩;have O1:=Lib.hid o1
  obtain⟨A1,c1,rfl⟩:=o1.slice
  clear o1
  go_wp2_with fail
  refine(HI.out _ _ w1 O1.out).mono ?_
  rintro e w2 ⟨rfl,b2⟩;have B2:=Lib.hid (b1.trans (b2.mono b1.size));clear b1 b2
  go_wp2_with fail
  go_ret
  exact⟨rfl,B2.out⟩
set_option maxHeartbeats 8000000 in
theorem jQ (c:Nat) (w:World):Calls Tryz.prog 132 #[.int .i64 2,.int .i64 c] w fun e w'=>e=.returned (.bool (!Pr.wrong 2 c))∧Below w.heap.size w w':=by
 have HL:=Lib.hid eB;have HR:=Lib.hid dQ;have HI:=Lib.hid (fun (B:Nat) v W (h:OwnR B W v am)=>cU v am c W h.reads (by simp[am]));have HJ:=Lib.hid (fun (B:Nat) v W (h:OwnR B W v ab)=>cU v ab c W h.reads (by simp[ab]));have hw:=ra c
 obtain⟨g1,h1⟩:∃ g,bD am c=g:=⟨_,rfl⟩
 obtain⟨g2,h2⟩:∃ g,bD ab c=g:=⟨_,rfl⟩
 rw[h1,h2] at hw;rw[h1] at HI;rw[h2] at HJ;rw[hw]
 obtain⟨z,hz⟩:∃ z:Int,(c:Int)=z:=⟨_,rfl⟩
 rw[hz] at HI HJ ⊢;clear hw h1 h2 hz
 obtain⟨d,hd⟩:∃ d,(decide ((48:Int)≤z)&&decide (z≤57)||z==45||z==46)=d:=⟨_,rfl⟩
 rw[hd];cases d with
 | true =>
   rcases(show (decide (48≤z)=true∧decide (z≤57)=true)∨(decide (48≤z)=false∧(z==45)=true)∨(decide (48≤z)=false∧(z==45)=false∧(z==46)=true) by
    simp only[Bool.or_eq_true,Bool.and_eq_true,decide_eq_true_eq,decide_eq_false_iff_not,beq_iff_eq,beq_eq_false_iff_ne] at hd ⊢;omega) with ⟨k1,k2⟩ | ⟨k1,k2⟩ | ⟨k1,k2,k3⟩
   all_goals
    clear hd;go_enter Tryz.func132,Tryz.ntmps132
    go_wp2_with fail
    go_ret
    exact⟨rfl,Below.refl _ _⟩
 | false =>
   rcases(show (decide (48≤z)=true∧decide (z≤57)=false∧(z==45)=false∧(z==46)=false)∨(decide (48≤z)=false∧(z==45)=false∧(z==46)=false) by
    simp only[Bool.or_eq_false_iff,Bool.and_eq_false_iff,decide_eq_true_eq,decide_eq_false_iff_not,beq_eq_false_iff_ne] at hd ⊢;omega) with ⟨k1,k2,k3,k4⟩ | ⟨k1,k2,k3⟩
   all_goals
    clear hd;cases g1 with
    | true =>
      go_enter Tryz.func132,Tryz.ntmps132
      go_wp2_with fail
      refine(HL.out w).mono ?_
      rintro e w1 ⟨v1,rfl,o1,b1⟩;have O1:=Lib.hid o1
      obtain⟨A1,c1,rfl⟩:=o1.slice
      clear o1
      go_wp2_with fail
      refine(HI.out _ _ w1 O1.out).mono ?_
      rintro e w2 ⟨rfl,b2⟩;have B2:=Lib.hid (b1.trans (b2.mono b1.size));clear b1 b2
      go_wp2_with fail
      go_ret
      exact⟨rfl,B2.out⟩
    | false =>
      cases g2
      all_goals
       go_enter Tryz.func132,Tryz.ntmps132
       go_wp2_with fail
       refine(HL.out w).mono ?_
       rintro e w1 ⟨v1,rfl,o1,b1⟩;have O1:=Lib.hid o1
       obtain⟨A1,c1,rfl⟩:=o1.slice
       clear o1
       go_wp2_with fail
       refine(HI.out _ _ w1 O1.out).mono ?_
       rintro e w2 ⟨rfl,b2⟩;have B2:=Lib.hid (b1.trans (b2.mono b1.size));clear b1 b2
       go_wp2_with fail
       refine(HR.out w2).mono ?_
       rintro e w3 ⟨v3,rfl,o3,b3⟩;have B3:=Lib.hid (B2.out.trans (b3.mono B2.out.size));have O3:=Lib.hid o3
       obtain⟨A3,c3,rfl⟩:=o3.slice
       clear o3 b3
       go_wp2_with fail
       refine(HJ.out _ _ w3 O3.out).mono ?_
       rintro e w4 ⟨rfl,b4⟩;have B4:=Lib.hid (B3.out.trans (b4.mono B3.out.size));clear b4
       go_wp2_with fail
       go_ret
       exact⟨rfl,B4.out⟩
theorem lf (k c:Nat) (w:World) (hk:k=1∨k=2∨k=3):Calls Tryz.prog 132 #[.int .i64 k,.int .i64 c] w fun e w'=>e=.returned (.bool (!Pr.wrong k c))∧Below w.heap.size w w':=by
 rcases hk with rfl | rfl | rfl
 · exact jW c w
 · exact jQ c w
 · exact jO c w
end Go.Proofs.YtbgaglcgennhiaaGreatDoor
end
section
namespace Go.Proofs.YtbgaglcgennhiaaGreatDoor
open Go.RowKit Tx
def lD (B:Nat) (w:World) (l:List UInt8) (e:Ending) (w':World):Prop:=∃ v,e=.returned v∧Owned B w' v (cI l)∧Below B w w'
set_option maxHeartbeats 1000000 in
theorem iP (s:ByteArray) (w:World) (hs:s.size < 10000000000000) :
 Calls Tryz.prog 71 #[.string s] w (lD w.heap.size w s.data.toList):=by
 obtain⟨i0,hi,hz0,hz1,hz2⟩:=info_parts lw
 have hsz:=Lib.hid (Lib.size_eq s);have HV:=Lib.hid (fA s w hs);cases hch:ch s.data.toList with
 | none =>
   have hfin:lD w.heap.size w s.data.toList (.returned (.slice none 0 0)) w:=⟨_,rfl,by rw[fM hch];exact Owned.nil _ _,Below.refl _ _⟩;rw[bh hch] at HV;have HF:=Lib.hid hfin;clear hch hfin;go_enter Tryz.func71,Tryz.ntmps71
   go_wp2_with (go_at_call 72;refine HV.out.mono ?_;rintro e w' ⟨rfl,rfl⟩)
   go_ret;exact HF.out
 | some all =>
   rw[bg hch] at HV;have HCH:=Lib.hid hch;clear hch;go_enter Tryz.func71,Tryz.ntmps71
   go_wp2_with (go_at_call 72;refine HV.out.mono ?_;rintro e w' ⟨rfl,rfl⟩)
   go_loopw [3,4] (fun v at_ wr=>∃ (k:Nat) (x:List Nat),k≤s.size∧at_=.int .i64 k∧x.length≤k∧At s.data.toList k x∧Owned w.heap.size wr v x∧Below w.heap.size w wr) (fun _ at_ _=>s.size - (intOf at_).toNat)
   case atStart=>exact⟨0,[],Nat.zero_le _,rfl,Nat.le_refl _,At.start _,Owned.nil _ _,Below.refl _ _⟩
   case round =>
    obtain⟨k,x,hk,rfl,hxk,hat,hown,hb⟩:=hrel
    have hsw:=hb.size
    by_cases hlt:k < s.size
    · have hlt':k < s.data.toList.length:=by rw[← hsz.out];exact hlt
      have hle:=mJ (eV hlt');have hru:=uT (s.data.toList.drop k);rw[List.length_drop,← hsz.out] at hle;have HD:=Lib.hid (nd s k wr hs hlt)
      obtain⟨c,n,hcn⟩:∃ c n,Hid (nx (s.data.toList.drop k)=(c,n)):=⟨_,_,Lib.hid rfl⟩
      have hD:Hid (∀ e w',Nexted wr (s.data.toList.drop k) e w'→e=.returned (.tuple #[.int .i64 c,.int .i64 n])∧wr=w'):=fun e w' ⟨h1,h2⟩=>⟨by rw[h1,hcn.out],h2⟩
      rw[hcn.out] at hle hru
      by_cases hn:n=0
      · exfalso
        have:=hat.bad hlt' (by rw[hcn.out];exact hn)
        rw[HCH.out] at this;cases this
      · have hat':=hat.next hlt' (by rw[hcn.out];exact hn)
        rw[hcn.out] at hat'
        go_wp2_with (first | (go_at_call 98;refine HD.out.mono ?_;intro e w' hd;obtain⟨rfl,rfl⟩:=hD.out _ _ hd) | (at_builtin;refine wpList_append_own _ rfl _ _ 56 rfl w.heap.size 3 i0 (.int .i64 0) 1 8 Tryz.underlying56 hi hz0 hz1 hz2 rfl (by decide) _ _ _ rfl (World.ownsRow.alloc (show wr.ownsRow w.heap.size 3 1 _ x.length (cr x) from hown) _) ⟨wr.heap.size,0,none⟩ 1 1 [.int .i64 (c:Nat)] rfl rfl ?c1 ?c2 ?c3 ?c4 ?c5 ?_))
        case c1 =>
         intro j u hj
         match j,hj with
         | 0,hj=>simp at hj;subst hj;simp[Addr.add]
        case c2=>intro u hu;simp at hu;subst hu;rfl
        case c3=>unfold maxLen;omega
        case c4=>omega
        case c5=>simp;omega
        intro v' w1 hown' hgrow _;have R:=kC hown hsw hown' hgrow;clear hown' hgrow
        go_wp2
        go_roundw
        case rel=>exact⟨k+n,x++[c],by omega,by go_num,by simp;omega,hat',R.1,hb.trans R.2⟩
        case measure=>simp[intOf];omega
    · have hke:k=s.data.toList.length:=by rw[← hsz.out];omega
      have hx:x=all:=by
       have:=At.stop (by rw[← hke];exact hat)
       rw[HCH.out] at this
       exact(Option.some.inj this).symm
      have hr:cI s.data.toList=x:=by rw[hx];exact bP HCH.out
      have hown2:=hown;rw[← hr] at hown2;clear hke hx hr
      go_wp2_with fail
      go_ret
      exact⟨_,rfl,hown2,hb⟩
end Go.Proofs.YtbgaglcgennhiaaGreatDoor
end
section
namespace Go.Proofs.YtbgaglcgennhiaaGreatDoor
open Go.RowKit Rg Tx
set_option maxHeartbeats 8000000 in
theorem gJ (k:Nat) (K:Int) (hK:K=(k:Int)) (hk:k=1∨k=2∨k=3) (s:ByteArray) (w:World) (hs:s.size≤500000000) :
 Calls Tryz.prog 97 #[.string s,.int .i64 K] w fun e w'=>e=.returned (dH k s.data.toList)∧Below w.heap.size w w':=by
 have HV:=Lib.hid (fA s w (by omega));have hsz:=Lib.size_eq s;cases hch:ch s.data.toList with
 | none =>
   have HF:=Lib.hid (dy (Pr.prepL_bad (k:=k) (bh hch)));rw[bh hch] at HV;rw[HF.out];clear hch hsz hK hk;go_enter Tryz.func97,Tryz.ntmps97
   go_wp2_with (go_at_call 72;refine HV.out.mono ?_;rintro e w1 ⟨rfl,rfl⟩)
   go_ret2
   exact⟨rfl,Below.refl _ _⟩
 | some x =>
   have hx0:=cB _ _ _ (Nat.le_refl _) hch;have hxl:=fk _ _ _ (Nat.le_refl _) hch;rw[← hsz] at hxl;have hxm:∀ c∈x,c≤1114111:=fun c hc=>by have:=(hx0 c hc).1;unfold bR at this;omega
   have hone:∀ c,(Pr.one (k != 3) c).length≤2:=fun c=>by
    unfold Pr.one Pr.put Pr.small
    repeat' split
    all_goals simp
   have hyl:=cZ hone x
   obtain⟨y,hy⟩:∃ y,x.flatMap (Pr.one (k != 3))=y:=⟨_,rfl⟩
   have hys:∀ c∈y,c≤1114111:=by
    rw[← hy];exact Pr.mapL_each (p:=fun c=>c≤1114111) fun c hc d hd=>by have:=(Pr.one_fine _ (hx0 c hc) d hd).1;unfold bR at this;omega
   have hpl:Pr.prepL k s.data.toList=Pr.prepC k y:=by rw[Pr.prepL_ch hch,← hy];rfl
   rw[hy] at hyl;have hyb:y.length≤1000000000:=by omega
   have HM:=Lib.hid (fun v W (hv:Reads W.heap.size W v x)=>mF v x (k != 3) W hv (by omega) hxm);have HA:=Lib.hid (fun (c:Nat) W=>lf k c W hk);have HO:=Lib.hid (fun v W (hv:Reads W.heap.size W v y)=>sN v y W hv (by omega));have HB:=Lib.hid (fun v W (hv:Reads W.heap.size W v y)=>pj v y W hv (by omega) hys);rw[hy] at HM;have hrx:cI s.data.toList=x:=bP hch;have HR:=Lib.hid (fun W=>(iP s W (by omega)).mono (fun e w' (h:lD W.heap.size W s.data.toList e w')=>show ∃ v,e=.returned v∧Owned W.heap.size w' v x∧Below W.heap.size W w' from by obtain⟨v,h1,h2,h3⟩:=h;rw[hrx] at h2;exact⟨v,h1,h2,h3⟩));rw[bg hch] at HV
   obtain⟨r,hr⟩:∃ r,dH k s.data.toList=r:=⟨_,rfl⟩
   have HE:=Lib.hid (fun a n (h:Pr.prepC k y=(a,n))=>hr.symm.trans (dy (hpl.trans h)));have HC0:=Lib.hid (fun (h:y.any (Pr.wrong k)=true)=>HE.out _ _ (Pr.prepC_char h));have HC1:=Lib.hid (fun (h:y.any (Pr.wrong k)=false) (h2:Pr.wayB y=false)=>HE.out _ _ (Pr.prepC_ways h h2));have HC2:=Lib.hid (fun (h:y.any (Pr.wrong k)=false) (h2:Pr.wayB y=true)=>HE.out _ _ (Pr.prepC_kept h h2));have HH:=Lib.hid (fun (j:Nat) (h:j < y.length) (h2:Pr.wrong k (y.getD j 0)=true)=>lz h h2);have HN:=Lib.hid (fun (h:∀ j,j < y.length→Pr.wrong k (y.getD j 0)=false)=>iY h);have hbn:(K != 3)=(k != 3):=by
    rw[hK,Bool.eq_iff_iff]
    simp
    omega
   obtain⟨b,hb⟩:∃ b,(k != 3)=b:=⟨_,rfl⟩
   rw[hb] at hbn HM;have hK2:=hK.symm;simp only[hK2] at HA;rw[hr];clear hch hsz hx0 hxl hxm hone hyl hy hys hpl hrx hr HE hb hK hK2 hk;go_enter Tryz.func97,Tryz.ntmps97
   go_wp2_with (go_at_call 72;refine HV.out.mono ?_;rintro e w1 ⟨rfl,rfl⟩)
   refine(HR.out w).mono ?_
   rintro e w2 ⟨v2,rfl,o2,b2⟩;have B2:=Lib.hid b2;have O2:=Lib.hid o2;have M2:=Lib.hid (HM.out _ w2 o2.reads)
   obtain⟨A2,c2,rfl⟩:=o2.slice
   clear o2 b2
   go_wp2_with fail
   refine M2.out.mono ?_;rintro e w4 ⟨v4,rfl,o4,b4⟩;have B4:=Lib.hid (B2.out.trans (b4.mono B2.out.size));have O4:=Lib.hid o4
   obtain⟨A4,c4,hv4⟩:=o4.slice
   subst hv4;have R4:=Lib.hid o4.reads;clear o4 b4 M2 HM
   go_wp2_with fail
   go_loopw [7] (fun i wr=>∃ (j:Nat),j≤y.length∧i=.int .i64 j∧Hid (∀ t,t < j→Pr.wrong k (y.getD t 0)=false)∧Below w4.heap.size w4 wr) (fun i _=>y.length - (intOf i).toNat)
   case atStart=>exact⟨0,Nat.zero_le _,rfl,Lib.hid (fun j h=>absurd h (Nat.not_lt_zero _)),Below.refl _ _⟩
   case round =>
    obtain⟨j,hj,rfl,hno,bw⟩:=hrel
    have hsw:=bw.size
    by_cases hlt:j < y.length
    · obtain⟨-,hx⟩:=R4.out.cells
      obtain⟨ad,rfl,hlb,hc⟩:=hx (by omega)
      have c0:=hc j hlt;rw[← bw.cell (p:=ad.add j) (by rw[au];omega)] at c0
      obtain⟨c,hcx⟩:∃ c,y.getD j 0=c:=⟨_,rfl⟩
      rw[hcx] at c0;have HCX:=Lib.hid hcx;have A5:=Lib.hid (HA.out c wr)
      obtain⟨z,hz⟩:∃ z:Int,(c:Int)=z:=⟨_,rfl⟩
      rw[hz] at A5 c0
      obtain⟨g,hg⟩:∃ g,Pr.wrong k c=g:=⟨_,rfl⟩
      rw[hg] at A5;have HG:=Lib.hid hg;clear hc hx hcx hz hg;cases g with
      | true =>
        have HF:=Lib.hid (HC0.out (HH.out j hlt (by rw[HCX.out];exact HG.out)))
        go_wp2_with fail
        refine A5.out.mono ?_;rintro e w5 ⟨rfl,b5⟩;have B5:=Lib.hid (B4.out.trans ((bw.trans (b5.mono hsw)).mono B4.out.size));clear b5
        go_wp2_with fail
        go_ret2
        exact⟨by rw[HF.out];rfl,B5.out⟩
      | false =>
        have hno2:Hid (∀ t,t < j+1→Pr.wrong k (y.getD t 0)=false):=Lib.hid (fun t ht=>by
         rcases Nat.lt_or_ge t j with h | h
         · exact hno.out t h
         · obtain rfl:t=j:=by omega
           rw[HCX.out];exact HG.out)
        go_wp2_with fail
        refine A5.out.mono ?_;rintro e w5 ⟨rfl,b5⟩;have b6:=bw.trans (b5.mono hsw);clear b5
        go_wp2_with fail
        go_roundw
        case rel=>exact⟨j+1,by omega,by go_num,hno2,b6⟩
        case measure=>simp[intOf];omega
    · have hje:j=y.length:=by omega
      have HW:=Lib.hid (HN.out (fun t ht=>hno.out t (by omega)));have B5:=Lib.hid (B4.out.trans (bw.mono B4.out.size));have R5:=Lib.hid ((R4.out.below bw).more hsw);have W5:=Lib.hid (HO.out _ wr R5.out)
      obtain⟨t,ht⟩:∃ t,Pr.wayB y=t:=⟨_,rfl⟩
      rw[ht] at W5;have HTT:=Lib.hid ht;clear hje ht
      go_wp2_with fail
      refine W5.out.mono ?_;rintro e w6 ⟨rfl,b6⟩;have B6:=Lib.hid (B5.out.trans (b6.mono B5.out.size));have R6:=Lib.hid ((R5.out.below b6).more b6.size);clear b6;cases t with
      | false =>
        have HF:=Lib.hid (HC1.out HW.out HTT.out)
        go_wp2_with fail
        go_ret2
        exact⟨by rw[HF.out];rfl,B6.out⟩
      | true =>
        have HF:=Lib.hid (HC2.out HW.out HTT.out);have Y6:=Lib.hid (HB.out _ w6 R6.out)
        obtain⟨q,hq⟩:∃ q:ByteArray,(⟨(flat y).toArray⟩:ByteArray)=q:=⟨_,rfl⟩
        rw[hq] at Y6 HF;clear hq
        go_wp2_with fail
        refine Y6.out.mono ?_;rintro e w7 ⟨rfl,b7⟩;have B7:=Lib.hid (B6.out.trans (b7.mono B6.out.size));clear b7
        go_wp2_with fail
        go_ret2
        exact⟨by rw[HF.out];rfl,B7.out⟩
theorem eG (k:Nat) (l:List UInt8):∃ (a:ByteArray) (n:Int),dH k l=.tuple #[.string a,.int .i64 n]:=⟨_,_,rfl⟩
set_option maxHeartbeats 1000000 in
theorem qo (s:ByteArray) (w:World) (hs:s.size≤500000000) :
 Calls Tryz.prog 70 #[.string s] w fun e w'=>e=.returned (dH 1 s.data.toList)∧Below w.heap.size w w':=by
 have HP:=Lib.hid (gJ 1 1 rfl (.inl rfl) s w hs)
 obtain⟨a,n,h⟩:=eG 1 s.data.toList
 rw[h] at HP ⊢;clear h;go_enter Tryz.func70,Tryz.ntmps70
 go_wp2_with fail
 refine HP.out.mono ?_;rintro e w1 ⟨rfl,b1⟩
 go_wp2_with fail
 go_ret2
 exact⟨rfl,b1⟩
set_option maxHeartbeats 1000000 in
theorem qX (s:ByteArray) (w:World) (hs:s.size≤500000000) :
 Calls Tryz.prog 69 #[.string s] w fun e w'=>e=.returned (dH 2 s.data.toList)∧Below w.heap.size w w':=by
 have HP:=Lib.hid (gJ 2 2 rfl (.inr (.inl rfl)) s w hs)
 obtain⟨a,n,h⟩:=eG 2 s.data.toList
 rw[h] at HP ⊢;clear h;go_enter Tryz.func69,Tryz.ntmps69
 go_wp2_with fail
 refine HP.out.mono ?_;rintro e w1 ⟨rfl,b1⟩
 go_wp2_with fail
 go_ret2
 exact⟨rfl,b1⟩
set_option maxHeartbeats 1000000 in
theorem kc (s:ByteArray) (w:World) (hs:s.size≤500000000) :
 Calls Tryz.prog 137 #[.string s] w fun e w'=>e=.returned (dH 3 s.data.toList)∧Below w.heap.size w w':=by
 have HP:=Lib.hid (gJ 3 3 rfl (.inr (.inr rfl)) s w hs)
 obtain⟨a,n,h⟩:=eG 3 s.data.toList
 rw[h] at HP ⊢;clear h;go_enter Tryz.func137,Tryz.ntmps137
 go_wp2_with fail
 refine HP.out.mono ?_;rintro e w1 ⟨rfl,b1⟩
 go_wp2_with fail
 go_ret2
 exact⟨rfl,b1⟩
end Go.Proofs.YtbgaglcgennhiaaGreatDoor
end
section
namespace Go.Proofs.YtbgaglcgennhiaaGreatDoor
open Go.RowKit Tx
theorem gh (x:List Nat):(low x=0)↔∀ i,i < x.length→32≤x.getD i 0:=by
 rw[lg]
 constructor
 · intro h i hi
   rcases Nat.lt_or_ge (x.getD i 0) 32 with hc | hc
   · exfalso
     have hm:x.getD i 0∈x.filter (fun c=>decide (c < 32)):=by
      rw[List.mem_filter]
      refine⟨?_,by simpa using hc⟩
      rw[List.getD,List.getElem?_eq_getElem hi];exact List.getElem_mem hi
     rw[List.eq_nil_of_length_eq_zero h] at hm;cases hm
   · exact hc
 · intro h
   refine List.length_eq_zero_iff.2 (List.filter_eq_nil_iff.2 fun a ha=>?_)
   obtain⟨i,hi,rfl⟩:=List.getElem_of_mem ha
   have:=h i hi
   rw[List.getD,List.getElem?_eq_getElem hi] at this;simpa using this
set_option maxHeartbeats 1000000 in
theorem rd (s:ByteArray) (most:Int) (w:World) (hs:s.size < 10000000000000) :
 Calls Tryz.prog 39 #[.string s,.int .i64 most] w fun e w'=>e=.returned (.bool (line s.data.toList most))∧Below w.heap.size w w':=by
 have HR:=Lib.hid (iP s w hs);have HV:=Lib.hid (fun W=>fA s W hs)
 obtain⟨x,hx⟩:∃ x,cI s.data.toList=x:=⟨_,rfl⟩
 have hrl:=k7 s.data.toList;rw[← Lib.size_eq,hx] at hrl;have hR:Hid (∀ e w',lD w.heap.size w s.data.toList e w'→∃ v,e=.returned v∧Owned w.heap.size w' v x∧Below w.heap.size w w'):=fun e w' ⟨v,h1,h2,h3⟩=>⟨v,h1,by rw[← hx];exact h2,h3⟩
 obtain⟨b,hb⟩:∃ b,valid s.data.toList=b:=⟨_,rfl⟩
 obtain⟨r,hr⟩:∃ r,line s.data.toList most=r:=⟨_,rfl⟩
 have hlow:Hid (r=(b&&(low x==0)&&decide ((x.length:Int)≤most))):=by
  unfold Hid;rw[← hr,← hb,← hx];cases h:ch s.data.toList with
  | none=>rw[gV h,bh h];rfl
  | some y=>rw[dP h,bg h,bP h];rfl
 rw[hb] at HV;rw[hr];clear hx hb hr;go_enter Tryz.func39,Tryz.ntmps39
 go_wp2_with (go_at_call 71;refine HR.out.mono ?_;intro e w1 hd;obtain⟨v,rfl,hown,hbw⟩:=hR.out _ _ hd)
 obtain⟨A,cap,hv,hcell⟩:=hown.reads
 subst hv
 go_wp2_with fail
 go_loop [6] (fun i=>∃ k:Nat,k≤x.length∧i=.int .i64 k∧Hid (∀ j,j < k→32≤x.getD j 0)) (fun i=>x.length - (intOf i).toNat)
 case atStart=>exact⟨0,Nat.zero_le _,rfl,fun j hj=>absurd hj (by omega)⟩
 case round =>
  obtain⟨k,hk,rfl,hall⟩:=hrel
  by_cases hlt:k < x.length
  · obtain⟨ad,rfl,hlb,hc⟩:=hcell (by omega)
    have c1:=hc k hlt
    obtain⟨p,hp⟩:∃ p,x.getD k 0=p:=⟨_,rfl⟩
    rw[hp] at c1;have HP:=Lib.hid hp;clear hp hc hcell
    by_cases hp32:(p:Int) < 32
    · have hr:Hid (r=false):=by
       unfold Hid;rw[hlow.out]
       have:(low x==0)=false:=by
        cases h:low x==0 with
        | false=>rfl
        | true =>
          have:=(gh x).1 (eq_of_beq h) k hlt
          rw[HP.out] at this;omega
       rw[this];simp
      go_wp2_with fail
      go_ret
      exact⟨aG hr.out.symm,hbw⟩
    · go_wp2_with fail
      go_round
      case rel =>
       refine⟨k+1,by omega,by go_num,fun j hj=>?_⟩
       rcases Nat.lt_or_ge j k with h | h
       · exact hall.out j h
       · rw[show j=k by omega,HP.out];omega
      case measure=>simp[intOf];omega
  · have hke:k=x.length:=by omega
    have hz:(low x==0)=true:=by
     rw[beq_iff_eq,gh];rw[← hke];exact hall.out
    have hr:Hid (r=(b&&decide ((x.length:Int)≤most))):=by unfold Hid;rw[hlow.out,hz,Bool.and_true]
    clear hke hz hcell;cases b with
    | false =>
      go_wp2_with (go_at_call 72;refine(HV.out _).mono ?_;rintro e w2 ⟨rfl,rfl⟩)
      go_ret
      exact⟨aG (by rw[hr.out];rfl),hbw⟩
    | true =>
      go_wp2_with (go_at_call 72;refine(HV.out _).mono ?_;rintro e w2 ⟨rfl,rfl⟩)
      go_ret
      exact⟨aG (by rw[hr.out];rfl),hbw⟩
end Go.Proofs.YtbgaglcgennhiaaGreatDoor
end
section
namespace Go.Proofs.YtbgaglcgennhiaaGreatDoor
open Go.RowKit Tx
theorem fJ:∀ l:List UInt8,(∀ c∈l,32≤c∧c < 127)→valid l=true
 | [],_=>bg eJ
 | c::l,h=>by
   have H:∀ k:Fin 256,32≤UInt8.ofNat k.val→UInt8.ofNat k.val < 127→valid [UInt8.ofNat k.val]=true:=by decide +kernel
   obtain⟨h1,h2⟩:=h c List.mem_cons_self
   have h3:=H ⟨c.toNat,c.toNat_lt⟩;simp only[UInt8.ofNat_toNat] at h3
   exact(lo (a:=[c]) (h3 h1 h2) (fJ l fun d hd=>h d (List.mem_cons_of_mem _ hd))).1
theorem jy:∀ l:List UInt8,(∀ c∈l,32≤c∧c < 127)→∃ x,ch l=some x∧x.length=l.length∧low x=0
 | [],_=>⟨[],eJ,rfl,pW⟩
 | c::l,h=>by
   have H:∀ k:Fin 256,32≤UInt8.ofNat k.val→UInt8.ofNat k.val < 127→ch [UInt8.ofNat k.val]=some [k.val]∧low [k.val]=0:=by decide +kernel
   obtain⟨h1,h2⟩:=h c List.mem_cons_self
   have h3:=H ⟨c.toNat,c.toNat_lt⟩;simp only[UInt8.ofNat_toNat] at h3
   obtain⟨h4,h5⟩:=h3 h1 h2
   obtain⟨x,k1,k2,k3⟩:=jy l fun d hd=>h d (List.mem_cons_of_mem _ hd)
   refine⟨c.toNat::x,?_,by rw[List.length_cons,List.length_cons,k2],?_⟩
   · have:=sw 1 [c] l [c.toNat] (Nat.le_refl _) h4
     rw[show c::l=[c]++l from rfl,this,k1];rfl
   · rw[lg] at h5 k3 ⊢
     rw[show c.toNat::x=[c.toNat]++x from rfl,List.filter_append,List.length_append,h5,k3]
theorem qP {l:List UInt8} (h:∀ c∈l,32≤c∧c < 127) {n:Int} (hn:(l.length:Int)≤n):line l n=true:=by
 obtain⟨x,k1,k2,k3⟩:=jy l h
 rw[dP k1,k3,k2]
 simp[hn]
theorem js {l:List UInt8} (h:∀ c∈l,32≤c∧c < 127):fY l:=fun c hc=>by
 have h1:=(h c hc).1
 constructor<;>(intro e;subst e;revert h1;decide)
theorem i7:∀ {cs:List Nat},(∀ c∈cs,bR c∧g7 c=true∧32≤c)→fY (flat cs)
 | [],_=>fun c hc=>by rw[ci] at hc;cases hc
 | c::t,h=>by
   obtain⟨h1,h2,h3⟩:=h c List.mem_cons_self
   have e:flat (c::t)=ai c++flat t:=by rw[show c::t=[c]++t from rfl,bH,cH]
   rw[e];intro x hx;rcases List.mem_append.1 hx with hx | hx
   · exact(tY h1 h2 h3).1 x hx
   · exact i7 (fun d hd=>h d (List.mem_cons_of_mem _ hd)) x hx
theorem rW {l:List UInt8} {most:Int} (h:line l most=true):valid l=true∧fY l:=by
 obtain⟨cs,h1,h2,h3⟩:=iM h
 exact⟨bg h1,by rw[← h2];exact i7 h3⟩
theorem mZ (s:ByteArray) (k:Nat) (hk:k < s.size):(s.extract k (k+1)).data.toList=[s[k]]:=by
 have h:k < s.data.toList.length:=by rw[← Lib.size_eq];exact hk
 rw[ByteArray.data_extract,Array.toList_extract,List.extract_eq_take_drop,List.drop_eq_getElem_cons h,Nat.add_sub_cancel_left];rfl
theorem rJ {o:ByteArray} {s:ByteArray} {k:Nat} (hk:k < s.size) (ho:∀ c∈o.data.toList,(32:UInt8)≤c∧c < 127) (h1:(32:Int)≤s[k].toNat) (h2:(s[k].toNat:Int) < 127) :
 ∀ c∈(o++s.extract k (k+1)).data.toList,(32:UInt8)≤c∧c < 127:=by
 intro c hc;rw[ByteArray.data_append,Array.toList_append,mZ s k hk] at hc;rcases List.mem_append.1 hc with hc | hc
 · exact ho c hc
 · rw[List.mem_singleton] at hc
   subst hc
   constructor
   · rw[UInt8.le_iff_toNat_le]
     show 32≤_;omega
   · rw[UInt8.lt_iff_toNat_lt]
     show _ < 127;omega
theorem qR (o s:ByteArray) (k:Nat) (hk:k < s.size):(o++s.extract k (k+1)).size=o.size+1:=by
 rw[Lib.size_eq,ByteArray.data_append,Array.toList_append,mZ s k hk,List.length_append,← Lib.size_eq];rfl
set_option maxHeartbeats 4000000 in
set_option maxRecDepth 100000 in
theorem dK (s:ByteArray) (most:Int) (w:World) (hs:s.size≤1000000000) :
 Calls Tryz.prog 87 #[.string s,.int .i64 most] w fun e w'=>(∃ v:ByteArray,e=.returned (.string v)∧valid v.data.toList=true∧fY v.data.toList∧v.size≤s.size∧(0≤most→line v.data.toList most=true))∧Below w.heap.size w w':=by
 have HL:=Lib.hid (rd s most w (by omega))
 obtain⟨b,hb⟩:∃ b,line s.data.toList most=b:=⟨_,rfl⟩
 have HB:=Lib.hid hb;rw[hb] at HL;clear hb;go_enter Tryz.func87,Tryz.ntmps87
 go_wp2_with fail
 refine HL.out.mono ?_;rintro e w1 ⟨rfl,b1⟩;have B1:=Lib.hid b1;clear b1;cases b
 · have HM0:Hid (0≤most→(((⟨#[]⟩:ByteArray).size:Nat):Int)≤most):=fun h=>h
   have HS0:Hid (∀ c∈(⟨#[]⟩:ByteArray).data.toList,(32:UInt8)≤c∧c < 127):=fun c hc=>by cases hc
   go_wp2_with fail
   go_loopw [5,6] (fun ov iv wr=>∃ (k:Nat) (o:ByteArray),ov=.string o∧iv=.int .i64 k∧k≤s.size∧o.size≤k∧Hid (0≤most→(o.size:Int)≤most)∧Hid (∀ c∈o.data.toList,(32:UInt8)≤c∧c < 127)∧wr=w1) (fun _ iv _=>s.size - (intOf iv).toNat)
   case atStart=>exact⟨0,_,rfl,rfl,Nat.zero_le _,Nat.zero_le _,HM0,HS0,rfl⟩
   case round =>
    obtain⟨k,o,rfl,rfl,hk,ho,HM,HS,rfl⟩:=hrel
    have HLN:Hid (0≤most→line o.data.toList most=true):=fun h=>qP HS.out (by rw[← Lib.size_eq];exact HM.out h)
    by_cases hlt:k < s.size
    · by_cases hm:(o.size:Int) < most
      · go_wp2_with fail
        · rename_i h1 h2
          have hsz:=qR o s k hlt;have hnx:=Lib.hid (rJ hlt HS.out h1 h2);have hmx:Hid (0≤most→(((o++s.extract k (k+1)).size:Nat):Int)≤most):=fun _=>by omega
          go_roundw
          case rel=>exact⟨k+1,_,rfl,by go_num,by omega,by omega,hmx,hnx,trivial⟩
          case measure=>simp[intOf];omega
        all_goals
         go_roundw
         case rel=>exact⟨k+1,_,rfl,by go_num,by omega,by omega,HM,HS,trivial⟩
         case measure=>simp[intOf];omega
      · go_wp2_with fail
        go_ret
        exact⟨⟨_,rfl,fJ _ HS.out,js HS.out,by omega,HLN.out⟩,B1.out⟩
    · go_wp2_with fail
      go_ret
      exact⟨⟨_,rfl,fJ _ HS.out,js HS.out,by omega,HLN.out⟩,B1.out⟩
 · obtain⟨h1,h2⟩:=rW HB.out
   have H1:=Lib.hid h1;have H2:=Lib.hid h2;clear h1 h2
   go_wp2_with fail
   go_ret
   exact⟨⟨_,rfl,H1.out,H2.out,Nat.le_refl _,fun _=>HB.out⟩,B1.out⟩
end Go.Proofs.YtbgaglcgennhiaaGreatDoor
end
