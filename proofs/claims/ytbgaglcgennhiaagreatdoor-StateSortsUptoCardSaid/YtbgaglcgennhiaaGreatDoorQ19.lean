import Derived.Test.YtbgaglcgennhiaaGreatDoorQ13
import Derived.Test.YtbgaglcgennhiaaGreatDoorQ18
set_option maxHeartbeats 8000000
set_option maxRecDepth 100000
namespace Go.Proofs.YtbgaglcgennhiaaGreatDoor
section
open Go.RowKit Rg Tx
theorem vE (c:Nat):Pr.wrong 1 c=(bO aG c||([32,34,38,39,47,58,60,62,64]:List Nat).any fun d=>(d:Int)==(c:Int)):=by
 have h:bO Pr.besideBL c=([32,34,38,39,47,58,60,62,64]:List Nat).any fun d=>(d:Int)==(c:Int):=by rw[Bool.eq_iff_iff];simp[bO,Pr.besideBL];omega
 rw[<-h];rfl
theorem vF (c:Nat):(!Pr.wrong 2 c)=(decide ((48:Int)<=c)&&decide ((c:Int)<=57)||(c:Int)==45||(c:Int)==46||bO au c||bO ag c):=by
 have h:bO Pr.besideLL c=(decide ((48:Int)<=c)&&decide ((c:Int)<=57)||(c:Int)==45||(c:Int)==46):=by rw[Bool.eq_iff_iff];simp[bO,Pr.besideLL];omega
 rw[<-h];show (!(!(bO au c||bO ag c||bO Pr.besideLL c)))=_;cases bO au c<;>cases bO ag c<;>cases bO Pr.besideLL c<;>rfl
theorem AV:(cV [32,34,38,39,47,58,60,62,64]).toArray=#[.int .i64 32,.int .i64 34,.int .i64 38,.int .i64 39,.int .i64 47,.int .i64 58,.int .i64 60,.int .i64 62,.int .i64 64]:=by unfold cV;rfl
theorem l5 (c:Nat) (w:World):Calls Tryz.prog 132 #[.int .i64 1,.int .i64 c] w fun e w'=>e=.returned (.bool (!Pr.wrong 1 c))/\Below w.heap.size w w':=by
 have HB:=aa gx;have HI:=aa (fun (B:Nat) v W (h:OwnR B W v aG)=>dN v aG c W h.reads (by simp[aG]));have hn:=AV;obtain⟨x,hx⟩:∃ x:List Nat,x=[32,34,38,39,47,58,60,62,64]:=⟨_,rfl⟩;have hxl:x.length=9:=by rw[hx];rfl
 have hw:=vE c;rw[<-hx] at hw hn;have HH:=aa (fun (W:World)=>yW (.slice (some ⟨W.heap.size,0,none⟩) 9 9) x c (W.alloc (.cells (cV x).toArray 3)) ((Reads.made W 3 x _ 9 9 rfl hxl).more (by simp)) (by omega));rw[hn] at HH;obtain⟨g1,h1⟩:=ac (bO aG c);obtain⟨g2,h2⟩:∃ g,(x.any fun d=>(d:Int)==(c:Int))=g:=⟨_,rfl⟩;rw[h1,h2] at hw;rw[h1] at HI;rw[h2] at HH;rw[hw];obtain⟨z,hz⟩:∃ z:Int,(c:Int)=z:=⟨_,rfl⟩;rw[hz] at HI HH ⊢;clear hn hx hxl hw h1 h2 hz;cases g1<;>cases g2
 all_goals
  go_enter Tryz.func132,Tryz.ntmps132;go_wp2_with fail
  refine(HB.out w).mono ?_;rintro e w1 ⟨v1,rfl,o1,b1⟩;have O1:=aa o1;obtain⟨A1,c1,rfl⟩:=o1.slice;clear o1;go_wp2_with fail
  refine(HI.out _ _ w1 O1.out).mono ?_;rintro e w2 ⟨rfl,b2⟩;have B2:=aa (b1.trans (b2.mono b1.size));have H2:=aa (HH.out w2);have B3:=aa (B2.out.alloc B2.out.size (.cells #[.int .i64 32,.int .i64 34,.int .i64 38,.int .i64 39,.int .i64 47,.int .i64 58,.int .i64 60,.int .i64 62,.int .i64 64] 3));clear b1 b2
  (go_wp2_with (go_at_call 174;refine H2.out.mono ?_;rintro e w4 ⟨rfl,rfl⟩));go_ret
  first|exact⟨rfl,B3.out⟩|exact⟨rfl,B2.out⟩
theorem l7 (c:Nat) (w:World):Calls Tryz.prog 132 #[.int .i64 3,.int .i64 c] w fun e w'=>e=.returned (.bool (!Pr.wrong 3 c))/\Below w.heap.size w w':=by
 have HB:=aa gx;have HI:=aa (fun (B:Nat) v W (h:OwnR B W v aG)=>dN v aG c W h.reads (by simp[aG]));have hw:Pr.wrong 3 c=bO aG c:=rfl;obtain⟨g1,h1⟩:=ac (bO aG c);rw[h1] at hw HI;rw[hw];obtain⟨z,hz⟩:∃ z:Int,(c:Int)=z:=⟨_,rfl⟩;rw[hz] at HI ⊢;clear hw h1 hz;cases g1
 all_goals
  go_enter Tryz.func132,Tryz.ntmps132;go_wp2_with fail
  refine(HB.out w).mono ?_;rintro e w1 ⟨v1,rfl,o1,b1⟩;have O1:=aa o1;obtain⟨A1,c1,rfl⟩:=o1.slice;clear o1;go_wp2_with fail
  refine(HI.out _ _ w1 O1.out).mono ?_;rintro e w2 ⟨rfl,b2⟩;have B2:=aa (b1.trans (b2.mono b1.size));clear b1 b2;go_wp2_with fail
  go_ret;exact⟨rfl,B2.out⟩
theorem l6 (c:Nat) (w:World):Calls Tryz.prog 132 #[.int .i64 2,.int .i64 c] w fun e w'=>e=.returned (.bool (!Pr.wrong 2 c))/\Below w.heap.size w w':=by
 have HL:=aa fM;have HR:=aa e6;have HI:=aa (fun (B:Nat) v W (h:OwnR B W v au)=>dN v au c W h.reads (by simp[au]));have HJ:=aa (fun (B:Nat) v W (h:OwnR B W v ag)=>dN v ag c W h.reads (by simp[ag]));have hw:=vF c;obtain⟨g1,h1⟩:=ac (bO au c);obtain⟨g2,h2⟩:=ac (bO ag c);rw[h1,h2] at hw;rw[h1] at HI;rw[h2] at HJ;rw[hw];obtain⟨z,hz⟩:∃ z:Int,(c:Int)=z:=⟨_,rfl⟩;rw[hz] at HI HJ ⊢;clear hw h1 h2 hz;obtain⟨d,hd⟩:=ac ((decide ((48:Int)<=z)&&decide (z<=57)||z==45||z==46));rw[hd];cases d with
 | true=>
   rcases(show (decide (48<=z)=true/\decide (z<=57)=true)\/(decide (48<=z)=false/\(z==45)=true)\/(decide (48<=z)=false/\(z==45)=false/\(z==46)=true) by simp only[Bool.or_eq_true,Bool.and_eq_true,decide_eq_true_eq,decide_eq_false_iff_not,beq_iff_eq,beq_eq_false_iff_ne] at hd ⊢;omega) with ⟨k1,k2⟩|⟨k1,k2⟩|⟨k1,k2,k3⟩
   all_goals
    clear hd;go_enter Tryz.func132,Tryz.ntmps132;(go_wp2_with fail);go_ret;exact⟨rfl,aE _ _⟩
 | false=>
   rcases(show (decide (48<=z)=true/\decide (z<=57)=false/\(z==45)=false/\(z==46)=false)\/(decide (48<=z)=false/\(z==45)=false/\(z==46)=false) by simp only[Bool.or_eq_false_iff,Bool.and_eq_false_iff,decide_eq_true_eq,decide_eq_false_iff_not,beq_eq_false_iff_ne] at hd ⊢;omega) with ⟨k1,k2,k3,k4⟩|⟨k1,k2,k3⟩
   all_goals
    clear hd;cases g1 with
    | true=>go_enter Tryz.func132,Tryz.ntmps132;(go_wp2_with fail);refine(HL.out w).mono ?_;rintro e w1 ⟨v1,rfl,o1,b1⟩;have O1:=aa o1;obtain⟨A1,c1,rfl⟩:=o1.slice;clear o1;(go_wp2_with fail);refine(HI.out _ _ w1 O1.out).mono ?_;rintro e w2 ⟨rfl,b2⟩;have B2:=aa (b1.trans (b2.mono b1.size));clear b1 b2;(go_wp2_with fail);go_ret;exact⟨rfl,B2.out⟩
    | false=>
      cases g2
      all_goals
       go_enter Tryz.func132,Tryz.ntmps132;(go_wp2_with fail);refine(HL.out w).mono ?_;rintro e w1 ⟨v1,rfl,o1,b1⟩;have O1:=aa o1;obtain⟨A1,c1,rfl⟩:=o1.slice;clear o1;(go_wp2_with fail);refine(HI.out _ _ w1 O1.out).mono ?_;rintro e w2 ⟨rfl,b2⟩;have B2:=aa (b1.trans (b2.mono b1.size));clear b1 b2;(go_wp2_with fail);refine(HR.out w2).mono ?_;rintro e w3 ⟨v3,rfl,o3,b3⟩;have B3:=aa (B2.out.trans (b3.mono B2.out.size));have O3:=aa o3;obtain⟨A3,c3,rfl⟩:=o3.slice;clear o3 b3;(go_wp2_with fail);refine(HJ.out _ _ w3 O3.out).mono ?_;rintro e w4 ⟨rfl,b4⟩;have B4:=aa (B3.out.trans (b4.mono B3.out.size));clear b4;(go_wp2_with fail);go_ret;exact⟨rfl,B4.out⟩
theorem nw (k c:Nat) (w:World) (hk:k=1\/k=2\/k=3):Calls Tryz.prog 132 #[.int .i64 k,.int .i64 c] w fun e w'=>e=.returned (.bool (!Pr.wrong k c))/\Below w.heap.size w w':=by
 rcases hk with rfl|rfl|rfl
 ·exact l5 c w
 ·exact l6 c w
 ·exact l7 c w
end
section
open Go.RowKit Tx
def mI (B:Nat) (w:World) (l:List UInt8) (e:Ending) (w':World):Prop:=∃ v,e=.returned v/\Owned B w' v (dB l)/\Below B w w'
theorem lp (s:ByteArray) (w:World) (hs:s.size<10000000000000):
 Calls Tryz.prog 71 #[.string s] w (mI w.heap.size w s.data.toList):=by
 obtain⟨i0,hi,hz0,hz1,hz2⟩:=info_parts nd;have hsz:=aa (bS s);have HV:=aa (gP s w hs);cases hch:ch s.data.toList with
 | none=>have hfin:mI w.heap.size w s.data.toList (.returned (.slice none 0 0)) w:=⟨_,rfl,by rw[gO hch];exact Owned.nil _ _,aE _ _⟩;rw[bz hch] at HV;have HF:=aa hfin;clear hch hfin;go_enter Tryz.func71,Tryz.ntmps71;(go_wp2_with (go_at_call 72;refine HV.out.mono ?_;rintro e w' ⟨rfl,rfl⟩));go_ret;exact HF.out
 | some all=>
   rw[bA hch] at HV;have HCH:=aa hch;clear hch;go_enter Tryz.func71,Tryz.ntmps71;go_wp2_with (go_at_call 72;refine HV.out.mono ?_;rintro e w' ⟨rfl,rfl⟩)
   go_loopw [3,4] (fun v at_ wr=>∃ (k:Nat) (x:List Nat),k<=s.size/\at_=.int .i64 k/\x.length<=k/\At s.data.toList k x/\Owned w.heap.size wr v x/\Below w.heap.size w wr) (fun _ at_ _=>s.size-(intOf at_).toNat)
   case atStart=>exact⟨0,[],bI _,rfl,aq _,At.start _,Owned.nil _ _,aE _ _⟩
   case round=>
    obtain⟨k,x,hk,rfl,hxk,hat,hown,hb⟩:=hrel;have hsw:=hb.size;by_cases hlt:k<s.size
    ·have hlt':k<s.data.toList.length:=(by rw[<-hsz.out];exact hlt);have hle:=po (f8 hlt');have hru:=zf (s.data.toList.drop k);rw[List.length_drop,<-hsz.out] at hle;have HD:=aa (pj s k wr hs hlt);obtain⟨c,n,hcn⟩:∃ c n,Hid (nx (s.data.toList.drop k)=(c,n)):=⟨_,_,aa rfl⟩;have hD:Hid (∀ e w',Nexted wr (s.data.toList.drop k) e w'->e=.returned (.tuple #[.int .i64 c,.int .i64 n])/\wr=w'):=(fun e w' ⟨h1,h2⟩=>⟨by rw[h1,hcn.out],h2⟩);rw[hcn.out] at hle hru;by_cases hn:n=0
     ·exfalso;have:=hat.bad hlt' (by rw[hcn.out];exact hn);rw[HCH.out] at this;cases this
     ·have hat':=hat.next hlt' (by rw[hcn.out];exact hn);rw[hcn.out] at hat';go_wp2_with (first|(go_at_call 98;refine HD.out.mono ?_;intro e w' hd;obtain⟨rfl,rfl⟩:=hD.out _ _ hd)|(at_builtin;refine wpList_append_own _ rfl _ _ 56 rfl w.heap.size 3 i0 (.int .i64 0) 1 8 Tryz.underlying56 hi hz0 hz1 hz2 rfl (by decide) _ _ _ rfl (World.ownsRow.alloc (show wr.ownsRow w.heap.size 3 1 _ x.length (cV x) from hown) _) ⟨wr.heap.size,0,none⟩ 1 1 [.int .i64 (c:Nat)] rfl rfl ?c1 ?c2 ?c3 ?c4 ?c5 ?_))
      case c1=>
       intro j u hj
       match j,hj with
       |0,hj=>simp at hj;subst hj;simp[Addr.add]
      case c2=>intro u hu;simp at hu;subst hu;rfl
      case c3=>unfold maxLen;omega
      case c4=>omega
      case c5=>simp;omega
      intro v' w1 hown' hgrow _;have R:=mx hown hsw hown' hgrow;clear hown' hgrow;(go_wp2);go_roundw;case rel=>exact⟨k+n,x++[c],by omega,by go_num,by simp;omega,hat',R.1,hb.trans R.2⟩
      case measure=>simp[intOf];omega
    ·have hke:k=s.data.toList.length:=(by rw[<-hsz.out];omega);have hx:x=all:=(by have:=At.stop (by rw[<-hke];exact hat);rw[HCH.out] at this;exact(Option.some.inj this).symm);have hr:dB s.data.toList=x:=(by rw[hx];exact cz HCH.out);have hown2:=hown;rw[<-hr] at hown2;clear hke hx hr;(go_wp2_with fail);go_ret;exact⟨_,rfl,hown2,hb⟩
end
section
open Go.RowKit Rg Tx
theorem ji (k:Nat) (K:Int) (hK:K=(k:Int)) (hk:k=1\/k=2\/k=3) (s:ByteArray) (w:World) (hs:s.size<=500000000):
 Calls Tryz.prog 97 #[.string s,.int .i64 K] w fun e w'=>e=.returned (eF k s.data.toList)/\Below w.heap.size w w':=by
 have HV:=aa (gP s w (by omega));have hsz:=bS s;cases hch:ch s.data.toList with
 | none=>
   have HF:=aa (eo (Pr.prepL_bad (k:=k) (bz hch)));rw[bz hch] at HV;rw[HF.out];clear hch hsz hK hk;go_enter Tryz.func97,Tryz.ntmps97;(go_wp2_with (go_at_call 72;refine HV.out.mono ?_;rintro e w1 ⟨rfl,rfl⟩));go_ret2
   exact⟨rfl,aE _ _⟩
 | some x=>
   have hx0:=dp _ _ _ (aq _) hch;have hxl:=fZ _ _ _ (aq _) hch;rw[<-hsz] at hxl;have hxm:∀ c∈x,c<=1114111:=(fun c hc=>by have:=(hx0 c hc).1;unfold cB at this;omega);have hone:∀ c,(Pr.one (k != 3) c).length<=2:=fun c=>by
    unfold Pr.one Pr.put Pr.small
    repeat' split
    all_goals simp
   have hyl:=dS hone x;obtain⟨y,hy⟩:=ac (x.flatMap (Pr.one (k != 3)));have hys:∀ c∈y,c<=1114111:=(by rw[<-hy];exact Pr.mapL_each (p:=fun c=>c<=1114111) fun c hc d hd=>by have:=(Pr.one_fine _ (hx0 c hc) d hd).1;unfold cB at this;omega);have hpl:Pr.prepL k s.data.toList=Pr.prepC k y:=(by rw[Pr.prepL_ch hch,<-hy];rfl);rw[hy] at hyl;have hyb:y.length<=1000000000:=(by omega);have HM:=aa (fun v W (hv:Reads W.heap.size W v x)=>pN v x (k != 3) W hv (by omega) hxm);have HA:=aa (fun (c:Nat) W=>nw k c W hk);have HO:=aa (fun v W (hv:Reads W.heap.size W v y)=>xV v y W hv (by omega));have HB:=aa (fun v W (hv:Reads W.heap.size W v y)=>rK v y W hv (by omega) hys);rw[hy] at HM;have hrx:dB s.data.toList=x:=cz hch;have HR:=aa (fun W=>(lp s W (by omega)).mono (fun e w' (h:mI W.heap.size W s.data.toList e w')=>show ∃ v,e=.returned v/\Owned W.heap.size w' v x/\Below W.heap.size W w' from by obtain⟨v,h1,h2,h3⟩:=h;rw[hrx] at h2;exact⟨v,h1,h2,h3⟩));rw[bA hch] at HV;obtain⟨r,hr⟩:=ac (eF k s.data.toList);have HE:=aa (fun a n (h:Pr.prepC k y=(a,n))=>hr.symm.trans (eo (hpl.trans h)));have HC0:=aa (fun (h:y.any (Pr.wrong k)=true)=>HE.out _ _ (Pr.prepC_char h));have HC1:=aa (fun (h:y.any (Pr.wrong k)=false) (h2:Pr.wayB y=false)=>HE.out _ _ (Pr.prepC_ways h h2));have HC2:=aa (fun (h:y.any (Pr.wrong k)=false) (h2:Pr.wayB y=true)=>HE.out _ _ (Pr.prepC_kept h h2));have HH:=aa (fun (j:Nat) (h:j<y.length) (h2:Pr.wrong k (y.getD j 0)=true)=>mK h h2);have HN:=aa (fun (h:∀ j,j<y.length->Pr.wrong k (y.getD j 0)=false)=>ko h);have hbn:(K != 3)=(k != 3):=(by rw[hK,Bool.eq_iff_iff];simp;omega);obtain⟨b,hb⟩:=ac (k != 3);rw[hb] at hbn HM;have hK2:=hK.symm;simp only[hK2] at HA;rw[hr];clear hch hsz hx0 hxl hxm hone hyl hy hys hpl hrx hr HE hb hK hK2 hk;go_enter Tryz.func97,Tryz.ntmps97;(go_wp2_with (go_at_call 72;refine HV.out.mono ?_;rintro e w1 ⟨rfl,rfl⟩));refine(HR.out w).mono ?_;rintro e w2 ⟨v2,rfl,o2,b2⟩;have B2:=aa b2;have O2:=aa o2;have M2:=aa (HM.out _ w2 o2.reads);obtain⟨A2,c2,rfl⟩:=o2.slice;clear o2 b2;(go_wp2_with fail);refine M2.out.mono ?_;rintro e w4 ⟨v4,rfl,o4,b4⟩;have B4:=aa (B2.out.trans (b4.mono B2.out.size));have O4:=aa o4;obtain⟨A4,c4,hv4⟩:=o4.slice;subst hv4;have R4:=aa o4.reads;clear o4 b4 M2 HM;go_wp2_with fail
   go_loopw [7] (fun i wr=>∃ (j:Nat),j<=y.length/\i=.int .i64 j/\Hid (∀ t,t<j->Pr.wrong k (y.getD t 0)=false)/\Below w4.heap.size w4 wr) (fun i _=>y.length-(intOf i).toNat)
   case atStart=>exact⟨0,bI _,rfl,aa (fun j h=>absurd h (Nat.not_lt_zero _)),aE _ _⟩
   case round=>
    obtain⟨j,hj,rfl,hno,bw⟩:=hrel;have hsw:=bw.size;by_cases hlt:j<y.length
    ·obtain⟨-,hx⟩:=R4.out.cells;obtain⟨ad,rfl,hlb,hc⟩:=hx (by omega);have c0:=hc j hlt;rw[<-bw.cell (p:=ad.add j) (by rw[aC];omega)] at c0;obtain⟨c,hcx⟩:=ac (y.getD j 0);rw[hcx] at c0;have HCX:=aa hcx;have A5:=aa (HA.out c wr);obtain⟨z,hz⟩:∃ z:Int,(c:Int)=z:=⟨_,rfl⟩;rw[hz] at A5 c0;obtain⟨g,hg⟩:=ac (Pr.wrong k c);rw[hg] at A5;have HG:=aa hg;clear hc hx hcx hz hg;cases g with
     | true=>
       have HF:=aa (HC0.out (HH.out j hlt (by rw[HCX.out];exact HG.out)));(go_wp2_with fail);refine A5.out.mono ?_;rintro e w5 ⟨rfl,b5⟩;have B5:=aa (B4.out.trans ((bw.trans (b5.mono hsw)).mono B4.out.size));clear b5;(go_wp2_with fail);go_ret2
       exact⟨by rw[HF.out];rfl,B5.out⟩
     | false=>
       have hno2:Hid (∀ t,t<j+1->Pr.wrong k (y.getD t 0)=false):=aa (fun t ht=>by
        rcases Nat.lt_or_ge t j with h|h
        ·exact hno.out t h
        ·obtain rfl:t=j:=(by omega);rw[HCX.out];exact HG.out)
       (go_wp2_with fail);refine A5.out.mono ?_;rintro e w5 ⟨rfl,b5⟩;have b6:=bw.trans (b5.mono hsw);clear b5;(go_wp2_with fail);go_roundw;case rel=>exact⟨j+1,by omega,by go_num,hno2,b6⟩
       case measure=>simp[intOf];omega
    ·have hje:j=y.length:=(by omega);have HW:=aa (HN.out (fun t ht=>hno.out t (by omega)));have B5:=aa (B4.out.trans (bw.mono B4.out.size));have R5:=aa ((R4.out.below bw).more hsw);have W5:=aa (HO.out _ wr R5.out);obtain⟨t,ht⟩:=ac (Pr.wayB y);rw[ht] at W5;have HTT:=aa ht;clear hje ht;(go_wp2_with fail);refine W5.out.mono ?_;rintro e w6 ⟨rfl,b6⟩;have B6:=aa (B5.out.trans (b6.mono B5.out.size));have R6:=aa ((R5.out.below b6).more b6.size);clear b6;cases t with
     | false=>
       have HF:=aa (HC1.out HW.out HTT.out);(go_wp2_with fail);go_ret2
       exact⟨by rw[HF.out];rfl,B6.out⟩
     | true=>
       have HF:=aa (HC2.out HW.out HTT.out);have Y6:=aa (HB.out _ w6 R6.out);obtain⟨q,hq⟩:∃ q:ByteArray,(⟨(flat y).toArray⟩:ByteArray)=q:=⟨_,rfl⟩;rw[hq] at Y6 HF;clear hq;(go_wp2_with fail);refine Y6.out.mono ?_;rintro e w7 ⟨rfl,b7⟩;have B7:=aa (B6.out.trans (b7.mono B6.out.size));clear b7;(go_wp2_with fail);go_ret2
       exact⟨by rw[HF.out];rfl,B7.out⟩
theorem fL (k:Nat) (l:List UInt8):∃ (a:ByteArray) (n:Int),eF k l=.tuple #[.string a,.int .i64 n]:=⟨_,_,rfl⟩
theorem ux (s:ByteArray) (w:World) (hs:s.size<=500000000):
 Calls Tryz.prog 70 #[.string s] w fun e w'=>e=.returned (eF 1 s.data.toList)/\Below w.heap.size w w':=by
 have HP:=aa (ji 1 1 rfl (.inl rfl) s w hs);obtain⟨a,n,h⟩:=fL 1 s.data.toList;rw[h] at HP ⊢;clear h;go_enter Tryz.func70,Tryz.ntmps70;go_wp2_with fail
 refine HP.out.mono ?_;rintro e w1 ⟨rfl,b1⟩;go_wp2_with fail
 go_ret2
 exact⟨rfl,b1⟩
theorem ut (s:ByteArray) (w:World) (hs:s.size<=500000000):
 Calls Tryz.prog 69 #[.string s] w fun e w'=>e=.returned (eF 2 s.data.toList)/\Below w.heap.size w w':=by
 have HP:=aa (ji 2 2 rfl (.inr (.inl rfl)) s w hs);obtain⟨a,n,h⟩:=fL 2 s.data.toList;rw[h] at HP ⊢;clear h;go_enter Tryz.func69,Tryz.ntmps69;go_wp2_with fail
 refine HP.out.mono ?_;rintro e w1 ⟨rfl,b1⟩;go_wp2_with fail
 go_ret2
 exact⟨rfl,b1⟩
theorem l8 (s:ByteArray) (w:World) (hs:s.size<=500000000):
 Calls Tryz.prog 137 #[.string s] w fun e w'=>e=.returned (eF 3 s.data.toList)/\Below w.heap.size w w':=by
 have HP:=aa (ji 3 3 rfl (.inr (.inr rfl)) s w hs);obtain⟨a,n,h⟩:=fL 3 s.data.toList;rw[h] at HP ⊢;clear h;go_enter Tryz.func137,Tryz.ntmps137;go_wp2_with fail
 refine HP.out.mono ?_;rintro e w1 ⟨rfl,b1⟩;go_wp2_with fail
 go_ret2
 exact⟨rfl,b1⟩
end
section
open Go.RowKit Tx
theorem iC (x:List Nat):(low x=0)↔∀ i,i<x.length->32<=x.getD i 0:=by
 rw[nh];constructor
 ·intro h i hi;rcases Nat.lt_or_ge (x.getD i 0) 32 with hc|hc
  ·exfalso;have hm:x.getD i 0∈x.filter (fun c=>decide (c<32)):=(by rw[List.mem_filter];refine⟨?_,by simpa using hc⟩;rw[List.getD,aQ hi];exact List.getElem_mem hi);rw[List.eq_nil_of_length_eq_zero h] at hm;cases hm
  ·exact hc
 ·intro h;refine List.length_eq_zero_iff.2 (List.filter_eq_nil_iff.2 fun a ha=>?_);obtain⟨i,hi,rfl⟩:=List.getElem_of_mem ha;have:=h i hi;rw[List.getD,aQ hi] at this;simpa using this
theorem uw (s:ByteArray) (most:Int) (w:World) (hs:s.size<10000000000000):
 Calls Tryz.prog 39 #[.string s,.int .i64 most] w fun e w'=>e=.returned (.bool (line s.data.toList most))/\Below w.heap.size w w':=by
 have HR:=aa (lp s w hs);have HV:=aa (fun W=>gP s W hs);obtain⟨x,hx⟩:=ac (dB s.data.toList);have hrl:=nE s.data.toList;rw[<-bS,hx] at hrl;have hR:Hid (∀ e w',mI w.heap.size w s.data.toList e w'->∃ v,e=.returned v/\Owned w.heap.size w' v x/\Below w.heap.size w w'):=fun e w' ⟨v,h1,h2,h3⟩=>⟨v,h1,by rw[<-hx];exact h2,h3⟩
 obtain⟨b,hb⟩:=ac (valid s.data.toList);obtain⟨r,hr⟩:=ac (line s.data.toList most);have hlow:Hid (r=(b&&(low x==0)&&decide ((x.length:Int)<=most))):=by
  unfold Hid;rw[<-hr,<-hb,<-hx];cases h:ch s.data.toList with
  |none=>rw[i9 h,bz h];rfl
  |some y=>rw[dK h,bA h,cz h];rfl
 rw[hb] at HV;rw[hr];clear hx hb hr;go_enter Tryz.func39,Tryz.ntmps39;go_wp2_with (go_at_call 71;refine HR.out.mono ?_;intro e w1 hd;obtain⟨v,rfl,hown,hbw⟩:=hR.out _ _ hd)
 obtain⟨A,cap,hv,hcell⟩:=hown.reads;subst hv;go_wp2_with fail
 go_loop [6] (fun i=>∃ k:Nat,k<=x.length/\i=.int .i64 k/\Hid (∀ j,j<k->32<=x.getD j 0)) (fun i=>x.length-(intOf i).toNat)
 case atStart=>exact⟨0,bI _,rfl,fun j hj=>absurd hj (by omega)⟩
 case round=>
  obtain⟨k,hk,rfl,hall⟩:=hrel;by_cases hlt:k<x.length
  ·obtain⟨ad,rfl,hlb,hc⟩:=hcell (by omega);have c1:=hc k hlt;obtain⟨p,hp⟩:=ac (x.getD k 0);rw[hp] at c1;have HP:=aa hp;clear hp hc hcell;by_cases hp32:(p:Int)<32
   ·have hr:Hid (r=false):=by
     unfold Hid;rw[hlow.out];have:(low x==0)=false:=by
      cases h:low x==0 with
      |false=>rfl
      | true=>have:=(iC x).1 (eq_of_beq h) k hlt;rw[HP.out] at this;omega
     rw[this];simp
    (go_wp2_with fail);go_ret;exact⟨aV hr.out.symm,hbw⟩
   ·(go_wp2_with fail);go_round
    case rel=>
     refine⟨k+1,by omega,by go_num,fun j hj=>?_⟩;rcases Nat.lt_or_ge j k with h|h
     ·exact hall.out j h
     ·rw[show j=k by omega,HP.out];omega
    case measure=>simp[intOf];omega
  ·have hke:k=x.length:=(by omega);have hz:(low x==0)=true:=(by rw[beq_iff_eq,iC];rw[<-hke];exact hall.out);have hr:Hid (r=(b&&decide ((x.length:Int)<=most))):=(by unfold Hid;rw[hlow.out,hz,Bool.and_true]);clear hke hz hcell;cases b with
   | false=>(go_wp2_with (go_at_call 72;refine(HV.out _).mono ?_;rintro e w2 ⟨rfl,rfl⟩));go_ret;exact⟨aV (by rw[hr.out];rfl),hbw⟩
   | true=>(go_wp2_with (go_at_call 72;refine(HV.out _).mono ?_;rintro e w2 ⟨rfl,rfl⟩));go_ret;exact⟨aV (by rw[hr.out];rfl),hbw⟩
theorem gQ:∀ l:List UInt8,(∀ c∈l,32<=c/\c<127)->valid l=true
 |[],_=>bA fD
 | c::l,h=>by have H:∀ k:Fin 256,32<=UInt8.ofNat k.val->UInt8.ofNat k.val<127->valid [UInt8.ofNat k.val]=true:=(by decide +kernel);obtain⟨h1,h2⟩:=h c List.mem_cons_self;have h3:=H ⟨c.toNat,c.toNat_lt⟩;simp only[UInt8.ofNat_toNat] at h3;exact(nY (a:=[c]) (h3 h1 h2) (gQ l fun d hd=>h d (List.mem_cons_of_mem _ hd))).1
theorem ls:∀ l:List UInt8,(∀ c∈l,32<=c/\c<127)->∃ x,ch l=some x/\x.length=l.length/\low x=0
 |[],_=>⟨[],fD,rfl,sJ⟩
 | c::l,h=>by
   have H:∀ k:Fin 256,32<=UInt8.ofNat k.val->UInt8.ofNat k.val<127->ch [UInt8.ofNat k.val]=some [k.val]/\low [k.val]=0:=(by decide +kernel);obtain⟨h1,h2⟩:=h c List.mem_cons_self;have h3:=H ⟨c.toNat,c.toNat_lt⟩;simp only[UInt8.ofNat_toNat] at h3;obtain⟨h4,h5⟩:=h3 h1 h2;obtain⟨x,k1,k2,k3⟩:=(ls l fun d hd=>h d (List.mem_cons_of_mem _ hd));refine⟨c.toNat::x,?_,by rw[List.length_cons,List.length_cons,k2],?_⟩
   ·have:=vT 1 [c] l [c.toNat] (aq _) h4;rw[show c::l=[c]++l from rfl,this,k1];rfl
   ·rw[nh] at h5 k3 ⊢;rw[show c.toNat::x=[c.toNat]++x from rfl,List.filter_append,de,h5,k3]
theorem uK {l:List UInt8} (h:∀ c∈l,32<=c/\c<127) {n:Int} (hn:(l.length:Int)<=n):line l n=true:=by obtain⟨x,k1,k2,k3⟩:=ls l h;rw[dK k1,k3,k2];simp[hn]
theorem lu {l:List UInt8} (h:∀ c∈l,32<=c/\c<127):g7 l:=fun c hc=>by have h1:=(h c hc).1;constructor<;>(intro e;subst e;revert h1;decide)
theorem kI:∀ {cs:List Nat},(∀ c∈cs,cB c/\jD c=true/\32<=c)->g7 (flat cs)
 |[],_=>fun c hc=>by rw[cH] at hc;cases hc
 | c::t,h=>by
   obtain⟨h1,h2,h3⟩:=h c List.mem_cons_self;have e:flat (c::t)=enc c++flat t:=(by rw[show c::t=[c]++t from rfl,bU,dx]);rw[e];intro x hx;rcases List.mem_append.1 hx with hx|hx
   ·exact(wn h1 h2 h3).1 x hx
   ·exact kI (fun d hd=>h d (List.mem_cons_of_mem _ hd)) x hx
theorem tD {l:List UInt8} {most:Int} (h:line l most=true):valid l=true/\g7 l:=by obtain⟨cs,h1,h2,h3⟩:=fj h;exact⟨bA h1,by rw[<-h2];exact kI h3⟩
theorem pr (s:ByteArray) (k:Nat) (hk:k<s.size):(s.extract k (k+1)).data.toList=[s[k]]:=by
 have h:k<s.data.toList.length:=by rw[<-bS];exact hk
 rw[ByteArray.data_extract,Array.toList_extract,List.extract_eq_take_drop,List.drop_eq_getElem_cons h,Nat.add_sub_cancel_left];rfl
theorem uM {o:ByteArray} {s:ByteArray} {k:Nat} (hk:k<s.size) (ho:∀ c∈o.data.toList,(32:UInt8)<=c/\c<127) (h1:(32:Int)<=s[k].toNat) (h2:(s[k].toNat:Int)<127):
 ∀ c∈(o++s.extract k (k+1)).data.toList,(32:UInt8)<=c/\c<127:=by
 intro c hc;rw[ByteArray.data_append,Array.toList_append,pr s k hk] at hc;rcases List.mem_append.1 hc with hc|hc
 ·exact ho c hc
 ·rw[List.mem_singleton] at hc;subst hc;constructor
  ·rw[UInt8.le_iff_toNat_le];show 32<=_;omega
  ·rw[UInt8.lt_iff_toNat_lt];show _<127;omega
theorem tL (o s:ByteArray) (k:Nat) (hk:k<s.size):(o++s.extract k (k+1)).size=o.size+1:=by rw[bS,ByteArray.data_append,Array.toList_append,pr s k hk,de,<-bS];rfl
theorem eM (s:ByteArray) (most:Int) (w:World) (hs:s.size<=1000000000):
 Calls Tryz.prog 87 #[.string s,.int .i64 most] w fun e w'=>(∃ v:ByteArray,e=.returned (.string v)/\valid v.data.toList=true/\g7 v.data.toList/\v.size<=s.size/\(0<=most->line v.data.toList most=true))/\Below w.heap.size w w':=by
 have HL:=aa (uw s most w (by omega));obtain⟨b,hb⟩:=ac (line s.data.toList most);have HB:=aa hb;rw[hb] at HL;clear hb;go_enter Tryz.func87,Tryz.ntmps87;go_wp2_with fail
 refine HL.out.mono ?_;rintro e w1 ⟨rfl,b1⟩;have B1:=aa b1;clear b1;cases b
 ·have HM0:Hid (0<=most->(((⟨#[]⟩:ByteArray).size:Nat):Int)<=most):=(fun h=>h);have HS0:Hid (∀ c∈(⟨#[]⟩:ByteArray).data.toList,(32:UInt8)<=c/\c<127):=(fun c hc=>by cases hc);go_wp2_with fail
  go_loopw [5,6] (fun ov iv wr=>∃ (k:Nat) (o:ByteArray),ov=.string o/\iv=.int .i64 k/\k<=s.size/\o.size<=k/\Hid (0<=most->(o.size:Int)<=most)/\Hid (∀ c∈o.data.toList,(32:UInt8)<=c/\c<127)/\wr=w1) (fun _ iv _=>s.size-(intOf iv).toNat)
  case atStart=>exact⟨0,_,rfl,rfl,bI _,bI _,HM0,HS0,rfl⟩
  case round=>
   obtain⟨k,o,rfl,rfl,hk,ho,HM,HS,rfl⟩:=hrel;have HLN:Hid (0<=most->line o.data.toList most=true):=(fun h=>uK HS.out (by rw[<-bS];exact HM.out h));by_cases hlt:k<s.size
   ·by_cases hm:(o.size:Int)<most
    ·go_wp2_with fail
     ·rename_i h1 h2
      have hsz:=tL o s k hlt;have hnx:=aa (uM hlt HS.out h1 h2);have hmx:Hid (0<=most->(((o++s.extract k (k+1)).size:Nat):Int)<=most):=(fun _=>by omega);go_roundw;case rel=>exact⟨k+1,_,rfl,by go_num,by omega,by omega,hmx,hnx,trivial⟩
      case measure=>simp[intOf];omega
     all_goals
      go_roundw;case rel=>exact⟨k+1,_,rfl,by go_num,by omega,by omega,HM,HS,trivial⟩
      case measure=>simp[intOf];omega
    ·(go_wp2_with fail);go_ret;exact⟨⟨_,rfl,gQ _ HS.out,lu HS.out,by omega,HLN.out⟩,B1.out⟩
   ·(go_wp2_with fail);go_ret;exact⟨⟨_,rfl,gQ _ HS.out,lu HS.out,by omega,HLN.out⟩,B1.out⟩
 ·obtain⟨h1,h2⟩:=tD HB.out;have H1:=aa h1;have H2:=aa h2;clear h1 h2;(go_wp2_with fail);go_ret;exact⟨⟨_,rfl,H1.out,H2.out,aq _,fun _=>HB.out⟩,B1.out⟩
end
end Go.Proofs.YtbgaglcgennhiaaGreatDoor

