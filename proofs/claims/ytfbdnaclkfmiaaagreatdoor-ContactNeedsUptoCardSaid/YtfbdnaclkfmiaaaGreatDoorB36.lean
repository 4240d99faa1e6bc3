import Derived.Test.YtfbdnaclkfmiaaaGreatDoorB33
import Derived.Test.YtfbdnaclkfmiaaaGreatDoorB29
import Derived.Deep.RegionWith
namespace Go.Proofs.YtfbdnaclkfmiaaaGreatDoor
open Go.RowKit Vc Ct
set_option maxHeartbeats 8000000 in
set_option maxRecDepth 100000 in
theorem readOne_any {i:Nat} (hi:i < 9) (h1:i≠1) (hi6:i≠6) (b:Nat→Nat) (v:List UInt8) (hv:v.take (kstart i).length=kstart i) (hvl:v.length≤100000) (g:Nat) (c:Con) (gv o:Value) (W0:World) (hO:OkwV W0) (hP:PutAs W0 g i (putV b i) c gv o) (h6:i=6→c.groups=[]) :
    Calls Tryz.prog 31 #[.agg (encK b i).toArray,.string (bts v),.pointer (some ⟨g,0,none⟩)] W0 (ReadE W0 g i (readC i v c) gv o):=by
  obtain⟨F,cb,hPe,eg,hpa⟩:=hP
  obtain⟨P,hPd⟩:∃ P,putV b i=P:=⟨_,rfl⟩
  rw[hPd] at hPe
  obtain⟨parts,hparts⟩:∃ p,partsK i v=p:=⟨_,rfl⟩
  have hrp:=read_parts (i:=i) (v:=v) (c:=c) h6
  rw[hparts] at hrp
  obtain⟨r,hr⟩:∃ r,readC i v c=r:=⟨_,rfl⟩
  rw[hr] at hrp ⊢
  have HRB:=Lib.hid hrp.1
  have HRG:=Lib.hid hrp.2
  have HPA:=Lib.hid hpa
  have HO:Hid (∀ W,Below W0.heap.size W0 W→OkwV W):=fun W h=>hO.below h
  obtain⟨G,hG⟩:∃ G,W0.heap.size=G:=⟨_,rfl⟩
  obtain⟨W1,hW1⟩:∃ W1,W0.alloc (.cells (encK b i).toArray 64)=W1:=⟨_,rfl⟩
  have b1:Below W0.heap.size W0 W1:=by rw[← hW1];exact(Below.refl _ _).alloc (Nat.le_refl _) _
  have k1:Bk W1 G 64 (encK b i).toArray:=by rw[← hW1,← hG];exact Bk.new _ _ _
  obtain⟨ST,hST⟩:∃ X,bts (kstart i)=X:=⟨_,rfl⟩
  have c1:W1.cell? ⟨G,1,none⟩=some (.string ST):=by rw[k1.cell,← hST];rfl
  have hSP:bts (ksep i)=⟨#[]⟩:=by unfold ksep;rw[if_neg h1,if_neg hi6]
  have HSE:Hid (partsK i v=[v.drop (kstart i).length]):=by unfold Hid partsK;rw[if_neg h1,if_neg hi6]
  have c2:W1.cell? ⟨G,2,none⟩=some (.string ⟨#[]⟩):=by rw[k1.cell,← hSP];rfl
  have c3:W1.cell? ⟨G,3,none⟩=some P:=by rw[k1.cell,← hPd];rfl
  obtain⟨V,hV⟩:∃ X,bts v=X:=⟨_,rfl⟩
  obtain⟨T,hT⟩:∃ X:ByteArray,⟨(Lib.trimPrefix V.data.toList ST.data.toList).toArray⟩=X:=⟨_,rfl⟩
  have HTR:Hid (T=bts (v.drop (kstart i).length)):=by
    unfold Hid
    rw[← hT,← hV,← hST]
    show (⟨(Lib.trimPrefix v (kstart i)).toArray⟩:ByteArray)=_
    rw[trim_start hv]
  have HTP:=Lib.hid (fun W=>Tryz.strings_TrimPrefix V ST W)
  rw[hT] at HTP
  have HVL:=Lib.hid hvl
  have HPAR:=Lib.hid hparts
  have HI:=Lib.hid hi
  have B1:=Lib.hid b1
  have HGZ:Hid (W0.heap.size≤G∧G < W1.heap.size):=⟨by rw[hG];exact Nat.le_refl _,k1.lt⟩
  obtain⟨CS,hCS⟩:∃ CS,(encK b i).toArray=CS:=⟨_,rfl⟩
  have z1:CS.size=5:=by rw[← hCS];rfl
  rw[hCS] at hW1 ⊢
  subst hPe
  rw[hV]
  clear hPd hparts hrp hr hpa hO b1 k1 hST hV hT hv hvl hCS h6 hi
  go_enter Tryz.func31,Tryz.ntmps31
  go_wp2_with fail
  refine(HTP.out _).mono ?_
  rintro e w2 ⟨rfl,rfl⟩
  obtain⟨wl,hwl⟩:∃ wl,w2.alloc (.cells #[.string T] 9)=wl:=⟨_,rfl⟩
  have bl:Below w2.heap.size w2 wl:=by rw[← hwl];exact(Below.refl _ _).alloc (Nat.le_refl _) _
  have kl:Bk wl w2.heap.size 9 #[.string T]:=by rw[← hwl];exact Bk.new _ _ _
  have HBL:Hid (Below W0.heap.size W0 wl):=B1.out.trans (bl.mono B1.out.size)
  have HG:Hid (wl.cell? ⟨G,3,none⟩=some (.func (.func F) #[] cb)):=by unfold Hid;rw[← c3];exact bl.cell (p:=⟨G,3,none⟩) HGZ.out.2
  have g1:wl.cell? ⟨G,1,none⟩=some (.string ST):=by rw[← c1];exact bl.cell (p:=⟨G,1,none⟩) HGZ.out.2
  have g2:wl.cell? ⟨G,2,none⟩=some (.string ⟨#[]⟩):=by rw[← c2];exact bl.cell (p:=⟨G,2,none⟩) HGZ.out.2
  obtain⟨h,hh⟩:∃ h,w2.heap.size=h:=⟨_,rfl⟩
  rw[hh] at kl
  have HPL:Hid (parts.length=1):=by unfold Hid;rw[← HPAR.out,HSE.out];rfl
  have HPS:Hid (∀ x∈parts,x.length≤1000000):=fun x hx=>by
    rw[← HPAR.out,HSE.out,List.mem_singleton] at hx
    rw[hx,List.length_drop]
    have:=HVL.out
    omega
  have TL:Hid (Txts wl h ([]++parts.drop 0)):=⟨_,kl,fun j x hj=>by
    rw[List.nil_append,List.drop_zero,← HPAR.out,HSE.out] at hj
    match j,hj with
    | 0,hj=>obtain rfl:=Option.some.inj hj;rw[← HTR.out];rfl
    | j+1,hj=>simp at hj⟩
  have HHH:Hid (W0.heap.size≤h):=by have:=HGZ.out;have:=B1.out.size;unfold Hid;omega
  have HGL:Hid (G < wl.heap.size∧¬ G=h):=by have:=HGZ.out;have:=kl.lt;exact⟨by omega,by omega⟩
  have HCAP:Hid (1≤1):=Nat.le_refl _
  have HOK:Hid (∀ ys:List (List UInt8),ys.length=1→(∀ y∈ys,y.length≤1000000)→OkX i ys):=fun ys h1 h2=>⟨fun _ _=>h1,by omega,h2⟩
  clear c1 c2 c3 bl kl
  go_wp2_with fail
  go_loopw [29] (fun iv wr=>∃ (k:Nat) (ys:List (List UInt8)),iv=.int .i64 k∧k≤1∧Hid (ys.length=k)∧Hid (allP (parts.take k)=some ys)∧Hid (∀ y∈ys,y.length≤1000000)∧Hid (Txts wr h (ys++parts.drop k))∧Hid (But (·=h) wl wr)) (fun iv _=>1 - (intOf iv).toNat)
  case atStart=>exact⟨0,[],rfl,Nat.zero_le _,rfl,rfl,(fun _ h=>by cases h),TL,But.refl _ _⟩
  case round =>
    obtain⟨k,ys,rfl,hk,YL,AP,YS,TW,BW⟩:=hrel
    have bw:Below W0.heap.size W0 wr:=HBL.out.trans (BW.out.below HBL.out.size (fun i hi e=>by have:=HHH.out;omega))
    have g3:wr.cell? ⟨G,3,none⟩=some (.func (.func F) #[] cb):=by have h3:=HG.out;rw[show wr.cell? ⟨G,3,none⟩=wl.cell? ⟨G,3,none⟩ from World.cell?_of_block (BW.out.block G (HGL.out.1) (HGL.out.2))];exact h3
    have HBW:=Lib.hid bw
    clear bw
    by_cases hlt:k < 1
    · obtain⟨x,hx⟩:∃ x,parts[k]?=some x:=⟨_,List.getElem?_eq_getElem (by rw[HPL.out];exact hlt)⟩
      have hcur:(ys++parts.drop k)[k]?=some x:=by rw[List.getElem?_append_right (by rw[YL.out];exact Nat.le_refl _),YL.out,Nat.sub_self,List.getElem?_drop,Nat.add_zero];exact hx
      have c0:=TW.out.cell hcur
      have HPN:=Lib.hid (plain_fold (bts x) wr (HO.out _ HBW.out).2.1 (by rw[Lib.size_eq];have:=HPS.out x (List.mem_of_getElem? hx);show x.length < _;omega))
      rw[show (bts x).data.toList=x from rfl] at HPN
      have htk:=all_take hx AP.out
      have HTK:=Lib.hid htk
      have hxl:=HPS.out x (List.mem_of_getElem? hx)
      have HXL:=Lib.hid hxl
      have HX:=Lib.hid hx
      obtain⟨X,hX⟩:∃ X,bts x=X:=⟨_,rfl⟩
      rw[hX] at c0 HPN
      clear hx hcur htk hxl hX
      cases hp:Tx.plain x with
      | none =>
        have e1:plainV x=.tuple #[.string ⟨#[]⟩,.int .i64 18]:=by unfold plainV;rw[hp]
        rw[e1] at HPN
        have hno:Hid (allP parts=none):=all_bad HX.out hp
        clear e1 hp
        go_wp2_with fail
        refine HPN.out.mono ?_
        rintro e w3 ⟨rfl,b3⟩
        have B3:=Lib.hid b3
        clear b3
        go_wp2_with fail
        go_ret
        have er:=HRB.out hno.out
        exact⟨er ▸ rfl,fun h0=>absurd (show (18:Nat)=0 by rw[er] at h0;exact h0) (by decide),(But.new HBW.out).trans (But.new B3.out)⟩
      | some y =>
        obtain⟨Y,hY⟩:∃ Y,bts y=Y:=⟨_,rfl⟩
        have e1:plainV x=.tuple #[.string Y,.int .i64 0]:=by unfold plainV;rw[hp,← hY]
        rw[e1] at HPN
        have hyl:y.length≤1000000:=Nat.le_trans (plainC_len _ x y (Nat.le_refl _) hp) HXL.out
        have HYL:=Lib.hid hyl
        have HY:=Lib.hid hY
        have HAP:Hid (allP (parts.take (k+1))=some (ys++[y])):=by unfold Hid;rw[HTK.out,hp];rfl
        clear e1 hp hyl hY
        go_wp2_with fail
        refine HPN.out.mono ?_
        rintro e w3 ⟨rfl,b3⟩
        have t3:=TW.out.below b3 TW.out.lt
        obtain⟨cs3,k3,hc3⟩:=t3
        have f3:w3.frozen? ⟨h,k,none⟩=false:=k3.free k
        have c3:w3.cell? ⟨h,k,none⟩=some (.string X):=by rw[← c0];exact b3.cell (p:=⟨h,k,none⟩) TW.out.lt
        have B3:=Lib.hid b3
        have K3:=Lib.hid k3
        have HC3:=Lib.hid hc3
        clear b3 k3 hc3 g3 c0
        go_wp2_with fail
        go_roundw
        case rel =>
          refine⟨k+1,ys++[y],by go_num,by omega,?_,HAP,?_,?_,(BW.out.trans (But.new B3.out)).trans (But.of_grown (grown_set _) rfl)⟩
          · unfold Hid;rw[List.length_append,YL.out];rfl
          · intro z hz
            rcases List.mem_append.1 hz with hz | hz
            · exact YS.out z hz
            · rw[List.mem_singleton] at hz;rw[hz];exact HYL.out
          · refine⟨_,K3.out.put k (.string Y),fun j z hj=>?_⟩
            by_cases hjk:j=k
            · subst hjk
              have:(ys++[y]++parts.drop (j+1))[j]?=some y:=by
                rw[List.append_assoc,List.getElem?_append_right (by rw[YL.out];exact Nat.le_refl _),YL.out,Nat.sub_self]
                rfl
              rw[this] at hj
              obtain rfl:=Option.some.inj hj
              rw[Array.getElem?_setIfInBounds,if_pos rfl,if_pos ?_]
              · rw[← HY.out]
              · have h4:=HC3.out j x (by rw[List.getElem?_append_right (by rw[YL.out];exact Nat.le_refl _),YL.out,Nat.sub_self,List.getElem?_drop,Nat.add_zero];exact HX.out)
                exact(Array.getElem?_eq_some_iff.1 h4).1
            · rw[Array.getElem?_setIfInBounds,if_neg (fun e=>hjk e.symm)]
              apply HC3.out j z
              rw[← hj]
              by_cases hjl:j < k
              · rw[List.getElem?_append_left (by rw[YL.out];exact hjl),List.append_assoc,List.getElem?_append_left (by rw[YL.out];exact hjl)]
              · rw[List.getElem?_append_right (by rw[YL.out];omega),List.getElem?_append_right (by rw[List.length_append,YL.out];show k+1≤j;omega),List.length_append,YL.out,List.getElem?_drop,List.getElem?_drop]
                congr 1
                show k+(j - k)=k+1+(j - (k+1))
                omega
        case measure=>simp[intOf];omega
    · have hke:k=1:=by omega
      have e1:parts.take 1=parts:=List.take_of_length_le (by rw[HPL.out];exact Nat.le_refl _)
      have e2:parts.drop 1=[]:=List.drop_eq_nil_of_le (by rw[HPL.out];exact Nat.le_refl _)
      have A1:=AP.out
      have T1:=TW.out
      have Y1:=YL.out
      rw[hke] at A1 T1 Y1
      rw[e1] at A1
      rw[e2,List.append_nil] at T1
      have HR2:=Lib.hid (HRG.out ys A1)
      have HQ2:=HPA.out ys wr h 1 (HOK.out ys Y1 YS.out) HBW.out HHH.out T1 (by rw[Y1];exact HCAP.out)
      rw[Y1] at HQ2
      have HQ:=Lib.hid HQ2
      clear e1 e2 A1 T1 HQ2 Y1 hke
      go_wp2_with fail
      refine HQ.out.mono ?_
      rintro e w4 h4
      obtain⟨rfl,h4b,h4c⟩:=h4
      go_wp2_with fail
      go_ret
      rw[← HR2.out.1]
      exact⟨rfl,fun h0=>by rw[HR2.out.2 h0];exact h4b (HR2.out.1 ▸ h0),h4c⟩
set_option maxHeartbeats 8000000 in
set_option maxRecDepth 100000 in
theorem readMany_any {i:Nat} (hi:i < 9) (sp:UInt8) (hsp:ksep i=[sp]) (h3:kstart i=[]) (b:Nat→Nat) (v:List UInt8) (hv:v.take (kstart i).length=kstart i) (hvl:v.length≤100000) (g:Nat) (c:Con) (gv o:Value) (W0:World) (hO:OkwV W0) (hP:PutAs W0 g i (putV b i) c gv o) (h6:i=6→c.groups=[]) :
    Calls Tryz.prog 31 #[.agg (encK b i).toArray,.string (bts v),.pointer (some ⟨g,0,none⟩)] W0 (ReadE W0 g i (readC i v c) gv o):=by
  obtain⟨F,cb,hPe,eg,hpa⟩:=hP
  obtain⟨P,hPd⟩:∃ P,putV b i=P:=⟨_,rfl⟩
  rw[hPd] at hPe
  obtain⟨parts,hparts⟩:∃ p,partsK i v=p:=⟨_,rfl⟩
  have hrp:=read_parts (i:=i) (v:=v) (c:=c) h6
  rw[hparts] at hrp
  obtain⟨r,hr⟩:∃ r,readC i v c=r:=⟨_,rfl⟩
  rw[hr] at hrp ⊢
  have HRB:=Lib.hid hrp.1
  have HRG:=Lib.hid hrp.2
  have HPA:=Lib.hid hpa
  have HO:Hid (∀ W,Below W0.heap.size W0 W→OkwV W):=fun W h=>hO.below h
  obtain⟨G,hG⟩:∃ G,W0.heap.size=G:=⟨_,rfl⟩
  obtain⟨W1,hW1⟩:∃ W1,W0.alloc (.cells (encK b i).toArray 64)=W1:=⟨_,rfl⟩
  have b1:Below W0.heap.size W0 W1:=by rw[← hW1];exact(Below.refl _ _).alloc (Nat.le_refl _) _
  have k1:Bk W1 G 64 (encK b i).toArray:=by rw[← hW1,← hG];exact Bk.new _ _ _
  obtain⟨ST,hST⟩:∃ X,bts (kstart i)=X:=⟨_,rfl⟩
  have c1:W1.cell? ⟨G,1,none⟩=some (.string ST):=by rw[k1.cell,← hST];rfl
  have hSP:bts (ksep i)=⟨#[sp]⟩:=by rw[hsp]
  have HI6:Hid (i=1∨i=6):=by
    unfold ksep at hsp
    by_cases e:i=1
    · exact .inl e
    · rw[if_neg e] at hsp
      by_cases e2:i=6
      · exact .inr e2
      · rw[if_neg e2] at hsp;cases hsp
  have HSE:Hid ((kstart i).length=0∧partsK i v=Tx.split1 sp v):=⟨by rw[h3];rfl,by
    unfold ksep at hsp
    unfold partsK
    split
    · rename_i e;rw[if_pos e] at hsp;injection hsp with hsp;rw[hsp]
    · rename_i e;rw[if_neg e] at hsp;split
      · rename_i e2;rw[if_pos e2] at hsp;injection hsp with hsp;rw[hsp]
      · rename_i e2;rw[if_neg e2] at hsp;cases hsp⟩
  have c2:W1.cell? ⟨G,2,none⟩=some (.string ⟨#[sp]⟩):=by rw[k1.cell,← hSP];rfl
  have c3:W1.cell? ⟨G,3,none⟩=some P:=by rw[k1.cell,← hPd];rfl
  obtain⟨V,hV⟩:∃ X,bts v=X:=⟨_,rfl⟩
  obtain⟨T,hT⟩:∃ X:ByteArray,⟨(Lib.trimPrefix V.data.toList ST.data.toList).toArray⟩=X:=⟨_,rfl⟩
  have HTR:Hid (T=bts (v.drop (kstart i).length)):=by
    unfold Hid
    rw[← hT,← hV,← hST]
    show (⟨(Lib.trimPrefix v (kstart i)).toArray⟩:ByteArray)=_
    rw[trim_start hv]
  have HTP:=Lib.hid (fun W=>Tryz.strings_TrimPrefix V ST W)
  rw[hT] at HTP
  have HVL:=Lib.hid hvl
  have HPAR:=Lib.hid hparts
  have HI:=Lib.hid hi
  have B1:=Lib.hid b1
  have HGZ:Hid (W0.heap.size≤G∧G < W1.heap.size):=⟨by rw[hG];exact Nat.le_refl _,k1.lt⟩
  obtain⟨CS,hCS⟩:∃ CS,(encK b i).toArray=CS:=⟨_,rfl⟩
  have z1:CS.size=5:=by rw[← hCS];rfl
  rw[hCS] at hW1 ⊢
  subst hPe
  rw[hV]
  clear hsp h3 hSP hPd hparts hrp hr hpa hO b1 k1 hST hV hT hv hvl hCS h6 hi
  go_enter Tryz.func31,Tryz.ntmps31
  go_wp2_with fail
  refine(HTP.out _).mono ?_
  rintro e w2 ⟨rfl,rfl⟩
  obtain⟨wa,hwa⟩:∃ wa,w2.alloc (.cells #[.string T] 9)=wa:=⟨_,rfl⟩
  have ba:Below w2.heap.size w2 wa:=by rw[← hwa];exact(Below.refl _ _).alloc (Nat.le_refl _) _
  have ka:Bk wa w2.heap.size 9 #[.string T]:=by rw[← hwa];exact Bk.new _ _ _
  have BA:Hid (Below W0.heap.size W0 wa):=B1.out.trans (ba.mono B1.out.size)
  have a3:wa.cell? ⟨G,3,none⟩=some (.func (.func F) #[] cb):=by rw[← c3];exact ba.cell (p:=⟨G,3,none⟩) HGZ.out.2
  have A3:=Lib.hid a3
  have g1:wa.cell? ⟨G,1,none⟩=some (.string ST):=by rw[← c1];exact ba.cell (p:=⟨G,1,none⟩) HGZ.out.2
  have g2:wa.cell? ⟨G,2,none⟩=some (.string ⟨#[sp]⟩):=by rw[← c2];exact ba.cell (p:=⟨G,2,none⟩) HGZ.out.2
  obtain⟨h0,hh⟩:∃ h,w2.heap.size=h:=⟨_,rfl⟩
  rw[hh] at ka
  have g4:wa.cell? ⟨h0,0,none⟩=some (.string T):=ka.cell 0
  have HGA:Hid (G < wa.heap.size):=by have:=HGZ.out;have:=ba.size;unfold Hid;omega
  have hsn:(⟨#[sp]⟩:ByteArray).toList.isEmpty=false:=by rw[ByteArray.toList_mk];rfl
  have HTV:Hid (T=bts v):=by unfold Hid;rw[HTR.out,HSE.out.1];rfl
  have HSPL:Hid (∀ W,Below wa.heap.size wa W→Calls Tryz.prog 79 #[.string T,.int .u8 sp.toNat] W fun e w'=>∃ u,e=.returned u∧OwnT wa.heap.size w' u (sts parts)∧Below wa.heap.size wa w'):=fun W hW=>by
    have h:=fsplit_any T sp W (by rw[HTV.out,Lib.size_eq];have:=HVL.out;show v.length < _;omega)
    have e:Tx.split1 sp T.data.toList=parts:=by rw[HTV.out,← HPAR.out,HSE.out.2]
    rw[e] at h
    exact h.mono fun e w' ⟨u,h1,h2,h3⟩=>⟨u,h1,h2.weakT hW.size,hW.trans (h3.mono hW.size)⟩
  clear c1 c2 c3 ba ka a3
  go_wp2_with fail
  go_region_with ((go_at_call 79;refine(HSPL.out _ ((Below.refl _ _).drew)).mono ?_;rintro e wl ⟨u,rfl,o1,o2⟩))
  all_goals
    have hpne:parts≠[]:=by rw[← HPAR.out,HSE.out.2];exact split_ne sp v
    obtain⟨h,cap,rfl,hh1,hcap,htx⟩:=own_txts o1 hpne
    obtain⟨n,hn⟩:∃ n,parts.length=n:=⟨_,rfl⟩
    have HPL:=Lib.hid hn
    rw[hn] at hcap
    rw[hn]
    have hsl:=split_lens sp v
    rw[show Tx.split1 sp v=parts by rw[← HPAR.out,HSE.out.2]] at hsl
    have hnb:n≤1000000:=by rw[← hn];have:=HVL.out;have:=hsl.1;omega
    have HPS:Hid (∀ x∈parts,x.length≤1000000):=fun x hx=>by have:=hsl.2 x hx;have:=HVL.out;omega
    have HBL:Hid (Below W0.heap.size W0 wl):=BA.out.trans (o2.mono BA.out.size)
    have HG:Hid (wl.cell? ⟨G,3,none⟩=some (.func (.func F) #[] cb)):=by unfold Hid;rw[← A3.out];exact o2.cell (p:=⟨G,3,none⟩) HGA.out
    have j1:wl.cell? ⟨G,1,none⟩=some (.string ST):=by rw[← g1];exact o2.cell (p:=⟨G,1,none⟩) HGA.out
    have j2:wl.cell? ⟨G,2,none⟩=some (.string ⟨#[sp]⟩):=by rw[← g2];exact o2.cell (p:=⟨G,2,none⟩) HGA.out
    have TL:Hid (Txts wl h ([]++parts.drop 0)):=htx
    have HHH:Hid (W0.heap.size≤h):=by have:=BA.out.size;unfold Hid;omega
    have HGL:Hid (G < wl.heap.size∧¬ G=h):=by have:=HGA.out;have:=o2.size;exact⟨by omega,by omega⟩
    have HCAP:Hid (n≤cap):=hcap
    have HOK:Hid (∀ ys:List (List UInt8),ys.length=n→(∀ y∈ys,y.length≤1000000)→OkX i ys):=fun ys h1 h2=>⟨fun a1 a2=>absurd HI6.out (fun e=>by rcases e with e | e;exact a1 e;exact a2 e),by omega,h2⟩
    clear g1 g2 g4 o1 o2 hpne hh1 hcap htx hn hsl
    go_wp2_with fail
    go_loopw [29] (fun iv wr=>∃ (k:Nat) (ys:List (List UInt8)),iv=.int .i64 k∧k≤n∧Hid (ys.length=k)∧Hid (allP (parts.take k)=some ys)∧Hid (∀ y∈ys,y.length≤1000000)∧Hid (Txts wr h (ys++parts.drop k))∧Hid (But (·=h) wl wr)) (fun iv _=>n - (intOf iv).toNat)
    case atStart=>exact⟨0,[],rfl,Nat.zero_le _,rfl,rfl,(fun _ h=>by cases h),TL,But.refl _ _⟩
    case round =>
      obtain⟨k,ys,rfl,hk,YL,AP,YS,TW,BW⟩:=hrel
      have bw:Below W0.heap.size W0 wr:=HBL.out.trans (BW.out.below HBL.out.size (fun i hi e=>by have:=HHH.out;omega))
      have g3:wr.cell? ⟨G,3,none⟩=some (.func (.func F) #[] cb):=by have h3:=HG.out;rw[show wr.cell? ⟨G,3,none⟩=wl.cell? ⟨G,3,none⟩ from World.cell?_of_block (BW.out.block G (HGL.out.1) (HGL.out.2))];exact h3
      have HBW:=Lib.hid bw
      clear bw
      by_cases hlt:k < n
      · obtain⟨x,hx⟩:∃ x,parts[k]?=some x:=⟨_,List.getElem?_eq_getElem (by rw[HPL.out];exact hlt)⟩
        have hcur:(ys++parts.drop k)[k]?=some x:=by rw[List.getElem?_append_right (by rw[YL.out];exact Nat.le_refl _),YL.out,Nat.sub_self,List.getElem?_drop,Nat.add_zero];exact hx
        have c0:=TW.out.cell hcur
        have HPN:=Lib.hid (plain_fold (bts x) wr (HO.out _ HBW.out).2.1 (by rw[Lib.size_eq];have:=HPS.out x (List.mem_of_getElem? hx);show x.length < _;omega))
        rw[show (bts x).data.toList=x from rfl] at HPN
        have htk:=all_take hx AP.out
        have HTK:=Lib.hid htk
        have hxl:=HPS.out x (List.mem_of_getElem? hx)
        have HXL:=Lib.hid hxl
        have HX:=Lib.hid hx
        obtain⟨X,hX⟩:∃ X,bts x=X:=⟨_,rfl⟩
        rw[hX] at c0 HPN
        clear hx hcur htk hxl hX
        cases hp:Tx.plain x with
        | none =>
          have e1:plainV x=.tuple #[.string ⟨#[]⟩,.int .i64 18]:=by unfold plainV;rw[hp]
          rw[e1] at HPN
          have hno:Hid (allP parts=none):=all_bad HX.out hp
          clear e1 hp
          go_wp2_with fail
          refine HPN.out.mono ?_
          rintro e w3 ⟨rfl,b3⟩
          have B3:=Lib.hid b3
          clear b3
          go_wp2_with fail
          go_ret
          have er:=HRB.out hno.out
          exact⟨er ▸ rfl,fun h0=>absurd (show (18:Nat)=0 by rw[er] at h0;exact h0) (by decide),(But.new HBW.out).trans (But.new B3.out)⟩
        | some y =>
          obtain⟨Y,hY⟩:∃ Y,bts y=Y:=⟨_,rfl⟩
          have e1:plainV x=.tuple #[.string Y,.int .i64 0]:=by unfold plainV;rw[hp,← hY]
          rw[e1] at HPN
          have hyl:y.length≤1000000:=Nat.le_trans (plainC_len _ x y (Nat.le_refl _) hp) HXL.out
          have HYL:=Lib.hid hyl
          have HY:=Lib.hid hY
          have HAP:Hid (allP (parts.take (k+1))=some (ys++[y])):=by unfold Hid;rw[HTK.out,hp];rfl
          clear e1 hp hyl hY
          go_wp2_with fail
          refine HPN.out.mono ?_
          rintro e w3 ⟨rfl,b3⟩
          have t3:=TW.out.below b3 TW.out.lt
          obtain⟨cs3,k3,hc3⟩:=t3
          have f3:w3.frozen? ⟨h,k,none⟩=false:=k3.free k
          have c3:w3.cell? ⟨h,k,none⟩=some (.string X):=by rw[← c0];exact b3.cell (p:=⟨h,k,none⟩) TW.out.lt
          have B3:=Lib.hid b3
          have K3:=Lib.hid k3
          have HC3:=Lib.hid hc3
          clear b3 k3 hc3 g3 c0
          go_wp2_with fail
          go_roundw
          case rel =>
            refine⟨k+1,ys++[y],by go_num,by omega,?_,HAP,?_,?_,(BW.out.trans (But.new B3.out)).trans (But.of_grown (grown_set _) rfl)⟩
            · unfold Hid;rw[List.length_append,YL.out];rfl
            · intro z hz
              rcases List.mem_append.1 hz with hz | hz
              · exact YS.out z hz
              · rw[List.mem_singleton] at hz;rw[hz];exact HYL.out
            · refine⟨_,K3.out.put k (.string Y),fun j z hj=>?_⟩
              by_cases hjk:j=k
              · subst hjk
                have:(ys++[y]++parts.drop (j+1))[j]?=some y:=by
                  rw[List.append_assoc,List.getElem?_append_right (by rw[YL.out];exact Nat.le_refl _),YL.out,Nat.sub_self]
                  rfl
                rw[this] at hj
                obtain rfl:=Option.some.inj hj
                rw[Array.getElem?_setIfInBounds,if_pos rfl,if_pos ?_]
                · rw[← HY.out]
                · have h4:=HC3.out j x (by rw[List.getElem?_append_right (by rw[YL.out];exact Nat.le_refl _),YL.out,Nat.sub_self,List.getElem?_drop,Nat.add_zero];exact HX.out)
                  exact(Array.getElem?_eq_some_iff.1 h4).1
              · rw[Array.getElem?_setIfInBounds,if_neg (fun e=>hjk e.symm)]
                apply HC3.out j z
                rw[← hj]
                by_cases hjl:j < k
                · rw[List.getElem?_append_left (by rw[YL.out];exact hjl),List.append_assoc,List.getElem?_append_left (by rw[YL.out];exact hjl)]
                · rw[List.getElem?_append_right (by rw[YL.out];omega),List.getElem?_append_right (by rw[List.length_append,YL.out];show k+1≤j;omega),List.length_append,YL.out,List.getElem?_drop,List.getElem?_drop]
                  congr 1
                  show k+(j - k)=k+1+(j - (k+1))
                  omega
          case measure=>simp[intOf];omega
      · have hke:k=n:=by omega
        have e1:parts.take n=parts:=List.take_of_length_le (by rw[HPL.out];exact Nat.le_refl _)
        have e2:parts.drop n=[]:=List.drop_eq_nil_of_le (by rw[HPL.out];exact Nat.le_refl _)
        have A1:=AP.out
        have T1:=TW.out
        have Y1:=YL.out
        rw[hke] at A1 T1 Y1
        rw[e1] at A1
        rw[e2,List.append_nil] at T1
        have HR2:=Lib.hid (HRG.out ys A1)
        have HQ2:=HPA.out ys wr h cap (HOK.out ys Y1 YS.out) HBW.out HHH.out T1 (by rw[Y1];exact HCAP.out)
        rw[Y1] at HQ2
        have HQ:=Lib.hid HQ2
        clear e1 e2 A1 T1 HQ2 Y1 hke
        go_wp2_with fail
        refine HQ.out.mono ?_
        rintro e w4 h4
        obtain⟨rfl,h4b,h4c⟩:=h4
        go_wp2_with fail
        go_ret
        rw[← HR2.out.1]
        exact⟨rfl,fun h0=>by rw[HR2.out.2 h0];exact h4b (HR2.out.1 ▸ h0),h4c⟩
end Go.Proofs.YtfbdnaclkfmiaaaGreatDoor