import Derived.Test.YtbgaglcgennhiaaGreatDoorP25
import Derived.Test.YtbgaglcgennhiaaGreatDoorP30
import Derived.Test.YtbgaglcgennhiaaGreatDoorP38
import Derived.Test.YtbgaglcgennhiaaGreatDoorP18
import Derived.BigQuiet
namespace Go.Proofs.YtbgaglcgennhiaaGreatDoor
open Go.RowKit Ct Tx Sy
def aV (l:List (List UInt8)):List (List UInt8):=l.foldl (fun out x=>if x∈out then out else aS Jd.lessL x out) []
theorem ru {l:List (List UInt8)} {k:Nat} {x:List UInt8} (h:l[k]?=some x):aV (l.take (k+1))=if x∈aV (l.take k) then aV (l.take k) else aS Jd.lessL x (aV (l.take k)):=by
 unfold aV;rw[List.take_add_one,h,List.foldl_append];rfl
theorem gz (l:List (List UInt8)):∀ out:List (List UInt8),Up Jd.lessL out→Up Jd.lessL (l.foldl (fun out x=>if x∈out then out else aS Jd.lessL x out) out)∧(l.foldl (fun out x=>if x∈out then out else aS Jd.lessL x out) out).length≤out.length+l.length∧∀ z,z∈l.foldl (fun out x=>if x∈out then out else aS Jd.lessL x out) out↔z∈out∨z∈l:=by
 induction l with
 | nil=>exact fun out h=>⟨h,Nat.le_refl _,fun z=>by simp⟩
 | cons x l ih =>
   intro out h;rw[List.foldl_cons]
   by_cases hx:x∈out
   · rw[if_pos hx]
     obtain⟨h1,h2,h3⟩:=ih out h
     refine⟨h1,by rw[List.length_cons];omega,fun z=>by rw[h3];constructor<;>intro hz<;>rcases hz with hz | hz<;>first | exact .inl hz | exact .inr (List.mem_cons_of_mem _ hz) | skip;rcases List.mem_cons.1 hz with rfl | hz;exact .inl hx;exact .inr hz⟩
   · rw[if_neg hx]
     obtain⟨h1,h2,h3⟩:=ih _ (sA lessL_weak x out h)
     refine⟨h1,?_,fun z=>?_⟩
     · have:(aS Jd.lessL x out).length=out.length+1:=fQ x out
       rw[List.length_cons];omega
     · rw[h3,Sy.ins_mem,List.mem_cons]
       constructor
       · rintro ((rfl | h) | h)
         · exact .inr (.inl rfl)
         · exact .inl h
         · exact .inr (.inr h)
       · rintro (h | rfl | h)
         · exact .inl (.inr h)
         · exact .inl (.inl rfl)
         · exact .inr h
theorem qd (l:List (List UInt8)):Up Jd.lessL (aV l):=(gz l [] List.Pairwise.nil).1
theorem nb (l:List (List UInt8)):(aV l).length≤l.length:=by have:=(gz l [] List.Pairwise.nil).2.1;unfold aV;simpa using this
theorem jm (l:List (List UInt8)) (z:List UInt8):z∈aV l↔z∈l:=by have:=(gz l [] List.Pairwise.nil).2.2 z;unfold aV;simpa using this
theorem mH {out:List (List UInt8)} (hu:Up Jd.lessL out) {x:List UInt8} {k:Nat} (hk:k≤out.length) (hb:∀ j y,k≤j→out[j]?=some y→Jd.lessL x y=true) (ha:∀ j y,j+1=k→out[j]?=some y→Jd.lessL x y=false):aS Jd.lessL x out=out.take k++([x]++out.drop k):=by
 have h:=dU (lt:=Jd.lessL) x (out.take k) (out.drop k) (fun a hm=>?_) (fun b hm=>?_)
 · rw[List.take_append_drop] at h
   exact h
 · obtain⟨i,hi,rfl⟩:=List.getElem_of_mem hm
   rw[List.length_take] at hi;rw[List.getElem_take];have hk0:k - 1 < out.length:=by omega
   have h1:=ha (k - 1) _ (by omega) (List.getElem?_eq_getElem hk0);cases hx:Jd.lessL x out[i] with
   | false=>rfl
   | true =>
     by_cases he:i=k - 1
     · subst he;rw[hx] at h1;exact h1
     · have h2:=List.pairwise_iff_getElem.1 hu i (k - 1) (by omega) hk0 (by omega)
       rw[lessL_weak.n1 hx h2] at h1;cases h1
 · obtain⟨i,hi,rfl⟩:=List.getElem_of_mem hm
   rw[List.length_drop] at hi;rw[List.getElem_drop];exact hb (k+i) _ (by omega) (List.getElem?_eq_getElem (by omega))
set_option linter.unusedSimpArgs false in
set_option maxHeartbeats 8000000 in
set_option maxRecDepth 100000 in
theorem qE (v:Value) (l:List (List UInt8)) (w:World) (hR:ReadT w.heap.size w v (ac l)) (hl:l.length≤1000000) (hs:∀ t∈l,t.length≤1000000000) :
 Calls Tryz.prog 25 #[v] w fun e w'=>(∃ u,e=.returned u∧OwnT w.heap.size w' u (ac (aV l)))∧Below w.heap.size w w':=by
 obtain⟨A,cap,rfl,hc⟩:=hR
 have hsl:(ac l).length=l.length:=by unfold ac;rw[List.length_map]
 rw[hsl] at hc ⊢
 obtain⟨n,hn⟩:∃ n,l.length=n:=⟨_,rfl⟩
 have HN:=Lib.hid hn;rw[hn] at hc hl ⊢;have HC:=Lib.hid hc
 obtain⟨D,hD⟩:∃ D,w.heap.size=D:=⟨_,rfl⟩
 rw[hD] at HC ⊢;have HDD:=Lib.hid hD;have HO0:Hid (OwnT D w (.slice none 0 0) (ac (aV (l.take 0)))):=OwnT.nil _ _;have HB0:Hid (Below D w w):=Below.refl _ _;have HSL:=Lib.hid hs;clear hc hn hsl hD hs;go_enter Tryz.func25,Tryz.ntmps25
 go_wp2_with fail
 go_loopw [3,4] (fun ov iv wr=>∃ (k:Nat) (ox:Value),ov=ox∧iv=.int .i64 k∧k≤n∧Hid (OwnT D wr ox (ac (aV (l.take k))))∧Hid (Below D w wr)) (fun _ iv _=>n - (intOf iv).toNat)
 case atStart=>exact⟨0,_,rfl,rfl,Nat.zero_le _,HO0,HB0⟩
 case round =>
  obtain⟨k,ox,hox,rfl,hk,HO,BW⟩:=hrel
  have hox2:=hox.symm;subst hox2;clear hox
  by_cases hlt:k < n
  · obtain⟨ad,rfl,hlb,hcell⟩:=HC.out (by omega)
    obtain⟨x,hx⟩:∃ x,l[k]?=some x:=⟨_,List.getElem?_eq_getElem (by rw[HN.out];exact hlt)⟩
    have c00:=hcell k (aa x) (gx hx);have HC0:Hid (∀ W,Below D w W→W.cell? (ad.add k)=some (.string (aa x))):=fun W h=>by
     rw[h.cell (p:=ad.add k) (by rw[au];exact hlb)];exact c00
    have htk:=ru hx;have HUP:Hid (Up Jd.lessL (aV (l.take k))):=qd _;have hlX:(aa x).toList=x:=ByteArray.toList_mk x
    obtain⟨OL,hOL⟩:∃ OL,aV (l.take k)=OL:=⟨_,rfl⟩
    have hml:OL.length≤k:=by
     rw[← hOL];exact Nat.le_trans (nb _) (by rw[List.length_take];omega)
    rw[hOL] at htk HO HUP
    obtain⟨X,hX⟩:∃ X,aa x=X:=⟨_,rfl⟩
    rw[hX] at HC0 hlX;have HX:=Lib.hid hX
    obtain⟨m,hm⟩:∃ m,OL.length=m:=⟨_,rfl⟩
    have HM:=Lib.hid hm;rw[hm] at hml;have HTK:=Lib.hid htk;have HLX:=Lib.hid hlX
    obtain⟨OA,ocap,hov⟩:=HO.out.slice
    have hsm:(ac OL).length=m:=by unfold ac;rw[List.length_map];exact hm
    rw[hsm] at hov;subst hov;have HRO:Hid (∀ W,Below wr.heap.size wr W→(OA=none∧ocap=0∧m=0)∨∃ g:Nat,OA=some ⟨g,0,none⟩∧m≤ocap∧∀ i y,OL[i]?=some y→W.cell? ⟨g,i,none⟩=some (.string (aa y))):=fun W h=>by
     have h2:wr.ownsRow D 9 1 (.slice OA m ocap) (ac OL).length (cS (ac OL)):=HO.out;rcases h2.2 with ⟨e,e0⟩ | ⟨g,cap2,cur,e,hg,hh,h3,_⟩
     · injection e with e1 e2 e3
       exact .inl ⟨e1,e3,by omega⟩
     · injection e with e1 e2 e3
       subst e1 e3;refine .inr ⟨g,rfl,by rw[← hsm];exact h3,fun i y hy=>?_⟩;have h4:=h2.cells (g:=g) rfl i _ (jr (gx hy));rw[aJ,Nat.zero_add] at h4
       exact(h.cell (p:=⟨g,i,none⟩) (lt_of_block hh)).trans h4
    have HDW:Hid (D≤wr.heap.size):=by have:=BW.out.size;have:=HDD.out;unfold Hid;omega
    have HBB0:Hid (Below wr.heap.size wr wr):=Below.refl _ _
    obtain⟨w0,rfl⟩:∃ w0,w0=wr:=⟨_,rfl⟩
    have hxm:x∈l:=List.mem_of_getElem? hx;have HLS:Hid (∀ (Y:List UInt8),Y∈OL→∀ W,Calls Tryz.prog 53 #[.string X,.string (aa Y)] W fun e w'=>e=.returned (.bool (Jd.lessL x Y))∧Below W.heap.size W w'):=fun Y hY W=>by
     have h1:Y∈l:=by
      rw[← hOL] at hY;exact List.mem_of_mem_take ((jm _ _).1 hY)
     have:=rk (aa x) (aa Y) W (by rw[Lib.size_eq];exact HSL.out x hxm) (by rw[Lib.size_eq];exact HSL.out Y h1)
     rw[hX] at this
     exact(by rw[show X.data.toList=x by rw[← hX]] at this;exact this)
    have HIN:Hid (Calls Tryz.prog 52 #[.slice OA m ocap,.string X] w0 fun e w'=>e=.returned (.bool (decide (x∈OL)))∧Below w0.heap.size w0 w'):=by
     have:=uu (.slice OA m ocap) OL x w0 HO.out.reads (by omega)
     rw[hX] at this;exact this
    have cx0:=HC0.out w0 BW.out;clear hcell hx hlb c00 htk hOL hX hm hsm hlX hxm
    go_wp2_with fail
    refine HIN.out.mono ?_;rintro e w1 ⟨rfl,b1⟩;have BW1:Hid (Below w0.heap.size w0 w1):=b1;clear b1 HIN cx0
    by_cases hxo:x∈OL
    · have hnx:Hid (aV (l.take (k+1))=OL):=by unfold Hid;rw[HTK.out,if_pos hxo]
      have OX:Hid (OwnT D w1 (.slice OA m ocap) (ac (aV (l.take (k+1))))):=by unfold Hid;rw[hnx.out];exact HO.out.below BW1.out
      have BX:Hid (Below D w w1):=BW.out.trans (BW1.out.mono HDW.out);have hd:decide (x∈OL)=true:=decide_eq_true hxo;rw[hd];clear hd hxo
      go_wp2_with fail
      go_roundw
      case rel=>exact⟨k+1,_,rfl,by go_num,by omega,OX,BX⟩
      case measure=>simp[intOf];omega
    · have hd:decide (x∈OL)=false:=decide_eq_false hxo
      rw[hd];have HXO:=Lib.hid hxo;clear hd hxo
      go_wp2_with fail
      go_loopw [5] (fun jv wr=>∃ (j:Nat),jv=.int .i64 j∧j≤m∧Hid (∀ i y,j≤i→OL[i]?=some y→Jd.lessL x y=true)∧Hid (Below w0.heap.size w0 wr)) (fun jv _=>(intOf jv).toNat)
      case atStart=>exact⟨m,rfl,Nat.le_refl _,fun i y hi hy=>absurd (List.getElem?_eq_some_iff.1 hy).1 (by rw[HM.out];omega),BW1⟩
      case round =>
       clear BW1
       obtain⟨j,rfl,hj,HGE,BJ⟩:=hrel
       have FJ:Hid (Below D w wr):=BW.out.trans (BJ.out.mono HDW.out);have HQX:Hid (∀ v:Sy.Bel wr,v.v.cell? (ad.add k)=some (.string X)):=fun v=>HC0.out v.v (FJ.out.trans (v.h.mono (by have:=FJ.out.size;have:=HDD.out;omega)))
       have HEXIT:Hid ((j=0∨∃ y,OL[j - 1]?=some y∧Jd.lessL x y=false)→aV (l.take (k+1))=OL.take j++([x]++OL.drop j)):=fun hst=>by
        rw[HTK.out,if_neg HXO.out];refine mH HUP.out (by rw[HM.out];exact hj) HGE.out (fun i y hi hy=>?_);rcases hst with h0 | ⟨y2,hy2,hf⟩
        · omega
        · obtain rfl:i=j - 1:=by omega
          rw[hy2] at hy;obtain rfl:=Option.some.inj hy;exact hf
       by_cases hj0:0 < j
       · have hj0z:(0:Int) < (j:Int):=by omega
         have hj0d:decide ((0:Int) < (j:Int))=true:=decide_eq_true hj0z
         obtain⟨g,hg,hcap,hoc⟩:=(HRO.out wr BJ.out).resolve_left (fun h=>by omega)
         subst hg
         obtain⟨q,hq⟩:∃ q,j - 1=q:=⟨_,rfl⟩
         have wq:IntKind.i64.wrap ((j:Int) - 1)=(q:Int):=by rw[IntKind.wrap_i64];omega
         have hqz:(q:Int) < (m:Int):=by omega
         have hq0:(0:Int)≤(q:Int):=by omega
         obtain⟨y,hy⟩:∃ y,OL[q]?=some y:=⟨_,List.getElem?_eq_getElem (by rw[HM.out];omega)⟩
         have hym:y∈OL:=List.mem_of_getElem? hy;have hls:∀ v:Sy.Bel wr,Calls Tryz.prog 53 #[.string X,.string (aa y)] v.v fun e w'=>e=.returned (.bool (Jd.lessL x y))∧Below v.v.heap.size v.v w':=fun v=>HLS.out y hym v.v
         have cq:∀ v:Sy.Bel wr,v.v.cell? ((⟨g,0,none⟩:Addr).add q)=some (.string (aa y)):=fun v=>by
          rw[aJ,Nat.zero_add];rcases HRO.out v.v (BJ.out.trans (v.h.mono BJ.out.size)) with ⟨e,_⟩ | ⟨g2,e,_,hoc2⟩
          · cases e
          · obtain rfl:g=g2:=by injection e with e1;injection e1
            exact hoc2 q y hy
         have cq2:∀ v:Sy.Bel wr,v.v.cell? ⟨g,q,none⟩=some (.string (aa y)):=fun v=>by have:=cq v;rw[aJ,Nat.zero_add] at this;exact this
         have cxv:=HQX.out
         obtain⟨d,hd⟩:∃ d,Jd.lessL x y=d:=⟨_,rfl⟩
         rw[hd] at hls;have HDL:=Lib.hid hd;have HY:=Lib.hid hy;have HQJ:=Lib.hid hq
         obtain⟨Y,hY⟩:∃ Y,aa y=Y:=⟨_,rfl⟩
         rw[hY] at hls cq cq2;clear hoc hy hym hd hY hq
         go_wp2_with fail
         refine Sy.wp_region_quiet_bel (by kernel_rfl) (by kernel_rfl) ?_
         repeat (go_big_quiet_step ((go_at_call 53;exact Sy.Calls.bel_of (hls _))))
         refine wpQuiet_nil ?_;intro w2 hw';have hb2:Below wr.heap.size wr w2:=by obtain⟨v,rfl⟩:=hw';exact v.h
         have BZ:Hid (Below w0.heap.size w0 w2):=BJ.out.trans (hb2.mono BJ.out.size);clear hw' hb2 hls cq cq2 cxv;cases d with
         | true =>
           have HG2:Hid (∀ i z,q≤i→OL[i]?=some z→Jd.lessL x z=true):=fun i z hi hz=>by
            by_cases h:i=q
            · subst h
              rw[HY.out] at hz;obtain rfl:=Option.some.inj hz;exact HDL.out
            · exact HGE.out i z (by have:=HQJ.out;omega) hz
           go_wp2_with fail
           go_roundw
           case rel=>exact⟨q,rfl,by have:=HQJ.out;omega,HG2,BZ⟩
           case measure=>have:=HQJ.out;simp[intOf];omega
         | false =>
           have hnx:Hid (aV (l.take (k+1))=OL.take j++([x]++OL.drop j)):=HEXIT.out (.inr ⟨y,by rw[HQJ.out];exact HY.out,HDL.out⟩)
           obtain⟨wz,hwz⟩:∃ z,w2=z:=⟨_,rfl⟩
           rw[hwz] at BZ ⊢;clear hwz wq hqz hq0
           go_wp2_with fail
           by_cases hjm:j < m
           · have hjo:j≤ocap:=by omega
             have hne:¬ ocap=j:=by omega
             have hjm3:j≤m:=by omega
             have HOCZ:Hid (∀ W,Below wz.heap.size wz W→∀ i y,OL[i]?=some y→W.cell? ⟨g,i,none⟩=some (.string (aa y))):=fun W h i y9 hy9=>by
              rcases HRO.out W (BZ.out.trans (h.mono BZ.out.size)) with ⟨e,_⟩ | ⟨g2,e,_,hoc2⟩
              · cases e
              · obtain rfl:g=g2:=by injection e with e1;injection e1
                exact hoc2 i y9 hy9
             have HLJ:Hid ((ac (OL.take j)).length=j):=by unfold Hid ac;rw[List.length_map,List.length_take,HM.out];omega
             have HLD:Hid ((ac (OL.drop j)).length=m - j):=by unfold Hid ac;rw[List.length_map,List.length_drop,HM.out]
             have HS1:Hid (∀ W,Below wz.heap.size wz W→∀ i b,(ac (OL.take j))[i]?=some b→W.cell? ((⟨g,0,none⟩:Addr).add i)=some (.string b)):=fun W h i b hb=>by
              obtain⟨y9,hy9,rfl⟩:=cO hb
              rw[aJ];exact HOCZ.out W h _ y9 (by rw[Nat.zero_add];rw[List.getElem?_take] at hy9;split at hy9;exact hy9;cases hy9)
             have HS2:Hid (∀ W,Below wz.heap.size wz W→∀ i b,(ac (OL.drop j))[i]?=some b→W.cell? ((⟨g,j,none⟩:Addr).add i)=some (.string b)):=fun W h i b hb=>by
              obtain⟨y9,hy9,rfl⟩:=cO hb
              rw[aJ];exact HOCZ.out W h _ y9 (by rw[List.getElem?_drop] at hy9;exact hy9)
             have HCZ:Hid (∀ W,Below wz.heap.size wz W→W.cell? (ad.add k)=some (.string X)):=fun W h=>HC0.out W (BW.out.trans ((BZ.out.trans (h.mono BZ.out.size)).mono HDW.out))
             have czz:=HCZ.out wz.drew (Below.refl _ _).drew;have HBX:Hid (∀ w',(∀ k,k < (wz.drew.alloc (.cells #[.string X] 9)).heap.size→some k≠(Value.slice none 0 0).ownBlock→w'.heap[k]?=(wz.drew.alloc (.cells #[.string X] 9)).heap[k]?)→Bk w' wz.heap.size 9 #[.string X]):=fun w' h=>(h wz.heap.size (by simp) (by intro e;cases e)).trans (Bk.new wz.drew 9 #[.string X])
             have HL1:Hid (([]:List ByteArray).length+((ac (OL.take j))).length≤1000000000000):=by unfold Hid;rw[HLJ.out];simp;omega
             have HL2:Hid (([]++(ac (OL.take j))).length+[X].length≤1000000000000):=by unfold Hid;rw[List.nil_append,HLJ.out];simp;omega
             have HL3:Hid (([]++(ac (OL.take j))++[X]).length+((ac (OL.drop j))).length≤1000000000000):=by unfold Hid;rw[HLD.out,List.nil_append,List.length_append,HLJ.out];simp;omega
             have HEQ:Hid ([]++(ac (OL.take j))++[X]++(ac (OL.drop j))=ac (aV (l.take (k+1)))):=by
              unfold Hid;rw[hnx.out,ar,ar,← HX.out]
              simp[ac]
             have HDZ:Hid (D≤wz.heap.size):=Nat.le_trans HDW.out BZ.out.size
             go_upto_region 9 with fail
             go_region_law (first | (refine ae rfl (.const (.slice none 0 0)) (.tmp 38) rfl wz.heap.size (.slice none 0 0) (some ⟨g,0,none⟩) j ocap [] (ac (OL.take j)) HLJ.out wz _ (by first | exact(Below.refl _ _).drew | exact((Below.refl _ _).drew.alloc (Nat.le_refl _) _)) (Nat.le_refl _) rfl (OwnT.nil _ _) (by simp[Act.eval,Act.put]) (fun e=>by cases e) (fun _=>⟨_,rfl,HS1.out _ (by first | exact(Below.refl _ _).drew | exact((Below.refl _ _).drew.alloc (Nat.le_refl _) _))⟩) HL1.out ?_;intro v1 w1 o1 b1 k1;have cx1:=HCZ.out w1 b1;first | have xb:=HBX.out _ k1 | skip) | (refine ae rfl (.tmp 39) (.tmp 44) rfl wz.heap.size v1 (some ⟨w1.heap.size,0,none⟩) 1 1 _ [X] rfl wz _ (b1.alloc b1.size _) (Nat.le_refl _) (by simp[Act.eval,Act.put]) (o1.below ((Below.refl _ _).alloc (Nat.le_refl _) _)) (by simp[Act.eval,Act.put]) (fun e=>by cases e) (fun _=>⟨_,rfl,aL (Bk.new _ _ _)⟩) HL2.out ?_;intro v2 w2 o2 b2 k2) | (refine ae rfl (.tmp 39) (.tmp 44) rfl wz.heap.size v1 (some ⟨wz.heap.size,0,none⟩) 1 1 _ [X] rfl wz _ b1 (Nat.le_refl _) (by simp[Act.eval,Act.put]) o1 (by simp[Act.eval,Act.put]) (fun e=>by cases e) (fun _=>⟨_,rfl,aL xb⟩) HL2.out ?_;intro v2 w2 o2 b2 k2) | (refine ae rfl (.tmp 45) (.tmp 48) rfl wz.heap.size v2 (some ⟨g,j,none⟩) (m - j) (ocap - j) _ (ac (OL.drop j)) HLD.out wz _ b2 (Nat.le_refl _) (by simp[Act.eval,Act.put]) o2 (by simp[Act.eval,Act.put]) (fun e=>by cases e) (fun _=>⟨_,rfl,HS2.out _ b2⟩) HL3.out ?_;intro v3 w3 o3 b3 k3))
             all_goals
              rw[HEQ.out] at o3;have O3:Hid (OwnT D w3 v3 (ac (aV (l.take (k+1))))):=o3.weakT HDZ.out;have B3:Hid (Below D w w3):=BW.out.trans ((BZ.out.mono HDW.out).trans (b3.mono HDZ.out));clear o1 o2 o3 b1 b2 b3 k1 k2 k3 cx1
              go_wp2_with fail
              go_roundw
              case rel=>exact⟨k+1,_,rfl,by go_num,by omega,O3,B3⟩
              case measure=>simp[intOf];omega
           · obtain rfl:m=j:=by omega
             have hmm:m≤m:=Nat.le_refl m
             by_cases hcm:ocap=m
             · obtain rfl:m=ocap:=hcm.symm
               have HOCZ:Hid (∀ W,Below wz.heap.size wz W→∀ i y,OL[i]?=some y→W.cell? ⟨g,i,none⟩=some (.string (aa y))):=fun W h i y9 hy9=>by
                rcases HRO.out W (BZ.out.trans (h.mono BZ.out.size)) with ⟨e,_⟩ | ⟨g2,e,_,hoc2⟩
                · cases e
                · obtain rfl:g=g2:=by injection e with e1;injection e1
                  exact hoc2 i y9 hy9
               have HLJ:Hid ((ac (OL.take m)).length=m):=by unfold Hid ac;rw[List.length_map,List.length_take,HM.out];omega
               have hnx:Hid (aV (l.take (k+1))=OL.take m++([x]++[])):=by unfold Hid;rw[hnx.out,← HM.out,List.drop_length]
               have HS1:Hid (∀ W,Below wz.heap.size wz W→∀ i b,(ac (OL.take m))[i]?=some b→W.cell? ((⟨g,0,none⟩:Addr).add i)=some (.string b)):=fun W h i b hb=>by
                obtain⟨y9,hy9,rfl⟩:=cO hb
                rw[aJ];exact HOCZ.out W h _ y9 (by rw[Nat.zero_add];rw[List.getElem?_take] at hy9;split at hy9;exact hy9;cases hy9)
               have HCZ:Hid (∀ W,Below wz.heap.size wz W→W.cell? (ad.add k)=some (.string X)):=fun W h=>HC0.out W (BW.out.trans ((BZ.out.trans (h.mono BZ.out.size)).mono HDW.out))
               have czz:=HCZ.out wz.drew (Below.refl _ _).drew;have HBX:Hid (∀ w',(∀ k,k < (wz.drew.alloc (.cells #[.string X] 9)).heap.size→some k≠(Value.slice none 0 0).ownBlock→w'.heap[k]?=(wz.drew.alloc (.cells #[.string X] 9)).heap[k]?)→Bk w' wz.heap.size 9 #[.string X]):=fun w' h=>(h wz.heap.size (by simp) (by intro e;cases e)).trans (Bk.new wz.drew 9 #[.string X])
               have HL1:Hid (([]:List ByteArray).length+((ac (OL.take m))).length≤1000000000000):=by unfold Hid;rw[HLJ.out];simp;omega
               have HL2:Hid (([]++(ac (OL.take m))).length+[X].length≤1000000000000):=by unfold Hid;rw[List.nil_append,HLJ.out];simp;omega
               have HL3:Hid (([]++(ac (OL.take m))++[X]).length+(([]:List ByteArray)).length≤1000000000000):=by unfold Hid;rw[List.nil_append,List.length_append,HLJ.out];simp;omega
               have HEQ:Hid ([]++(ac (OL.take m))++[X]++([]:List ByteArray)=ac (aV (l.take (k+1)))):=by
                unfold Hid;rw[hnx.out,ar,ar,← HX.out]
                simp[ac]
               have HDZ:Hid (D≤wz.heap.size):=Nat.le_trans HDW.out BZ.out.size
               go_upto_region 9 with fail
               go_region_law (first | (refine ae rfl (.const (.slice none 0 0)) (.tmp 38) rfl wz.heap.size (.slice none 0 0) (some ⟨g,0,none⟩) m m [] (ac (OL.take m)) HLJ.out wz _ (by first | exact(Below.refl _ _).drew | exact((Below.refl _ _).drew.alloc (Nat.le_refl _) _)) (Nat.le_refl _) rfl (OwnT.nil _ _) (by simp[Act.eval,Act.put]) (fun e=>by cases e) (fun _=>⟨_,rfl,HS1.out _ (by first | exact(Below.refl _ _).drew | exact((Below.refl _ _).drew.alloc (Nat.le_refl _) _))⟩) HL1.out ?_;intro v1 w1 o1 b1 k1;have cx1:=HCZ.out w1 b1;first | have xb:=HBX.out _ k1 | skip) | (refine ae rfl (.tmp 39) (.tmp 44) rfl wz.heap.size v1 (some ⟨w1.heap.size,0,none⟩) 1 1 _ [X] rfl wz _ (b1.alloc b1.size _) (Nat.le_refl _) (by simp[Act.eval,Act.put]) (o1.below ((Below.refl _ _).alloc (Nat.le_refl _) _)) (by simp[Act.eval,Act.put]) (fun e=>by cases e) (fun _=>⟨_,rfl,aL (Bk.new _ _ _)⟩) HL2.out ?_;intro v2 w2 o2 b2 k2) | (refine ae rfl (.tmp 39) (.tmp 44) rfl wz.heap.size v1 (some ⟨wz.heap.size,0,none⟩) 1 1 _ [X] rfl wz _ b1 (Nat.le_refl _) (by simp[Act.eval,Act.put]) o1 (by simp[Act.eval,Act.put]) (fun e=>by cases e) (fun _=>⟨_,rfl,aL xb⟩) HL2.out ?_;intro v2 w2 o2 b2 k2) | (refine ae rfl (.tmp 45) (.tmp 48) rfl wz.heap.size v2 (some ⟨g,0,none⟩) 0 0 _ ([]:List ByteArray) rfl wz _ b2 (Nat.le_refl _) (by simp[Act.eval,Act.put]) o2 (by simp[Act.eval,Act.put]) (fun e=>by cases e) (fun h=>absurd h (Nat.lt_irrefl _)) HL3.out ?_;intro v3 w3 o3 b3 k3))
               all_goals
                rw[HEQ.out] at o3;have O3:Hid (OwnT D w3 v3 (ac (aV (l.take (k+1))))):=o3.weakT HDZ.out;have B3:Hid (Below D w w3):=BW.out.trans ((BZ.out.mono HDW.out).trans (b3.mono HDZ.out));clear o1 o2 o3 b1 b2 b3 k1 k2 k3 cx1
                go_wp2_with fail
                go_roundw
                case rel=>exact⟨k+1,_,rfl,by go_num,by omega,O3,B3⟩
                case measure=>simp[intOf];omega
             · have HOCZ:Hid (∀ W,Below wz.heap.size wz W→∀ i y,OL[i]?=some y→W.cell? ⟨g,i,none⟩=some (.string (aa y))):=fun W h i y9 hy9=>by
                rcases HRO.out W (BZ.out.trans (h.mono BZ.out.size)) with ⟨e,_⟩ | ⟨g2,e,_,hoc2⟩
                · cases e
                · obtain rfl:g=g2:=by injection e with e1;injection e1
                  exact hoc2 i y9 hy9
               have HLJ:Hid ((ac (OL.take m)).length=m):=by unfold Hid ac;rw[List.length_map,List.length_take,HM.out];omega
               have hnx:Hid (aV (l.take (k+1))=OL.take m++([x]++[])):=by unfold Hid;rw[hnx.out,← HM.out,List.drop_length]
               have HS1:Hid (∀ W,Below wz.heap.size wz W→∀ i b,(ac (OL.take m))[i]?=some b→W.cell? ((⟨g,0,none⟩:Addr).add i)=some (.string b)):=fun W h i b hb=>by
                obtain⟨y9,hy9,rfl⟩:=cO hb
                rw[aJ];exact HOCZ.out W h _ y9 (by rw[Nat.zero_add];rw[List.getElem?_take] at hy9;split at hy9;exact hy9;cases hy9)
               have HCZ:Hid (∀ W,Below wz.heap.size wz W→W.cell? (ad.add k)=some (.string X)):=fun W h=>HC0.out W (BW.out.trans ((BZ.out.trans (h.mono BZ.out.size)).mono HDW.out))
               have czz:=HCZ.out wz.drew (Below.refl _ _).drew;have HBX:Hid (∀ w',(∀ k,k < (wz.drew.alloc (.cells #[.string X] 9)).heap.size→some k≠(Value.slice none 0 0).ownBlock→w'.heap[k]?=(wz.drew.alloc (.cells #[.string X] 9)).heap[k]?)→Bk w' wz.heap.size 9 #[.string X]):=fun w' h=>(h wz.heap.size (by simp) (by intro e;cases e)).trans (Bk.new wz.drew 9 #[.string X])
               have HL1:Hid (([]:List ByteArray).length+((ac (OL.take m))).length≤1000000000000):=by unfold Hid;rw[HLJ.out];simp;omega
               have HL2:Hid (([]++(ac (OL.take m))).length+[X].length≤1000000000000):=by unfold Hid;rw[List.nil_append,HLJ.out];simp;omega
               have HL3:Hid (([]++(ac (OL.take m))++[X]).length+(([]:List ByteArray)).length≤1000000000000):=by unfold Hid;rw[List.nil_append,List.length_append,HLJ.out];simp;omega
               have HEQ:Hid ([]++(ac (OL.take m))++[X]++([]:List ByteArray)=ac (aV (l.take (k+1)))):=by
                unfold Hid;rw[hnx.out,ar,ar,← HX.out]
                simp[ac]
               have HDZ:Hid (D≤wz.heap.size):=Nat.le_trans HDW.out BZ.out.size
               go_upto_region 9 with fail
               go_region_law (first | (refine ae rfl (.const (.slice none 0 0)) (.tmp 38) rfl wz.heap.size (.slice none 0 0) (some ⟨g,0,none⟩) m ocap [] (ac (OL.take m)) HLJ.out wz _ (by first | exact(Below.refl _ _).drew | exact((Below.refl _ _).drew.alloc (Nat.le_refl _) _)) (Nat.le_refl _) rfl (OwnT.nil _ _) (by simp[Act.eval,Act.put]) (fun e=>by cases e) (fun _=>⟨_,rfl,HS1.out _ (by first | exact(Below.refl _ _).drew | exact((Below.refl _ _).drew.alloc (Nat.le_refl _) _))⟩) HL1.out ?_;intro v1 w1 o1 b1 k1;have cx1:=HCZ.out w1 b1;first | have xb:=HBX.out _ k1 | skip) | (refine ae rfl (.tmp 39) (.tmp 44) rfl wz.heap.size v1 (some ⟨w1.heap.size,0,none⟩) 1 1 _ [X] rfl wz _ (b1.alloc b1.size _) (Nat.le_refl _) (by simp[Act.eval,Act.put]) (o1.below ((Below.refl _ _).alloc (Nat.le_refl _) _)) (by simp[Act.eval,Act.put]) (fun e=>by cases e) (fun _=>⟨_,rfl,aL (Bk.new _ _ _)⟩) HL2.out ?_;intro v2 w2 o2 b2 k2) | (refine ae rfl (.tmp 39) (.tmp 44) rfl wz.heap.size v1 (some ⟨wz.heap.size,0,none⟩) 1 1 _ [X] rfl wz _ b1 (Nat.le_refl _) (by simp[Act.eval,Act.put]) o1 (by simp[Act.eval,Act.put]) (fun e=>by cases e) (fun _=>⟨_,rfl,aL xb⟩) HL2.out ?_;intro v2 w2 o2 b2 k2) | (refine ae rfl (.tmp 45) (.tmp 48) rfl wz.heap.size v2 (some ⟨g,m,none⟩) 0 (ocap - m) _ ([]:List ByteArray) rfl wz _ b2 (Nat.le_refl _) (by simp[Act.eval,Act.put]) o2 (by simp[Act.eval,Act.put]) (fun e=>by cases e) (fun h=>absurd h (Nat.lt_irrefl _)) HL3.out ?_;intro v3 w3 o3 b3 k3))
               all_goals
                rw[HEQ.out] at o3;have O3:Hid (OwnT D w3 v3 (ac (aV (l.take (k+1))))):=o3.weakT HDZ.out;have B3:Hid (Below D w w3):=BW.out.trans ((BZ.out.mono HDW.out).trans (b3.mono HDZ.out));clear o1 o2 o3 b1 b2 b3 k1 k2 k3 cx1
                go_wp2_with fail
                go_roundw
                case rel=>exact⟨k+1,_,rfl,by go_num,by omega,O3,B3⟩
                case measure=>simp[intOf];omega
       · have hj0d:decide ((0:Int) < (j:Int))=false:=decide_eq_false (by omega)
         have hnx:Hid (aV (l.take (k+1))=OL.take j++([x]++OL.drop j)):=HEXIT.out (.inl (by omega));clear HEXIT HQX
         go_wp2_with fail
         refine Sy.wp_region_quiet_bel (by kernel_rfl) (by kernel_rfl) ?_
         repeat (go_big_quiet_step (fail))
         refine wpQuiet_nil ?_;intro w2 hw';have hb2:Below wr.heap.size wr w2:=by obtain⟨v,rfl⟩:=hw';exact v.h
         have BZ:Hid (Below w0.heap.size w0 w2):=BJ.out.trans (hb2.mono BJ.out.size);clear hw' hb2
         obtain⟨wz,hwz⟩:∃ z,w2=z:=⟨_,rfl⟩
         rw[hwz] at BZ ⊢;clear hwz
         go_wp2_with fail
         by_cases hjm:j < m
         · obtain⟨g,hg,hcap,hoc⟩:=(HRO.out wz BZ.out).resolve_left (fun h=>by omega)
           subst hg;clear hoc;have hjo:j≤ocap:=by omega
           have hne:¬ ocap=j:=by omega
           have hjm3:j≤m:=by omega
           have HOCZ:Hid (∀ W,Below wz.heap.size wz W→∀ i y,OL[i]?=some y→W.cell? ⟨g,i,none⟩=some (.string (aa y))):=fun W h i y9 hy9=>by
            rcases HRO.out W (BZ.out.trans (h.mono BZ.out.size)) with ⟨e,_⟩ | ⟨g2,e,_,hoc2⟩
            · cases e
            · obtain rfl:g=g2:=by injection e with e1;injection e1
              exact hoc2 i y9 hy9
           have HLJ:Hid ((ac (OL.take j)).length=j):=by unfold Hid ac;rw[List.length_map,List.length_take,HM.out];omega
           have HLD:Hid ((ac (OL.drop j)).length=m - j):=by unfold Hid ac;rw[List.length_map,List.length_drop,HM.out]
           have HS1:Hid (∀ W,Below wz.heap.size wz W→∀ i b,(ac (OL.take j))[i]?=some b→W.cell? ((⟨g,0,none⟩:Addr).add i)=some (.string b)):=fun W h i b hb=>by
            obtain⟨y9,hy9,rfl⟩:=cO hb
            rw[aJ];exact HOCZ.out W h _ y9 (by rw[Nat.zero_add];rw[List.getElem?_take] at hy9;split at hy9;exact hy9;cases hy9)
           have HS2:Hid (∀ W,Below wz.heap.size wz W→∀ i b,(ac (OL.drop j))[i]?=some b→W.cell? ((⟨g,j,none⟩:Addr).add i)=some (.string b)):=fun W h i b hb=>by
            obtain⟨y9,hy9,rfl⟩:=cO hb
            rw[aJ];exact HOCZ.out W h _ y9 (by rw[List.getElem?_drop] at hy9;exact hy9)
           have HCZ:Hid (∀ W,Below wz.heap.size wz W→W.cell? (ad.add k)=some (.string X)):=fun W h=>HC0.out W (BW.out.trans ((BZ.out.trans (h.mono BZ.out.size)).mono HDW.out))
           have czz:=HCZ.out wz.drew (Below.refl _ _).drew;have HBX:Hid (∀ w',(∀ k,k < (wz.drew.alloc (.cells #[.string X] 9)).heap.size→some k≠(Value.slice none 0 0).ownBlock→w'.heap[k]?=(wz.drew.alloc (.cells #[.string X] 9)).heap[k]?)→Bk w' wz.heap.size 9 #[.string X]):=fun w' h=>(h wz.heap.size (by simp) (by intro e;cases e)).trans (Bk.new wz.drew 9 #[.string X])
           have HL1:Hid (([]:List ByteArray).length+((ac (OL.take j))).length≤1000000000000):=by unfold Hid;rw[HLJ.out];simp;omega
           have HL2:Hid (([]++(ac (OL.take j))).length+[X].length≤1000000000000):=by unfold Hid;rw[List.nil_append,HLJ.out];simp;omega
           have HL3:Hid (([]++(ac (OL.take j))++[X]).length+((ac (OL.drop j))).length≤1000000000000):=by unfold Hid;rw[HLD.out,List.nil_append,List.length_append,HLJ.out];simp;omega
           have HEQ:Hid ([]++(ac (OL.take j))++[X]++(ac (OL.drop j))=ac (aV (l.take (k+1)))):=by
            unfold Hid;rw[hnx.out,ar,ar,← HX.out]
            simp[ac]
           have HDZ:Hid (D≤wz.heap.size):=Nat.le_trans HDW.out BZ.out.size
           go_upto_region 9 with fail
           go_region_law (first | (refine ae rfl (.const (.slice none 0 0)) (.tmp 38) rfl wz.heap.size (.slice none 0 0) (some ⟨g,0,none⟩) j ocap [] (ac (OL.take j)) HLJ.out wz _ (by first | exact(Below.refl _ _).drew | exact((Below.refl _ _).drew.alloc (Nat.le_refl _) _)) (Nat.le_refl _) rfl (OwnT.nil _ _) (by simp[Act.eval,Act.put]) (fun e=>by cases e) (fun _=>⟨_,rfl,HS1.out _ (by first | exact(Below.refl _ _).drew | exact((Below.refl _ _).drew.alloc (Nat.le_refl _) _))⟩) HL1.out ?_;intro v1 w1 o1 b1 k1;have cx1:=HCZ.out w1 b1;first | have xb:=HBX.out _ k1 | skip) | (refine ae rfl (.tmp 39) (.tmp 44) rfl wz.heap.size v1 (some ⟨w1.heap.size,0,none⟩) 1 1 _ [X] rfl wz _ (b1.alloc b1.size _) (Nat.le_refl _) (by simp[Act.eval,Act.put]) (o1.below ((Below.refl _ _).alloc (Nat.le_refl _) _)) (by simp[Act.eval,Act.put]) (fun e=>by cases e) (fun _=>⟨_,rfl,aL (Bk.new _ _ _)⟩) HL2.out ?_;intro v2 w2 o2 b2 k2) | (refine ae rfl (.tmp 39) (.tmp 44) rfl wz.heap.size v1 (some ⟨wz.heap.size,0,none⟩) 1 1 _ [X] rfl wz _ b1 (Nat.le_refl _) (by simp[Act.eval,Act.put]) o1 (by simp[Act.eval,Act.put]) (fun e=>by cases e) (fun _=>⟨_,rfl,aL xb⟩) HL2.out ?_;intro v2 w2 o2 b2 k2) | (refine ae rfl (.tmp 45) (.tmp 48) rfl wz.heap.size v2 (some ⟨g,j,none⟩) (m - j) (ocap - j) _ (ac (OL.drop j)) HLD.out wz _ b2 (Nat.le_refl _) (by simp[Act.eval,Act.put]) o2 (by simp[Act.eval,Act.put]) (fun e=>by cases e) (fun _=>⟨_,rfl,HS2.out _ b2⟩) HL3.out ?_;intro v3 w3 o3 b3 k3))
           all_goals
            rw[HEQ.out] at o3;have O3:Hid (OwnT D w3 v3 (ac (aV (l.take (k+1))))):=o3.weakT HDZ.out;have B3:Hid (Below D w w3):=BW.out.trans ((BZ.out.mono HDW.out).trans (b3.mono HDZ.out));clear o1 o2 o3 b1 b2 b3 k1 k2 k3 cx1
            go_wp2_with fail
            go_roundw
            case rel=>exact⟨k+1,_,rfl,by go_num,by omega,O3,B3⟩
            case measure=>simp[intOf];omega
         · obtain rfl:m=j:=by omega
           rcases HRO.out w0 HBB0.out with hnil | ⟨g,hg,hcap,-⟩
           · obtain⟨rfl,rfl,rfl⟩:=hnil
             have hnx:Hid (aV (l.take (k+1))=([]:List (List UInt8))++([x]++[])):=by unfold Hid;rw[hnx.out,List.eq_nil_of_length_eq_zero HM.out];rfl
             have HCZ:Hid (∀ W,Below wz.heap.size wz W→W.cell? (ad.add k)=some (.string X)):=fun W h=>HC0.out W (BW.out.trans ((BZ.out.trans (h.mono BZ.out.size)).mono HDW.out))
             have czz:=HCZ.out wz.drew (Below.refl _ _).drew;have HBX:Hid (∀ w',(∀ k,k < (wz.drew.alloc (.cells #[.string X] 9)).heap.size→some k≠(Value.slice none 0 0).ownBlock→w'.heap[k]?=(wz.drew.alloc (.cells #[.string X] 9)).heap[k]?)→Bk w' wz.heap.size 9 #[.string X]):=fun w' h=>(h wz.heap.size (by simp) (by intro e;cases e)).trans (Bk.new wz.drew 9 #[.string X])
             have HL1:Hid (([]:List ByteArray).length+(([]:List ByteArray)).length≤1000000000000):=by unfold Hid;simp;try omega
             have HL2:Hid (([]++([]:List ByteArray)).length+[X].length≤1000000000000):=by unfold Hid;simp
             have HL3:Hid (([]++([]:List ByteArray)++[X]).length+(([]:List ByteArray)).length≤1000000000000):=by unfold Hid;simp
             have HEQ:Hid ([]++([]:List ByteArray)++[X]++([]:List ByteArray)=ac (aV (l.take (k+1)))):=by
              unfold Hid;rw[hnx.out,ar,ar,← HX.out]
              simp[ac]
             have HDZ:Hid (D≤wz.heap.size):=Nat.le_trans HDW.out BZ.out.size
             go_upto_region 9 with fail
             go_region_law (first | (refine ae rfl (.const (.slice none 0 0)) (.tmp 38) rfl wz.heap.size (.slice none 0 0) none 0 0 [] ([]:List ByteArray) rfl wz _ (by first | exact(Below.refl _ _).drew | exact((Below.refl _ _).drew.alloc (Nat.le_refl _) _)) (Nat.le_refl _) rfl (OwnT.nil _ _) (by simp[Act.eval,Act.put]) (fun _=>rfl) (fun h=>absurd h (Nat.lt_irrefl _)) HL1.out ?_;intro v1 w1 o1 b1 k1;have cx1:=HCZ.out w1 b1;first | have xb:=HBX.out _ k1 | skip) | (refine ae rfl (.tmp 39) (.tmp 44) rfl wz.heap.size v1 (some ⟨w1.heap.size,0,none⟩) 1 1 _ [X] rfl wz _ (b1.alloc b1.size _) (Nat.le_refl _) (by simp[Act.eval,Act.put]) (o1.below ((Below.refl _ _).alloc (Nat.le_refl _) _)) (by simp[Act.eval,Act.put]) (fun e=>by cases e) (fun _=>⟨_,rfl,aL (Bk.new _ _ _)⟩) HL2.out ?_;intro v2 w2 o2 b2 k2) | (refine ae rfl (.tmp 39) (.tmp 44) rfl wz.heap.size v1 (some ⟨wz.heap.size,0,none⟩) 1 1 _ [X] rfl wz _ b1 (Nat.le_refl _) (by simp[Act.eval,Act.put]) o1 (by simp[Act.eval,Act.put]) (fun e=>by cases e) (fun _=>⟨_,rfl,aL xb⟩) HL2.out ?_;intro v2 w2 o2 b2 k2) | (refine ae rfl (.tmp 45) (.tmp 48) rfl wz.heap.size v2 none 0 0 _ ([]:List ByteArray) rfl wz _ b2 (Nat.le_refl _) (by simp[Act.eval,Act.put]) o2 (by simp[Act.eval,Act.put]) (fun _=>rfl) (fun h=>absurd h (Nat.lt_irrefl _)) HL3.out ?_;intro v3 w3 o3 b3 k3))
             all_goals
              rw[HEQ.out] at o3;have O3:Hid (OwnT D w3 v3 (ac (aV (l.take (k+1))))):=o3.weakT HDZ.out;have B3:Hid (Below D w w3):=BW.out.trans ((BZ.out.mono HDW.out).trans (b3.mono HDZ.out));clear o1 o2 o3 b1 b2 b3 k1 k2 k3 cx1
              go_wp2_with fail
              go_roundw
              case rel=>exact⟨k+1,_,rfl,by go_num,by omega,O3,B3⟩
              case measure=>simp[intOf];omega
           · subst hg
             have hmm:m≤m:=Nat.le_refl m
             by_cases hcm:ocap=m
             · obtain rfl:m=ocap:=hcm.symm
               have HOCZ:Hid (∀ W,Below wz.heap.size wz W→∀ i y,OL[i]?=some y→W.cell? ⟨g,i,none⟩=some (.string (aa y))):=fun W h i y9 hy9=>by
                rcases HRO.out W (BZ.out.trans (h.mono BZ.out.size)) with ⟨e,_⟩ | ⟨g2,e,_,hoc2⟩
                · cases e
                · obtain rfl:g=g2:=by injection e with e1;injection e1
                  exact hoc2 i y9 hy9
               have HLJ:Hid ((ac (OL.take m)).length=m):=by unfold Hid ac;rw[List.length_map,List.length_take,HM.out];omega
               have hnx:Hid (aV (l.take (k+1))=OL.take m++([x]++[])):=by unfold Hid;rw[hnx.out,← HM.out,List.drop_length]
               have HS1:Hid (∀ W,Below wz.heap.size wz W→∀ i b,(ac (OL.take m))[i]?=some b→W.cell? ((⟨g,0,none⟩:Addr).add i)=some (.string b)):=fun W h i b hb=>by
                obtain⟨y9,hy9,rfl⟩:=cO hb
                rw[aJ];exact HOCZ.out W h _ y9 (by rw[Nat.zero_add];rw[List.getElem?_take] at hy9;split at hy9;exact hy9;cases hy9)
               have HCZ:Hid (∀ W,Below wz.heap.size wz W→W.cell? (ad.add k)=some (.string X)):=fun W h=>HC0.out W (BW.out.trans ((BZ.out.trans (h.mono BZ.out.size)).mono HDW.out))
               have czz:=HCZ.out wz.drew (Below.refl _ _).drew;have HBX:Hid (∀ w',(∀ k,k < (wz.drew.alloc (.cells #[.string X] 9)).heap.size→some k≠(Value.slice none 0 0).ownBlock→w'.heap[k]?=(wz.drew.alloc (.cells #[.string X] 9)).heap[k]?)→Bk w' wz.heap.size 9 #[.string X]):=fun w' h=>(h wz.heap.size (by simp) (by intro e;cases e)).trans (Bk.new wz.drew 9 #[.string X])
               have HL1:Hid (([]:List ByteArray).length+((ac (OL.take m))).length≤1000000000000):=by unfold Hid;rw[HLJ.out];simp;omega
               have HL2:Hid (([]++(ac (OL.take m))).length+[X].length≤1000000000000):=by unfold Hid;rw[List.nil_append,HLJ.out];simp;omega
               have HL3:Hid (([]++(ac (OL.take m))++[X]).length+(([]:List ByteArray)).length≤1000000000000):=by unfold Hid;rw[List.nil_append,List.length_append,HLJ.out];simp;omega
               have HEQ:Hid ([]++(ac (OL.take m))++[X]++([]:List ByteArray)=ac (aV (l.take (k+1)))):=by
                unfold Hid;rw[hnx.out,ar,ar,← HX.out]
                simp[ac]
               have HDZ:Hid (D≤wz.heap.size):=Nat.le_trans HDW.out BZ.out.size
               go_upto_region 9 with fail
               go_region_law (first | (refine ae rfl (.const (.slice none 0 0)) (.tmp 38) rfl wz.heap.size (.slice none 0 0) (some ⟨g,0,none⟩) m m [] (ac (OL.take m)) HLJ.out wz _ (by first | exact(Below.refl _ _).drew | exact((Below.refl _ _).drew.alloc (Nat.le_refl _) _)) (Nat.le_refl _) rfl (OwnT.nil _ _) (by simp[Act.eval,Act.put]) (fun e=>by cases e) (fun _=>⟨_,rfl,HS1.out _ (by first | exact(Below.refl _ _).drew | exact((Below.refl _ _).drew.alloc (Nat.le_refl _) _))⟩) HL1.out ?_;intro v1 w1 o1 b1 k1;have cx1:=HCZ.out w1 b1;first | have xb:=HBX.out _ k1 | skip) | (refine ae rfl (.tmp 39) (.tmp 44) rfl wz.heap.size v1 (some ⟨w1.heap.size,0,none⟩) 1 1 _ [X] rfl wz _ (b1.alloc b1.size _) (Nat.le_refl _) (by simp[Act.eval,Act.put]) (o1.below ((Below.refl _ _).alloc (Nat.le_refl _) _)) (by simp[Act.eval,Act.put]) (fun e=>by cases e) (fun _=>⟨_,rfl,aL (Bk.new _ _ _)⟩) HL2.out ?_;intro v2 w2 o2 b2 k2) | (refine ae rfl (.tmp 39) (.tmp 44) rfl wz.heap.size v1 (some ⟨wz.heap.size,0,none⟩) 1 1 _ [X] rfl wz _ b1 (Nat.le_refl _) (by simp[Act.eval,Act.put]) o1 (by simp[Act.eval,Act.put]) (fun e=>by cases e) (fun _=>⟨_,rfl,aL xb⟩) HL2.out ?_;intro v2 w2 o2 b2 k2) | (refine ae rfl (.tmp 45) (.tmp 48) rfl wz.heap.size v2 (some ⟨g,0,none⟩) 0 0 _ ([]:List ByteArray) rfl wz _ b2 (Nat.le_refl _) (by simp[Act.eval,Act.put]) o2 (by simp[Act.eval,Act.put]) (fun e=>by cases e) (fun h=>absurd h (Nat.lt_irrefl _)) HL3.out ?_;intro v3 w3 o3 b3 k3))
               all_goals
                rw[HEQ.out] at o3;have O3:Hid (OwnT D w3 v3 (ac (aV (l.take (k+1))))):=o3.weakT HDZ.out;have B3:Hid (Below D w w3):=BW.out.trans ((BZ.out.mono HDW.out).trans (b3.mono HDZ.out));clear o1 o2 o3 b1 b2 b3 k1 k2 k3 cx1
                go_wp2_with fail
                go_roundw
                case rel=>exact⟨k+1,_,rfl,by go_num,by omega,O3,B3⟩
                case measure=>simp[intOf];omega
             · have HOCZ:Hid (∀ W,Below wz.heap.size wz W→∀ i y,OL[i]?=some y→W.cell? ⟨g,i,none⟩=some (.string (aa y))):=fun W h i y9 hy9=>by
                rcases HRO.out W (BZ.out.trans (h.mono BZ.out.size)) with ⟨e,_⟩ | ⟨g2,e,_,hoc2⟩
                · cases e
                · obtain rfl:g=g2:=by injection e with e1;injection e1
                  exact hoc2 i y9 hy9
               have HLJ:Hid ((ac (OL.take m)).length=m):=by unfold Hid ac;rw[List.length_map,List.length_take,HM.out];omega
               have hnx:Hid (aV (l.take (k+1))=OL.take m++([x]++[])):=by unfold Hid;rw[hnx.out,← HM.out,List.drop_length]
               have HS1:Hid (∀ W,Below wz.heap.size wz W→∀ i b,(ac (OL.take m))[i]?=some b→W.cell? ((⟨g,0,none⟩:Addr).add i)=some (.string b)):=fun W h i b hb=>by
                obtain⟨y9,hy9,rfl⟩:=cO hb
                rw[aJ];exact HOCZ.out W h _ y9 (by rw[Nat.zero_add];rw[List.getElem?_take] at hy9;split at hy9;exact hy9;cases hy9)
               have HCZ:Hid (∀ W,Below wz.heap.size wz W→W.cell? (ad.add k)=some (.string X)):=fun W h=>HC0.out W (BW.out.trans ((BZ.out.trans (h.mono BZ.out.size)).mono HDW.out))
               have czz:=HCZ.out wz.drew (Below.refl _ _).drew;have HBX:Hid (∀ w',(∀ k,k < (wz.drew.alloc (.cells #[.string X] 9)).heap.size→some k≠(Value.slice none 0 0).ownBlock→w'.heap[k]?=(wz.drew.alloc (.cells #[.string X] 9)).heap[k]?)→Bk w' wz.heap.size 9 #[.string X]):=fun w' h=>(h wz.heap.size (by simp) (by intro e;cases e)).trans (Bk.new wz.drew 9 #[.string X])
               have HL1:Hid (([]:List ByteArray).length+((ac (OL.take m))).length≤1000000000000):=by unfold Hid;rw[HLJ.out];simp;omega
               have HL2:Hid (([]++(ac (OL.take m))).length+[X].length≤1000000000000):=by unfold Hid;rw[List.nil_append,HLJ.out];simp;omega
               have HL3:Hid (([]++(ac (OL.take m))++[X]).length+(([]:List ByteArray)).length≤1000000000000):=by unfold Hid;rw[List.nil_append,List.length_append,HLJ.out];simp;omega
               have HEQ:Hid ([]++(ac (OL.take m))++[X]++([]:List ByteArray)=ac (aV (l.take (k+1)))):=by
                unfold Hid;rw[hnx.out,ar,ar,← HX.out]
                simp[ac]
               have HDZ:Hid (D≤wz.heap.size):=Nat.le_trans HDW.out BZ.out.size
               go_upto_region 9 with fail
               go_region_law (first | (refine ae rfl (.const (.slice none 0 0)) (.tmp 38) rfl wz.heap.size (.slice none 0 0) (some ⟨g,0,none⟩) m ocap [] (ac (OL.take m)) HLJ.out wz _ (by first | exact(Below.refl _ _).drew | exact((Below.refl _ _).drew.alloc (Nat.le_refl _) _)) (Nat.le_refl _) rfl (OwnT.nil _ _) (by simp[Act.eval,Act.put]) (fun e=>by cases e) (fun _=>⟨_,rfl,HS1.out _ (by first | exact(Below.refl _ _).drew | exact((Below.refl _ _).drew.alloc (Nat.le_refl _) _))⟩) HL1.out ?_;intro v1 w1 o1 b1 k1;have cx1:=HCZ.out w1 b1;first | have xb:=HBX.out _ k1 | skip) | (refine ae rfl (.tmp 39) (.tmp 44) rfl wz.heap.size v1 (some ⟨w1.heap.size,0,none⟩) 1 1 _ [X] rfl wz _ (b1.alloc b1.size _) (Nat.le_refl _) (by simp[Act.eval,Act.put]) (o1.below ((Below.refl _ _).alloc (Nat.le_refl _) _)) (by simp[Act.eval,Act.put]) (fun e=>by cases e) (fun _=>⟨_,rfl,aL (Bk.new _ _ _)⟩) HL2.out ?_;intro v2 w2 o2 b2 k2) | (refine ae rfl (.tmp 39) (.tmp 44) rfl wz.heap.size v1 (some ⟨wz.heap.size,0,none⟩) 1 1 _ [X] rfl wz _ b1 (Nat.le_refl _) (by simp[Act.eval,Act.put]) o1 (by simp[Act.eval,Act.put]) (fun e=>by cases e) (fun _=>⟨_,rfl,aL xb⟩) HL2.out ?_;intro v2 w2 o2 b2 k2) | (refine ae rfl (.tmp 45) (.tmp 48) rfl wz.heap.size v2 (some ⟨g,m,none⟩) 0 (ocap - m) _ ([]:List ByteArray) rfl wz _ b2 (Nat.le_refl _) (by simp[Act.eval,Act.put]) o2 (by simp[Act.eval,Act.put]) (fun e=>by cases e) (fun h=>absurd h (Nat.lt_irrefl _)) HL3.out ?_;intro v3 w3 o3 b3 k3))
               all_goals
                rw[HEQ.out] at o3;have O3:Hid (OwnT D w3 v3 (ac (aV (l.take (k+1))))):=o3.weakT HDZ.out;have B3:Hid (Below D w w3):=BW.out.trans ((BZ.out.mono HDW.out).trans (b3.mono HDZ.out));clear o1 o2 o3 b1 b2 b3 k1 k2 k3 cx1
                go_wp2_with fail
                go_roundw
                case rel=>exact⟨k+1,_,rfl,by go_num,by omega,O3,B3⟩
                case measure=>simp[intOf];omega
  · have hoe:=HO.out
    rw[show l.take k=l from List.take_of_length_le (by rw[HN.out];omega)] at hoe;have HOE:=Lib.hid hoe
    obtain⟨OA,on,ocap,rfl⟩:∃ A n cap,ox=.slice A n cap:=by obtain⟨A,cap,e⟩:=HO.out.slice;exact⟨A,_,cap,e⟩
    clear hoe HO
    go_wp2_with fail
    go_ret
    exact⟨⟨_,rfl,HOE.out⟩,BW.out⟩
end Go.Proofs.YtbgaglcgennhiaaGreatDoor
