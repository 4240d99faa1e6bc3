import Derived.Test.YtbgaglcgennhiaaGreatDoorP24
import Derived.Test.YtbgaglcgennhiaaGreatDoorP18
import Derived.Deep.QuietTactic
import Derived.Deep.RegionLaw
import Derived.BigQuiet
import Derived.Laws.AppendOwnNone
namespace Go.Proofs.YtbgaglcgennhiaaGreatDoor
open Go.RowKit Ct Tx
theorem ae {ops:Array Oper} {o:Oper} {a:Act} {K:Act→World→Prop} {Q:Exit→Act→World→Prop} {E:Prop} (hgd:o.guard=none) (s x:Operand) (ho:o.op=.call { callee:=.builtin .append,args:=#[s,x],argTypes:=#[26,26] })
 (B:Nat) (v:Value) (A:Option Addr) (m c:Nat) (xs ys:List ByteArray) (hm:ys.length=m) (w0 W:World) (hW:Below B w0 W) (hB:B≤w0.heap.size) (hs:a.eval s=v) (hown:OwnT B W v xs) (hx:a.eval x=.slice A m c) (hz:A=none→c=0)
 (hy:0 < ys.length→∃ ad:Addr,A=some ad∧∀ i b,ys[i]?=some b→W.cell? (ad.add i)=some (.string b)) (hn:xs.length+ys.length≤1000000000000)
 (h:∀ v' w',OwnT B w' v' (xs++ys)→Below B w0 w'→(∀ k,k < W.heap.size→some k≠v.ownBlock→w'.heap[k]?=W.heap[k]?)→K (a.put o.dst v') w'):if Region.wanted o (yielded ops a.tmps)=true then Oper.wp Tryz.prog o a W K Q else E:=by
 rw[if_pos (by simp[Region.wanted,hgd])];subst hm
 obtain⟨i0,hi,hz0,hz1,hz2⟩:=info_parts pM
 have hown':W.ownsRow B 9 1 v xs.length (cS xs):=hown;have hsW:B≤W.heap.size:=Nat.le_trans hB hW.size;cases A with
 | none =>
   have h0:ys=[]:=by
    cases ys with
    | nil=>rfl
    | cons y t=>obtain⟨_,e,_⟩:=hy (by simp);cases e
   subst h0;rw[hz rfl] at hx;have hx2:a.eval x=.slice none 0 0:=hx;have hrun:=run_append_owned_none (P:=Tryz.prog) (w:=W) B 26 o.type 9 i0 1 Tryz.underlying26 hi v xs.length (cS xs) hown';unfold Oper.wp
   simp[execOp,ho,resolve,invoke,builtin,hs,hx2,hrun,Result.andThen]
   exact h v W (by rw[List.append_nil];exact hown) hW (fun _ _ _=>rfl)
 | some ad =>
   refine wp_append_own _ s x 26 ho B 9 i0 _ 1 16 Tryz.underlying26 hi hz0 hz1 hz2 rfl (by decide) v xs.length (cS xs) hs hown' ad ys.length c (cS ys) hx (by rw[nK,Nat.mul_one]) ?_ ?_ ?_ (by omega) hsW ?_
   · intro j u hj
     unfold cS at hj;rw[List.getElem?_map] at hj
     obtain⟨b,hb,rfl⟩:=Option.map_eq_some_iff.1 hj
     have hlt:0 < ys.length:=by have:=(List.getElem?_eq_some_iff.1 hb).1;omega
     obtain⟨ad2,e,hc⟩:=hy hlt
     obtain rfl:=Option.some.inj e;exact hc j b hb
   · intro u hu
     unfold cS at hu
     obtain⟨b,_,rfl⟩:=List.mem_map.1 hu
     rfl
   · unfold maxLen;omega
   · intro v' w' h1 hg _
     refine h v' w' ?_ (hW.grown hg hsW (fun j hj=>(World.ownsRow.lt hown' j hj).1)) (fun k hk hne=>hg.block k hk hne);unfold OwnT;rw[nw,List.length_append];exact h1
theorem pX:∀ {l:List (List UInt8)} {x:List UInt8} {k:Nat},(∀ i y,i < k→l[i]?=some y→Jd.ltL y x=true)→(∀ y,l[k]?=some y→Jd.ltL y x=false)→k≤l.length→iE x l=if l[k]?=some x then l else l.take k++x::l.drop k
 | [],x,k,_,_,hk=>by
   obtain rfl:k=0:=by simpa using hk
   rfl
 | y::t,x,0,_,h2,_=>by
   have h3:Jd.ltL y x=false:=h2 y rfl;rw[iE,if_neg (by rw[h3];decide)]
   by_cases e:y=x
   · rw[if_pos e,if_pos (by rw[e];rfl)]
   · rw[if_neg e,if_neg (show ¬ (y::t)[0]?=some x from fun h=>e (Option.some.inj h))]
     rfl
 | y::t,x,k+1,h1,h2,hk=>by
   have h3:Jd.ltL y x=true:=h1 0 y (Nat.succ_pos _) rfl;rw[iE,if_pos h3,pX (l:=t) (x:=x) (k:=k) (fun i z hi hz=>h1 (i+1) z (by omega) hz) (fun z hz=>h2 z hz) (by simpa using hk)]
   by_cases e:t[k]?=some x
   · rw[if_pos e,if_pos (show (y::t)[k+1]?=some x from e)]
   · rw[if_neg e,if_neg (show ¬ (y::t)[k+1]?=some x from e)]
     rfl
theorem k6 {l:List (List UInt8)} {k:Nat} {x:List UInt8} (h:l[k]?=some x):ag (l.take (k+1))=if x=[] then ag (l.take k) else iE x (ag (l.take k)):=by
 unfold ag;rw[List.take_add_one,h,List.foldl_append];rfl
theorem aB {B:Nat} {w w':World} (h:Below B w w') (n:Nat):Below B w (w'.drewN n):=⟨h.os,h.tape,h.output,h.size,h.block⟩
theorem fO {B:Nat} {w:World} {v:Value} {x:List ByteArray} (h:OwnT B w v x) (n:Nat):OwnT B (w.drewN n) v x:=h
theorem aL {w:World} {H:Nat} {X:ByteArray} (h:Bk w H 9 #[.string X]):∀ i b,[X][i]?=some b→w.cell? ((⟨H,0,none⟩:Addr).add i)=some (.string b):=fun i b hb=>by
 match i,hb with
 | 0,hb =>
   obtain rfl:=Option.some.inj hb;rw[aJ,Nat.zero_add];exact h.cell 0
 | i+1,hb=>simp at hb
theorem tg {out:List (List UInt8)} {x:List UInt8} (h:∀ i y,i < out.length→out[i]?=some y→Jd.ltL y x=true):iE x out=out++[x] :=
 nf fun y hy=>by
  obtain⟨i,hi,rfl⟩:=List.getElem_of_mem hy
  exact h i _ hi (List.getElem?_eq_getElem hi)
theorem st {out:List (List UInt8)} {x y:List UInt8} {j:Nat} (h:∀ i y,i < j→out[i]?=some y→Jd.ltL y x=true) (hy:out[j]?=some y) (hn:Jd.ltL y x=false):iE x out=if y=x then out else out.take j++([x]++out.drop j):=by
 have hj:=(List.getElem?_eq_some_iff.1 hy).1;rw[pX h (fun z hz=>by rw[hy] at hz;obtain rfl:=Option.some.inj hz;exact hn) (by omega),hy]
 by_cases e:y=x
 · rw[if_pos e,if_pos (by rw[e])]
 · rw[if_neg e,if_neg (fun e2=>e (Option.some.inj e2))]
   rfl
theorem gx {l:List (List UInt8)} {i:Nat} {y:List UInt8} (h:l[i]?=some y):(ac l)[i]?=some (aa y):=by unfold ac;rw[List.getElem?_map,h];rfl
theorem cO {l:List (List UInt8)} {i:Nat} {b:ByteArray} (h:(ac l)[i]?=some b):∃ y,l[i]?=some y∧b=aa y:=by
 unfold ac at h;rw[List.getElem?_map] at h
 obtain⟨y,hy,e⟩:=Option.map_eq_some_iff.1 h
 exact⟨y,hy,e.symm⟩
set_option linter.unusedSimpArgs false in
set_option maxHeartbeats 8000000 in
set_option maxRecDepth 100000 in
theorem mI (v:Value) (l:List (List UInt8)) (w:World) (hR:ReadT w.heap.size w v (ac l)) (hl:l.length≤1000000) :
 Calls Tryz.prog 156 #[v] w fun e w'=>(∃ u,e=.returned u∧OwnT w.heap.size w' u (ac (ag l)))∧Below w.heap.size w w':=by
 obtain⟨A,cap,rfl,hc⟩:=hR
 have hsl:(ac l).length=l.length:=by unfold ac;rw[List.length_map]
 rw[hsl] at hc ⊢
 obtain⟨n,hn⟩:∃ n,l.length=n:=⟨_,rfl⟩
 have HN:=Lib.hid hn;rw[hn] at hc hl ⊢;have HC:=Lib.hid hc
 obtain⟨D,hD⟩:∃ D,w.heap.size=D:=⟨_,rfl⟩
 rw[hD] at HC ⊢;have HDD:=Lib.hid hD;have HO0:Hid (OwnT D w (.slice none 0 0) (ac (ag (l.take 0)))):=OwnT.nil _ _;have HB0:Hid (Below D w w):=Below.refl _ _;clear hc hn hsl hD;go_enter Tryz.func156,Tryz.ntmps156
 go_wp2_with fail
 go_loopw [3,4] (fun ov iv wr=>∃ (k:Nat) (ox:Value),ov=ox∧iv=.int .i64 k∧k≤n∧Hid (OwnT D wr ox (ac (ag (l.take k))))∧Hid (Below D w wr)) (fun _ iv _=>n - (intOf iv).toNat)
 case atStart=>exact⟨0,_,rfl,rfl,Nat.zero_le _,HO0,HB0⟩
 case round =>
  obtain⟨k,ox,hox,rfl,hk,HO,BW⟩:=hrel
  have hox2:=hox.symm;subst hox2;clear hox
  by_cases hlt:k < n
  · obtain⟨ad,rfl,hlb,hcell⟩:=HC.out (by omega)
    obtain⟨x,hx⟩:∃ x,l[k]?=some x:=⟨_,List.getElem?_eq_getElem (by rw[HN.out];exact hlt)⟩
    have c00:=hcell k (aa x) (gx hx);have HC0:Hid (∀ W,Below D w W→W.cell? (ad.add k)=some (.string (aa x))):=fun W h=>by
     rw[h.cell (p:=ad.add k) (by rw[au];exact hlb)];exact c00
    have htk:=k6 hx;have e0:=vW (l:=x);have hlX:(aa x).toList=x:=ByteArray.toList_mk x
    obtain⟨OL,hOL⟩:∃ OL,ag (l.take k)=OL:=⟨_,rfl⟩
    have hml:OL.length≤k:=by
     rw[← hOL];exact Nat.le_trans (nF _) (by rw[List.length_take];omega)
    rw[hOL] at htk HO
    obtain⟨X,hX⟩:∃ X,aa x=X:=⟨_,rfl⟩
    rw[hX] at HC0 e0 hlX;have HX:=Lib.hid hX
    obtain⟨m,hm⟩:∃ m,OL.length=m:=⟨_,rfl⟩
    have HM:=Lib.hid hm;rw[hm] at hml;have HTK:=Lib.hid htk;have HLX:=Lib.hid hlX
    obtain⟨OA,ocap,hov⟩:=HO.out.slice
    have hsm:(ac OL).length=m:=by unfold ac;rw[List.length_map];exact hm
    rw[hsm] at hov;subst hov;have HRO:Hid (∀ W,Below wr.heap.size wr W→(OA=none∧ocap=0∧m=0)∨∃ g:Nat,OA=some ⟨g,0,none⟩∧m≤ocap∧∀ i y,OL[i]?=some y→W.cell? ⟨g,i,none⟩=some (.string (aa y))):=fun W h=>by
     have h2:wr.ownsRow D 9 1 (.slice OA m ocap) (ac OL).length (cS (ac OL)):=HO.out;rcases h2.2 with ⟨e,e0⟩ | ⟨g,cap2,cur,e,hg,hh,h3,_⟩
     · injection e with e1 e2 e3
       exact .inl ⟨e1,e3,by omega⟩
     · injection e with e1 e2 e3
       subst e1 e3;refine .inr ⟨g,rfl,by rw[← hsm];exact h3,fun i y hy=>?_⟩;have h4:=h2.cells (g:=g) rfl i _ (jr (gx hy));rw[aJ,Nat.zero_add] at h4
       exact(h.cell (p:=⟨g,i,none⟩) (lt_of_block hh)).trans h4
    have HDW:Hid (D≤wr.heap.size):=by have:=BW.out.size;have:=HDD.out;unfold Hid;omega
    have HA0:Hid (∀ i y,i < 0→OL[i]?=some y→Jd.ltL y x=true):=fun i y h=>absurd h (Nat.not_lt_zero _)
    have HBB0:Hid (Below wr.heap.size wr wr):=Below.refl _ _
    obtain⟨w0,rfl⟩:∃ w0,w0=wr:=⟨_,rfl⟩
    clear hcell hx hlb c00 htk hOL hX hm hsm hlX
    go_wp2_with fail
    go_loopw [5] (fun jv wr=>∃ (j:Nat),jv=.int .i64 j∧j≤m∧Hid (∀ i y,i < j→OL[i]?=some y→Jd.ltL y x=true)∧Hid (Below w0.heap.size w0 wr)) (fun jv _=>m - (intOf jv).toNat)
    case atStart=>exact⟨0,rfl,Nat.zero_le _,HA0,HBB0⟩
    case round =>
     obtain⟨j,rfl,hj,HLT,BJ⟩:=hrel
     have FJ:Hid (Below D w wr):=BW.out.trans (BJ.out.mono HDW.out);have cx:=HC0.out wr FJ.out
     by_cases hjm:j < m
     · obtain⟨g,hg,hcap,hoc⟩:=(HRO.out wr BJ.out).resolve_left (fun h=>by omega)
       subst hg
       obtain⟨y,hy⟩:∃ y,OL[j]?=some y:=⟨_,List.getElem?_eq_getElem (by rw[HM.out];exact hjm)⟩
       have cy:=hoc j y hy;have hlY:(aa y).toList=y:=ByteArray.toList_mk y;have hle:Op.bytesLess (aa y).toList X.toList=Jd.ltL y x:=by rw[hlY,HLX.out];unfold Jd.ltL;rfl
       have heqb:((aa y).toList==X.toList)=decide (y=x):=by
        rw[hlY,HLX.out]
        by_cases h:y=x<;>simp[h]
       have heqp:((aa y).toList=X.toList)↔y=x:=by rw[hlY,HLX.out]
       obtain⟨Y,hY⟩:∃ Y,aa y=Y:=⟨_,rfl⟩
       rw[hY] at cy hle heqb heqp;have cy2:wr.cell? ((⟨g,0,none⟩:Addr).add j)=some (.string Y):=by rw[aJ,Nat.zero_add];exact cy
       have HY:=Lib.hid hy;have hjd:decide (j < m)=true:=decide_eq_true hjm
       obtain⟨d,hd⟩:∃ d,Jd.ltL y x=d:=⟨_,rfl⟩
       rw[hd] at hle;have HDL:=Lib.hid hd;have HOC:=Lib.hid hoc;have HHE:=Lib.hid heqb;have HHP:=Lib.hid heqp;clear hoc hy hlY hY hd heqb heqp;cases d with
       | true =>
         have HL2:Hid (∀ i y,i < j+1→OL[i]?=some y→Jd.ltL y x=true):=fun i z hi hz=>by
          rcases Nat.lt_or_ge i j with h | h
          · exact HLT.out i z h hz
          · obtain rfl:i=j:=by omega
            rw[HY.out] at hz;obtain rfl:=Option.some.inj hz;exact HDL.out
         go_wp2_with fail
         go_big_quiet (fail)
         go_wp2_with fail
         go_roundw
         case rel=>exact⟨j+1,by go_num,by omega,HL2,aB BJ.out _⟩
         case measure=>simp[intOf];omega
       | false =>
         have hmid:=st (x:=x) HLT.out HY.out HDL.out
         by_cases hx0:x=[]
         · have hnx:Hid (ag (l.take (k+1))=OL):=by unfold Hid;rw[HTK.out,if_pos hx0]
           have OX:Hid (OwnT D wr (.slice (some ⟨g,0,none⟩) m ocap) (ac (ag (l.take (k+1))))):=by unfold Hid;rw[hnx.out];exact HO.out.below BJ.out
           rw[decide_eq_true hx0] at e0;clear hmid hx0
           go_wp2_with fail
           go_big_quiet (fail)
           rename_i nq
           have cx2:=HC0.out (wr.drewN nq) (aB FJ.out nq)
           go_wp2_with fail
           go_big_quiet (fail)
           go_wp2_with fail
           go_roundw
           case rel=>exact⟨k+1,_,rfl,by go_num,by omega,fO OX.out _,aB FJ.out _⟩
           case measure=>simp[intOf];omega
         · rw[decide_eq_false hx0] at e0
           by_cases hyx:y=x
           · have hnx:Hid (ag (l.take (k+1))=OL):=by unfold Hid;rw[HTK.out,if_neg hx0,hmid,if_pos hyx]
             have OX:Hid (OwnT D wr (.slice (some ⟨g,0,none⟩) m ocap) (ac (ag (l.take (k+1))))):=by unfold Hid;rw[hnx.out];exact HO.out.below BJ.out
             have heqb2:(Y.toList==X.toList)=true:=by rw[HHE.out];exact decide_eq_true hyx
             clear hmid hx0 hyx
             go_wp2_with fail
             go_big_quiet (fail)
             rename_i nq
             have cx2:=HC0.out (wr.drewN nq) (aB FJ.out nq);have cy3:(wr.drewN nq).cell? ((⟨g,0,none⟩:Addr).add j)=some (.string Y):=cy2;clear hle
             go_wp2_with fail
             go_big_quiet (fail)
             go_wp2_with fail
             go_roundw
             case rel=>exact⟨k+1,_,rfl,by go_num,by omega,fO OX.out _,aB FJ.out _⟩
             case measure=>simp[intOf];omega
           · have hnx:Hid (ag (l.take (k+1))=OL.take j++([x]++OL.drop j)):=by unfold Hid;rw[HTK.out,if_neg hx0,hmid,if_neg hyx]
             have heqb2:(Y.toList==X.toList)=false:=by rw[HHE.out];exact decide_eq_false hyx
             clear hmid hx0 hyx
             go_wp2_with fail
             go_big_quiet (fail)
             rename_i nq
             have cx2:=HC0.out (wr.drewN nq) (aB FJ.out nq);have cy3:(wr.drewN nq).cell? ⟨g,j,none⟩=some (.string Y):=cy;have BZ1:Hid (Below w0.heap.size w0 (wr.drewN nq)):=aB BJ.out _
             obtain⟨wz1,hz1⟩:∃ z,wr.drewN nq=z:=⟨_,rfl⟩
             rw[hz1] at cx2 cy3 BZ1 ⊢;clear hle hz1 cx cy cy2
             go_wp2_with fail
             go_big_quiet (fail)
             generalize hwz:wz1.drewN _=wz;have BZ:Hid (Below w0.heap.size w0 wz):=by rw[← hwz];exact aB BZ1.out _
             have hjo:j≤ocap:=by omega
             have hne:¬ ocap=j:=by omega
             have hjm3:j≤m:=by omega
             clear hwz cx2 cy3 heqb2 BZ1;have HOCZ:Hid (∀ W,Below wz.heap.size wz W→∀ i y,OL[i]?=some y→W.cell? ⟨g,i,none⟩=some (.string (aa y))):=fun W h i y9 hy9=>by
              rcases HRO.out W (BZ.out.trans (h.mono BZ.out.size)) with ⟨e,_⟩ | ⟨g2,e,_,hoc2⟩
              · cases e
              · obtain rfl:g=g2:=by injection e with e1;injection e1
                exact hoc2 i y9 hy9
             have HLJ:Hid ((ac (OL.take j)).length=j):=by unfold Hid ac;rw[List.length_map,List.length_take,HM.out];omega
             have HLD:Hid ((ac (OL.drop j)).length=m - j):=by unfold Hid ac;rw[List.length_map,List.length_drop,HM.out]
             have HS1:Hid (∀ W,Below wz.heap.size wz W→∀ i b,(ac (OL.take j))[i]?=some b→W.cell? ((⟨g,0,none⟩:Addr).add i)=some (.string b)):=fun W h i b hb=>by
              obtain⟨y9,hy9,rfl⟩:=cO hb
              rw[aJ];exact HOCZ.out W h _ y9 (by rw[Nat.zero_add];rw[List.getElem?_take] at hy9;split at hy9;exact hy9;cases hy9)
             have HS2:Hid (∀ W,Below wz.heap.size wz W→∀ i b,(ac (OL.drop j))[i]?=some b→W.cell? ((⟨g,j,none⟩:Addr).add i)=some (.string b)):=fun W h i b hb=>by
              obtain⟨y9,hy9,rfl⟩:=cO hb
              rw[aJ];exact HOCZ.out W h _ y9 (by rw[List.getElem?_drop] at hy9;exact hy9)
             have HCZ:Hid (∀ W,Below wz.heap.size wz W→W.cell? (ad.add k)=some (.string X)):=fun W h=>HC0.out W (BW.out.trans ((BZ.out.trans (h.mono BZ.out.size)).mono HDW.out))
             have czz:=HCZ.out wz.drew (Below.refl _ _).drew;have HBX:Hid (∀ w',(∀ k,k < (wz.drew.alloc (.cells #[.string X] 9)).heap.size→some k≠(Value.slice none 0 0).ownBlock→w'.heap[k]?=(wz.drew.alloc (.cells #[.string X] 9)).heap[k]?)→Bk w' wz.heap.size 9 #[.string X]):=fun w' h=>(h wz.heap.size (by simp) (by intro e;cases e)).trans (Bk.new wz.drew 9 #[.string X])
             have HL1:Hid (([]:List ByteArray).length+((ac (OL.take j))).length≤1000000000000):=by unfold Hid;rw[HLJ.out];simp;omega
             have HL2:Hid (([]++(ac (OL.take j))).length+[X].length≤1000000000000):=by unfold Hid;rw[List.nil_append,HLJ.out];simp;omega
             have HL3:Hid (([]++(ac (OL.take j))++[X]).length+((ac (OL.drop j))).length≤1000000000000):=by unfold Hid;rw[HLD.out,List.nil_append,List.length_append,HLJ.out];simp;omega
             have HEQ:Hid ([]++(ac (OL.take j))++[X]++(ac (OL.drop j))=ac (ag (l.take (k+1)))):=by
              unfold Hid;rw[hnx.out,ar,ar,← HX.out]
              simp[ac]
             have HDZ:Hid (D≤wz.heap.size):=Nat.le_trans HDW.out BZ.out.size
             go_upto_region 9 with fail
             go_region_law (first | (refine ae rfl (.const (.slice none 0 0)) (.tmp 53) rfl wz.heap.size (.slice none 0 0) (some ⟨g,0,none⟩) j ocap [] (ac (OL.take j)) HLJ.out wz _ (by first | exact(Below.refl _ _).drew | exact((Below.refl _ _).drew.alloc (Nat.le_refl _) _)) (Nat.le_refl _) rfl (OwnT.nil _ _) (by simp[Act.eval,Act.put]) (fun e=>by cases e) (fun _=>⟨_,rfl,HS1.out _ (by first | exact(Below.refl _ _).drew | exact((Below.refl _ _).drew.alloc (Nat.le_refl _) _))⟩) HL1.out ?_;intro v1 w1 o1 b1 k1;have cx1:=HCZ.out w1 b1;first | have xb:=HBX.out _ k1 | skip) | (refine ae rfl (.tmp 54) (.tmp 59) rfl wz.heap.size v1 (some ⟨w1.heap.size,0,none⟩) 1 1 _ [X] rfl wz _ (b1.alloc b1.size _) (Nat.le_refl _) (by simp[Act.eval,Act.put]) (o1.below ((Below.refl _ _).alloc (Nat.le_refl _) _)) (by simp[Act.eval,Act.put]) (fun e=>by cases e) (fun _=>⟨_,rfl,aL (Bk.new _ _ _)⟩) HL2.out ?_;intro v2 w2 o2 b2 k2) | (refine ae rfl (.tmp 54) (.tmp 59) rfl wz.heap.size v1 (some ⟨wz.heap.size,0,none⟩) 1 1 _ [X] rfl wz _ b1 (Nat.le_refl _) (by simp[Act.eval,Act.put]) o1 (by simp[Act.eval,Act.put]) (fun e=>by cases e) (fun _=>⟨_,rfl,aL xb⟩) HL2.out ?_;intro v2 w2 o2 b2 k2) | (refine ae rfl (.tmp 60) (.tmp 63) rfl wz.heap.size v2 (some ⟨g,j,none⟩) (m - j) (ocap - j) _ (ac (OL.drop j)) HLD.out wz _ b2 (Nat.le_refl _) (by simp[Act.eval,Act.put]) o2 (by simp[Act.eval,Act.put]) (fun e=>by cases e) (fun _=>⟨_,rfl,HS2.out _ b2⟩) HL3.out ?_;intro v3 w3 o3 b3 k3))
             all_goals
              rw[HEQ.out] at o3;have O3:Hid (OwnT D w3 v3 (ac (ag (l.take (k+1))))):=o3.weakT HDZ.out;have B3:Hid (Below D w w3):=BW.out.trans ((BZ.out.mono HDW.out).trans (b3.mono HDZ.out));clear o1 o2 o3 b1 b2 b3 k1 k2 k3 cx1
              go_wp2_with fail
              go_roundw
              case rel=>exact⟨k+1,_,rfl,by go_num,by omega,O3,B3⟩
              case measure=>simp[intOf];omega
     · have hje:j=m:=by omega
       have hend:=tg (out:=OL) (x:=x) (fun i y hi hy=>HLT.out i y (by have:=HM.out;omega) hy);have hjd:decide (j < m)=false:=decide_eq_false hjm
       by_cases hx0:x=[]
       · have hnx:Hid (ag (l.take (k+1))=OL):=by unfold Hid;rw[HTK.out,if_pos hx0]
         have OX:Hid (OwnT D wr (.slice OA m ocap) (ac (ag (l.take (k+1))))):=by unfold Hid;rw[hnx.out];exact HO.out.below BJ.out
         rw[decide_eq_true hx0] at e0;clear hend hx0 hje
         go_wp2_with fail
         go_big_quiet (fail)
         rename_i nq
         have cx2:=HC0.out (wr.drewN nq) (aB FJ.out nq)
         go_wp2_with fail
         go_big_quiet (fail)
         go_wp2_with fail
         go_roundw
         case rel=>exact⟨k+1,_,rfl,by go_num,by omega,fO OX.out _,aB FJ.out _⟩
         case measure=>simp[intOf];omega
       · have hnx:Hid (ag (l.take (k+1))=OL.take m++([x]++OL.drop m)):=by
          unfold Hid;rw[HTK.out,if_neg hx0,hend,← HM.out,List.take_length,List.drop_length];rfl
         rw[decide_eq_false hx0] at e0;obtain rfl:m=j:=hje.symm;clear hend hx0
         go_wp2_with fail
         go_big_quiet (fail)
         rename_i nq
         have cx2:=HC0.out (wr.drewN nq) (aB FJ.out nq);have BZ1:Hid (Below w0.heap.size w0 (wr.drewN nq)):=aB BJ.out _
         obtain⟨wz1,hz1⟩:∃ z,wr.drewN nq=z:=⟨_,rfl⟩
         rw[hz1] at cx2 BZ1 ⊢;clear hz1 cx
         go_wp2_with fail
         go_big_quiet (fail)
         generalize hwz:wz1.drewN _=wz;have BZ:Hid (Below w0.heap.size w0 wz):=by rw[← hwz];exact aB BZ1.out _
         clear hwz cx2 BZ1;rcases HRO.out w0 HBB0.out with hnil | ⟨g,hg,hcap,-⟩
         · obtain⟨rfl,rfl,rfl⟩:=hnil
           have hnx:Hid (ag (l.take (k+1))=([]:List (List UInt8))++([x]++[])):=by unfold Hid;rw[hnx.out,List.eq_nil_of_length_eq_zero HM.out];rfl
           have HCZ:Hid (∀ W,Below wz.heap.size wz W→W.cell? (ad.add k)=some (.string X)):=fun W h=>HC0.out W (BW.out.trans ((BZ.out.trans (h.mono BZ.out.size)).mono HDW.out))
           have czz:=HCZ.out wz.drew (Below.refl _ _).drew;have HBX:Hid (∀ w',(∀ k,k < (wz.drew.alloc (.cells #[.string X] 9)).heap.size→some k≠(Value.slice none 0 0).ownBlock→w'.heap[k]?=(wz.drew.alloc (.cells #[.string X] 9)).heap[k]?)→Bk w' wz.heap.size 9 #[.string X]):=fun w' h=>(h wz.heap.size (by simp) (by intro e;cases e)).trans (Bk.new wz.drew 9 #[.string X])
           have HL1:Hid (([]:List ByteArray).length+(([]:List ByteArray)).length≤1000000000000):=by unfold Hid;simp;try omega
           have HL2:Hid (([]++([]:List ByteArray)).length+[X].length≤1000000000000):=by unfold Hid;simp
           have HL3:Hid (([]++([]:List ByteArray)++[X]).length+(([]:List ByteArray)).length≤1000000000000):=by unfold Hid;simp
           have HEQ:Hid ([]++([]:List ByteArray)++[X]++([]:List ByteArray)=ac (ag (l.take (k+1)))):=by
            unfold Hid;rw[hnx.out,ar,ar,← HX.out]
            simp[ac]
           have HDZ:Hid (D≤wz.heap.size):=Nat.le_trans HDW.out BZ.out.size
           go_upto_region 9 with fail
           go_region_law (first | (refine ae rfl (.const (.slice none 0 0)) (.tmp 53) rfl wz.heap.size (.slice none 0 0) none 0 0 [] ([]:List ByteArray) rfl wz _ (by first | exact(Below.refl _ _).drew | exact((Below.refl _ _).drew.alloc (Nat.le_refl _) _)) (Nat.le_refl _) rfl (OwnT.nil _ _) (by simp[Act.eval,Act.put]) (fun _=>rfl) (fun h=>absurd h (Nat.lt_irrefl _)) HL1.out ?_;intro v1 w1 o1 b1 k1;have cx1:=HCZ.out w1 b1;first | have xb:=HBX.out _ k1 | skip) | (refine ae rfl (.tmp 54) (.tmp 59) rfl wz.heap.size v1 (some ⟨w1.heap.size,0,none⟩) 1 1 _ [X] rfl wz _ (b1.alloc b1.size _) (Nat.le_refl _) (by simp[Act.eval,Act.put]) (o1.below ((Below.refl _ _).alloc (Nat.le_refl _) _)) (by simp[Act.eval,Act.put]) (fun e=>by cases e) (fun _=>⟨_,rfl,aL (Bk.new _ _ _)⟩) HL2.out ?_;intro v2 w2 o2 b2 k2) | (refine ae rfl (.tmp 54) (.tmp 59) rfl wz.heap.size v1 (some ⟨wz.heap.size,0,none⟩) 1 1 _ [X] rfl wz _ b1 (Nat.le_refl _) (by simp[Act.eval,Act.put]) o1 (by simp[Act.eval,Act.put]) (fun e=>by cases e) (fun _=>⟨_,rfl,aL xb⟩) HL2.out ?_;intro v2 w2 o2 b2 k2) | (refine ae rfl (.tmp 60) (.tmp 63) rfl wz.heap.size v2 none 0 0 _ ([]:List ByteArray) rfl wz _ b2 (Nat.le_refl _) (by simp[Act.eval,Act.put]) o2 (by simp[Act.eval,Act.put]) (fun _=>rfl) (fun h=>absurd h (Nat.lt_irrefl _)) HL3.out ?_;intro v3 w3 o3 b3 k3))
           all_goals
            rw[HEQ.out] at o3;have O3:Hid (OwnT D w3 v3 (ac (ag (l.take (k+1))))):=o3.weakT HDZ.out;have B3:Hid (Below D w w3):=BW.out.trans ((BZ.out.mono HDW.out).trans (b3.mono HDZ.out));clear o1 o2 o3 b1 b2 b3 k1 k2 k3 cx1
            go_wp2_with fail
            go_roundw
            case rel=>exact⟨k+1,_,rfl,by go_num,by omega,O3,B3⟩
            case measure=>simp[intOf];omega
         · subst hg
           have hmm:m≤m:=Nat.le_refl m
           by_cases hcm:ocap=m
           · obtain rfl:m=ocap:=hcm.symm
             have HOCZ:Hid (∀ W,Below wz.heap.size wz W→∀ i y,OL[i]?=some y→W.cell? ⟨g,i,none⟩=some (.string (aa y))):=fun W h i y9 hy9=>by
              rcases HRO.out W (BZ.out.trans (h.mono BZ.out.size)) with ⟨e,_⟩ | ⟨g2,e,_,hoc2⟩
              · cases e
              · obtain rfl:g=g2:=by injection e with e1;injection e1
                exact hoc2 i y9 hy9
             have HLJ:Hid ((ac (OL.take m)).length=m):=by unfold Hid ac;rw[List.length_map,List.length_take,HM.out];omega
             have hnx:Hid (ag (l.take (k+1))=OL.take m++([x]++[])):=by unfold Hid;rw[hnx.out,← HM.out,List.drop_length]
             have HS1:Hid (∀ W,Below wz.heap.size wz W→∀ i b,(ac (OL.take m))[i]?=some b→W.cell? ((⟨g,0,none⟩:Addr).add i)=some (.string b)):=fun W h i b hb=>by
              obtain⟨y9,hy9,rfl⟩:=cO hb
              rw[aJ];exact HOCZ.out W h _ y9 (by rw[Nat.zero_add];rw[List.getElem?_take] at hy9;split at hy9;exact hy9;cases hy9)
             have HCZ:Hid (∀ W,Below wz.heap.size wz W→W.cell? (ad.add k)=some (.string X)):=fun W h=>HC0.out W (BW.out.trans ((BZ.out.trans (h.mono BZ.out.size)).mono HDW.out))
             have czz:=HCZ.out wz.drew (Below.refl _ _).drew;have HBX:Hid (∀ w',(∀ k,k < (wz.drew.alloc (.cells #[.string X] 9)).heap.size→some k≠(Value.slice none 0 0).ownBlock→w'.heap[k]?=(wz.drew.alloc (.cells #[.string X] 9)).heap[k]?)→Bk w' wz.heap.size 9 #[.string X]):=fun w' h=>(h wz.heap.size (by simp) (by intro e;cases e)).trans (Bk.new wz.drew 9 #[.string X])
             have HL1:Hid (([]:List ByteArray).length+((ac (OL.take m))).length≤1000000000000):=by unfold Hid;rw[HLJ.out];simp;omega
             have HL2:Hid (([]++(ac (OL.take m))).length+[X].length≤1000000000000):=by unfold Hid;rw[List.nil_append,HLJ.out];simp;omega
             have HL3:Hid (([]++(ac (OL.take m))++[X]).length+(([]:List ByteArray)).length≤1000000000000):=by unfold Hid;rw[List.nil_append,List.length_append,HLJ.out];simp;omega
             have HEQ:Hid ([]++(ac (OL.take m))++[X]++([]:List ByteArray)=ac (ag (l.take (k+1)))):=by
              unfold Hid;rw[hnx.out,ar,ar,← HX.out]
              simp[ac]
             have HDZ:Hid (D≤wz.heap.size):=Nat.le_trans HDW.out BZ.out.size
             go_upto_region 9 with fail
             go_region_law (first | (refine ae rfl (.const (.slice none 0 0)) (.tmp 53) rfl wz.heap.size (.slice none 0 0) (some ⟨g,0,none⟩) m m [] (ac (OL.take m)) HLJ.out wz _ (by first | exact(Below.refl _ _).drew | exact((Below.refl _ _).drew.alloc (Nat.le_refl _) _)) (Nat.le_refl _) rfl (OwnT.nil _ _) (by simp[Act.eval,Act.put]) (fun e=>by cases e) (fun _=>⟨_,rfl,HS1.out _ (by first | exact(Below.refl _ _).drew | exact((Below.refl _ _).drew.alloc (Nat.le_refl _) _))⟩) HL1.out ?_;intro v1 w1 o1 b1 k1;have cx1:=HCZ.out w1 b1;first | have xb:=HBX.out _ k1 | skip) | (refine ae rfl (.tmp 54) (.tmp 59) rfl wz.heap.size v1 (some ⟨w1.heap.size,0,none⟩) 1 1 _ [X] rfl wz _ (b1.alloc b1.size _) (Nat.le_refl _) (by simp[Act.eval,Act.put]) (o1.below ((Below.refl _ _).alloc (Nat.le_refl _) _)) (by simp[Act.eval,Act.put]) (fun e=>by cases e) (fun _=>⟨_,rfl,aL (Bk.new _ _ _)⟩) HL2.out ?_;intro v2 w2 o2 b2 k2) | (refine ae rfl (.tmp 54) (.tmp 59) rfl wz.heap.size v1 (some ⟨wz.heap.size,0,none⟩) 1 1 _ [X] rfl wz _ b1 (Nat.le_refl _) (by simp[Act.eval,Act.put]) o1 (by simp[Act.eval,Act.put]) (fun e=>by cases e) (fun _=>⟨_,rfl,aL xb⟩) HL2.out ?_;intro v2 w2 o2 b2 k2) | (refine ae rfl (.tmp 60) (.tmp 63) rfl wz.heap.size v2 (some ⟨g,0,none⟩) 0 0 _ ([]:List ByteArray) rfl wz _ b2 (Nat.le_refl _) (by simp[Act.eval,Act.put]) o2 (by simp[Act.eval,Act.put]) (fun e=>by cases e) (fun h=>absurd h (Nat.lt_irrefl _)) HL3.out ?_;intro v3 w3 o3 b3 k3))
             all_goals
              rw[HEQ.out] at o3;have O3:Hid (OwnT D w3 v3 (ac (ag (l.take (k+1))))):=o3.weakT HDZ.out;have B3:Hid (Below D w w3):=BW.out.trans ((BZ.out.mono HDW.out).trans (b3.mono HDZ.out));clear o1 o2 o3 b1 b2 b3 k1 k2 k3 cx1
              go_wp2_with fail
              go_roundw
              case rel=>exact⟨k+1,_,rfl,by go_num,by omega,O3,B3⟩
              case measure=>simp[intOf];omega
           · have HOCZ:Hid (∀ W,Below wz.heap.size wz W→∀ i y,OL[i]?=some y→W.cell? ⟨g,i,none⟩=some (.string (aa y))):=fun W h i y9 hy9=>by
              rcases HRO.out W (BZ.out.trans (h.mono BZ.out.size)) with ⟨e,_⟩ | ⟨g2,e,_,hoc2⟩
              · cases e
              · obtain rfl:g=g2:=by injection e with e1;injection e1
                exact hoc2 i y9 hy9
             have HLJ:Hid ((ac (OL.take m)).length=m):=by unfold Hid ac;rw[List.length_map,List.length_take,HM.out];omega
             have hnx:Hid (ag (l.take (k+1))=OL.take m++([x]++[])):=by unfold Hid;rw[hnx.out,← HM.out,List.drop_length]
             have HS1:Hid (∀ W,Below wz.heap.size wz W→∀ i b,(ac (OL.take m))[i]?=some b→W.cell? ((⟨g,0,none⟩:Addr).add i)=some (.string b)):=fun W h i b hb=>by
              obtain⟨y9,hy9,rfl⟩:=cO hb
              rw[aJ];exact HOCZ.out W h _ y9 (by rw[Nat.zero_add];rw[List.getElem?_take] at hy9;split at hy9;exact hy9;cases hy9)
             have HCZ:Hid (∀ W,Below wz.heap.size wz W→W.cell? (ad.add k)=some (.string X)):=fun W h=>HC0.out W (BW.out.trans ((BZ.out.trans (h.mono BZ.out.size)).mono HDW.out))
             have czz:=HCZ.out wz.drew (Below.refl _ _).drew;have HBX:Hid (∀ w',(∀ k,k < (wz.drew.alloc (.cells #[.string X] 9)).heap.size→some k≠(Value.slice none 0 0).ownBlock→w'.heap[k]?=(wz.drew.alloc (.cells #[.string X] 9)).heap[k]?)→Bk w' wz.heap.size 9 #[.string X]):=fun w' h=>(h wz.heap.size (by simp) (by intro e;cases e)).trans (Bk.new wz.drew 9 #[.string X])
             have HL1:Hid (([]:List ByteArray).length+((ac (OL.take m))).length≤1000000000000):=by unfold Hid;rw[HLJ.out];simp;omega
             have HL2:Hid (([]++(ac (OL.take m))).length+[X].length≤1000000000000):=by unfold Hid;rw[List.nil_append,HLJ.out];simp;omega
             have HL3:Hid (([]++(ac (OL.take m))++[X]).length+(([]:List ByteArray)).length≤1000000000000):=by unfold Hid;rw[List.nil_append,List.length_append,HLJ.out];simp;omega
             have HEQ:Hid ([]++(ac (OL.take m))++[X]++([]:List ByteArray)=ac (ag (l.take (k+1)))):=by
              unfold Hid;rw[hnx.out,ar,ar,← HX.out]
              simp[ac]
             have HDZ:Hid (D≤wz.heap.size):=Nat.le_trans HDW.out BZ.out.size
             go_upto_region 9 with fail
             go_region_law (first | (refine ae rfl (.const (.slice none 0 0)) (.tmp 53) rfl wz.heap.size (.slice none 0 0) (some ⟨g,0,none⟩) m ocap [] (ac (OL.take m)) HLJ.out wz _ (by first | exact(Below.refl _ _).drew | exact((Below.refl _ _).drew.alloc (Nat.le_refl _) _)) (Nat.le_refl _) rfl (OwnT.nil _ _) (by simp[Act.eval,Act.put]) (fun e=>by cases e) (fun _=>⟨_,rfl,HS1.out _ (by first | exact(Below.refl _ _).drew | exact((Below.refl _ _).drew.alloc (Nat.le_refl _) _))⟩) HL1.out ?_;intro v1 w1 o1 b1 k1;have cx1:=HCZ.out w1 b1;first | have xb:=HBX.out _ k1 | skip) | (refine ae rfl (.tmp 54) (.tmp 59) rfl wz.heap.size v1 (some ⟨w1.heap.size,0,none⟩) 1 1 _ [X] rfl wz _ (b1.alloc b1.size _) (Nat.le_refl _) (by simp[Act.eval,Act.put]) (o1.below ((Below.refl _ _).alloc (Nat.le_refl _) _)) (by simp[Act.eval,Act.put]) (fun e=>by cases e) (fun _=>⟨_,rfl,aL (Bk.new _ _ _)⟩) HL2.out ?_;intro v2 w2 o2 b2 k2) | (refine ae rfl (.tmp 54) (.tmp 59) rfl wz.heap.size v1 (some ⟨wz.heap.size,0,none⟩) 1 1 _ [X] rfl wz _ b1 (Nat.le_refl _) (by simp[Act.eval,Act.put]) o1 (by simp[Act.eval,Act.put]) (fun e=>by cases e) (fun _=>⟨_,rfl,aL xb⟩) HL2.out ?_;intro v2 w2 o2 b2 k2) | (refine ae rfl (.tmp 60) (.tmp 63) rfl wz.heap.size v2 (some ⟨g,m,none⟩) 0 (ocap - m) _ ([]:List ByteArray) rfl wz _ b2 (Nat.le_refl _) (by simp[Act.eval,Act.put]) o2 (by simp[Act.eval,Act.put]) (fun e=>by cases e) (fun h=>absurd h (Nat.lt_irrefl _)) HL3.out ?_;intro v3 w3 o3 b3 k3))
             all_goals
              rw[HEQ.out] at o3;have O3:Hid (OwnT D w3 v3 (ac (ag (l.take (k+1))))):=o3.weakT HDZ.out;have B3:Hid (Below D w w3):=BW.out.trans ((BZ.out.mono HDW.out).trans (b3.mono HDZ.out));clear o1 o2 o3 b1 b2 b3 k1 k2 k3 cx1
              go_wp2_with fail
              go_roundw
              case rel=>exact⟨k+1,_,rfl,by go_num,by omega,O3,B3⟩
              case measure=>simp[intOf];omega
  · have hoe:=HO.out
    rw[show l.take k=l from List.take_of_length_le (by rw[HN.out];omega)] at hoe;have HOE:=Lib.hid hoe
    obtain⟨OA,on,ocap,rfl⟩:∃ A n cap,ox=.slice A n cap:=by obtain⟨A,cap,e⟩:=HO.out.slice;exact⟨A,_,cap,e⟩
    clear hoe HO
    go_wp2_with fail
    go_ret
    exact⟨⟨_,rfl,HOE.out⟩,BW.out⟩
end Go.Proofs.YtbgaglcgennhiaaGreatDoor
