import Derived.Test.YtbgaglcgennhiaaGreatDoorP30
import Derived.Test.YtbgaglcgennhiaaGreatDoorP25
section
namespace Go.Proofs.YtbgaglcgennhiaaGreatDoor
open Go.RowKit Go.Sort Sy Ct Tx
theorem gR (a b:List bq):bF (a++b)=bF a++bF b:=List.flatMap_append
def OwnIt (B:Nat) (w:World) (v:Value) (x:List bq):Prop:=w.ownsRow B 53 6 v x.length (bF x)
theorem OwnIt.nil (B:Nat) (w:World):OwnIt B w (.slice none 0 0) []:=World.ownsRow_nil _ _ _ _
theorem OwnIt.below {B:Nat} {w w':World} {v:Value} {x:List bq} (h:OwnIt B w v x) (hb:Below w.heap.size w w'):OwnIt B w' v x:=by
 have h':w.ownsRow B 53 6 v x.length (bF x):=h;refine h'.kept (w':=w') (row:=some w.heap.size) ⟨hb.os,hb.tape,hb.output,hb.size,fun i hi _=>hb.block i hi⟩ ?_;cases ho:v.ownBlock with
 | none=>exact .inl rfl
 | some g=>exact .inr (fun e=>by have:=(h'.lt g ho).2;injection e with e;omega)
theorem OwnIt.weak {B B':Nat} {w:World} {v:Value} {x:List bq} (h:OwnIt B w v x) (hB:B'≤B):OwnIt B' w v x:=by
 rcases h.2 with ⟨rfl,h0⟩ | ⟨g,cap,cur,rfl,h1,h2⟩
 · exact⟨h.1,.inl ⟨rfl,h0⟩⟩
 · exact⟨h.1,.inr ⟨g,cap,cur,rfl,Nat.le_trans hB h1,h2⟩⟩
theorem OwnIt.cells {B:Nat} {w:World} {v:Value} {x:List bq} (h:OwnIt B w v x):(v=.slice none 0 0∧x=[])∨∃ g cap,v=.slice (some ⟨g,0,none⟩) x.length cap∧x.length≤cap∧B≤g∧g < w.heap.size∧∀ j u,(bF x)[j]?=some u→w.cell? ⟨g,j,none⟩=some u:=by
 rcases h.2 with ⟨rfl,h0⟩ | ⟨g,cap,cur,rfl,h1,h2,h3,_,_,h4⟩
 · exact .inl ⟨rfl,List.length_eq_zero_iff.1 h0⟩
 · have hK:Bk w g 53 cur:=h2
   refine .inr ⟨g,cap,rfl,h3,h1,hK.lt,fun j u hj=>?_⟩;rw[hK.cell,← Array.getElem?_toList];rw[← h4,List.getElem?_take] at hj
   split at hj
   · exact hj
   · cases hj
theorem aM {ops:Array Oper} {o:Oper} {a:Act} {K:Act→World→Prop} {Q:Exit→Act→World→Prop} {E:Prop} (hgd:o.guard=none) (s x:Operand) (ho:o.op=.call { callee:=.builtin .append,args:=#[s,x],argTypes:=#[25,25] })
 (B:Nat) (v:Value) (A:Option Addr) (m c:Nat) (xs ys:List bq) (hm:ys.length=m) (w0 W:World) (hW:Below B w0 W) (hB:B≤w0.heap.size) (hs:a.eval s=v) (hown:OwnIt B W v xs) (hx:a.eval x=.slice A m c) (hz:A=none→c=0)
 (hy:0 < ys.length→∃ ad:Addr,A=some ad∧∀ j u,(bF ys)[j]?=some u→W.cell? (ad.add j)=some u) (hn:xs.length+ys.length≤1000000000)
 (h:∀ v' w',OwnIt B w' v' (xs++ys)→Below B w0 w'→(∀ k,k < W.heap.size→some k≠v.ownBlock→w'.heap[k]?=W.heap[k]?)→K (a.put o.dst v') w'):if Region.wanted o (yielded ops a.tmps)=true then Oper.wp Tryz.prog o a W K Q else E:=by
 rw[if_pos (by simp[Region.wanted,hgd])];subst hm
 obtain⟨i0,hi,hz0,hz1,hz2⟩:=info_parts vr
 have hown':W.ownsRow B 53 6 v xs.length (bF xs):=hown;have hsW:B≤W.heap.size:=Nat.le_trans hB hW.size;cases A with
 | none =>
   have h0:ys=[]:=by
    cases ys with
    | nil=>rfl
    | cons y t=>obtain⟨_,e,_⟩:=hy (by simp);cases e
   subst h0;rw[hz rfl] at hx;have hx2:a.eval x=.slice none 0 0:=hx;have hrun:=run_append_owned_none (P:=Tryz.prog) (w:=W) B 25 o.type 53 i0 6 Tryz.underlying25 hi v xs.length (bF xs) hown';unfold Oper.wp
   simp[execOp,ho,resolve,invoke,builtin,hs,hx2,hrun,Result.andThen]
   exact h v W (by rw[List.append_nil];exact hown) hW (fun _ _ _=>rfl)
 | some ad =>
   refine wp_append_own _ s x 25 ho B 53 i0 _ 6 72 Tryz.underlying25 hi hz0 hz1 hz2 rfl (by decide) v xs.length (bF xs) hs hown' ad ys.length c (bF ys) hx (fl ys) ?_ (ql ys) ?_ (by omega) hsW ?_
   · intro j u hj
     have hlt:0 < ys.length:=by
      have:=(List.getElem?_eq_some_iff.1 hj).1
      rw[fl] at this;omega
     obtain⟨ad2,e,hc⟩:=hy hlt
     obtain rfl:=Option.some.inj e;exact hc j u hj
   · unfold maxLen;omega
   · intro v' w' h1 hg _
     refine h v' w' ?_ (hW.grown hg hsW (fun j hj=>(World.ownsRow.lt hown' j hj).1)) (fun k hk hne=>hg.block k hk hne);unfold OwnIt;rw[gR,List.length_append];exact h1
theorem dU {α:Type} {lt:α→α→Bool} (x:α):∀ (A B:List α),(∀ a∈A,lt x a=false)→(∀ b∈B,lt x b=true)→aS lt x (A++B)=A++x::B
 | [],[],_,_=>rfl
 | [],b::B,_,hb=>by
   show (if lt x b=true then x::b::B else b::aS lt x B)=_;rw[if_pos (hb b List.mem_cons_self)];rfl
 | a::A,B,ha,hb=>by
   show (if lt x a=true then x::a::(A++B) else a::aS lt x (A++B))=_;rw[if_neg (by rw[ha a List.mem_cons_self];decide),dU x A B (fun y hy=>ha y (List.mem_cons_of_mem _ hy)) hb];rfl
theorem jG {out:List bq} (hu:Up fq out) {x:bq} {k:Nat} (hk:k≤out.length) (hb:∀ j y,k≤j→out[j]?=some y→fq x y=true) (ha:∀ j y,j+1=k→out[j]?=some y→fq x y=false):aS fq x out=out.take k++([x]++out.drop k):=by
 have h:=dU (lt:=fq) x (out.take k) (out.drop k) (fun a hm=>?_) (fun b hm=>?_)
 · rw[List.take_append_drop] at h
   exact h
 · obtain⟨i,hi,rfl⟩:=List.getElem_of_mem hm
   rw[List.length_take] at hi;rw[List.getElem_take];have hk0:k - 1 < out.length:=by omega
   have h1:=ha (k - 1) _ (by omega) (List.getElem?_eq_getElem hk0);cases hx:fq x out[i] with
   | false=>rfl
   | true =>
     by_cases he:i=k - 1
     · subst he;rw[hx] at h1;exact h1
     · have h2:=List.pairwise_iff_getElem.1 hu i (k - 1) (by omega) hk0 (by omega)
       rw[ltI_weak.n1 hx h2] at h1;cases h1
 · obtain⟨i,hi,rfl⟩:=List.getElem_of_mem hm
   rw[List.length_drop] at hi;rw[List.getElem_drop];exact hb (k+i) _ (by omega) (List.getElem?_eq_getElem (by omega))
theorem qJ {L:List bq} {k:Nat} {x:bq} (h:L[k]?=some x):an fq (L.take (k+1))=aS fq x (an fq (L.take k)):=by
 rw[List.take_add_one,h];exact dY _ _
theorem cC {w:World} {H:Nat} {x:bq} (h:Bk w H 53 (dO x).toArray):∀ j u,(bF [x])[j]?=some u→w.cell? ((⟨H,0,none⟩:Addr).add j)=some u:=fun j u hj=>by
 rw[aJ,Nat.zero_add,h.cell,List.getElem?_toArray];have e:bF [x]=dO x:=by unfold bF;simp
 rw[← e];exact hj
set_option linter.unusedSimpArgs false in
set_option maxHeartbeats 16000000 in
set_option maxRecDepth 100000 in
theorem oA (v:Value) (l:List (aZ × bm)) (h:∀ p∈l,p.1.jid.length≤140737488355328) (w:World) (hR:ReadI w.heap.size w v l) (hl:l.length≤1000000) :
 Calls Tryz.prog 55 #[v] w fun e w'=>(∃ u,e=.returned u∧OwnIt w.heap.size w' u (an fq (sB l h)))∧Below w.heap.size w w':=by
 obtain⟨L,hL⟩:∃ L,sB l h=L:=⟨_,rfl⟩
 have hLl:L.length=l.length:=by rw[← hL];exact uP l h
 have hLv:L.map (·.1)=l:=by rw[← hL];exact lE l h
 rw[hL]
 obtain⟨A,cap,rfl,hA,_⟩:=hR
 obtain⟨n,hn⟩:∃ n,l.length=n:=⟨_,rfl⟩
 rw[hn] at hLl hA hl ⊢;have HN:=Lib.hid hLl
 obtain⟨D,hD⟩:∃ D,w.heap.size=D:=⟨_,rfl⟩
 have HA:Hid (0 < n→∃ b off,A=some ⟨b,off,none⟩∧∀ W,Below D w W→∀ i x,L[i]?=some x→∀ c u,(dO x)[c]?=some u→W.cell? ⟨b,off+i*6+c,none⟩=some u):=fun h0=>by
  obtain⟨b,off,ha,hb,hc⟩:=hA h0
  refine⟨b,off,ha,fun W hW i x hx c u hu=>?_⟩
  rw[hW.cell (p:=⟨b,off+i*6+c,none⟩) (by rw[← hD];exact hb)];exact hc i x.1 (by rw[← hLv,List.getElem?_map,hx];rfl) c u hu
 rw[hD];have HDD:=Lib.hid hD;have HO0:Hid (OwnIt D w (.slice none 0 0) (an fq (L.take 0))):=OwnIt.nil _ _;have HB0:Hid (Below D w w):=Below.refl _ _;clear hA hn hL hLl hLv hD;go_enter Tryz.func55,Tryz.ntmps55
 go_wp2_with fail
 go_loopw [3,4,5] (fun ov iv kv wr=>∃ (i:Nat) (ox u5:Value),ov=ox∧iv=.int .i64 i∧kv=u5∧i≤n∧Hid (OwnIt D wr ox (an fq (L.take i)))∧Hid (Below D w wr)) (fun _ iv _ _=>n - (intOf iv).toNat)
 case atStart=>exact⟨0,_,_,rfl,rfl,rfl,Nat.zero_le _,HO0,HB0⟩
 case round =>
  clear HO0 HB0
  obtain⟨i,ox,u5,hox,rfl,hu5,hi,HO,BW⟩:=hrel
  have hox2:=hox.symm;have hu52:=hu5.symm;subst hox2 hu52;clear hox hu5
  by_cases hlt:i < n
  · have hiz:(i:Int) < (n:Int):=by omega
    have hi0:(0:Int)≤(i:Int):=by omega
    obtain⟨b,off,rfl,hcell⟩:=HA.out (by omega)
    obtain⟨x,hx⟩:∃ x,L[i]?=some x:=⟨_,List.getElem?_eq_getElem (by rw[HN.out];exact hlt)⟩
    have hst:=qJ hx;have hup:=cY ltI_weak (L.take i);have hol:(an fq (L.take i)).length=i:=by rw[bG,List.length_take,HN.out];omega
    obtain⟨out,hout⟩:∃ o,an fq (L.take i)=o:=⟨_,rfl⟩
    rw[hout] at hst hup hol HO;have HST:=Lib.hid hst;have HUP:=Lib.hid hup;have HOL:=Lib.hid hol
    obtain⟨P,hP⟩:∃ P,off+i*6=P:=⟨_,rfl⟩
    have HC:Hid (∀ W,Below D w W→∀ c u,(dO x)[c]?=some u→W.cell? ⟨b,P+c,none⟩=some u):=fun W hW c u hu=>by rw[← hP];exact hcell W hW i x hx c u hu
    have HP:=Lib.hid hP;clear hst hup hol hcell hx hout;have HDW:Hid (D≤wr.heap.size):=by rw[← HDD.out];exact BW.out.size
    obtain⟨⟨⟨xj,xm,xg,xs,xk,xa⟩,xA,xn,xc⟩,xo⟩:=x
    obtain⟨x,hxe⟩:∃ x:bq,x=⟨(⟨xj,xm,xg,xs,xk,xa⟩,xA,xn,xc),xo⟩:=⟨_,rfl⟩
    rw[← hxe] at HST HC;have hxj:x.1.1.jid=xj:=by rw[hxe]
    have HXJ:=Lib.hid hxj
    obtain⟨X,hX⟩:∃ J,aa xj=J:=⟨_,rfl⟩
    obtain⟨M,hM⟩:∃ J,aa xm=J:=⟨_,rfl⟩
    have eX:dO x=[.string X,.string M,.slice xA xn xc,.int .i64 xs,.bool xk,.bool xa]:=by rw[hxe,← hX,← hM];rfl
    have HEX:=Lib.hid eX;have HC0:Hid (∀ W,Below D w W→W.cell? ⟨b,P,none⟩=some (.string X)):=fun W hW=>HC.out W hW 0 _ (by rw[eX];rfl)
    have HC1:Hid (∀ W,Below D w W→W.cell? ⟨b,P+1,none⟩=some (.string M)):=fun W hW=>HC.out W hW 1 _ (by rw[eX];rfl)
    have HC2:Hid (∀ W,Below D w W→W.cell? ⟨b,P+2,none⟩=some (.slice xA xn xc)):=fun W hW=>HC.out W hW 2 _ (by rw[eX];rfl)
    have HC3:Hid (∀ W,Below D w W→W.cell? ⟨b,P+3,none⟩=some (.int .i64 xs)):=fun W hW=>HC.out W hW 3 _ (by rw[eX];rfl)
    have HC4:Hid (∀ W,Below D w W→W.cell? ⟨b,P+4,none⟩=some (.bool xk)):=fun W hW=>HC.out W hW 4 _ (by rw[eX];rfl)
    have HC5:Hid (∀ W,Below D w W→W.cell? ⟨b,P+5,none⟩=some (.bool xa)):=fun W hW=>HC.out W hW 5 _ (by rw[eX];rfl)
    have HX:=Lib.hid hX;clear HC hxe hxj eX hX hM;rcases HO.out.cells with ⟨hv0,ho0⟩ | ⟨g,ocap,hv0,hoc,hgD,hgl,hocell⟩
    · subst ho0
      have hi00:i=0:=by have:=HOL.out;simpa using this.symm
      subst hi00;subst hv0;obtain rfl:P=off:=by have:=HP.out;omega
      go_wp2_with fail
      refine wp_loop_rounds 1 ?_;rw[rounds_succ]
      go_wp2_with fail
      go_big_quiet (fail)
      go_wp2_with fail
      generalize hwz:wr.drewN _=wz;have BZ:Hid (Below D w wz):=by rw[← hwz];exact aB BW.out _
      clear hwz;have HDZ:Hid (D≤wz.heap.size):=by rw[← HDD.out];exact BZ.out.size
      have HW0:Hid (∀ W,Below wz.heap.size wz W→W.cell? ⟨b,P,none⟩=some (.string X)):=fun W h=>HC0.out W (BZ.out.trans (h.mono HDZ.out))
      have cz0:=HW0.out wz.drew (Below.refl _ _).drew;have HW1:Hid (∀ W,Below wz.heap.size wz W→W.cell? ⟨b,P+1,none⟩=some (.string M)):=fun W h=>HC1.out W (BZ.out.trans (h.mono HDZ.out))
      have cz1:=HW1.out wz.drew (Below.refl _ _).drew;have HW2:Hid (∀ W,Below wz.heap.size wz W→W.cell? ⟨b,P+2,none⟩=some (.slice xA xn xc)):=fun W h=>HC2.out W (BZ.out.trans (h.mono HDZ.out))
      have cz2:=HW2.out wz.drew (Below.refl _ _).drew;have HW3:Hid (∀ W,Below wz.heap.size wz W→W.cell? ⟨b,P+3,none⟩=some (.int .i64 xs)):=fun W h=>HC3.out W (BZ.out.trans (h.mono HDZ.out))
      have cz3:=HW3.out wz.drew (Below.refl _ _).drew;have HW4:Hid (∀ W,Below wz.heap.size wz W→W.cell? ⟨b,P+4,none⟩=some (.bool xk)):=fun W h=>HC4.out W (BZ.out.trans (h.mono HDZ.out))
      have cz4:=HW4.out wz.drew (Below.refl _ _).drew;have HW5:Hid (∀ W,Below wz.heap.size wz W→W.cell? ⟨b,P+5,none⟩=some (.bool xa)):=fun W h=>HC5.out W (BZ.out.trans (h.mono HDZ.out))
      have cz5:=HW5.out wz.drew (Below.refl _ _).drew;have HBX:Hid (∀ w',(∀ k,k < (wz.drew.alloc (.cells #[.string X,.string M,.slice xA xn xc,.int .i64 xs,.bool xk,.bool xa] 53)).heap.size→some k≠(Value.slice none 0 0).ownBlock→w'.heap[k]?=(wz.drew.alloc (.cells #[.string X,.string M,.slice xA xn xc,.int .i64 xs,.bool xk,.bool xa] 53)).heap[k]?)→Bk w' wz.heap.size 53 #[.string X,.string M,.slice xA xn xc,.int .i64 xs,.bool xk,.bool xa]):=fun w' h=>(h wz.heap.size (by simp) (by intro e;cases e)).trans (Bk.new wz.drew 53 #[.string X,.string M,.slice xA xn xc,.int .i64 xs,.bool xk,.bool xa])
      have HL1:Hid (([]:List bq).length+([]:List bq).length≤1000000000):=by unfold Hid;simp
      have HL2:Hid (([]++[]:List bq).length+[x].length≤1000000000):=by unfold Hid;simp
      have HL3:Hid (([]++[]++[x]:List bq).length+([]:List bq).length≤1000000000):=by unfold Hid;simp
      have HEQ:Hid (([]++[]++[x]++[]:List bq)=an fq (L.take (0+1))):=by
       unfold Hid;rw[HST.out,show aS fq x []=[x] from rfl]
       simp
      go_upto_region 8 with fail
      go_region_law (first | (refine aM rfl (.const (.slice none 0 0)) (.tmp 34) rfl wz.heap.size (.slice none 0 0) none 0 0 [] [] rfl wz _ (by first | exact(Below.refl _ _).drew | exact((Below.refl _ _).drew.alloc (Nat.le_refl _) _)) (Nat.le_refl _) rfl (OwnIt.nil _ _) (by simp[Act.eval,Act.put]) (fun _=>rfl) (fun h=>absurd h (Nat.lt_irrefl _)) HL1.out ?_;intro v1 w1 o1 b1 k1;have cx0:=HW0.out w1 b1;have cx1:=HW1.out w1 b1;have cx2:=HW2.out w1 b1;have cx3:=HW3.out w1 b1;have cx4:=HW4.out w1 b1;have cx5:=HW5.out w1 b1;first | have xb:=HBX.out _ k1 | skip) | (refine aM rfl (.tmp 35) (.tmp 40) rfl wz.heap.size v1 (some ⟨w1.heap.size,0,none⟩) 1 1 _ [x] rfl wz _ (b1.alloc b1.size _) (Nat.le_refl _) (by simp[Act.eval,Act.put]) (o1.below ((Below.refl _ _).alloc (Nat.le_refl _) _)) (by simp[Act.eval,Act.put]) (fun e=>by cases e) (fun _=>⟨_,rfl,cC (by rw[HEX.out];exact Bk.new _ _ _)⟩) HL2.out ?_;intro v2 w2 o2 b2 k2) | (refine aM rfl (.tmp 35) (.tmp 40) rfl wz.heap.size v1 (some ⟨wz.heap.size,0,none⟩) 1 1 _ [x] rfl wz _ b1 (Nat.le_refl _) (by simp[Act.eval,Act.put]) o1 (by simp[Act.eval,Act.put]) (fun e=>by cases e) (fun _=>⟨_,rfl,cC (by rw[HEX.out];exact xb)⟩) HL2.out ?_;intro v2 w2 o2 b2 k2) | (refine aM rfl (.tmp 41) (.tmp 44) rfl wz.heap.size v2 none 0 0 _ [] rfl wz _ b2 (Nat.le_refl _) (by simp[Act.eval,Act.put]) o2 (by simp[Act.eval,Act.put]) (fun _=>rfl) (fun h=>absurd h (Nat.lt_irrefl _)) HL3.out ?_;intro v3 w3 o3 b3 k3))
      all_goals
       rw[HEQ.out] at o3;have O3:Hid (OwnIt D w3 v3 (an fq (L.take (0+1)))):=o3.weak HDZ.out;have B3:Hid (Below D w w3):=BZ.out.trans (b3.mono HDZ.out);clear o1 o2 o3 b1 b2 b3 k1 k2 k3 cx0 cx1 cx2 cx3 cx4 cx5
       go_wp2_with fail
       go_roundw
       case rel=>exact⟨0+1,_,_,rfl,by go_num,rfl,by omega,O3,B3⟩
       case measure=>simp[intOf];omega
    · subst hv0
      obtain⟨w0r,hw0r⟩:∃ z,z=wr:=⟨_,rfl⟩
      rw[← hw0r] at HO BW HDW hgl hocell ⊢;clear hw0r;rw[HOL.out] at hoc ⊢;have HOCELL:Hid (∀ W,Below w0r.heap.size w0r W→∀ j u,(bF out)[j]?=some u→W.cell? ⟨g,j,none⟩=some u):=fun W hW j u hj=>by rw[hW.cell (p:=⟨g,j,none⟩) hgl];exact hocell j u hj
      clear hocell hgl
      go_wp2_with fail
      go_loopw [5] (fun kv wr2=>∃ k:Nat,k≤i∧kv=.int .i64 k∧Hid (∀ (j:Nat) (y:bq),k≤j→out[j]?=some y→fq x y=true)∧Hid (Below w0r.heap.size w0r wr2)) (fun kv _=>(intOf kv).toNat)
      case atStart=>exact⟨i,Nat.le_refl _,rfl,fun j y hj hy=>absurd (List.getElem?_eq_some_iff.1 hy).1 (by rw[HOL.out];omega),Below.refl _ _⟩
      case round =>
       obtain⟨k,hk,rfl,HK,BI⟩:=hrel
       have hpx:=HP.out;have cl:=HC0.out
       by_cases hk0:0 < k
       · obtain⟨j,hj⟩:∃ j,k=j+1:=⟨k - 1,by omega⟩
         obtain⟨y,hy⟩:∃ y,out[j]?=some y:=⟨_,List.getElem?_eq_getElem (by rw[HOL.out];omega)⟩
         have hk0d:decide (0 < k)=true:=decide_eq_true hk0;have hkz0:(0:Int) < (k:Int):=by omega
         have hkw:IntKind.i64.wrap ((k:Int) - 1)=(j:Int):=by rw[IntKind.wrap_i64];omega
         have hjz:(j:Int) < (i:Int):=by omega
         have hj0:(0:Int)≤(j:Int):=by omega
         obtain⟨Q,hQ⟩:∃ Q,j*6=Q:=⟨_,rfl⟩
         obtain⟨d,hd⟩:∃ d,fq x y=d:=⟨_,rfl⟩
         obtain⟨Y,hY⟩:∃ Y,aa y.1.1.jid=Y:=⟨_,rfl⟩
         have hcal:∀ p:Sy.Bel wr,Calls Tryz.prog 53 #[.string X,.string Y] p.v fun e w'=>e=.returned (.bool d)∧Below p.v.heap.size p.v w':=fun p=>by
          have:=oD X Y p.v (by rw[← HX.out,Lib.size_eq];have:=x.2;rw[HXJ.out] at this;exact this) (by rw[← hY,Lib.size_eq];exact y.2)
          have e:Jd.lessL X.data.toList Y.data.toList=d:=by
           rw[← hd,← HX.out,← hY];show Jd.lessL xj y.1.1.jid=Jd.lessL x.1.1.jid y.1.1.jid;rw[HXJ.out]
          rw[e] at this;exact this
         have c1:∀ p:Sy.Bel wr,p.v.cell? ⟨b,P,none⟩=some (.string X):=fun p=>HC0.out p.v (BW.out.trans ((BI.out.trans (p.h.mono BI.out.size)).mono HDW.out))
         have c2:∀ p:Sy.Bel wr,p.v.cell? ⟨g,Q,none⟩=some (.string Y):=fun p=>by
          refine HOCELL.out p.v (BI.out.trans (p.h.mono BI.out.size)) Q _ ?_;have hjl:j < out.length:=(List.getElem?_eq_some_iff.1 hy).1;have e1:=ny out j 0 hjl (by decide);rw[Nat.add_zero,hQ] at e1;rw[e1,getElem!_pos out.toArray j (by simpa using hjl),List.getElem_toArray,(List.getElem?_eq_some_iff.1 hy).2,← hY];rfl
         have HY:=Lib.hid hy;have HDL:=Lib.hid hd;have HKJ:=Lib.hid hj;clear hy hd hY hj cl
         go_wp2_with fail
         refine Sy.wp_region_quiet_bel (by kernel_rfl) (by kernel_rfl) ?_
         repeat (go_big_quiet_step ((go_at_call 53;exact Sy.Calls.bel_of (hcal _))))
         refine wpQuiet_nil ?_;intro w5 hw';have hb5:Below wr.heap.size wr w5:=by obtain⟨v,rfl⟩:=hw';exact v.h
         have B5:Hid (Below w0r.heap.size w0r w5):=BI.out.trans (hb5.mono BI.out.size);clear hw' hb5 hcal c1 c2 hQ;cases d with
         | true =>
           have HK2:Hid (∀ (t:Nat) (z:bq),j≤t→out[t]?=some z→fq x z=true):=fun t z ht hz=>by
            by_cases he:t=j
            · subst he
              rw[HY.out] at hz;obtain rfl:=Option.some.inj hz;exact HDL.out
            · exact HK.out t z (by have:=HKJ.out;omega) hz
           clear hpx
           go_wp2_with fail
           go_roundw
           case rel=>exact⟨j,by have:=HKJ.out;omega,by first | rfl | go_num,HK2,B5⟩
           case measure=>have:=HKJ.out;simp[intOf];omega
         | false =>
           have hins:=jG HUP.out (by rw[HOL.out];exact hk) (fun t z ht hz=>HK.out t z ht hz) (fun t z ht hz=>by
            have he:t=j:=by have:=HKJ.out;omega
            subst he;rw[HY.out] at hz;obtain rfl:=Option.some.inj hz;exact HDL.out)
           have HINS:=Lib.hid hins;have hkm:k≤i:=hk;have hko:k≤ocap:=by omega
           clear hins hk hkw hjz hj0 hkz0 hk0d hk0
           obtain⟨wz,hwz⟩:∃ z,z=w5:=⟨_,rfl⟩
           rw[← hwz] at B5 ⊢;clear hwz;have BIZ:Hid (Below w0r.heap.size w0r wz):=B5;have BZ:Hid (Below D w wz):=BW.out.trans (BIZ.out.mono HDW.out);have HDZ:Hid (D≤wz.heap.size):=by rw[← HDD.out];exact BZ.out.size
           have HLJ:Hid ((out.take k).length=k):=by unfold Hid;rw[List.length_take,HOL.out];omega
           have HLD:Hid ((out.drop k).length=i - k):=by unfold Hid;rw[List.length_drop,HOL.out]
           have HS1:Hid (∀ W,Below wz.heap.size wz W→∀ j u,(bF (out.take k))[j]?=some u→W.cell? ((⟨g,0,none⟩:Addr).add j)=some u):=fun W h j u hj=>by
            rw[aJ,Nat.zero_add];refine HOCELL.out W (BIZ.out.trans (h.mono BIZ.out.size)) j u ?_;rw[← List.take_append_drop k out,gR,List.getElem?_append_left (List.getElem?_eq_some_iff.1 hj).1];exact hj
           by_cases hce:ocap=k
           · have hik:i=k:=by omega
             have HIK:=Lib.hid hik;have hdr:out.drop k=[]:=List.drop_eq_nil_of_le (by rw[HOL.out];omega);have HDR:=Lib.hid hdr;clear hdr hik;obtain rfl:k=ocap:=hce.symm;have HW0:Hid (∀ W,Below wz.heap.size wz W→W.cell? ⟨b,P,none⟩=some (.string X)):=fun W h=>HC0.out W (BZ.out.trans (h.mono HDZ.out))
             have cz0:=HW0.out wz.drew (Below.refl _ _).drew;have HW1:Hid (∀ W,Below wz.heap.size wz W→W.cell? ⟨b,P+1,none⟩=some (.string M)):=fun W h=>HC1.out W (BZ.out.trans (h.mono HDZ.out))
             have cz1:=HW1.out wz.drew (Below.refl _ _).drew;have HW2:Hid (∀ W,Below wz.heap.size wz W→W.cell? ⟨b,P+2,none⟩=some (.slice xA xn xc)):=fun W h=>HC2.out W (BZ.out.trans (h.mono HDZ.out))
             have cz2:=HW2.out wz.drew (Below.refl _ _).drew;have HW3:Hid (∀ W,Below wz.heap.size wz W→W.cell? ⟨b,P+3,none⟩=some (.int .i64 xs)):=fun W h=>HC3.out W (BZ.out.trans (h.mono HDZ.out))
             have cz3:=HW3.out wz.drew (Below.refl _ _).drew;have HW4:Hid (∀ W,Below wz.heap.size wz W→W.cell? ⟨b,P+4,none⟩=some (.bool xk)):=fun W h=>HC4.out W (BZ.out.trans (h.mono HDZ.out))
             have cz4:=HW4.out wz.drew (Below.refl _ _).drew;have HW5:Hid (∀ W,Below wz.heap.size wz W→W.cell? ⟨b,P+5,none⟩=some (.bool xa)):=fun W h=>HC5.out W (BZ.out.trans (h.mono HDZ.out))
             have cz5:=HW5.out wz.drew (Below.refl _ _).drew;have HBX:Hid (∀ w',(∀ k,k < (wz.drew.alloc (.cells #[.string X,.string M,.slice xA xn xc,.int .i64 xs,.bool xk,.bool xa] 53)).heap.size→some k≠(Value.slice none 0 0).ownBlock→w'.heap[k]?=(wz.drew.alloc (.cells #[.string X,.string M,.slice xA xn xc,.int .i64 xs,.bool xk,.bool xa] 53)).heap[k]?)→Bk w' wz.heap.size 53 #[.string X,.string M,.slice xA xn xc,.int .i64 xs,.bool xk,.bool xa]):=fun w' h=>(h wz.heap.size (by simp) (by intro e;cases e)).trans (Bk.new wz.drew 53 #[.string X,.string M,.slice xA xn xc,.int .i64 xs,.bool xk,.bool xa])
             have HL1:Hid (([]:List bq).length+((out.take k):List bq).length≤1000000000):=by unfold Hid;simp;have:=HLJ.out;simp at this;omega
             have HL2:Hid (([]++(out.take k):List bq).length+[x].length≤1000000000):=by unfold Hid;simp;have:=HLJ.out;simp at this;omega
             have HL3:Hid (([]++(out.take k)++[x]:List bq).length+([]:List bq).length≤1000000000):=by unfold Hid;simp;have:=HLJ.out;simp at this;omega
             have HEQ:Hid (([]++(out.take k)++[x]++[]:List bq)=an fq (L.take (i+1))):=by
              unfold Hid;rw[HST.out,HINS.out,HDR.out]
              simp
             go_upto_region 8 with fail
             go_region_law (first | (refine aM rfl (.const (.slice none 0 0)) (.tmp 34) rfl wz.heap.size (.slice none 0 0) (some ⟨g,0,none⟩) k k [] (out.take k) HLJ.out wz _ (by first | exact(Below.refl _ _).drew | exact((Below.refl _ _).drew.alloc (Nat.le_refl _) _)) (Nat.le_refl _) rfl (OwnIt.nil _ _) (by simp[Act.eval,Act.put]) (fun e=>by cases e) (fun _=>⟨_,rfl,HS1.out _ (by first | exact(Below.refl _ _).drew | exact((Below.refl _ _).drew.alloc (Nat.le_refl _) _))⟩) HL1.out ?_;intro v1 w1 o1 b1 k1;have cx0:=HW0.out w1 b1;have cx1:=HW1.out w1 b1;have cx2:=HW2.out w1 b1;have cx3:=HW3.out w1 b1;have cx4:=HW4.out w1 b1;have cx5:=HW5.out w1 b1;first | have xb:=HBX.out _ k1 | skip) | (refine aM rfl (.tmp 35) (.tmp 40) rfl wz.heap.size v1 (some ⟨w1.heap.size,0,none⟩) 1 1 _ [x] rfl wz _ (b1.alloc b1.size _) (Nat.le_refl _) (by simp[Act.eval,Act.put]) (o1.below ((Below.refl _ _).alloc (Nat.le_refl _) _)) (by simp[Act.eval,Act.put]) (fun e=>by cases e) (fun _=>⟨_,rfl,cC (by rw[HEX.out];exact Bk.new _ _ _)⟩) HL2.out ?_;intro v2 w2 o2 b2 k2) | (refine aM rfl (.tmp 35) (.tmp 40) rfl wz.heap.size v1 (some ⟨wz.heap.size,0,none⟩) 1 1 _ [x] rfl wz _ b1 (Nat.le_refl _) (by simp[Act.eval,Act.put]) o1 (by simp[Act.eval,Act.put]) (fun e=>by cases e) (fun _=>⟨_,rfl,cC (by rw[HEX.out];exact xb)⟩) HL2.out ?_;intro v2 w2 o2 b2 k2) | (refine aM rfl (.tmp 41) (.tmp 44) rfl wz.heap.size v2 (some ⟨g,0,none⟩) 0 0 _ [] rfl wz _ b2 (Nat.le_refl _) (by simp[Act.eval,Act.put]) o2 (by simp[Act.eval,Act.put]) (fun e=>by cases e) (fun h=>absurd h (Nat.lt_irrefl _)) HL3.out ?_;intro v3 w3 o3 b3 k3))
             all_goals
              rw[HEQ.out] at o3;have O3:Hid (OwnIt D w3 v3 (an fq (L.take (i+1)))):=o3.weak HDZ.out;have B3:Hid (Below D w w3):=BZ.out.trans (b3.mono HDZ.out);clear o1 o2 o3 b1 b2 b3 k1 k2 k3 cx0 cx1 cx2 cx3 cx4 cx5
              go_wp2_with fail
              go_roundw
              case rel=>exact⟨i+1,_,_,rfl,by go_num,rfl,by omega,O3,B3⟩
              case measure=>simp[intOf];omega
           · have hne:¬ ocap=k:=hce
             have HS2:Hid (∀ W,Below wz.heap.size wz W→∀ j u,(bF (out.drop k))[j]?=some u→W.cell? ((⟨g,k*6,none⟩:Addr).add j)=some u):=fun W h j u hj=>by
              rw[aJ];refine HOCELL.out W (BIZ.out.trans (h.mono BIZ.out.size)) (k*6+j) u ?_;have hlt:(bF (out.take k)).length=k*6:=by rw[fl,List.length_take,HOL.out,Nat.min_eq_left hkm]
              rw[← List.take_append_drop k out,gR,List.getElem?_append_right (by rw[hlt];omega),hlt,Nat.add_sub_cancel_left];exact hj
             have HW0:Hid (∀ W,Below wz.heap.size wz W→W.cell? ⟨b,P,none⟩=some (.string X)):=fun W h=>HC0.out W (BZ.out.trans (h.mono HDZ.out))
             have cz0:=HW0.out wz.drew (Below.refl _ _).drew;have HW1:Hid (∀ W,Below wz.heap.size wz W→W.cell? ⟨b,P+1,none⟩=some (.string M)):=fun W h=>HC1.out W (BZ.out.trans (h.mono HDZ.out))
             have cz1:=HW1.out wz.drew (Below.refl _ _).drew;have HW2:Hid (∀ W,Below wz.heap.size wz W→W.cell? ⟨b,P+2,none⟩=some (.slice xA xn xc)):=fun W h=>HC2.out W (BZ.out.trans (h.mono HDZ.out))
             have cz2:=HW2.out wz.drew (Below.refl _ _).drew;have HW3:Hid (∀ W,Below wz.heap.size wz W→W.cell? ⟨b,P+3,none⟩=some (.int .i64 xs)):=fun W h=>HC3.out W (BZ.out.trans (h.mono HDZ.out))
             have cz3:=HW3.out wz.drew (Below.refl _ _).drew;have HW4:Hid (∀ W,Below wz.heap.size wz W→W.cell? ⟨b,P+4,none⟩=some (.bool xk)):=fun W h=>HC4.out W (BZ.out.trans (h.mono HDZ.out))
             have cz4:=HW4.out wz.drew (Below.refl _ _).drew;have HW5:Hid (∀ W,Below wz.heap.size wz W→W.cell? ⟨b,P+5,none⟩=some (.bool xa)):=fun W h=>HC5.out W (BZ.out.trans (h.mono HDZ.out))
             have cz5:=HW5.out wz.drew (Below.refl _ _).drew;have HBX:Hid (∀ w',(∀ k,k < (wz.drew.alloc (.cells #[.string X,.string M,.slice xA xn xc,.int .i64 xs,.bool xk,.bool xa] 53)).heap.size→some k≠(Value.slice none 0 0).ownBlock→w'.heap[k]?=(wz.drew.alloc (.cells #[.string X,.string M,.slice xA xn xc,.int .i64 xs,.bool xk,.bool xa] 53)).heap[k]?)→Bk w' wz.heap.size 53 #[.string X,.string M,.slice xA xn xc,.int .i64 xs,.bool xk,.bool xa]):=fun w' h=>(h wz.heap.size (by simp) (by intro e;cases e)).trans (Bk.new wz.drew 53 #[.string X,.string M,.slice xA xn xc,.int .i64 xs,.bool xk,.bool xa])
             have HL1:Hid (([]:List bq).length+((out.take k):List bq).length≤1000000000):=by unfold Hid;rw[HLJ.out];simp;omega
             have HL2:Hid (([]++(out.take k):List bq).length+[x].length≤1000000000):=by unfold Hid;rw[List.nil_append,HLJ.out];simp;omega
             have HL3:Hid (([]++(out.take k)++[x]:List bq).length+((out.drop k):List bq).length≤1000000000):=by unfold Hid;rw[HLD.out,List.nil_append,List.length_append,HLJ.out];simp;omega
             have HEQ:Hid (([]++(out.take k)++[x]++(out.drop k):List bq)=an fq (L.take (i+1))):=by
              unfold Hid;rw[HST.out,HINS.out]
              simp
             go_upto_region 8 with fail
             go_region_law (first | (refine aM rfl (.const (.slice none 0 0)) (.tmp 34) rfl wz.heap.size (.slice none 0 0) (some ⟨g,0,none⟩) k ocap [] (out.take k) HLJ.out wz _ (by first | exact(Below.refl _ _).drew | exact((Below.refl _ _).drew.alloc (Nat.le_refl _) _)) (Nat.le_refl _) rfl (OwnIt.nil _ _) (by simp[Act.eval,Act.put]) (fun e=>by cases e) (fun _=>⟨_,rfl,HS1.out _ (by first | exact(Below.refl _ _).drew | exact((Below.refl _ _).drew.alloc (Nat.le_refl _) _))⟩) HL1.out ?_;intro v1 w1 o1 b1 k1;have cx0:=HW0.out w1 b1;have cx1:=HW1.out w1 b1;have cx2:=HW2.out w1 b1;have cx3:=HW3.out w1 b1;have cx4:=HW4.out w1 b1;have cx5:=HW5.out w1 b1;first | have xb:=HBX.out _ k1 | skip) | (refine aM rfl (.tmp 35) (.tmp 40) rfl wz.heap.size v1 (some ⟨w1.heap.size,0,none⟩) 1 1 _ [x] rfl wz _ (b1.alloc b1.size _) (Nat.le_refl _) (by simp[Act.eval,Act.put]) (o1.below ((Below.refl _ _).alloc (Nat.le_refl _) _)) (by simp[Act.eval,Act.put]) (fun e=>by cases e) (fun _=>⟨_,rfl,cC (by rw[HEX.out];exact Bk.new _ _ _)⟩) HL2.out ?_;intro v2 w2 o2 b2 k2) | (refine aM rfl (.tmp 35) (.tmp 40) rfl wz.heap.size v1 (some ⟨wz.heap.size,0,none⟩) 1 1 _ [x] rfl wz _ b1 (Nat.le_refl _) (by simp[Act.eval,Act.put]) o1 (by simp[Act.eval,Act.put]) (fun e=>by cases e) (fun _=>⟨_,rfl,cC (by rw[HEX.out];exact xb)⟩) HL2.out ?_;intro v2 w2 o2 b2 k2) | (refine aM rfl (.tmp 41) (.tmp 44) rfl wz.heap.size v2 (some ⟨g,k*6,none⟩) (i - k) (ocap - k) _ (out.drop k) HLD.out wz _ b2 (Nat.le_refl _) (by simp[Act.eval,Act.put]) o2 (by simp[Act.eval,Act.put]) (fun e=>by cases e) (fun _=>⟨_,rfl,HS2.out _ b2⟩) HL3.out ?_;intro v3 w3 o3 b3 k3))
             all_goals
              rw[HEQ.out] at o3;have O3:Hid (OwnIt D w3 v3 (an fq (L.take (i+1)))):=o3.weak HDZ.out;have B3:Hid (Below D w w3):=BZ.out.trans (b3.mono HDZ.out);clear o1 o2 o3 b1 b2 b3 k1 k2 k3 cx0 cx1 cx2 cx3 cx4 cx5
              go_wp2_with fail
              go_roundw
              case rel=>exact⟨i+1,_,_,rfl,by go_num,rfl,by omega,O3,B3⟩
              case measure=>simp[intOf];omega
       · have hk00:k=0:=by omega
         subst hk00;have hins:=jG HUP.out (Nat.zero_le _) (fun t z ht hz=>HK.out t z ht hz) (fun t z ht hz=>absurd ht (by omega));have HINS:=Lib.hid hins;clear hins hk hk0 cl
         go_wp2_with fail
         go_big_quiet (fail)
         go_wp2_with fail
         generalize hwz:wr.drewN _=wz;have BIZ:Hid (Below w0r.heap.size w0r wz):=by rw[← hwz];exact aB BI.out _
         clear hwz;have BZ:Hid (Below D w wz):=BW.out.trans (BIZ.out.mono HDW.out);have HDZ:Hid (D≤wz.heap.size):=by rw[← HDD.out];exact BZ.out.size
         have HS2:Hid (∀ W,Below wz.heap.size wz W→∀ j u,(bF out)[j]?=some u→W.cell? ((⟨g,0,none⟩:Addr).add j)=some u):=fun W h j u hj=>by
          rw[aJ,Nat.zero_add];exact HOCELL.out W (BIZ.out.trans (h.mono BIZ.out.size)) j u hj
         have HW0:Hid (∀ W,Below wz.heap.size wz W→W.cell? ⟨b,P,none⟩=some (.string X)):=fun W h=>HC0.out W (BZ.out.trans (h.mono HDZ.out))
         have cz0:=HW0.out wz.drew (Below.refl _ _).drew;have HW1:Hid (∀ W,Below wz.heap.size wz W→W.cell? ⟨b,P+1,none⟩=some (.string M)):=fun W h=>HC1.out W (BZ.out.trans (h.mono HDZ.out))
         have cz1:=HW1.out wz.drew (Below.refl _ _).drew;have HW2:Hid (∀ W,Below wz.heap.size wz W→W.cell? ⟨b,P+2,none⟩=some (.slice xA xn xc)):=fun W h=>HC2.out W (BZ.out.trans (h.mono HDZ.out))
         have cz2:=HW2.out wz.drew (Below.refl _ _).drew;have HW3:Hid (∀ W,Below wz.heap.size wz W→W.cell? ⟨b,P+3,none⟩=some (.int .i64 xs)):=fun W h=>HC3.out W (BZ.out.trans (h.mono HDZ.out))
         have cz3:=HW3.out wz.drew (Below.refl _ _).drew;have HW4:Hid (∀ W,Below wz.heap.size wz W→W.cell? ⟨b,P+4,none⟩=some (.bool xk)):=fun W h=>HC4.out W (BZ.out.trans (h.mono HDZ.out))
         have cz4:=HW4.out wz.drew (Below.refl _ _).drew;have HW5:Hid (∀ W,Below wz.heap.size wz W→W.cell? ⟨b,P+5,none⟩=some (.bool xa)):=fun W h=>HC5.out W (BZ.out.trans (h.mono HDZ.out))
         have cz5:=HW5.out wz.drew (Below.refl _ _).drew;have HBX:Hid (∀ w',(∀ k,k < (wz.drew.alloc (.cells #[.string X,.string M,.slice xA xn xc,.int .i64 xs,.bool xk,.bool xa] 53)).heap.size→some k≠(Value.slice none 0 0).ownBlock→w'.heap[k]?=(wz.drew.alloc (.cells #[.string X,.string M,.slice xA xn xc,.int .i64 xs,.bool xk,.bool xa] 53)).heap[k]?)→Bk w' wz.heap.size 53 #[.string X,.string M,.slice xA xn xc,.int .i64 xs,.bool xk,.bool xa]):=fun w' h=>(h wz.heap.size (by simp) (by intro e;cases e)).trans (Bk.new wz.drew 53 #[.string X,.string M,.slice xA xn xc,.int .i64 xs,.bool xk,.bool xa])
         have HL1:Hid (([]:List bq).length+([]:List bq).length≤1000000000):=by unfold Hid;simp
         have HL2:Hid (([]++[]:List bq).length+[x].length≤1000000000):=by unfold Hid;simp
         have HL3:Hid (([]++[]++[x]:List bq).length+(out:List bq).length≤1000000000):=by unfold Hid;rw[HOL.out];simp;omega
         have HEQ:Hid (([]++[]++[x]++out:List bq)=an fq (L.take (i+1))):=by
          unfold Hid;rw[HST.out,HINS.out,List.take_zero,List.drop_zero]
          simp
         go_upto_region 8 with fail
         go_region_law (first | (refine aM rfl (.const (.slice none 0 0)) (.tmp 34) rfl wz.heap.size (.slice none 0 0) (some ⟨g,0,none⟩) 0 ocap [] [] rfl wz _ (by first | exact(Below.refl _ _).drew | exact((Below.refl _ _).drew.alloc (Nat.le_refl _) _)) (Nat.le_refl _) rfl (OwnIt.nil _ _) (by simp[Act.eval,Act.put]) (fun e=>by cases e) (fun h=>absurd h (Nat.lt_irrefl _)) HL1.out ?_;intro v1 w1 o1 b1 k1;have cx0:=HW0.out w1 b1;have cx1:=HW1.out w1 b1;have cx2:=HW2.out w1 b1;have cx3:=HW3.out w1 b1;have cx4:=HW4.out w1 b1;have cx5:=HW5.out w1 b1;first | have xb:=HBX.out _ k1 | skip) | (refine aM rfl (.tmp 35) (.tmp 40) rfl wz.heap.size v1 (some ⟨w1.heap.size,0,none⟩) 1 1 _ [x] rfl wz _ (b1.alloc b1.size _) (Nat.le_refl _) (by simp[Act.eval,Act.put]) (o1.below ((Below.refl _ _).alloc (Nat.le_refl _) _)) (by simp[Act.eval,Act.put]) (fun e=>by cases e) (fun _=>⟨_,rfl,cC (by rw[HEX.out];exact Bk.new _ _ _)⟩) HL2.out ?_;intro v2 w2 o2 b2 k2) | (refine aM rfl (.tmp 35) (.tmp 40) rfl wz.heap.size v1 (some ⟨wz.heap.size,0,none⟩) 1 1 _ [x] rfl wz _ b1 (Nat.le_refl _) (by simp[Act.eval,Act.put]) o1 (by simp[Act.eval,Act.put]) (fun e=>by cases e) (fun _=>⟨_,rfl,cC (by rw[HEX.out];exact xb)⟩) HL2.out ?_;intro v2 w2 o2 b2 k2) | (refine aM rfl (.tmp 41) (.tmp 44) rfl wz.heap.size v2 (some ⟨g,0,none⟩) i ocap _ out HOL.out wz _ b2 (Nat.le_refl _) (by simp[Act.eval,Act.put]) o2 (by simp[Act.eval,Act.put]) (fun e=>by cases e) (fun _=>⟨_,rfl,HS2.out _ b2⟩) HL3.out ?_;intro v3 w3 o3 b3 k3))
         all_goals
          rw[HEQ.out] at o3;have O3:Hid (OwnIt D w3 v3 (an fq (L.take (i+1)))):=o3.weak HDZ.out;have B3:Hid (Below D w w3):=BZ.out.trans (b3.mono HDZ.out);clear o1 o2 o3 b1 b2 b3 k1 k2 k3 cx0 cx1 cx2 cx3 cx4 cx5
          go_wp2_with fail
          go_roundw
          case rel=>exact⟨i+1,_,_,rfl,by go_num,rfl,by omega,O3,B3⟩
          case measure=>simp[intOf];omega
  · have hiz:¬ (i:Int) < (n:Int):=by omega
    have hie:i=n:=by omega
    have hfin:=HO.out;rw[hie,List.take_of_length_le (by rw[HN.out];exact Nat.le_refl _)] at hfin;have HFIN:=Lib.hid hfin;clear hie hfin
    go_wp2_with fail
    go_ret
    exact⟨⟨_,rfl,HFIN.out⟩,BW.out⟩
end Go.Proofs.YtbgaglcgennhiaaGreatDoor
end
section
namespace Go.Proofs.YtbgaglcgennhiaaGreatDoor
open Go.RowKit Go.Sort Sy Ct Tx
theorem nt (v:Value) (l:List (aZ × bm)) (w:World) (hR:ReadI w.heap.size w v l) (hl:l.length≤1000000) (h:∀ p∈l,p.1.jid.length≤140737488355328) :
 Calls Tryz.prog 55 #[v] w fun e w'=>(∃ (v':Value) (l':List (aZ × bm)),e=.returned v'∧w'.ownsRow w.heap.size 53 6 v' l'.length (l'.flatMap fun p=>gK p.1 (sl p.2))∧(∀ p∈l',p∈l)∧l'.map (·.1)=an vz (l.map (·.1)))∧Below w.heap.size w w':=by
 refine(oA v l h w hR hl).mono ?_
 rintro e w' ⟨⟨u,rfl,ho⟩,hb⟩
 refine⟨⟨u,(an fq (sB l h)).map (·.1),rfl,?_,fun p hp=>?_,?_⟩,hb⟩
 · rw[List.length_map]
   have e1:((an fq (sB l h)).map (·.1)).flatMap (fun p=>gK p.1 (sl p.2))=bF (an fq (sB l h)):=by unfold bF;rw[List.flatMap_map];rfl
   rw[e1];exact ho
 · obtain⟨x,hx,rfl⟩:=List.mem_map.1 hp
   have h1:=(fD (sB l h)).mem_iff.1 hx;rw[← lE l h];exact List.mem_map.2 ⟨x,h1,rfl⟩
 · have e2:=tp (sB l h)
   rw[List.map_map];show (an fq (sB l h)).map (fun x=>x.1.1)=_;rw[e2]
   conv=>rhs;rw[← lE l h,List.map_map]
   rfl
end Go.Proofs.YtbgaglcgennhiaaGreatDoor
end
