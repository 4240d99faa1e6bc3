import Derived.Test.YtbgaglcgennhiaaGreatDoorP28
import Derived.Test.YtbgaglcgennhiaaGreatDoorP27
import Derived.Test.YtbgaglcgennhiaaGreatDoorP40
import Derived.Test.YtbgaglcgennhiaaGreatDoorP26
import Derived.Test.YtbgaglcgennhiaaGreatDoorP38
import Derived.Test.YtbgaglcgennhiaaGreatDoorP30
import Derived.Test.YtbgaglcgennhiaaGreatDoorP37
import Derived.BigQuiet
namespace Go.Proofs.YtbgaglcgennhiaaGreatDoor
open Go.RowKit Go.Sort Sy Tx Ct
structure wR (x:aZ):Prop where
 jid:x.jid.length≤1000000
 name:x.name.length≤1000000
 groups:x.groups.length≤1000000
 each:∀ g∈x.groups,g.length≤1000000
structure od (most:Nat) (l:List (aZ × bm)):Prop where
 len:l.length≤most
 near:∀ p∈l,NearI p.1
 up:l.Pairwise fun p q=>Jd.lessL p.1.jid q.1.jid=true
theorem eZ {W:World} {g:Nat} {t t':TypeId} {cs cs2:Array Value} (h:Bk W g t cs) (h2:Bk W g t' cs2):t=t':=by
 unfold Bk at h h2;rw[h] at h2;injection h2 with h2;injection h2 with _ h2
theorem fz {W:World} {B k n:Nat} {t:TypeId} {v:Value} {xs:List Value} (h:W.ownsRow B t k v n xs) {g:Nat} (hg:v.ownBlock=some g):∃ cs,Bk W g t cs:=by
 rcases h.2 with ⟨rfl,_⟩ | ⟨g2,cap,cur,rfl,_,hh,_⟩
 · cases hg
 · obtain rfl:g2=g:=Option.some.inj hg
   exact⟨cur,hh⟩
theorem OwnT.butT {B q:Nat} {w w':World} {v:Value} {x:List ByteArray} {t:TypeId} {cs:Array Value} (h:OwnT B w v x) (hb:But (·=q) w w') (hk:Bk w q t cs) (hne:t≠9):OwnT B w' v x :=
 h.kept fun j hj=>hb.block j (h.low hj).2 (fun e=>by
  have e2:j=q:=e;subst e2
  obtain⟨cs2,hc⟩:=fz h hj
  exact hne (eZ hk hc))
theorem OwnT.far_row {B B2 k n:Nat} {w w':World} {v v2:Value} {x:List ByteArray} {t:TypeId} {xs:List Value} (h:OwnT B w v x) (h2:w.ownsRow B2 t k v2 n xs) (hne:t≠9) (f:∀ q,q < w.heap.size→Option.some q≠v2.ownBlock→w'.heap[q]?=w.heap[q]?):OwnT B w' v x :=
 h.kept fun j hj=>f j (h.low hj).2 (fun e=>by
  obtain⟨cs,hc⟩:=fz h hj
  obtain⟨cs2,hc2⟩:=fz h2 e.symm
  exact hne (eZ hc2 hc))
theorem OwnV.weak {α:Type} {ai:α→List Value} {k:Nat} {t:TypeId} {B B':Nat} {W:World} {v:Value} {l:List α} (h:OwnV ai k t B W v l) (hB:B'≤B):OwnV ai k t B' W v l:=by
 refine⟨h.1,?_⟩
 rcases h.2 with h1 | ⟨g,cap,cur,hv,hge,h3⟩
 · exact .inl h1
 · exact .inr ⟨g,cap,cur,hv,Nat.le_trans hB hge,h3⟩
theorem my {L:List (aZ × bm)} {j:List UInt8} (h:L.find? (fun p=>decide (p.1.jid=j))=none):j ∉ L.map (·.1.jid):=fun hm=>by
 obtain⟨p,hp,e⟩:=List.mem_map.1 hm
 have:=List.find?_eq_none.1 h p hp
 simp[e] at this
theorem oF {most:Nat} {L l2:List (aZ × bm)} (hl:L.length≤most) (hn:∀ p∈L,NearI p.1) (hd:(L.map (·.1.jid)).Nodup) (hm:l2.map (·.1)=an vz (L.map (·.1))):od most l2:=by
 have hp:(l2.map (·.1)).Perm (L.map (·.1)):=by rw[hm];exact fD _
 have hu:Up vz (l2.map (·.1)):=by rw[hm];exact cY (⟨fun h=>lessL_weak.asym h,fun h y=>lessL_weak.neg h y.jid⟩:Weak vz) _
 refine⟨?_,fun p hp2=>?_,?_⟩
 · have:=hp.length_eq
   rw[List.length_map,List.length_map] at this;omega
 · have h1:p.1∈L.map (·.1):=hp.mem_iff.1 (List.mem_map.2 ⟨p,hp2,rfl⟩)
   obtain⟨q,hq,e⟩:=List.mem_map.1 h1
   rw[← e];exact hn q hq
 · have hd2:((l2.map (·.1)).map (·.jid)).Nodup:=by
    have h3:=(hp.map (·.jid)).nodup_iff.2 (by rw[List.map_map];exact hd);exact h3
   have h4:=List.pairwise_map.1 hd2;have h5:=(hu.and h4)
   refine(List.pairwise_map.1 h5).imp ?_
   rintro p q ⟨h6,h7⟩;rcases fc p.1.jid q.1.jid with h | h | h
   · exact h.1
   · have:vz q.1 p.1=true:=h.2.1
     rw[h6] at this;cases this
   · exact absurd h.2.2 h7
set_option linter.unusedSimpArgs false in
set_option maxHeartbeats 16000000 in
set_option maxRecDepth 100000 in
theorem nX (v:Value) (l:List (aZ × bm)) (most:Nat) (hm:most≤60) (w:World) (hR:ReadI w.heap.size w v l) (hl:l.length≤1000000) (hs:∀ p∈l,wR p.1) :
 Calls Tryz.prog 88 #[v,.int .i64 most] w fun e w'=>(∃ v' l',e=.returned v'∧OwnV aq 6 53 w.heap.size w' v' l'∧(∀ p∈l',OwnT w.heap.size w' (sl p.2) (ac p.1.groups))∧od most l')∧Below w.heap.size w w':=by
 obtain⟨A,cap,rfl,hA⟩:=hR.row.at
 obtain⟨_,_,_,_,hT⟩:=hR
 obtain⟨n,hn⟩:∃ n,l.length=n:=⟨_,rfl⟩
 rw[hn] at hA hl ⊢;have HN:=Lib.hid hn;have HA:=Lib.hid hA;have HPI:Hid (∀ p∈l,∀ k:Nat,k≤10000000→∀ W,Below w.heap.size w W→Calls Tryz.prog 114 #[fp p.1 (sl p.2),.int .i64 k] W fun e w'=>(∃ d g,e=.returned (fp d g)∧NearI d∧OwnT W.heap.size w' g (ac d.groups))∧Below W.heap.size W w'):=fun p hp k hk W hW =>
  qs p.1 (sl p.2) k (by omega) W ((hT p hp).upon hW) (hs p hp).jid (hs p hp).name (hs p hp).groups (hs p hp).each
 have HNM:Hid (∀ p∈l,p.1.name.length≤1000000):=fun p hp=>(hs p hp).name
 have HF:=Lib.hid (fun (u:Value) (L:List (aZ × bm)) (j:List UInt8) (W:World) (h:ReadI W.heap.size W u L) (h2:L.length≤1000000)=>jI u L j W h h2);have HS:=Lib.hid (fun (u:Value) (L:List (aZ × bm)) (W:World) (h:ReadI W.heap.size W u L) (h2:L.length≤1000000) (h3:∀ p∈L,p.1.jid.length≤140737488355328)=>nt u L W h h2 h3);have HFS:Hid (∀ (L l2:List (aZ × bm)),L.length≤most→(∀ p∈L,NearI p.1)→(L.map (·.1.jid)).Nodup→l2.map (·.1)=an vz (L.map (·.1))→od most l2):=fun L l2 h1 h2 h3 h4=>oF h1 h2 h3 h4
 have HB0:Hid (Below w.heap.size w w):=Below.refl _ _;clear hA hn hs hT;go_enter Tryz.func88,Tryz.ntmps88
 go_wp2_with fail
 go_loopw [5,6,7,8,9] (fun ov iv xv yv zv wr=>∃ (i:Nat) (L:List (aZ × bm)) (OA:Option Addr) (oc:Nat) (u7 u8 u9:Value),ov=.slice OA L.length oc∧iv=.int .i64 i∧xv=u7∧yv=u8∧zv=u9∧i≤n∧L.length≤most∧Hid (OwnV aq 6 53 w.heap.size wr (.slice OA L.length oc) L)∧Hid (∀ p∈L,OwnT w.heap.size wr (sl p.2) (ac p.1.groups))∧Hid (∀ p∈L,NearI p.1)∧Hid ((L.map (·.1.jid)).Nodup)∧Hid (Below w.heap.size w wr)) (fun _ iv _ _ _ _=>n - (intOf iv).toNat)
 case atStart=>exact⟨0,[],none,0,_,_,_,rfl,rfl,rfl,rfl,rfl,Nat.zero_le _,Nat.zero_le _,OwnV.nil,fun p hp=>by (cases hp),fun p hp=>by (cases hp),List.nodup_nil,HB0⟩
 case round =>
  clear HB0
  obtain⟨i,L,OA,oc,u7,u8,u9,rfl,rfl,hu7,hu8,hu9,hi,hLm,HO,HG,HNR,HND,BW⟩:=hrel
  have h7:=hu7.symm;have h8:=hu8.symm;have h9:=hu9.symm;clear hu7 hu8 hu9;subst h7 h8 h9
  obtain⟨m,hm2⟩:∃ m,L.length=m:=⟨_,rfl⟩
  have HML:=Lib.hid hm2;rw[hm2] at HO hLm;rw[hm2];clear hm2
  go_upto_region 3 with fail
  go_cut [19] from 10 to 19 (fun s wx=>s=.bool (decide (i < n)&&decide (m < most))∧wx=wr)
  case first =>
   by_cases hlt:i < n
   · have hltd:decide (i < n)=true:=decide_eq_true hlt
     have hlti:decide ((i:Int) < (n:Int))=true:=decide_eq_true (by omega)
     by_cases h4:m < most
     · have h4d:decide (m < most)=true:=decide_eq_true h4
       have h4i:decide ((m:Int) < (most:Int))=true:=decide_eq_true (by omega)
       go_wp2_with fail
       go_meet
       exact⟨by rw[hltd,h4d];first | rfl | (rw[h4i];rfl),rfl⟩
     · have h4d:decide (m < most)=false:=decide_eq_false h4
       have h4i:decide ((m:Int) < (most:Int))=false:=decide_eq_false (by omega)
       go_wp2_with fail
       go_meet
       exact⟨by rw[hltd,h4d];first | rfl | (rw[h4i];rfl),rfl⟩
   · have hltd:decide (i < n)=false:=decide_eq_false hlt
     have hlti:decide ((i:Int) < (n:Int))=false:=decide_eq_false (by omega)
     go_wp2_with fail
     go_meet
     exact⟨by rw[hltd];rfl,rfl⟩
  case rest =>
  obtain⟨hsl9,hwc⟩:=hcut
  have hwc2:=hwc.symm;subst hwc2;clear hwc
  obtain⟨cb,hcb⟩:∃ b,(decide (i < n)&&decide (m < most))=b:=⟨_,rfl⟩
  rw[hcb] at hsl9;subst hsl9;cases cb with
  | false =>
    clear hcb;have hrd:ReadI wr.heap.size wr (.slice OA m oc) L:=ReadI.of_row (HO.out.row (fun _=>rfl)) (fun p hp=>(HG.out p hp).reads);have HSS:=Lib.hid (HS.out (.slice OA m oc) L wr hrd (by rw[HML.out];omega) (fun p hp=>by
     obtain⟨s,k,e⟩:=(HNR.out p hp).jid
     rw[e];exact Nat.le_trans (fR s k) (by decide)))
    clear hrd
    go_wp2_with fail
    refine HSS.out.mono ?_;rintro e w2 ⟨⟨v',l',rfl,h1,hmm,h2⟩,h3⟩;have h1b:OwnV aq 6 53 w.heap.size w2 v' l':=(show OwnV aq 6 53 wr.heap.size w2 v' l' from h1).weak BW.out.size;have hgg:∀ p∈l',OwnT w.heap.size w2 (sl p.2) (ac p.1.groups):=fun p hp=>(HG.out p (hmm p hp)).below h3
    have BZ:Below w.heap.size w w2:=BW.out.trans (h3.mono BW.out.size);have hfew:=HFS.out L l' (by rw[HML.out];exact hLm) HNR.out HND.out h2
    go_wp2_with fail
    go_ret
    exact⟨⟨_,l',rfl,h1b,hgg,hfew⟩,BZ⟩
  | true =>
    obtain⟨hlt9,h49⟩:=Bool.and_eq_true_iff.1 hcb
    have hlt:i < n:=of_decide_eq_true hlt9;have h4:m < most:=of_decide_eq_true h49;clear hlt9 h49 hcb;have hiz:(i:Int) < (n:Int):=by omega
    have hi0:(0:Int)≤(i:Int):=by omega
    obtain⟨b,off,rfl,hcell⟩:=HA.out (by omega)
    obtain⟨p,hp⟩:∃ p,l[i]?=some p:=⟨_,List.getElem?_eq_getElem (by rw[HN.out];exact hlt)⟩
    have hpm:p∈l:=List.mem_of_getElem? hp;have hnm:=HNM.out p hpm
    obtain⟨P,hP⟩:∃ P,off+i*6=P:=⟨_,rfl⟩
    have HC:Hid (∀ W,Below w.heap.size w W→∀ c u,(aq p)[c]?=some u→W.cell? ⟨b,P+c,none⟩=some u):=fun W hW c u hu=>by rw[← hP];exact hcell W hW i p hp c u hu
    obtain⟨q,hq⟩:∃ q,i+p.1.name.length=q:=⟨_,rfl⟩
    have HPX:Hid (∀ W,Below w.heap.size w W→Calls Tryz.prog 114 #[fp p.1 (sl p.2),.int .i64 q] W fun e w'=>(∃ d g,e=.returned (fp d g)∧NearI d∧OwnT W.heap.size w' g (ac d.groups))∧Below W.heap.size W w'):=fun W hW=>HPI.out p hpm q (by omega) W hW
    obtain⟨⟨xj,xm,xg,xs,xk,xa⟩,xA,xn,xc⟩:=p
    dsimp only at hnm hq;have eag:fp ⟨xj,xm,xg,xs,xk,xa⟩ (sl (xA,xn,xc))=.agg #[.string (aa xj),.string (aa xm),.slice xA xn xc,.int .i64 xs,.bool xk,.bool xa]:=rfl;have eis:aq (⟨xj,xm,xg,xs,xk,xa⟩,xA,xn,xc)=[.string (aa xj),.string (aa xm),.slice xA xn xc,.int .i64 xs,.bool xk,.bool xa]:=rfl;dsimp only at HPX;rw[eag] at HPX;rw[eis] at HC;have hMs:(aa xm).size=xm.length:=by rw[Lib.size_eq]
    obtain⟨X,hX⟩:∃ J,aa xj=J:=⟨_,rfl⟩
    obtain⟨M,hM⟩:∃ J,aa xm=J:=⟨_,rfl⟩
    rw[hX,hM] at HPX HC;rw[hM] at hMs;have hMz:wrap64 ((i:Int)+(M.size:Int))=(q:Int):=by rw[hMs,← hq];unfold wrap64;omega
    have hMw:IntKind.i64.wrap ((i:Int)+(M.size:Int))=(q:Int):=by rw[hMs,← hq,IntKind.wrap_i64];omega
    have HC0:Hid (∀ W,Below w.heap.size w W→W.cell? ⟨b,P,none⟩=some (.string X)):=fun W hW=>HC.out W hW 0 _ rfl
    have HC1:Hid (∀ W,Below w.heap.size w W→W.cell? ⟨b,P+1,none⟩=some (.string M)):=fun W hW=>HC.out W hW 1 _ rfl
    have HC2:Hid (∀ W,Below w.heap.size w W→W.cell? ⟨b,P+2,none⟩=some (.slice xA xn xc)):=fun W hW=>HC.out W hW 2 _ rfl
    have HC3:Hid (∀ W,Below w.heap.size w W→W.cell? ⟨b,P+3,none⟩=some (.int .i64 xs)):=fun W hW=>HC.out W hW 3 _ rfl
    have HC4:Hid (∀ W,Below w.heap.size w W→W.cell? ⟨b,P+4,none⟩=some (.bool xk)):=fun W hW=>HC.out W hW 4 _ rfl
    have HC5:Hid (∀ W,Below w.heap.size w W→W.cell? ⟨b,P+5,none⟩=some (.bool xa)):=fun W hW=>HC.out W hW 5 _ rfl
    have HDW:Hid (w.heap.size≤wr.heap.size):=BW.out.size;have HUP:Hid (∀ W,Below wr.heap.size wr W→Below w.heap.size w W):=fun W hW=>BW.out.trans (hW.mono BW.out.size)
    clear HC hcell hp hpm hX hM hMs hnm hq eag eis
    go_upto_region 5 with fail
    go_cut [7] from 22 to 34 (fun s wx=>∃ (H:Nat) (d:aZ) (g:bm),s=.pointer (some ⟨H,0,none⟩)∧Hid (Bk wx H 53 (aq (d,g)).toArray)∧Hid (NearI d)∧Hid (OwnT wr.heap.size wx (sl g) (ac d.groups))∧Hid (Below wr.heap.size wr wx)∧Hid (wr.heap.size≤H))
    case first K1 K0 hJ1 hK0 =>
     have bN:Below wr.heap.size wr wr.drew:=(Below.refl _ _).drew;refine wp_region_held_drew (S:=fun w'=>Below wr.heap.size wr w'∧w'.cell? ⟨b,P,none⟩=some (.string X)∧w'.cell? ⟨b,P+1,none⟩=some (.string M)∧w'.cell? ⟨b,P+2,none⟩=some (.slice xA xn xc)∧w'.cell? ⟨b,P+3,none⟩=some (.int .i64 xs)∧w'.cell? ⟨b,P+4,none⟩=some (.bool xk)∧w'.cell? ⟨b,P+5,none⟩=some (.bool xa)) (by kernel_rfl) ?_ (fun hHeld=>?_)
     · exact⟨bN,HC0.out _ (HUP.out _ bN),HC1.out _ (HUP.out _ bN),HC2.out _ (HUP.out _ bN),HC3.out _ (HUP.out _ bN),HC4.out _ (HUP.out _ bN),HC5.out _ (HUP.out _ bN)⟩
     obtain⟨wd,hwd⟩:∃ z,wr.drew=z:=⟨_,rfl⟩
     rw[hwd] at bN hHeld ⊢;clear hwd;refine az 0 (some 22) ?v1 ?y1 ?n1
     case y1=>intro w hSw;(try dsimp only at hSw);go_simp;try with_reducible rfl
     try simp only[Act.put,List.setIfInBounds_toArray,List.set_cons_zero,List.set_cons_succ]
     refine az 1 (some 23) ?v2 ?y2 ?n2
     case y2=>intro w hSw;(try dsimp only at hSw);go_simp;try with_reducible rfl
     try simp only[Act.put,List.setIfInBounds_toArray,List.set_cons_zero,List.set_cons_succ]
     refine az 2 (some 24) ?v3 ?y3 ?n3
     case y3=>intro w hSw;(try dsimp only at hSw);go_simp;try with_reducible rfl
     try simp only[Act.put,List.setIfInBounds_toArray,List.set_cons_zero,List.set_cons_succ]
     refine az 3 (some 25) ?v4 ?y4 ?n4
     case y4=>intro w hSw;(try dsimp only at hSw);go_simp;try with_reducible rfl
     try simp only[Act.put,List.setIfInBounds_toArray,List.set_cons_zero,List.set_cons_succ]
     refine az 4 (some 26) ?v5 ?y5 ?n5
     case y5=>intro w hSw;(try dsimp only at hSw);go_simp;try with_reducible rfl
     try simp only[Act.put,List.setIfInBounds_toArray,List.set_cons_zero,List.set_cons_succ]
     refine az 5 (some 27) ?v6 ?y6 ?n6
     case y6=>intro w hSw;(try dsimp only at hSw);go_simp;try with_reducible rfl
     try simp only[Act.put,List.setIfInBounds_toArray,List.set_cons_zero,List.set_cons_succ]
     refine az 6 (some 28) ?v7 ?y7 ?n7
     case y7=>intro w hSw;(try dsimp only at hSw);go_simp;try with_reducible rfl
     try simp only[Act.put,List.setIfInBounds_toArray,List.set_cons_zero,List.set_cons_succ]
     refine az 7 (some 29) ?v8 ?y8 ?n8
     case y8=>intro w hSw;(try dsimp only at hSw);go_simp;try with_reducible rfl
     try simp only[Act.put,List.setIfInBounds_toArray,List.set_cons_zero,List.set_cons_succ]
     refine az 8 (some 30) ?v9 ?y9 ?n9
     case y9=>intro w hSw;(try dsimp only at hSw);go_simp;try with_reducible rfl
     try simp only[Act.put,List.setIfInBounds_toArray,List.set_cons_zero,List.set_cons_succ]
     refine az 9 (some 31) ?v10 ?y10 ?n10
     case y10=>intro w hSw;(try dsimp only at hSw);go_simp;try with_reducible rfl
     try simp only[Act.put,List.setIfInBounds_toArray,List.set_cons_zero,List.set_cons_succ]
     refine az 10 (some 32) ?v11 ?y11 ?n11
     case y11=>intro w hSw;(try dsimp only at hSw);go_simp;try with_reducible rfl
     try simp only[Act.put,List.setIfInBounds_toArray,List.set_cons_zero,List.set_cons_succ]
     refine az 11 (some 33) ?v12 ?y12 ?n12
     case y12=>intro w hSw;(try dsimp only at hSw);go_simp;try with_reducible rfl
     try simp only[Act.put,List.setIfInBounds_toArray,List.set_cons_zero,List.set_cons_succ]
     refine wpAnyH_ready (rs:=[12,13]) (by kernel_rfl) (by simp) ?_;refine AllReadyH.cons (i:=12) rfl (fun K hK=>?_) (AllReadyH.cons (i:=13) rfl (fun K hK=>?_) AllReadyH.nil)
     · go_simp
       refine(HPX.out wd (HUP.out wd bN)).mono ?_
       rintro e wv1 ⟨⟨d,gv,rfl,hnd,hog⟩,bC⟩
       obtain⟨GA,gc,hgv⟩:=hog.slice
       obtain⟨gn,hgn⟩:∃ n,(ac d.groups).length=n:=⟨_,rfl⟩
       rw[hgn] at hgv;subst hgv;have ND:=Lib.hid hnd;have hog:=hog.weakT bN.size;have bN:=bN.trans (bC.mono bN.size);clear hnd bC hgn;have hag:fp d (.slice GA gn gc)=.agg #[.string (aa d.jid),.string (aa d.name),.slice GA gn gc,.int .i64 d.sub,.bool d.ask,.bool d.app]:=rfl;rw[hag];clear hag
       obtain⟨J0,hJ0⟩:∃ J,aa d.jid=J:=⟨_,rfl⟩
       obtain⟨N0,hN0⟩:∃ J,aa d.name=J:=⟨_,rfl⟩
       obtain⟨S0,hS0⟩:∃ J,d.sub=J:=⟨_,rfl⟩
       obtain⟨K0b,hK0b⟩:∃ J,d.ask=J:=⟨_,rfl⟩
       obtain⟨P0b,hP0b⟩:∃ J,d.app=J:=⟨_,rfl⟩
       have HEN:Hid (aq (d,GA,gn,gc)=[.string J0,.string N0,.slice GA gn gc,.int .i64 S0,.bool K0b,.bool P0b]):=by unfold Hid;rw[← hJ0,← hN0,← hS0,← hK0b,← hP0b];rfl
       rw[hJ0,hN0,hS0,hK0b,hP0b];clear hJ0 hN0 hS0 hK0b hP0b
       go_wp2_with fail
       refine hK.out _ _ ?_ (fun hHeld=>?_)
       · exact⟨bN,HC0.out _ (HUP.out _ bN),HC1.out _ (HUP.out _ bN),HC2.out _ (HUP.out _ bN),HC3.out _ (HUP.out _ bN),HC4.out _ (HUP.out _ bN),HC5.out _ (HUP.out _ bN)⟩
       clear hK K
       try simp only[Act.put,List.setIfInBounds_toArray,List.set_cons_zero,List.set_cons_succ]
       refine wpAnyH_ready (rs:=[13]) (by kernel_rfl) (by simp) ?_;refine AllReadyH.cons (i:=13) rfl (fun K hK=>?_) AllReadyH.nil;go_simp
       obtain⟨wv2,hwv2⟩:∃ z,World.alloc wv1 (.cells #[.string ⟨#[]⟩,.string ⟨#[]⟩,.slice none 0 0,.int .i64 0,.bool false,.bool false] 53)=z:=⟨_,rfl⟩
       obtain⟨D,hD⟩:∃ D,wv1.heap.size=D:=⟨_,rfl⟩
       have kD:Bk wv2 D 53 #[.string ⟨#[]⟩,.string ⟨#[]⟩,.slice none 0 0,.int .i64 0,.bool false,.bool false]:=by rw[← hwv2,← hD];exact Bk.new _ _ _
       have hDW:wr.heap.size≤D:=by rw[← hD];exact bN.size
       have hog:OwnT wr.heap.size wv2 (.slice GA gn gc) (ac d.groups):=by rw[← hwv2];exact hog.below ((Below.refl _ _).alloc (Nat.le_refl _) _)
       have bN:=bN.alloc bN.size (.cells #[.string ⟨#[]⟩,.string ⟨#[]⟩,.slice none 0 0,.int .i64 0,.bool false,.bool false] 53);rw[hwv2] at bN;(try rw[hwv2]);(try rw[hD]);clear hwv2 hD;refine hK.out _ _ ?_ (fun hHeld=>?_)
       · exact⟨bN,HC0.out _ (HUP.out _ bN),HC1.out _ (HUP.out _ bN),HC2.out _ (HUP.out _ bN),HC3.out _ (HUP.out _ bN),HC4.out _ (HUP.out _ bN),HC5.out _ (HUP.out _ bN)⟩
       clear hK K
       try simp only[Act.put,List.setIfInBounds_toArray,List.set_cons_zero,List.set_cons_succ]
       refine wpAnyH_ready (rs:=[14]) (by kernel_rfl) (by simp) ?_;refine AllReadyH.cons (i:=14) rfl (fun K hK=>?_) AllReadyH.nil;go_simp;have y0:=kD.cell 0;have z0:=kD.free 0;have y1:=kD.cell 1;have z1:=kD.free 1;have y2:=kD.cell 2;have z2:=kD.free 2;have y3:=kD.cell 3;have z3:=kD.free 3;have y4:=kD.cell 4;have z4:=kD.free 4;have y5:=kD.cell 5;have z5:=kD.free 5;go_simp;have hog:=hog.butT (gC wv2 D (.string J0) (.string N0) (.slice GA gn gc) (.int .i64 S0) (.bool K0b) (.bool P0b)) kD (by decide);have kD:=bo kD (.string J0) (.string N0) (.slice GA gn gc) (.int .i64 S0) (.bool K0b) (.bool P0b);have bN:=aE bN hDW (.string J0) (.string N0) (.slice GA gn gc) (.int .i64 S0) (.bool K0b) (.bool P0b);refine hK.out _ _ ?_ (fun hHeld=>?_)
       · exact⟨bN,HC0.out _ (HUP.out _ bN),HC1.out _ (HUP.out _ bN),HC2.out _ (HUP.out _ bN),HC3.out _ (HUP.out _ bN),HC4.out _ (HUP.out _ bN),HC5.out _ (HUP.out _ bN)⟩
       clear hK K
       try simp only[Act.put,List.setIfInBounds_toArray,List.set_cons_zero,List.set_cons_succ]
       refine wpAnyH_done (by kernel_rfl) ?_ _;refine hK0 _ _ (Met.intro (hJ1 _ _ ?_))
       (repeat apply Exists.intro)
       refine⟨?_,rfl⟩
       exact⟨D,d,(GA,gn,gc),rfl,by unfold Hid;rw[HEN.out];exact kD,ND,hog,bN,hDW⟩
     · go_simp
       obtain⟨wv1,hwv1⟩:∃ z,World.alloc wd (.cells #[.string ⟨#[]⟩,.string ⟨#[]⟩,.slice none 0 0,.int .i64 0,.bool false,.bool false] 53)=z:=⟨_,rfl⟩
       obtain⟨D,hD⟩:∃ D,wd.heap.size=D:=⟨_,rfl⟩
       have kD:Bk wv1 D 53 #[.string ⟨#[]⟩,.string ⟨#[]⟩,.slice none 0 0,.int .i64 0,.bool false,.bool false]:=by rw[← hwv1,← hD];exact Bk.new _ _ _
       have hDW:wr.heap.size≤D:=by rw[← hD];exact bN.size
       have bN:=bN.alloc bN.size (.cells #[.string ⟨#[]⟩,.string ⟨#[]⟩,.slice none 0 0,.int .i64 0,.bool false,.bool false] 53);rw[hwv1] at bN;(try rw[hwv1]);(try rw[hD]);clear hwv1 hD;refine hK.out _ _ ?_ (fun hHeld=>?_)
       · exact⟨bN,HC0.out _ (HUP.out _ bN),HC1.out _ (HUP.out _ bN),HC2.out _ (HUP.out _ bN),HC3.out _ (HUP.out _ bN),HC4.out _ (HUP.out _ bN),HC5.out _ (HUP.out _ bN)⟩
       clear hK K
       try simp only[Act.put,List.setIfInBounds_toArray,List.set_cons_zero,List.set_cons_succ]
       refine wpAnyH_ready (rs:=[12]) (by kernel_rfl) (by simp) ?_;refine AllReadyH.cons (i:=12) rfl (fun K hK=>?_) AllReadyH.nil;go_simp
       refine(HPX.out wv1 (HUP.out wv1 bN)).mono ?_
       rintro e wv2 ⟨⟨d,gv,rfl,hnd,hog⟩,bC⟩
       obtain⟨GA,gc,hgv⟩:=hog.slice
       obtain⟨gn,hgn⟩:∃ n,(ac d.groups).length=n:=⟨_,rfl⟩
       rw[hgn] at hgv;subst hgv;have ND:=Lib.hid hnd;have hog:=hog.weakT bN.size;have kD:=kD.below bC kD.lt;have bN:=bN.trans (bC.mono bN.size);clear hnd bC hgn;have hag:fp d (.slice GA gn gc)=.agg #[.string (aa d.jid),.string (aa d.name),.slice GA gn gc,.int .i64 d.sub,.bool d.ask,.bool d.app]:=rfl;rw[hag];clear hag
       obtain⟨J0,hJ0⟩:∃ J,aa d.jid=J:=⟨_,rfl⟩
       obtain⟨N0,hN0⟩:∃ J,aa d.name=J:=⟨_,rfl⟩
       obtain⟨S0,hS0⟩:∃ J,d.sub=J:=⟨_,rfl⟩
       obtain⟨K0b,hK0b⟩:∃ J,d.ask=J:=⟨_,rfl⟩
       obtain⟨P0b,hP0b⟩:∃ J,d.app=J:=⟨_,rfl⟩
       have HEN:Hid (aq (d,GA,gn,gc)=[.string J0,.string N0,.slice GA gn gc,.int .i64 S0,.bool K0b,.bool P0b]):=by unfold Hid;rw[← hJ0,← hN0,← hS0,← hK0b,← hP0b];rfl
       rw[hJ0,hN0,hS0,hK0b,hP0b];clear hJ0 hN0 hS0 hK0b hP0b
       go_wp2_with fail
       refine hK.out _ _ ?_ (fun hHeld=>?_)
       · exact⟨bN,HC0.out _ (HUP.out _ bN),HC1.out _ (HUP.out _ bN),HC2.out _ (HUP.out _ bN),HC3.out _ (HUP.out _ bN),HC4.out _ (HUP.out _ bN),HC5.out _ (HUP.out _ bN)⟩
       clear hK K
       try simp only[Act.put,List.setIfInBounds_toArray,List.set_cons_zero,List.set_cons_succ]
       refine wpAnyH_ready (rs:=[14]) (by kernel_rfl) (by simp) ?_;refine AllReadyH.cons (i:=14) rfl (fun K hK=>?_) AllReadyH.nil;go_simp;have y0:=kD.cell 0;have z0:=kD.free 0;have y1:=kD.cell 1;have z1:=kD.free 1;have y2:=kD.cell 2;have z2:=kD.free 2;have y3:=kD.cell 3;have z3:=kD.free 3;have y4:=kD.cell 4;have z4:=kD.free 4;have y5:=kD.cell 5;have z5:=kD.free 5;go_simp;have hog:=hog.butT (gC wv2 D (.string J0) (.string N0) (.slice GA gn gc) (.int .i64 S0) (.bool K0b) (.bool P0b)) kD (by decide);have kD:=bo kD (.string J0) (.string N0) (.slice GA gn gc) (.int .i64 S0) (.bool K0b) (.bool P0b);have bN:=aE bN hDW (.string J0) (.string N0) (.slice GA gn gc) (.int .i64 S0) (.bool K0b) (.bool P0b);refine hK.out _ _ ?_ (fun hHeld=>?_)
       · exact⟨bN,HC0.out _ (HUP.out _ bN),HC1.out _ (HUP.out _ bN),HC2.out _ (HUP.out _ bN),HC3.out _ (HUP.out _ bN),HC4.out _ (HUP.out _ bN),HC5.out _ (HUP.out _ bN)⟩
       clear hK K
       try simp only[Act.put,List.setIfInBounds_toArray,List.set_cons_zero,List.set_cons_succ]
       refine wpAnyH_done (by kernel_rfl) ?_ _;refine hK0 _ _ (Met.intro (hJ1 _ _ ?_))
       (repeat apply Exists.intro)
       refine⟨?_,rfl⟩
       exact⟨D,d,(GA,gn,gc),rfl,by unfold Hid;rw[HEN.out];exact kD,ND,hog,bN,hDW⟩
    case rest =>
    obtain⟨H,d,g,rfl,KH,HND2,HOG,BX,hHD⟩:=hcut
    have HHD:Hid (wr.heap.size≤H):=hHD;clear hHD
    obtain⟨wz,hwz⟩:∃ z,z=wc:=⟨_,rfl⟩
    rw[← hwz] at KH HOG BX ⊢;clear hwz;have BZ:Hid (Below w.heap.size w wz):=HUP.out wz BX.out;have OZ:=Lib.hid (HO.out.below BX.out);have GZ:Hid (∀ p∈L,OwnT w.heap.size wz (sl p.2) (ac p.1.groups)):=fun p hp=>(HG.out p hp).below BX.out
    have GD:Hid (OwnT w.heap.size wz (sl g) (ac d.groups)):=HOG.out.weakT HDW.out;have hrd:ReadI wz.heap.size wz (.slice OA m oc) L:=ReadI.of_row (OZ.out.row (fun _=>rfl)) (fun p hp=>(GZ.out p hp).reads);have HFX:=Lib.hid (HF.out (.slice OA m oc) L d.jid wz hrd (by rw[HML.out];omega))
    obtain⟨dj,dm,dg,ds,dk,da⟩:=d
    obtain⟨GA,gn,gc⟩:=g
    have eis:(aq (⟨dj,dm,dg,ds,dk,da⟩,GA,gn,gc)).toArray=#[.string (aa dj),.string (aa dm),.slice GA gn gc,.int .i64 ds,.bool dk,.bool da]:=rfl;have HEIS:=Lib.hid eis;rw[eis] at KH;dsimp only at HFX GD
    obtain⟨J0,hJ0⟩:∃ J,aa dj=J:=⟨_,rfl⟩
    obtain⟨N0,hN0⟩:∃ J,aa dm=J:=⟨_,rfl⟩
    rw[hJ0] at HFX;rw[hJ0,hN0] at KH HEIS;have k0:wz.cell? ⟨H,0,none⟩=some (.string J0):=KH.out.cell 0;clear hrd eis hJ0 hN0 HO HG HOG
    go_wp2_with fail
    refine HFX.out.mono ?_;rintro e w2 ⟨b2,hcase⟩;have KH2:=Lib.hid (KH.out.below b2 KH.out.lt);have O2:=Lib.hid (OZ.out.below b2);have G2:Hid (∀ p∈L,OwnT w.heap.size w2 (sl p.2) (ac p.1.groups)):=fun p hp=>(GZ.out p hp).below b2
    have GD2:=Lib.hid (GD.out.below b2);have B2:Hid (Below w.heap.size w w2):=BZ.out.trans (b2.mono BZ.out.size)
    obtain⟨Wa,hWa⟩:∃ W,w2.alloc (.cells #[.string ⟨#[]⟩,.string ⟨#[]⟩,.slice none 0 0,.int .i64 0,.bool false,.bool false] 53)=W:=⟨_,rfl⟩
    obtain⟨R,hRR⟩:∃ b,w2.heap.size=b:=⟨_,rfl⟩
    have KA:Hid (Bk Wa R 53 #[.string ⟨#[]⟩,.string ⟨#[]⟩,.slice none 0 0,.int .i64 0,.bool false,.bool false]):=by rw[← hWa,← hRR];exact Bk.new _ _ _
    have BA:Below w2.heap.size w2 Wa:=by rw[← hWa];exact(Below.refl _ _).alloc (Nat.le_refl _) _
    have HRW:Hid (w2.heap.size≤R):=by rw[← hRR];exact Nat.le_refl _
    have r0:=KA.out.cell 0;have r1:=KA.out.cell 1;have r2:=KA.out.cell 2;have r3:=KA.out.cell 3;have r4:=KA.out.cell 4;have r5:=KA.out.cell 5;have s0:=KA.out.free 0;have s1:=KA.out.free 1;have s2:=KA.out.free 2;have s3:=KA.out.free 3;have s4:=KA.out.free 4;have s5:=KA.out.free 5;simp only[List.getElem?_toArray,List.getElem?_cons_zero,List.getElem?_cons_succ] at r0 r1 r2 r3 r4 r5;clear b2 HFX KH OZ GZ GD BZ k0;rcases hcase with ⟨hnone,rfl⟩ | ⟨y,hyes,rfl⟩
    · have HNI:Hid (dj ∉ L.map (·.1.jid)):=my hnone
      clear hnone;have hz:vB=.agg #[.string ⟨#[]⟩,.string ⟨#[]⟩,.slice none 0 0,.int .i64 0,.bool false,.bool false]:=rfl;rw[hz];have KB:=Lib.hid (bo KA.out (.string ⟨#[]⟩) (.string ⟨#[]⟩) (.slice none 0 0) (.int .i64 0) (.bool false) (.bool false));have BB0:=Lib.hid (aE BA HRW.out (.string ⟨#[]⟩) (.string ⟨#[]⟩) (.slice none 0 0) (.int .i64 0) (.bool false) (.bool false))
      obtain⟨Wb,hWb⟩:∃ z,cF Wa R (.string ⟨#[]⟩) (.string ⟨#[]⟩) (.slice none 0 0) (.int .i64 0) (.bool false) (.bool false)=z:=⟨_,rfl⟩
      rw[hWb] at KB BB0;clear BA
      go_upto_region 7 with fail
      (try rw[hWb]);clear hWa hRR hWb r0 r1 r2 r3 r4 r5 s0 s1 s2 s3 s4 s5 hz;have n0:Wb.cell? ⟨H,0,none⟩=some (.string J0):=(KH2.out.below BB0.out KH2.out.lt).cell 0;have n1:Wb.cell? ⟨H,1,none⟩=some (.string N0):=(KH2.out.below BB0.out KH2.out.lt).cell 1;have n2:Wb.cell? ⟨H,2,none⟩=some (.slice GA gn gc):=(KH2.out.below BB0.out KH2.out.lt).cell 2;have n3:Wb.cell? ⟨H,3,none⟩=some (.int .i64 ds):=(KH2.out.below BB0.out KH2.out.lt).cell 3;have n4:Wb.cell? ⟨H,4,none⟩=some (.bool dk):=(KH2.out.below BB0.out KH2.out.lt).cell 4;have n5:Wb.cell? ⟨H,5,none⟩=some (.bool da):=(KH2.out.below BB0.out KH2.out.lt).cell 5
      obtain⟨Wc,hWc⟩:∃ W,Wb.alloc (.cells #[.string J0,.string N0,.slice GA gn gc,.int .i64 ds,.bool dk,.bool da] 53)=W:=⟨_,rfl⟩
      obtain⟨Q,hQ⟩:∃ b,Wb.heap.size=b:=⟨_,rfl⟩
      have KC:Hid (Bk Wc Q 53 #[.string J0,.string N0,.slice GA gn gc,.int .i64 ds,.bool dk,.bool da]):=by rw[← hWc,← hQ];exact Bk.new _ _ _
      have BC:Hid (Below Wb.heap.size Wb Wc):=by rw[← hWc];exact(Below.refl _ _).alloc (Nat.le_refl _) _
      have OC:=Lib.hid ((O2.out.below BB0.out).below BC.out);have GC:Hid (∀ p∈L,OwnT w.heap.size Wc (sl p.2) (ac p.1.groups)):=fun p hp=>((G2.out p hp).below BB0.out).below BC.out
      have GDC:Hid (OwnT w.heap.size Wc (sl (GA,gn,gc)) (ac dg)):=(GD2.out.below BB0.out).below BC.out;have BWC:Hid (Below w.heap.size w Wc):=B2.out.trans ((BB0.out.trans (BC.out.mono BB0.out.size)).mono B2.out.size);have HSZ:Hid (w.heap.size≤Wc.heap.size):=BWC.out.size
      go_wp2_with (at_builtin;(try rw[hWc]);(try rw[hQ]);refine BigFrame.wpList_want rfl (fun K hK=>?_);refine uZ _ _ rfl w.heap.size (.slice OA m oc) ⟨Q,0,none⟩ L (⟨dj,dm,dg,ds,dk,da⟩,GA,gn,gc) Wc HSZ.out rfl OC.out rfl (fun j u hj=>by rw[aJ,Nat.zero_add,KC.out.cell,← HEIS.out,List.getElem?_toArray];exact hj) (by rw[HML.out];omega) ?_;intro v9 w9 o9 b9 f9;refine hK _ _ ?_;clear hK K)
      have OG9:Hid (∀ p∈L++[((⟨dj,dm,dg,ds,dk,da⟩:aZ),(GA,gn,gc))],OwnT w.heap.size w9 (sl p.2) (ac p.1.groups)):=fun p hp=>by
       rcases List.mem_append.1 hp with hp | hp
       · exact(GC.out p hp).far_row OC.out (by decide) f9
       · obtain rfl:=List.mem_singleton.1 hp
         exact GDC.out.far_row OC.out (by decide) f9
      have NR9:Hid (∀ p∈L++[((⟨dj,dm,dg,ds,dk,da⟩:aZ),(GA,gn,gc))],NearI p.1):=fun p hp=>by
       rcases List.mem_append.1 hp with hp | hp
       · exact HNR.out p hp
       · obtain rfl:=List.mem_singleton.1 hp
         exact HND2.out
      have ND9:Hid (((L++[((⟨dj,dm,dg,ds,dk,da⟩:aZ),(GA,gn,gc))]).map (·.1.jid)).Nodup):=by
       unfold Hid;rw[List.map_append,List.nodup_append]
       refine⟨HND.out,by simp,fun a ha b hb e=>?_⟩
       have hb2:b=dj:=by simpa using hb
       rw[e,hb2] at ha;exact HNI.out ha
      have B9:Hid (Below w.heap.size w w9):=BWC.out.trans b9;have hll:(L++[((⟨dj,dm,dg,ds,dk,da⟩:aZ),(GA,gn,gc))]).length=m+1:=by rw[List.length_append,HML.out];rfl
      obtain⟨L9,hL9⟩:∃ L9,L++[((⟨dj,dm,dg,ds,dk,da⟩:aZ),(GA,gn,gc))]=L9:=⟨_,rfl⟩
      rw[hL9] at o9 OG9 NR9 ND9 hll
      obtain⟨A9,c9,hv9⟩:=o9.slice
      subst hv9;have O9:=Lib.hid o9;clear o9 b9 f9 hWc hQ
      go_wp2_with fail
      go_roundw
      case rel=>exact⟨i+1,L9,A9,c9,_,_,_,rfl,by go_num,rfl,rfl,rfl,by omega,by omega,O9,OG9,NR9,ND9,B9⟩
      case measure=>simp[intOf];omega
    · clear hyes
      obtain⟨⟨yj,ym,yg,ys,yk,ya⟩,yA,yn,yc⟩:=y
      have hz:fp ⟨yj,ym,yg,ys,yk,ya⟩ (sl (yA,yn,yc))=.agg #[.string (aa yj),.string (aa ym),.slice yA yn yc,.int .i64 ys,.bool yk,.bool ya]:=rfl;dsimp only;rw[hz]
      obtain⟨YJ,hYJ⟩:∃ J,aa yj=J:=⟨_,rfl⟩
      obtain⟨YM,hYM⟩:∃ J,aa ym=J:=⟨_,rfl⟩
      rw[hYJ,hYM];clear hz hYJ hYM;have KB:=Lib.hid (bo KA.out (.string YJ) (.string YM) (.slice yA yn yc) (.int .i64 ys) (.bool yk) (.bool ya));have BB0:=Lib.hid (aE BA HRW.out (.string YJ) (.string YM) (.slice yA yn yc) (.int .i64 ys) (.bool yk) (.bool ya))
      obtain⟨Wb,hWb⟩:∃ z,cF Wa R (.string YJ) (.string YM) (.slice yA yn yc) (.int .i64 ys) (.bool yk) (.bool ya)=z:=⟨_,rfl⟩
      rw[hWb] at KB BB0;clear BA
      go_wp2_with fail
      (try rw[hWb]);clear hWa hRR hWb r0 r1 r2 r3 r4 r5 s0 s1 s2 s3 s4 s5;have OC:=Lib.hid (O2.out.below BB0.out);have GC:Hid (∀ p∈L,OwnT w.heap.size Wb (sl p.2) (ac p.1.groups)):=fun p hp=>(G2.out p hp).below BB0.out
      have BWC:Hid (Below w.heap.size w Wb):=B2.out.trans (BB0.out.mono B2.out.size);go_roundw
      case rel=>exact⟨i+1,L,OA,oc,_,_,_,by rw[HML.out],by go_num,rfl,rfl,rfl,by omega,by rw[HML.out];omega,by rw[HML.out];exact OC,GC,HNR,HND,BWC⟩
      case measure=>simp[intOf];omega
end Go.Proofs.YtbgaglcgennhiaaGreatDoor
