import Derived.Test.YtbgaglcgennhiaaGreatDoorP36
import Derived.Deep.AppendLies
import Derived.BigQuiet
section
namespace Go.Proofs.YtbgaglcgennhiaaGreatDoor
open Go.RowKit Go.Sort Tx Ct
def OwnV {α:Type} (ai:α→List Value) (k:Nat) (t:TypeId) (B:Nat) (W:World) (v:Value) (l:List α):Prop:=W.ownsRow B t k v l.length (aO ai l)
theorem fP {α:Type} (ai:α→List Value) (a b:List α):aO ai (a++b)=aO ai a++aO ai b:=by unfold aO;rw[List.flatMap_append]
theorem OwnV.nil {α:Type} {ai:α→List Value} {k:Nat} {t:TypeId} {B:Nat} {W:World}:OwnV ai k t B W (.slice none 0 0) ([]:List α):=⟨by simp[aO],.inl ⟨rfl,rfl⟩⟩
theorem OwnV.rowB {α:Type} {ai:α→List Value} {k:Nat} {t:TypeId} {B:Nat} {W:World} {v:Value} {l:List α} (h:OwnV ai k t B W v l) (hk:∀ x,(ai x).length=k) (h0:0 < l.length):∃ g cap,v=.slice (some ⟨g,0,none⟩) l.length cap∧B≤g∧RowB ai k t W g l:=by
 rcases h.2 with ⟨_,h1⟩ | ⟨g,cap,cur,rfl,hge,hh,hnc,_,hcs,htk⟩
 · omega
 · refine⟨g,cap,rfl,hge,cur,hh,fun i p hp c u hu=>?_⟩
   have hcl:c < k:=by have:=(List.getElem?_eq_some_iff.1 hu).1;rw[hk] at this;exact this
   have hil:i < l.length:=(List.getElem?_eq_some_iff.1 hp).1;have e1:=cm hk l i c p hp hcl;rw[hu] at e1;have e2:(cur.toList.take (l.length*k))[i*k+c]?=some u:=by rw[htk];exact e1
   have hlt:i*k+c < l.length*k:=by
    have:=Nat.mul_le_mul_right k (show i+1≤l.length from hil)
    rw[Nat.add_mul,Nat.one_mul] at this;omega
   rw[List.getElem?_take,if_pos hlt,Array.getElem?_toList] at e2;exact e2
theorem OwnV.row {α:Type} {ai:α→List Value} {k:Nat} {t:TypeId} {B:Nat} {W:World} {v:Value} {l:List α} (h:OwnV ai k t B W v l) (hk:∀ x,(ai x).length=k):RowV ai k W.heap.size W v l:=by
 by_cases h0:0 < l.length
 · obtain⟨g,cap,rfl,_,hr⟩:=h.rowB hk h0
   exact hr.row hr.lt _ cap rfl
 · obtain rfl:l=[]:=List.length_eq_zero_iff.1 (by omega)
   rcases h.2 with ⟨rfl,_⟩ | ⟨g,cap,cur,rfl,_⟩
   · exact⟨none,0,rfl,fun h=>absurd h (by simp)⟩
   · exact⟨_,cap,rfl,fun h=>absurd h (by simp)⟩
theorem OwnV.slice {α:Type} {ai:α→List Value} {k:Nat} {t:TypeId} {B:Nat} {W:World} {v:Value} {l:List α} (h:OwnV ai k t B W v l):∃ A cap,v=.slice A l.length cap:=by
 rcases h.2 with ⟨rfl,h0⟩ | ⟨g,cap,cur,rfl,_⟩
 · rw[h0];exact⟨none,0,rfl⟩
 · exact⟨_,cap,rfl⟩
theorem OwnV.same {α:Type} {ai:α→List Value} {k:Nat} {t:TypeId} {B:Nat} {W W':World} {v:Value} {l:List α} (h:OwnV ai k t B W v l) (hb:∀ g,v.ownBlock=some g→W'.heap[g]?=W.heap[g]?):OwnV ai k t B W' v l:=by
 refine⟨h.1,?_⟩
 rcases h.2 with h1 | ⟨g,cap,cur,rfl,hge,hh,h3⟩
 · exact .inl h1
 · exact .inr ⟨g,cap,cur,rfl,hge,by rw[hb g rfl];exact hh,h3⟩
theorem OwnV.below {α:Type} {ai:α→List Value} {k:Nat} {t:TypeId} {B:Nat} {W W':World} {v:Value} {l:List α} (h:OwnV ai k t B W v l) (hb:Below W.heap.size W W'):OwnV ai k t B W' v l :=
 h.same fun g hg=>hb.block g (World.ownsRow.lt h g hg).2
theorem uZ {o:Oper} {a:Act} {Q:Exit→Act→World→Prop} {KK:Act→World→Prop} (s x:Operand) (ho:o.op=.call { callee:=.builtin .append,args:=#[s,x],argTypes:=#[25,25] })
 (B:Nat) (v:Value) (ad:Addr) (xs:List (aZ × bm)) (y:aZ × bm) (W:World) (hB:B≤W.heap.size) (hs:a.eval s=v) (hown:OwnV aq 6 53 B W v xs) (hx:a.eval x=.slice (some ad) 1 1)
 (hy:∀ j u,(aq y)[j]?=some u→W.cell? (ad.add j)=some u) (hn:xs.length≤1000000000)
 (h:∀ v' w',OwnV aq 6 53 B w' v' (xs++[y])→Below B W w'→(∀ q,q < W.heap.size→some q≠v.ownBlock→w'.heap[q]?=W.heap[q]?)→KK (a.put o.dst v') w'):Oper.wp Tryz.prog o a W KK Q:=by
 obtain⟨i0,hi,hz0,hz1,hz2⟩:=info_parts oS
 have hown':W.ownsRow B 53 6 v xs.length (aO aq xs):=hown;have e1:aO aq [y]=aq y:=by simp[aO]
 refine wp_append_own _ s x 25 ho B 53 i0 _ 6 72 Tryz.underlying25 hi hz0 hz1 hz2 rfl (by decide) v xs.length (aO aq xs) hs hown' ad 1 1 (aq y) hx rfl ?_ (vA y) ?_ (by omega) hB ?_
 · intro j u hj
   exact hy j u hj
 · unfold maxLen;omega
 · intro v' w' h1 hg _
   refine h v' w' ?_ ((Below.refl _ _).grown hg hB (fun j hj=>(World.ownsRow.lt hown' j hj).1)) (fun q hq hne=>hg.block q hq hne);unfold OwnV;rw[fP,e1,List.length_append];exact h1
theorem rf {ops:Array Oper} {o:Oper} {a:Act} {Q:Exit→Act→World→Prop} {KK:Act→World→Prop} {E:Prop} (hgd:o.guard=none) (s x:Operand) (ho:o.op=.call { callee:=.builtin .append,args:=#[s,x],argTypes:=#[45,45] })
 (B:Nat) (v:Value) (ad:Addr) (xs:List (aC)) (y:aC) (w0 W:World) (hW:Below B w0 W) (hB:B≤w0.heap.size) (hs:a.eval s=v) (hown:OwnV af 4 28 B W v xs) (hx:a.eval x=.slice (some ad) 1 1)
 (hy:∀ j u,(af y)[j]?=some u→W.cell? (ad.add j)=some u) (hn:xs.length≤1000000000)
 (h:∀ v' w',OwnV af 4 28 B w' v' (xs++[y])→Below B w0 w'→(∀ q,q < W.heap.size→some q≠v.ownBlock→w'.heap[q]?=W.heap[q]?)→KK (a.put o.dst v') w'):if Region.wanted o (yielded ops a.tmps)=true then Oper.wp Tryz.prog o a W KK Q else E:=by
 rw[if_pos (by simp[Region.wanted,hgd])]
 obtain⟨i0,hi,hz0,hz1,hz2⟩:=info_parts nU
 have hown':W.ownsRow B 28 4 v xs.length (aO af xs):=hown;have hsW:B≤W.heap.size:=Nat.le_trans hB hW.size;have e1:aO af [y]=af y:=by simp[aO]
 refine wp_append_own _ s x 45 ho B 28 i0 _ 4 80 Tryz.underlying45 hi hz0 hz1 hz2 rfl (by decide) v xs.length (aO af xs) hs hown' ad 1 1 (af y) hx rfl ?_ (vy y) ?_ (by omega) hsW ?_
 · intro j u hj
   exact hy j u hj
 · unfold maxLen;omega
 · intro v' w' h1 hg _
   refine h v' w' ?_ (hW.grown hg hsW (fun j hj=>(World.ownsRow.lt hown' j hj).1)) (fun q hq hne=>hg.block q hq hne);unfold OwnV;rw[fP,e1,List.length_append];exact h1
theorem uO {o:Oper} {a:Act} {Q:Exit→Act→World→Prop} {KK:Act→World→Prop} (s x:Operand) (ho:o.op=.call { callee:=.builtin .append,args:=#[s,x],argTypes:=#[22,22] })
 (B:Nat) (v:Value) (ad:Addr) (xs:List (aK)) (y:aK) (W:World) (hB:B≤W.heap.size) (hs:a.eval s=v) (hown:OwnV aA 2 47 B W v xs) (hx:a.eval x=.slice (some ad) 1 1)
 (hy:∀ j u,(aA y)[j]?=some u→W.cell? (ad.add j)=some u) (hn:xs.length≤1000000000)
 (h:∀ v' w',OwnV aA 2 47 B w' v' (xs++[y])→Below B W w'→(∀ q,q < W.heap.size→some q≠v.ownBlock→w'.heap[q]?=W.heap[q]?)→KK (a.put o.dst v') w'):Oper.wp Tryz.prog o a W KK Q:=by
 obtain⟨i0,hi,hz0,hz1,hz2⟩:=info_parts oM
 have hown':W.ownsRow B 47 2 v xs.length (aO aA xs):=hown;have e1:aO aA [y]=aA y:=by simp[aO]
 refine wp_append_own _ s x 22 ho B 47 i0 _ 2 40 Tryz.underlying22 hi hz0 hz1 hz2 rfl (by decide) v xs.length (aO aA xs) hs hown' ad 1 1 (aA y) hx rfl ?_ (vu y) ?_ (by omega) hB ?_
 · intro j u hj
   exact hy j u hj
 · unfold maxLen;omega
 · intro v' w' h1 hg _
   refine h v' w' ?_ ((Below.refl _ _).grown hg hB (fun j hj=>(World.ownsRow.lt hown' j hj).1)) (fun q hq hne=>hg.block q hq hne);unfold OwnV;rw[fP,e1,List.length_append];exact h1
theorem gL (W:World) (B cap:Nat):ReadT B W (sl (none,0,cap)) (ac []):=ReadT.nil _ _ _
def NoG (l:List (aZ × bm)):Prop:=∀ p∈l,p.1.groups=[]∧p.2=(none,0,0)
theorem iS {W:World} {v:Value} {l:List (aZ × bm)} (h:RowV aq 6 W.heap.size W v l) (hg:NoG l):ReadI W.heap.size W v l :=
 ReadI.of_row h fun p hp=>by
  obtain⟨h1,h2⟩:=hg p hp
  rw[h1,h2];exact gL W _ 0
theorem rp {W:World} {v:Value} {l:List (List UInt8)} (h:RowV jL 1 W.heap.size W v l):ReadT W.heap.size W v (ac l):=by
 have hll:(ac l).length=l.length:=List.length_map _
 obtain⟨A,cap,rfl,hc⟩:=h
 refine⟨A,cap,by rw[hll],fun h0=>?_⟩
 obtain⟨b,off,rfl,hb,hcc⟩:=hc (by omega)
 refine⟨_,rfl,hb,fun i q hq=>?_⟩
 obtain⟨y,hy,rfl⟩:=cO hq
 have:=hcc i y hy 0 _ rfl
 rw[Nat.mul_one,Nat.add_zero] at this;rw[aJ];exact this
theorem fh {α:Type} {ai:α→List Value} {k:Nat} {t:TypeId} {W:World} {g:Nat} {cs:Array Value} {l:List α} (h:Bk W g t cs) (hc:cs.toList=aO ai l) (hk:∀ x,(ai x).length=k):RowB ai k t W g l :=
 ⟨cs,h,fun i p hp c u hu=>by
  have hcl:c < k:=by have:=(List.getElem?_eq_some_iff.1 hu).1;rw[hk] at this;exact this
  have e1:=cm hk l i c p hp hcl;rw[hu,← hc,Array.getElem?_toList] at e1;exact e1⟩
end Go.Proofs.YtbgaglcgennhiaaGreatDoor
end
section
namespace Go.Proofs.YtbgaglcgennhiaaGreatDoor
open Go.RowKit Go.Sort Tx Ct
def vU (hs:List aK) (s:List UInt8) (w:World) (e:Ending) (w':World):Prop :=
 Below w.heap.size w w'∧((NoU hs s∧e=.returned (.tuple #[qh,.bool false])) ∨
  ∃ i k h u,FirstU hs s i k h u∧e=.returned (.tuple #[.agg (af u).toArray,.bool true]))
theorem wj (a h s:List UInt8):((aa a++⟨#[64]⟩++aa h:ByteArray).toList==(aa s).toList)=decide (a++64::h=s):=by
 rw[br,br];have e1:(aa a++⟨#[64]⟩++aa h:ByteArray).data.toList=a++64::h:=by simp
 have e2:(aa s).data.toList=s:=rfl;rw[e1,e2]
 by_cases hh:a++64::h=s
 · rw[decide_eq_true hh,hh];simp
 · rw[decide_eq_false hh];simpa using hh
set_option maxHeartbeats 8000000 in
set_option maxRecDepth 100000 in
theorem oW (v:Value) (hs:List aK) (s:List UInt8) (w:World) (hR:ReadH w v hs) (hl:hs.length≤1000000) (hs2:∀ h∈hs,iD h) :
 Calls Tryz.prog 14 #[.agg #[v],.string (aa s)] w fun e w'=>vU hs s w e w':=by
 obtain⟨⟨A,cap,rfl,hA⟩,hU⟩:=hR
 obtain⟨n,hn⟩:∃ n,hs.length=n:=⟨_,rfl⟩
 have HN:=Lib.hid hn;have HA:Hid (0 < n→∃ b off,A=some ⟨b,off,none⟩∧∀ W,Below w.heap.size w W→∀ i p,hs[i]?=some p→∀ c u,(aA p)[c]?=some u→W.cell? ⟨b,off+i*2+c,none⟩=some u):=fun h0=>by
  obtain⟨b,off,ha,hb,hc⟩:=hA (by omega)
  exact⟨b,off,ha,fun W hW i p hp c u hu=>by rw[hW.cell (p:=⟨b,off+i*2+c,none⟩) hb];exact hc i p hp c u hu⟩
 have HU:Hid (∀ h∈hs,∃ AU cu,sl h.uv=.slice AU h.users.length cu∧(0 < h.users.length→∃ b off,AU=some ⟨b,off,none⟩∧∀ W,Below w.heap.size w W→∀ i p,h.users[i]?=some p→∀ c u,(af p)[c]?=some u→W.cell? ⟨b,off+i*4+c,none⟩=some u)):=fun h hh=>by
  obtain⟨⟨AU,cu,hv,hcU⟩,_⟩:=hU h hh
  refine⟨AU,cu,hv,fun h0=>?_⟩
  obtain⟨b,off,ha,hb,hc⟩:=hcU h0
  exact⟨b,off,ha,fun W hW i p hp c u hu=>by rw[hW.cell (p:=⟨b,off+i*4+c,none⟩) hb];exact hc i p hp c u hu⟩
 have HSM:=Lib.hid hs2;rw[hn] at hl ⊢;have HEQ:Hid (∀ a h:List UInt8,((aa a++⟨#[64]⟩++aa h:ByteArray).toList==(aa s).toList)=decide (a++64::h=s)):=fun a h=>wj a h s
 obtain⟨S,hS⟩:∃ S,aa s=S:=⟨_,rfl⟩
 rw[hS] at HEQ ⊢
 obtain⟨W1,hW1⟩:∃ W1,w.alloc (.cells #[.slice A n cap] 24)=W1:=⟨_,rfl⟩
 obtain⟨sb,hsb⟩:∃ b,w.heap.size=b:=⟨_,rfl⟩
 obtain⟨W2,hW2⟩:∃ W2,W1.alloc (.cells #[.string ⟨#[]⟩,.string ⟨#[]⟩,.slice none 0 0,.slice none 0 0] 28)=W2:=⟨_,rfl⟩
 obtain⟨rb,hrb1⟩:∃ r,sb+1=r:=⟨_,rfl⟩
 have hrb:W1.heap.size=rb:=by rw[← hW1,World.size_alloc,hsb,hrb1]
 have k1:Bk W1 sb 24 #[.slice A n cap]:=by rw[← hW1,← hsb];exact Bk.new _ _ _
 have K2:Hid (Bk W2 sb 24 #[.slice A n cap]):=by rw[← hW2];exact k1.alloc _
 have R2:Hid (Bk W2 rb 28 #[.string ⟨#[]⟩,.string ⟨#[]⟩,.slice none 0 0,.slice none 0 0]):=by rw[← hW2,← hrb];exact Bk.new _ _ _
 have B2:Hid (Below w.heap.size w W2):=by rw[← hW2,← hW1];exact((Below.refl _ _).alloc (Nat.le_refl _) _).alloc (by rw[World.size_alloc];omega) _
 have HRW:Hid (w.heap.size≤rb):=by unfold Hid;omega
 have HW1:=Lib.hid hW1;have HW2:=Lib.hid hW2;have HSB:=Lib.hid hsb;have HRB:=Lib.hid hrb1;clear hA hU hn hS hW1 hW2 hsb hrb1 hrb k1 hs2;go_enter Tryz.func14,Tryz.ntmps14
 go_upto_region 1 with fail
 (try rw[HW1.out]);(try rw[HSB.out]);(try rw[HRB.out]);(try rw[HW2.out])
 go_wp2_with fail
 go_loopw [6,7] (fun iv kv wr=>∃ (u7:Value) (i:Nat),iv=.int .i64 (i:Nat)∧kv=u7∧i≤n∧Hid (∀ i' h',i' < i→hs[i']?=some h'→∀ u'∈h'.users,¬ de h' s u')∧Hid (Below W2.heap.size W2 wr)) (fun iv _ _=>n - (intOf iv).toNat)
 case atStart=>exact⟨_,0,rfl,rfl,Nat.zero_le _,fun i' h' hi=>absurd hi (Nat.not_lt_zero _),Below.refl _ _⟩
 case round =>
  obtain⟨u7,i,rfl,hu7,hi,HNO,BW⟩:=hrel
  have hu72:=hu7.symm;clear hu7;subst hu72;have BWW:Hid (Below w.heap.size w wr):=B2.out.trans (BW.out.mono B2.out.size);have c0:wr.cell? ⟨sb,0,none⟩=some (.slice A n cap):=(K2.out.below BW.out K2.out.lt).cell 0
  by_cases hin:i < n
  · have hiz:(i:Int) < (n:Int):=by omega
    have hi00:(0:Int)≤(i:Int):=by omega
    obtain⟨b,off,rfl,hc⟩:=HA.out (by omega)
    obtain⟨h,hh⟩:∃ p,hs[i]?=some p:=⟨_,List.getElem?_eq_getElem (by rw[HN.out];exact hin)⟩
    have HH:=Lib.hid hh;have hmem:h∈hs:=List.mem_of_getElem? hh;have HC:=Lib.hid (fun W hW c u hu=>hc W hW i h hh c u hu)
    obtain⟨P,hP⟩:∃ P,off+i*2=P:=⟨_,rfl⟩
    rw[hP] at HC;have HPP:=Lib.hid hP
    obtain⟨AU,cu,huv,hcU⟩:=HU.out h hmem
    have hsm:=HSM.out h hmem;have HNX:Hid ((∀ u'∈h.users,¬ de h s u')→∀ i' h',i' < i+1→hs[i']?=some h'→∀ u'∈h'.users,¬ de h' s u'):=fun hno i' h' hi' hh'=>by
     rcases Nat.lt_or_ge i' i with hl | hl
     · exact HNO.out i' h' hl hh'
     · obtain rfl:i'=i:=by omega
       rw[HH.out] at hh';obtain rfl:=Option.some.inj hh';exact hno
    have HFI:Hid (∀ k u,h.users[k]?=some u→de h s u→(∀ k' u',k' < k→h.users[k']?=some u'→¬ de h s u')→FirstU hs s i k h u):=fun k u h1 h2 h3=>⟨HH.out,h1,h2,HNO.out,h3⟩
    have HHA:Hid (∀ u:aC,de h s u↔u.name++64::h.name=s):=fun u=>Iff.rfl
    have eh:aA h=[.string (aa h.name),.slice AU h.users.length cu]:=by unfold aA;rw[huv]
    have HEH:Hid (∀ a:List UInt8,((aa a++⟨#[64]⟩++aa h.name:ByteArray).toList==S.toList)=decide (a++64::h.name=s)):=fun a=>HEQ.out a h.name
    have hjs:(aa h.name).size≤100000000:=by rw[Lib.size_eq];exact hsm.name
    obtain⟨J,hJ⟩:∃ J,aa h.name=J:=⟨_,rfl⟩
    rw[hJ] at eh HEH hjs;rw[eh] at HC
    obtain⟨m,hm⟩:∃ m,h.users.length=m:=⟨_,rfl⟩
    have HM:=Lib.hid hm;have HUL:Hid (m≤1000000):=by unfold Hid;rw[← hm];exact hsm.users
    have HUN:Hid (∀ u∈h.users,u.name.length≤100000000):=fun u hu=>(hsm.each u hu).name
    rw[hm] at HC hcU;have HCU:=Lib.hid hcU;have p1:wr.cell? ⟨b,P+1,none⟩=some (.slice AU m cu):=HC.out wr BWW.out 1 _ rfl;clear hc hh hmem huv hcU hsm eh hJ hm
    go_wp2_with fail
    go_loopw [7] (fun kv wr=>∃ k:Nat,kv=.int .i64 (k:Nat)∧k≤m∧Hid (∀ k' u',k' < k→h.users[k']?=some u'→¬ de h s u')∧Hid (Below W2.heap.size W2 wr)) (fun kv _=>m - (intOf kv).toNat)
    case atStart=>exact⟨0,rfl,Nat.zero_le _,fun k' u' hk=>absurd hk (Nat.not_lt_zero _),BW.out⟩
    case round =>
     clear p1 c0 BWW BW
     obtain⟨k,rfl,hk,HNK,BW⟩:=hrel
     have BWW:Hid (Below w.heap.size w wr):=B2.out.trans (BW.out.mono B2.out.size);have c0:wr.cell? ⟨sb,0,none⟩=some (.slice (some ⟨b,off,none⟩) n cap):=(K2.out.below BW.out K2.out.lt).cell 0;have p1:wr.cell? ⟨b,P+1,none⟩=some (.slice AU m cu):=HC.out wr BWW.out 1 _ rfl
     by_cases hkm:k < m
     · have hkz:(k:Int) < (m:Int):=by omega
       have hk00:(0:Int)≤(k:Int):=by omega
       obtain⟨ub,uo,rfl,hcu⟩:=HCU.out (by omega)
       obtain⟨u,hu⟩:∃ p,h.users[k]?=some p:=⟨_,List.getElem?_eq_getElem (by rw[HM.out];exact hkm)⟩
       have HUK:=Lib.hid hu;have hxs:(aa u.name).size≤100000000:=by rw[Lib.size_eq];exact HUN.out u (List.mem_of_getElem? hu)
       have HCX:=Lib.hid (fun W hW c q hq=>hcu W hW k u hu c q hq)
       obtain⟨Q,hQ⟩:∃ P,uo+k*4=P:=⟨_,rfl⟩
       rw[hQ] at HCX;have heq:=HEH.out u.name;have HFK:Hid (de h s u→FirstU hs s i k h u):=fun ha=>HFI.out k u HUK.out ha HNK.out
       have HNK2:Hid (¬ de h s u→∀ k' u',k' < k+1→h.users[k']?=some u'→¬ de h s u'):=fun hno k' u' hk' hu'=>by
        rcases Nat.lt_or_ge k' k with hl | hl
        · exact HNK.out k' u' hl hu'
        · obtain rfl:k'=k:=by omega
          rw[HUK.out] at hu';obtain rfl:=Option.some.inj hu';exact hno
       have HIS:=Lib.hid (HHA.out u);clear hcu hu;have heu:af u=[.string (aa u.name),.string (aa u.pw),.slice u.iv.1 u.iv.2.1 u.iv.2.2,.slice u.pv.1 u.pv.2.1 u.pv.2.2]:=rfl;have HEU:Hid ((af u).toArray=#[.string (aa u.name),.string (aa u.pw),.slice u.iv.1 u.iv.2.1 u.iv.2.2,.slice u.pv.1 u.pv.2.1 u.pv.2.2]):=rfl;rw[heu] at HCX
       obtain⟨X,hX⟩:∃ X,aa u.name=X:=⟨_,rfl⟩
       obtain⟨M,hM⟩:∃ X,aa u.pw=X:=⟨_,rfl⟩
       obtain⟨A1,hA1⟩:∃ A,u.iv.1=A:=⟨_,rfl⟩
       obtain⟨n1,hn1⟩:∃ A,u.iv.2.1=A:=⟨_,rfl⟩
       obtain⟨c1,hc1⟩:∃ A,u.iv.2.2=A:=⟨_,rfl⟩
       obtain⟨A2,hA2⟩:∃ A,u.pv.1=A:=⟨_,rfl⟩
       obtain⟨n2,hn2⟩:∃ A,u.pv.2.1=A:=⟨_,rfl⟩
       obtain⟨c2,hc2⟩:∃ A,u.pv.2.2=A:=⟨_,rfl⟩
       rw[hX,hM,hA1,hn1,hc1,hA2,hn2,hc2] at HCX HEU;rw[hX] at heq hxs
       obtain⟨r,hr⟩:∃ r,decide (u.name++64::h.name=s)=r:=⟨_,rfl⟩
       rw[hr] at heq;have HRR:=Lib.hid hr;have BC:∀ v:Sy.Bel wr,Below w.heap.size w v.v:=fun v=>BWW.out.trans (v.h.mono BWW.out.size)
       have y0:∀ v:Sy.Bel wr,v.v.cell? ⟨sb,0,none⟩=some (.slice (some ⟨b,off,none⟩) n cap):=fun v=>(K2.out.below (BW.out.trans (v.h.mono BW.out.size)) K2.out.lt).cell 0
       have y1:∀ v:Sy.Bel wr,v.v.cell? ⟨b,P,none⟩=some (.string J):=fun v=>HC.out v.v (BC v) 0 _ rfl
       have y2:∀ v:Sy.Bel wr,v.v.cell? ⟨b,P+1,none⟩=some (.slice (some ⟨ub,uo,none⟩) m cu):=fun v=>HC.out v.v (BC v) 1 _ rfl
       have y3:∀ v:Sy.Bel wr,v.v.cell? ⟨ub,Q,none⟩=some (.string X):=fun v=>HCX.out v.v (BC v) 0 _ rfl
       clear heu hX hM hA1 hn1 hc1 hA2 hn2 hc2 hr BC
       go_wp2_with fail
       refine Sy.wp_region_quiet_bel (by kernel_rfl) (by kernel_rfl) ?_
       repeat (go_big_quiet_step (fail))
       refine wpQuiet_nil ?_;intro w3 hw';have hb3:Below wr.heap.size wr w3:=by obtain⟨v,rfl⟩:=hw';exact v.h
       have BW3:Hid (Below W2.heap.size W2 w3):=BW.out.trans (hb3.mono BW.out.size);clear hw' hb3 y0 y1 y2 y3 c0 p1 BWW;cases r with
       | true =>
         have HF:=Lib.hid (HFK.out (HIS.out.2 (of_decide_eq_true HRR.out)));have BWW:Hid (Below w.heap.size w w3):=B2.out.trans (BW3.out.mono B2.out.size);have RR:=Lib.hid (R2.out.below BW3.out R2.out.lt);have c0:w3.cell? ⟨sb,0,none⟩=some (.slice (some ⟨b,off,none⟩) n cap):=(K2.out.below BW3.out K2.out.lt).cell 0;have p1:w3.cell? ⟨b,P+1,none⟩=some (.slice (some ⟨ub,uo,none⟩) m cu):=HC.out w3 BWW.out 1 _ rfl;have x0:w3.cell? ⟨ub,Q,none⟩=some (.string X):=HCX.out w3 BWW.out 0 _ rfl;have x1:w3.cell? ⟨ub,Q+1,none⟩=some (.string M):=HCX.out w3 BWW.out 1 _ rfl;have x2:w3.cell? ⟨ub,Q+2,none⟩=some (.slice A1 n1 c1):=HCX.out w3 BWW.out 2 _ rfl;have x3:w3.cell? ⟨ub,Q+3,none⟩=some (.slice A2 n2 c2):=HCX.out w3 BWW.out 3 _ rfl;have r0:w3.cell? ⟨rb,0,none⟩=some (.string ⟨#[]⟩):=RR.out.cell 0;have g0:w3.frozen? ⟨rb,0,none⟩=false:=RR.out.free 0;have r1:w3.cell? ⟨rb,1,none⟩=some (.string ⟨#[]⟩):=RR.out.cell 1;have g1:w3.frozen? ⟨rb,1,none⟩=false:=RR.out.free 1;have r2:w3.cell? ⟨rb,2,none⟩=some (.slice none 0 0):=RR.out.cell 2;have g2:w3.frozen? ⟨rb,2,none⟩=false:=RR.out.free 2;have r3:w3.cell? ⟨rb,3,none⟩=some (.slice none 0 0):=RR.out.cell 3;have g3:w3.frozen? ⟨rb,3,none⟩=false:=RR.out.free 3;have R5:=Lib.hid (aF RR.out (.string X) (.string M) (.slice A1 n1 c1) (.slice A2 n2 c2));have B5:=Lib.hid (aj BWW.out HRW.out (.string X) (.string M) (.slice A1 n1 c1) (.slice A2 n2 c2))
         obtain⟨w5,hw5⟩:∃ z,bj w3 rb (.string X) (.string M) (.slice A1 n1 c1) (.slice A2 n2 c2)=z:=⟨_,rfl⟩
         rw[hw5] at R5 B5
         go_wp2_with fail
         (try rw[hw5]);have j0:w5.cell? ⟨rb,0,none⟩=some (.string X):=R5.out.cell 0;have j1:w5.cell? ⟨rb,1,none⟩=some (.string M):=R5.out.cell 1;have j2:w5.cell? ⟨rb,2,none⟩=some (.slice A1 n1 c1):=R5.out.cell 2;have j3:w5.cell? ⟨rb,3,none⟩=some (.slice A2 n2 c2):=R5.out.cell 3;refine bodyPost_ret (v:=.tuple #[.agg #[.string X,.string M,.slice A1 n1 c1,.slice A2 n2 c2],.bool true]) (by simp[results,Tryz.results14,go_sem,j0,j1,j2,j3]) rfl ?_
         exact⟨B5.out,.inr ⟨i,k,h,u,HF.out,by rw[HEU.out]⟩⟩
       | false =>
         have hml:=HUL.out;have HN2:=Lib.hid (HNK2.out (fun ha=>of_decide_eq_false HRR.out (HIS.out.1 ha)))
         go_wp2_with fail
         go_roundw
         case rel=>exact⟨k+1,by go_num,by omega,HN2,BW3⟩
         case measure=>simp[intOf];omega
     · have hkz:¬ (k:Int) < (m:Int):=by omega
       have HN2:=Lib.hid (HNX.out (fun u' hu'=>by
        obtain⟨k',hk',rfl⟩:=List.getElem_of_mem hu'
        exact HNK.out k' _ (by have:=HM.out;omega) (List.getElem?_eq_getElem hk')))
       go_wp2_with fail
       go_roundw
       case rel=>exact⟨_,i+1,by go_num,rfl,by omega,HN2,BW⟩
       case measure=>simp[intOf];omega
  · have hiz:¬ (i:Int) < (n:Int):=by omega
    have RR:=Lib.hid (R2.out.below BW.out R2.out.lt);have HNN:Hid (NoU hs s):=fun h hh=>by
     obtain⟨i',hi',rfl⟩:=List.getElem_of_mem hh
     exact HNO.out i' _ (by have:=HN.out;omega) (List.getElem?_eq_getElem hi')
    have r0:wr.cell? ⟨rb,0,none⟩=some (.string ⟨#[]⟩):=RR.out.cell 0;have g0:wr.frozen? ⟨rb,0,none⟩=false:=RR.out.free 0;have r1:wr.cell? ⟨rb,1,none⟩=some (.string ⟨#[]⟩):=RR.out.cell 1;have g1:wr.frozen? ⟨rb,1,none⟩=false:=RR.out.free 1;have r2:wr.cell? ⟨rb,2,none⟩=some (.slice none 0 0):=RR.out.cell 2;have g2:wr.frozen? ⟨rb,2,none⟩=false:=RR.out.free 2;have r3:wr.cell? ⟨rb,3,none⟩=some (.slice none 0 0):=RR.out.cell 3;have g3:wr.frozen? ⟨rb,3,none⟩=false:=RR.out.free 3;have R5:=Lib.hid (aF RR.out (.string ⟨#[]⟩) (.string ⟨#[]⟩) (.slice none 0 0) (.slice none 0 0));have B5:=Lib.hid (aj BWW.out HRW.out (.string ⟨#[]⟩) (.string ⟨#[]⟩) (.slice none 0 0) (.slice none 0 0))
    obtain⟨w5,hw5⟩:∃ z,bj wr rb (.string ⟨#[]⟩) (.string ⟨#[]⟩) (.slice none 0 0) (.slice none 0 0)=z:=⟨_,rfl⟩
    rw[hw5] at R5 B5
    go_wp2_with fail
    (try rw[hw5]);have j0:w5.cell? ⟨rb,0,none⟩=some (.string ⟨#[]⟩):=R5.out.cell 0;have j1:w5.cell? ⟨rb,1,none⟩=some (.string ⟨#[]⟩):=R5.out.cell 1;have j2:w5.cell? ⟨rb,2,none⟩=some (.slice none 0 0):=R5.out.cell 2;have j3:w5.cell? ⟨rb,3,none⟩=some (.slice none 0 0):=R5.out.cell 3;refine bodyPost_ret (v:=.tuple #[.agg #[.string ⟨#[]⟩,.string ⟨#[]⟩,.slice none 0 0,.slice none 0 0],.bool false]) (by simp[results,Tryz.results14,go_sem,j0,j1,j2,j3]) rfl ?_
    exact⟨B5.out,.inl ⟨HNN.out,rfl⟩⟩
end Go.Proofs.YtbgaglcgennhiaaGreatDoor
end
