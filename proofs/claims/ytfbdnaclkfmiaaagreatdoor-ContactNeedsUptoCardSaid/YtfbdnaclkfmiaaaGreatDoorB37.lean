import Derived.Test.YtfbdnaclkfmiaaaGreatDoorB36
import Derived.Shelf.SlicesQ.IndexFunc
import Derived.Deep.RegionLaw
import Derived.Deep.Upon
import Derived.Deep.MidRow
section
namespace Go.Proofs.YtfbdnaclkfmiaaaGreatDoor
open Go.RowKit Vc Ct
theorem prefix_start (v st:List UInt8):Lib.hasPrefix v st=decide (v.take st.length=st):=by
  unfold Lib.hasPrefix
  cases h:st.isPrefixOf v with
  | true =>
    rw[List.isPrefixOf_iff_prefix] at h
    obtain⟨r,rfl⟩:=h
    simp
  | false =>
    symm
    apply decide_eq_false
    intro e
    have e2:=List.take_append_drop st.length v
    rw[e] at e2
    have:st <+: v:=⟨_,e2⟩
    rw[← List.isPrefixOf_iff_prefix] at this
    rw[this] at h
    cases h
theorem bytes_eqb (a b:List UInt8):((bts a).toList==(bts b).toList)=decide (a=b):=by
  rw[ByteArray.toList_mk,ByteArray.toList_mk]
  by_cases h:a=b
  · simp[h]
  · simp[h]
set_option maxHeartbeats 4000000 in
theorem has_any (b:Nat→Nat) (i:Nat) (p:Pr) (u:Value) (W:World) (hu:ReadA W u p.2.2.1) (hul:p.2.2.1.length≤1000000000) :
    Calls Tryz.prog 30 #[.agg (encK b i).toArray,agP p u] W fun e w'=>e=.returned (.bool (hasB i p))∧Below W.heap.size W w':=by
  obtain⟨A,cap,rfl,-⟩:=hu
  have hB:Hid (hasB i p=(decide (p.1=[])&&decide (p.2.2.1=[])&&decide (p.2.1=kname i)&&decide (p.2.2.2.take (kstart i).length=kstart i))):=rfl
  have e0:=emptyB (l:=p.1)
  have en:=bytes_eqb p.2.1 (kname i)
  obtain⟨PV,hPV⟩:∃ P,putV b i=P:=⟨_,rfl⟩
  obtain⟨TV,hTV⟩:∃ P,textsV b i=P:=⟨_,rfl⟩
  have hcs:(encK b i).toArray=#[.string (bts (kname i)),.string (bts (kstart i)),.string (bts (ksep i)),PV,TV]:=by rw[← hPV,← hTV];rfl
  have HPR:=Lib.hid (fun W=>Tryz.strings_HasPrefix (bts p.2.2.2) (bts (kstart i)) W)
  have hpr:Lib.hasPrefix (bts p.2.2.2).data.toList (bts (kstart i)).data.toList=decide (p.2.2.2.take (kstart i).length=kstart i):=prefix_start _ _
  rw[hpr] at HPR
  have hl0:decide (p.2.2.1=[])=decide (p.2.2.1.length=0):=by cases p.2.2.1<;>simp
  rw[hl0] at hB
  obtain⟨n,hn⟩:∃ n,p.2.2.1.length=n:=⟨_,rfl⟩
  unfold agP
  rw[hn] at hul hB ⊢
  rw[hcs]
  obtain⟨X0,hX0⟩:∃ X,bts p.1=X:=⟨_,rfl⟩
  obtain⟨X1,hX1⟩:∃ X,bts p.2.1=X:=⟨_,rfl⟩
  obtain⟨X3,hX3⟩:∃ X,bts p.2.2.2=X:=⟨_,rfl⟩
  obtain⟨K0,hK0⟩:∃ X,bts (kname i)=X:=⟨_,rfl⟩
  obtain⟨K1,hK1⟩:∃ X,bts (kstart i)=X:=⟨_,rfl⟩
  obtain⟨K2,hK2⟩:∃ X,bts (ksep i)=X:=⟨_,rfl⟩
  rw[hX0] at e0 ⊢
  rw[hX1,hK0] at en
  rw[hX3,hK1] at HPR
  rw[hX1,hX3,hK0,hK1,hK2]
  obtain⟨d0,hd0⟩:∃ d,decide (p.1=[])=d:=⟨_,rfl⟩
  obtain⟨d2,hd2⟩:∃ d,decide (p.2.1=kname i)=d:=⟨_,rfl⟩
  obtain⟨d3,hd3⟩:∃ d,decide (p.2.2.2.take (kstart i).length=kstart i)=d:=⟨_,rfl⟩
  rw[hd0,hd2,hd3] at hB
  rw[hd0] at e0
  rw[hd2] at en
  rw[hd3] at HPR
  obtain⟨hv,hhv⟩:∃ v,hasB i p=v:=⟨_,rfl⟩
  rw[hhv] at hB ⊢
  clear hcs hPV hTV hpr hl0 hn hX0 hX1 hX3 hK0 hK1 hK2 hd0 hd2 hd3 hhv
  have fin:Hid (Below W.heap.size W ((W.alloc (.cells #[.string K0,.string K1,.string K2,PV,TV] 64)).alloc (.cells #[.string X0,.string X1,.slice A n cap,.string X3] 41))):=((Below.refl _ W).alloc (Nat.le_refl _) _).alloc (by simp) _
  cases d0 with
  | false =>
    have hv2:hv=false:=by rw[hB];rfl
    subst hv2
    clear hB en
    go_enter Tryz.func30,Tryz.ntmps30
    go_wp2_with fail
    go_ret
    exact⟨rfl,fin.out⟩
  | true =>
    by_cases hn0:n=0
    · subst hn0
      cases d2 with
      | false =>
        have hv2:hv=false:=by rw[hB];rfl
        subst hv2
        clear hB
        go_enter Tryz.func30,Tryz.ntmps30
        go_wp2_with fail
        go_ret
        exact⟨rfl,fin.out⟩
      | true =>
        have hv2:hv=d3:=by rw[hB];simp
        subst hv2
        clear hB
        go_enter Tryz.func30,Tryz.ntmps30
        go_wp2_with fail
        refine(HPR.out _).mono ?_
        rintro e w2 ⟨rfl,rfl⟩
        go_wp2_with fail
        go_ret
        exact⟨rfl,fin.out⟩
    · have hv2:hv=false:=by rw[hB,decide_eq_false hn0];rfl
      have hz:(((n:Nat):Int)==0)=false:=by simpa using hn0
      subst hv2
      clear hB en
      go_enter Tryz.func30,Tryz.ntmps30
      go_wp2_with fail
      go_ret
      exact⟨rfl,fin.out⟩
set_option maxHeartbeats 4000000 in
theorem asked_any (b:Nat→Nat) (i:Nat) (p:Pr) (u:Value) (hb tb:Nat) (W:World) (hu:ReadA W u p.2.2.1) (hul:p.2.2.1.length≤1000000000) (hh:Bk W hb 67 #[.func (.func 30) #[] #[]]) (ht:Bk W tb 41 #[.string (bts p.1),.string (bts p.2.1),u,.string (bts p.2.2.2)]) :
    Calls Tryz.prog 62 (#[.agg (encK b i).toArray]++#[.pointer (some ⟨hb,0,none⟩),.pointer (some ⟨tb,0,none⟩)]) W fun e w'=>e=.returned (.bool (hasB i p))∧Below W.heap.size W w':=by
  have HH:=Lib.hid (fun W' (h:Below W.heap.size W W')=>has_any b i p u W' (hu.below h) hul)
  obtain⟨A,cap,rfl,-⟩:=hu
  obtain⟨PV,hPV⟩:∃ P,putV b i=P:=⟨_,rfl⟩
  obtain⟨TV,hTV⟩:∃ P,textsV b i=P:=⟨_,rfl⟩
  have hcs:(encK b i).toArray=#[.string (bts (kname i)),.string (bts (kstart i)),.string (bts (ksep i)),PV,TV]:=by rw[← hPV,← hTV];rfl
  unfold agP at HH
  obtain⟨n,hn⟩:∃ n,p.2.2.1.length=n:=⟨_,rfl⟩
  rw[hcs] at HH ⊢
  rw[hn] at HH ht
  obtain⟨X0,hX0⟩:∃ X,bts p.1=X:=⟨_,rfl⟩
  obtain⟨X1,hX1⟩:∃ X,bts p.2.1=X:=⟨_,rfl⟩
  obtain⟨X3,hX3⟩:∃ X,bts p.2.2.2=X:=⟨_,rfl⟩
  obtain⟨K0,hK0⟩:∃ X,bts (kname i)=X:=⟨_,rfl⟩
  obtain⟨K1,hK1⟩:∃ X,bts (kstart i)=X:=⟨_,rfl⟩
  obtain⟨K2,hK2⟩:∃ X,bts (ksep i)=X:=⟨_,rfl⟩
  rw[hX0,hX1,hX3] at HH ht
  rw[hK0,hK1,hK2] at HH ⊢
  obtain⟨hv,hhv⟩:∃ v,hasB i p=v:=⟨_,rfl⟩
  rw[hhv] at HH ⊢
  have h0:W.cell? ⟨hb,0,none⟩=some (.func (.func 30) #[] #[]):=hh.cell 0
  have t0:W.cell? ⟨tb,0,none⟩=some (.string X0):=ht.cell 0
  have t1:W.cell? ⟨tb,1,none⟩=some (.string X1):=ht.cell 1
  have t2:W.cell? ⟨tb,2,none⟩=some (.slice A n cap):=ht.cell 2
  have t3:W.cell? ⟨tb,3,none⟩=some (.string X3):=ht.cell 3
  obtain⟨W1,hW1⟩:∃ W1,W.alloc (.cells #[.string K0,.string K1,.string K2,PV,TV] 64)=W1:=⟨_,rfl⟩
  have b1:Below W.heap.size W W1:=by rw[← hW1];exact(Below.refl _ W).alloc (Nat.le_refl _) _
  have h0':W1.cell? ⟨hb,0,none⟩=some (.func (.func 30) #[] #[]):=by rw[← h0];exact b1.cell (p:=⟨hb,0,none⟩) hh.lt
  have t0':W1.cell? ⟨tb,0,none⟩=some (.string X0):=by rw[← t0];exact b1.cell (p:=⟨tb,0,none⟩) ht.lt
  have t1':W1.cell? ⟨tb,1,none⟩=some (.string X1):=by rw[← t1];exact b1.cell (p:=⟨tb,1,none⟩) ht.lt
  have t2':W1.cell? ⟨tb,2,none⟩=some (.slice A n cap):=by rw[← t2];exact b1.cell (p:=⟨tb,2,none⟩) ht.lt
  have t3':W1.cell? ⟨tb,3,none⟩=some (.string X3):=by rw[← t3];exact b1.cell (p:=⟨tb,3,none⟩) ht.lt
  obtain⟨G,hG⟩:∃ G,W.heap.size=G:=⟨_,rfl⟩
  have kk:Bk W1 G 64 #[.string K0,.string K1,.string K2,PV,TV]:=by rw[← hW1,← hG];exact Bk.new _ _ _
  have q0:W1.cell? ⟨G,0,none⟩=some (.string K0):=kk.cell 0
  have q1:W1.cell? ⟨G,1,none⟩=some (.string K1):=kk.cell 1
  have q2:W1.cell? ⟨G,2,none⟩=some (.string K2):=kk.cell 2
  have q3:W1.cell? ⟨G,3,none⟩=some PV:=kk.cell 3
  have q4:W1.cell? ⟨G,4,none⟩=some TV:=kk.cell 4
  have HC:=Lib.hid (HH.out W1 b1)
  have B1:=Lib.hid b1
  clear hcs hPV hTV hn hX0 hX1 hX3 hK0 hK1 hK2 hhv h0 t0 t1 t2 t3 hh ht HH b1 kk hul
  go_enter Tryz.func62,Tryz.ntmps62
  go_wp2_with fail
  refine HC.out.mono ?_
  rintro e w2 ⟨rfl,b2⟩
  go_wp2_with fail
  go_ret
  exact⟨rfl,B1.out.trans (b2.mono B1.out.size)⟩
theorem idx_find (fr:List Nat) (p:Pr):Lib.idxBy (fun (_ y:Nat)=>hasB y p) fr default=match fr.findIdx? (fun i=>hasB i p) with
  | none=>-1
  | some a=>(a : Int):=by
  unfold Lib.idxBy
  cases h:fr.findIdx? (fun i=>hasB i p) with
  | none =>
    have hn:=List.findIdx?_eq_none_iff.1 h
    have:∀ (l:List Nat) (k:Nat),(∀ i∈l,hasB i p=false)→Lib.idxByFrom (fun (_ y:Nat)=>hasB y p) default l k=-1:=by
      intro l
      induction l with
      | nil=>intro k _;rfl
      | cons x l ih =>
        intro k hl
        unfold Lib.idxByFrom
        rw[hl x List.mem_cons_self]
        exact ih _ (fun i hi=>hl i (List.mem_cons_of_mem _ hi))
    exact this fr 0 hn
  | some a =>
    obtain⟨ha,hp,hlt⟩:=List.findIdx?_eq_some_iff_getElem.1 h
    have:=Lib.idxByFrom_hit (fun (_ y:Nat)=>hasB y p) default fr a 0 ha (by rw[getElem!_pos fr a ha];exact hp) (fun j hj=>by rw[getElem!_pos fr j (by omega)];exact Bool.eq_false_iff.2 (hlt j hj))
    simpa using this
end Go.Proofs.YtfbdnaclkfmiaaaGreatDoor
end
section
namespace Go.Proofs.YtfbdnaclkfmiaaaGreatDoor
open Go.RowKit Vc Ct
theorem infoKnd:(Tryz.prog.info? 64).map (fun i=>(i.zero,i.size,i.bytes))=some (some (.agg #[.string ⟨#[]⟩,.string ⟨#[]⟩,.string ⟨#[]⟩,Value.nilFunc,Value.nilFunc]),5,64):=by kernel_rfl
def kds (b:Nat→Nat) (zs:List Nat):List Value:=zs.flatMap (encK b)
theorem kds_length (b:Nat→Nat):∀ zs:List Nat,(kds b zs).length=zs.length*5
  | []=>rfl
  | z::t=>by
    have:=kds_length b t
    unfold kds at this ⊢
    rw[List.flatMap_cons,List.length_append,this,encK_len,List.length_cons]
    omega
theorem kds_append (b:Nat→Nat) (x y:List Nat):kds b (x++y)=kds b x++kds b y:=by unfold kds;rw[List.flatMap_append]
theorem encK_one (b:Nat→Nat) (i:Nat):∀ v∈encK b i,v.oneCell'=true:=by
  intro v hv
  unfold encK at hv
  simp only[List.mem_cons,List.not_mem_nil,or_false] at hv
  rcases hv with rfl | rfl | rfl | rfl | rfl
  · rfl
  · rfl
  · rfl
  · unfold putV;split<;>rfl
  · unfold textsV;split<;>rfl
theorem kds_one (b:Nat→Nat) (zs:List Nat):∀ v∈kds b zs,v.oneCell'=true:=by
  intro v hv
  obtain⟨z,_,hz⟩:=List.mem_flatMap.1 hv
  exact encK_one b z v hz
theorem kds_get (b:Nat→Nat):∀ {zs:List Nat} {j i:Nat} {z:Nat},zs[j]?=some z→i < 5→(kds b zs)[j*5+i]?=(encK b z)[i]?
  | [],j,i,z,h,_=>by simp at h
  | a::l,0,i,z,h,hi=>by
    obtain rfl:a=z:=by simpa using h
    unfold kds
    rw[List.flatMap_cons,Nat.zero_mul,Nat.zero_add,List.getElem?_append_left (by rw[encK_len];omega)]
  | a::l,j+1,i,z,h,hi=>by
    have:=kds_get b (zs:=l) (j:=j) (i:=i) (z:=z) (by simpa using h) hi
    unfold kds at this ⊢
    rw[List.flatMap_cons,List.getElem?_append_right (by rw[encK_len];omega),← this,encK_len]
    congr 1
    omega
def FreeAt (b:Nat→Nat) (W:World) (f:Nat) (zs:List Nat):Prop:=f < W.heap.size∧∀ (j:Nat) (v:Value),(kds b zs)[j]?=some v→W.cell? ⟨f,j,none⟩=some v∧W.frozen? ⟨f,j,none⟩=false
theorem FreeAt.but {b:Nat→Nat} {S:Nat→Prop} {W W':World} {f:Nat} {zs:List Nat} (h:FreeAt b W f zs) (hb:But S W W') (hn:¬ S f):FreeAt b W' f zs:=by
  have e:=hb.block f h.1 hn
  exact⟨Nat.lt_of_lt_of_le h.1 hb.size,fun j v hj=>⟨(World.cell?_of_block (a:=⟨f,j,none⟩) e).trans (h.2 j v hj).1,(World.frozen?_of_block (a:=⟨f,j,none⟩) e).trans (h.2 j v hj).2⟩⟩
theorem run_clear_one {P:Program} (w:World) (t e ty:TypeId) (z:Value) (zc:List Value) (ht:P.underlying t=some (.slice e)) (hv:∀ w,(zeroValue e).run P w=.ok z w) (hz:(Builtin.zeroCells z.cells 1).toList=zc) (h1:∀ v∈zc,v.oneCell'=true) (b o c:Nat)
    (hc:∀ j,j < zc.length→(w.cell? ⟨b,o+j,none⟩).isSome=true) (hf:∀ j,j < zc.length→w.frozen? ⟨b,o+j,none⟩=false) :
    (Builtin.clear_ #[t] ty #[.slice (some ⟨b,o,none⟩) 1 c]).run P w=.ok (.tuple #[]) (w.setCells b o zc):=by
  have hst:=run_storeCells_cells (P:=P) b o zc 0 w (by simpa using hc) (by simpa using hf) h1
  simp only[Nat.add_zero] at hst
  simp[Builtin.clear_,run_underlying ht,hv,hz,hst]
theorem below_cellsC {B g:Nat} (hg:B≤g):∀ (vs:List Value) (o:Nat) (w:World),Below B w (w.setCells g o vs)
  | [],_,w=>Below.refl B w
  | v::r,o,w=>((Below.refl B w).setCell (p:=⟨g,o,none⟩) hg v).trans (below_cellsC hg r (o+1) _)
def zeroK:List Value:=[.string ⟨#[]⟩,.string ⟨#[]⟩,.string ⟨#[]⟩,Value.nilFunc,Value.nilFunc]
theorem zeroK_cells:(Builtin.zeroCells (Value.agg #[.string ⟨#[]⟩,.string ⟨#[]⟩,.string ⟨#[]⟩,Value.nilFunc,Value.nilFunc]).cells 1).toList=zeroK:=by kernel_rfl
theorem erase_at (zs:List Nat) (a:Nat):zs.eraseIdx a=zs.take a++zs.drop (a+1):=List.eraseIdx_eq_take_drop_succ zs a
set_option maxHeartbeats 4000000 in
set_option maxRecDepth 100000 in
theorem delete_any (b:Nat→Nat) (zs:List Nat) (n a k:Nat) (hn:zs.length=n) (hn9:n≤9) (ha:a < n) (hk:k=a+1) (f cap:Nat) (hcap:n≤cap) (W:World) (hf:FreeAt b W f zs) :
    Calls Tryz.prog 63 #[.slice (some ⟨f,0,none⟩) n cap,.int .i64 (a:Nat),.int .i64 (k:Nat)] W fun e w'=>e=.returned (.slice (some ⟨f,0,none⟩) (n - 1) cap)∧FreeAt b w' f (zs.eraseIdx a)∧But (·=f) W w':=by
  obtain⟨news,hnews⟩:∃ news,kds b (zs.drop (a+1))=news:=⟨_,rfl⟩
  have hlen:news.length=(n - k)*5:=by rw[← hnews,kds_length,List.length_drop,hn,hk]
  have hall:(kds b zs).length=n*5:=by rw[kds_length,hn]
  have hsplit:kds b zs=kds b (zs.take (a+1))++news:=by rw[← hnews,← kds_append,List.take_append_drop]
  have htl:(kds b (zs.take (a+1))).length=(a+1)*5:=by rw[kds_length,List.length_take,Nat.min_eq_left (by omega)]
  have hget:∀ t u,news[t]?=some u→(kds b zs)[(a+1)*5+t]?=some u:=fun t u h=>by
    rw[hsplit,List.getElem?_append_right (by rw[htl];omega),htl,Nat.add_sub_cancel_left]
    exact h
  have hsome:∀ j,j < n*5→(W.cell? ⟨f,j,none⟩).isSome=true∧W.frozen? ⟨f,j,none⟩=false:=fun j hj=>by
    obtain⟨v,hv⟩:∃ v,(kds b zs)[j]?=some v:=⟨_,List.getElem?_eq_getElem (by rw[hall];exact hj)⟩
    obtain⟨h1,h2⟩:=hf.2 j v hv
    rw[h1]
    exact⟨rfl,h2⟩
  obtain⟨A,hA,hsrc⟩:∃ A:Addr,(if cap=k then some (⟨f,0,none⟩:Addr) else some ⟨f,k*5,none⟩)=some A∧Hid (∀ t u,news[t]?=some u→W.drew.cell? (A.add t)=some u):=by
    by_cases h:cap=k
    · refine⟨⟨f,0,none⟩,by simp[h],fun t u hu=>?_⟩
      have h0 : news.length = 0 := by rw[hlen];have:n - k=0:=by omega
                                      rw[this]
      rw[List.length_eq_zero_iff.1 h0] at hu
      simp at hu
    · refine⟨⟨f,k*5,none⟩,by simp[h],fun t u hu=>?_⟩
      rw[add_at,hk]
      exact(hf.2 _ u (hget t u hu)).1
  have s1:Hid (news.length=(n - k)*5):=hlen
  have s2:Hid (∀ u∈news,u.oneCell'=true):=fun u hu=>by rw[← hnews] at hu;exact kds_one b _ u hu
  have s3:Hid (∀ t,t < news.length→(W.drew.cell? ⟨f,0+a*5+t,none⟩).isSome=true∧W.drew.frozen? ⟨f,0+a*5+t,none⟩=false):=by
    intro t ht
    rw[hlen] at ht
    exact hsome _ (by omega)
  obtain⟨W1,hW1⟩:∃ W1,W1=W.drew.setCells f (0+a*5) news:=⟨_,rfl⟩
  have hcl:∀ ty,(Builtin.clear_ #[65] ty #[.slice (some ⟨f,(a+(n - k))*5,none⟩) (n - (a+(n - k))) (cap - (a+(n - k)))]).run Tryz.prog W1=.ok (.tuple #[]) (W1.setCells f ((a+(n - k))*5) zeroK):=fun ty=>by
    rw[show n - (a+(n - k))=1 by omega]
    refine run_clear_one W1 _ _ ty _ zeroK Tryz.underlying65 Tryz.zeroValue64 zeroK_cells (by decide) f _ _ (fun j hj=>?_) (fun j hj=>?_)
    · rw[hW1]
      exact World.isSome_setCells _ _ _ _ _ (hsome _ (by have:zeroK.length=5:=rfl;omega)).1
    · rw[hW1,World.frozen?_setCells]
      exact(hsome _ (by have:zeroK.length=5:=rfl;omega)).2
  have HW:Hid (W1=W.drew.setCells f (0+a*5) news):=hW1
  have HFA:Hid (FreeAt b (W1.setCells f ((a+(n - k))*5) zeroK) f (zs.eraseIdx a)∧But (·=f) W (W1.setCells f ((a+(n - k))*5) zeroK)):=by
    have hbel:Below 0 W W1:=by rw[hW1];exact(Below.refl 0 W).drew.trans (below_cellsC (Nat.zero_le _) news _ _)
    have hbel2:Below 0 W (W1.setCells f ((a+(n - k))*5) zeroK):=hbel.trans (below_cellsC (Nat.zero_le _) zeroK _ _)
    refine⟨⟨Nat.lt_of_lt_of_le hf.1 hbel2.size,fun j v hj=>?_⟩,⟨hbel2.os,hbel2.tape,hbel2.output,hbel2.size,fun i hi hne=>?_⟩⟩
    · have hkd:kds b (zs.eraseIdx a)=kds b (zs.take a)++news:=by rw[erase_at,kds_append,hnews]
      have hta:(kds b (zs.take a)).length=a*5:=by rw[kds_length,List.length_take,Nat.min_eq_left (by omega)]
      have hjl:j < a*5+(n - k)*5:=by
        have:=(List.getElem?_eq_some_iff.1 hj).1
        rw[hkd,List.length_append,hta,hlen] at this
        exact this
      rw[hkd] at hj
      refine⟨?_,?_⟩
      · rw[World.cell?_setCells_out f zeroK _ _ _ (fun _ _=>.inl (by show j < _;omega)),hW1]
        by_cases hja:j < a*5
        · rw[World.cell?_setCells_out f news _ _ _ (fun _ _=>.inl (by show j < _;omega))]
          rw[List.getElem?_append_left (by rw[hta];exact hja)] at hj
          refine(hf.2 j v ?_).1
          have e:kds b zs=kds b (zs.take a)++kds b (zs.drop a):=by rw[← kds_append,List.take_append_drop]
          rw[e,List.getElem?_append_left (by rw[hta];exact hja)]
          exact hj
        · rw[List.getElem?_append_right (by rw[hta];omega),hta] at hj
          have h2:=World.cell?_setCells_in f news (0+a*5) W.drew (fun t ht=>(s3.out t ht).1) (j - a*5) (List.getElem?_eq_some_iff.1 hj).1
          rw[show 0+a*5+(j - a*5)=j by omega] at h2
          rw[h2,(List.getElem?_eq_some_iff.1 hj).2]
      · rw[World.frozen?_setCells,hW1,World.frozen?_setCells]
        exact(hsome j (by omega)).2
    · have hz:i < W1.heap.size:=Nat.lt_of_lt_of_le hi hbel.size
      rw[World.heap_setCells_other W1 f _ _ hz hne,hW1]
      exact World.heap_setCells_other W.drew f _ _ hi hne
  have HN1:Hid (n - 1=a+(n - k)):=by unfold Hid;omega
  have hak:a < k:=by omega
  have hkn:k≤n:=by omega
  have hic:a≤cap:=by omega
  have hjc:k≤cap:=by omega
  have hne:¬ a=k:=by omega
  have hin:a+(n - k)≤n:=by omega
  have hicp:a+(n - k)≤cap:=by omega
  have hnc:¬ a+(n - k)=cap:=by omega
  have hnc2:¬ cap=a+(n - k):=by omega
  clear hW1 hnews hlen hall hsplit htl hget hsome hf hn hk
  go_enter Tryz.func63,Tryz.ntmps63
  go_wp2_with fail
  obtain⟨i0,hi0,hz0,hz1,hz2⟩:=info_parts infoKnd
  go_region_law (refine step_append_room rfl (.tmp 22) (.tmp 25) 65 rfl 64 i0 5 Tryz.underlying65 hi0 hz1 f 0 a cap (by simp[Act.eval,Act.put]) A (n - k) (cap - k) news (by simp[Act.eval,Act.put]) s1.out hsrc.out s2.out (by omega) s3.out ?_;rw[← HW.out])
  go_wp2_with fail
  go_ret
  refine⟨?_,HFA.out⟩
  rw[HN1.out]
  rfl
end Go.Proofs.YtfbdnaclkfmiaaaGreatDoor
end