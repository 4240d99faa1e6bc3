import Derived.Test.YtfbdnaclkfmiaaaGreatDoorB50
import Derived.Test.YtfbdnaclkfmiaaaGreatDoorB34
import Derived.Deep.SlicePairs
import Derived.Deep.Slices
namespace Go.Proofs.YtfbdnaclkfmiaaaGreatDoor
open Go.ChangeShapes Go.WideShapes Go.ChangeAt Go.RowKit Vc
theorem lt_of_cellT {W:World} {a:Addr} {v:Value} (h:W.cell? a=some v):a.block < W.heap.size:=World.block_lt_of_cell? W a h
theorem bts_data (s:ByteArray):bts s.data.toList=s:=(bytes_of rfl).symm
theorem sum_le_all {H:Type} {D:Nat→DataW H} {f:Nat→Nat} (c:Nat):∀ l:List Nat,(∀ i∈l,f i≤c*Rows.uptoBulk (D i))→(l.map f).sum≤c*Rows.uptoBulkAll (l.map D)
  | [],_=>Nat.zero_le _
  | a::t,h=>by
    have ih:=sum_le_all c t (fun i hi=>h i (List.mem_cons_of_mem _ hi))
    have ha:=h a List.mem_cons_self
    rw[List.map_cons,List.map_cons,List.sum_cons,Rows.uptoBulkAll,Nat.mul_add]
    omega
theorem add_succP (ad:Addr) (n j:Nat) (hj:0 < j):ad.add (n+j)=⟨(ad.add n).block,(ad.add n).off+j,none⟩:=by
  unfold Addr.add
  rw[if_neg (by omega)]
  split
  · rename_i h;subst h;simp
  · simp[Nat.add_assoc]
theorem four_of_trod {H:Type} {enc:TypeId × Value→H} {P:Program} {w:World} {base:Nat} {spare:Nat→Bool} {held:Bool} {e:TypeId} {f0 f1 f2 f3:Field} {n:Nat} {cs:List Value} {x:DataW H × List MemPlace}
    (he:P.underlying e=some (.struct #[f0,f1,f2,f3])) (ce:P.cellsOf e=4) (ho:[f0,f1,f2,f3].map (·.offset)=[0,1,2,3]) (hc:[f0,f1,f2,f3].map (fun f=>P.cellsOf f.type)=[1,1,1,1])
    (h:DataW.trod enc P w base spare held n e cs=some x) :
    ∃ (v0 v1 v2 v3:Value) (y0 y1 y2 y3:DataW H × List MemPlace) (k:Nat),cs=[v0,v1,v2,v3]∧x.1=.agg [y0.1,y1.1,y2.1,y3.1] ∧
      DataW.trod enc P w base spare held k f0.type [v0]=some y0∧DataW.trod enc P w base spare held k f1.type [v1]=some y1∧DataW.trod enc P w base spare held k f2.type [v2]=some y2 ∧
      DataW.trod enc P w base spare held k f3.type [v3]=some y3:=by
  simp only[List.map_cons,List.map_nil,List.cons.injEq,and_true] at ho hc
  obtain⟨o0,o1,o2,o3⟩:=ho
  obtain⟨c0,c1,c2,c3⟩:=hc
  obtain⟨xs,k,_,hxy,hlen,hxl,hf⟩:=DataW.trod_struct he h
  rw[ce] at hlen
  match xs,hxl,cs,hlen with
  | [y0,y1,y2,y3],_,[v0,v1,v2,v3],_ =>
    have g0:=hf 0 f0 rfl
    have g1:=hf 1 f1 rfl
    have g2:=hf 2 f2 rfl
    have g3:=hf 3 f3 rfl
    simp[o0,o1,o2,o3,c0,c1,c2,c3] at g0 g1 g2 g3
    exact⟨v0,v1,v2,v3,y0,y1,y2,y3,k,rfl,by rw[hxy];rfl,g0,g1,g2,g3⟩
theorem cells_four {W:World} {a:Addr} {i:Nat} {v0 v1 v2 v3:Value} (h:W.cells? 0 (a.add (i*4)) 4=some [v0,v1,v2,v3]) :
    W.cell? (a.add (i*4))=some v0∧W.cell? ⟨(a.add (i*4)).block,(a.add (i*4)).off+1,none⟩=some v1∧W.cell? ⟨(a.add (i*4)).block,(a.add (i*4)).off+2,none⟩=some v2∧W.cell? ⟨(a.add (i*4)).block,(a.add (i*4)).off+3,none⟩=some v3:=by
  obtain⟨_,_,hcell⟩:=World.cells?_some h
  have e0:=hcell 0 (by omega)
  have e1:=hcell 1 (by omega)
  have e2:=hcell 2 (by omega)
  have e3:=hcell 3 (by omega)
  rw[Go.Deep.add_add] at e0 e1 e2 e3
  rw[add_succP _ _ _ (by decide)] at e1 e2 e3
  exact⟨by simpa using e0,by simpa using e1,by simpa using e2,by simpa using e3⟩
theorem attrs_of_trod {H:Type} {enc:TypeId × Value→H} {W:World} {n:Nat} {v:Value} {x:DataW H × List MemPlace} (h:DataW.trod enc Tryz.prog W 0 (fun _=>true) true n 39 [v]=some x) :
    ∃ l:List Att,ReadA W v l∧parN l≤5*Rows.uptoBulk x.1:=by
  rcases Go.Deep.open_slice_pairs Tryz.underlying39 Tryz.underlying48 (by kernel_rfl) rfl rfl (by kernel_rfl) (by kernel_rfl) h with ⟨hcs,hx⟩ | ⟨a,len,cap,m,k,V0,V1,D0,D1,P0,P1,hcs,_,hl,hcp,hmm,hx,hc⟩
  · injection hcs with hcs
    subst hcs
    exact⟨[],⟨none,0,rfl,fun h0=>absurd h0 (Nat.not_lt_zero _)⟩,Nat.zero_le _⟩
  · injection hcs with hcs
    subst hcs
    have hml:len≤m:=by rw[hmm];split<;>omega
    have each:∀ i,i < len→∃ r:Att,(W.cell? (a.add (i*2))=some (.string (bts r.1))∧W.cell? (a.add (i*2+1))=some (.string (bts r.2)))∧5+r.1.length+r.2.length≤5*Rows.uptoBulk (DataW.agg [D0 i,D1 i]):=fun i hi=>by
      obtain⟨h0,h1,h2,h3⟩:=hc i (by omega)
      obtain⟨s,e1,w1,_⟩:=DataW.trod_string Tryz.underlying9 h2
      obtain⟨t,e2,w2,_⟩:=DataW.trod_string Tryz.underlying9 h3
      injection e1 with e1
      injection e2 with e2
      refine⟨(s.data.toList,t.data.toList),⟨by rw[h0,e1,bts_data],by rw[h1,e2,bts_data]⟩,?_⟩
      have w1':D0 i=.lit (.string s.data.toList):=congrArg Prod.fst w1
      have w2':D1 i=.lit (.string t.data.toList):=congrArg Prod.fst w2
      rw[w1',w2']
      simp only[Rows.uptoBulk,Rows.uptoBulkAll]
      omega
    obtain⟨X,hX⟩:=Go.Deep.choose_lt each
    refine⟨(List.range len).map X,⟨some a,cap,by rw[List.length_map,List.length_range],fun h0=>?_⟩,?_⟩
    · rw[List.length_map,List.length_range] at h0
      refine⟨a,rfl,?_,fun i r hi=>?_⟩
      · have:=lt_of_cellT (hX 0 h0).1.1
        rwa [addBlock] at this
      · rw[List.getElem?_map] at hi
        obtain⟨j,hj,rfl⟩:=Option.map_eq_some_iff.1 hi
        obtain⟨hj1,rfl⟩:=List.getElem?_eq_some_iff.1 hj
        rw[List.length_range] at hj1
        rw[List.getElem_range]
        have h2:=(hX i hj1).1.2
        rw[add_succP _ _ _ (by decide)] at h2
        exact⟨(hX i hj1).1.1,h2⟩
    · have h1:=sum_le_all 5 (D:=fun i=>(DataW.agg [D0 i,D1 i]:DataW H)) (f:=fun i=>5+(X i).1.length+(X i).2.length) (List.range len) (fun i hi=>(hX i (List.mem_range.1 hi)).2)
      have e:parN ((List.range len).map X)=((List.range len).map fun i=>5+(X i).1.length+(X i).2.length).sum:=by unfold parN;rw[List.map_map];rfl
      rw[e,hx]
      simp only[Rows.uptoBulk]
      omega
theorem props_of_trod {H:Type} {enc:TypeId × Value→H} {W:World} {n:Nat} {v:Value} {x:DataW H × List MemPlace} (h:DataW.trod enc Tryz.prog W 0 (fun _=>true) true n 22 [v]=some x) :
    ∃ c:List Pr,ReadP W v c∧costC c≤5*Rows.uptoBulk x.1:=by
  rcases Go.Deep.open_slice Tryz.underlying22 h with ⟨hcs,hx⟩ | ⟨a,len,cap,m,k,D,Pl,hcs,_,hl,hcp,hmm,hx,hc⟩
  · injection hcs with hcs
    subst hcs
    exact⟨[],ReadP.nil W,Nat.zero_le _⟩
  · injection hcs with hcs
    subst hcs
    have hml:len≤m:=by rw[hmm];split<;>omega
    have c4 : Tryz.prog.cellsOf 41=4:=by kernel_rfl
    rw[c4] at hc
    have each:∀ i,i < len→∃ t:Pr,(∃ u,AtP W (a.add (i*4)) t u∧ReadA W u t.2.2.1)∧costP t≤5*Rows.uptoBulk (D i):=fun i hi=>by
      obtain⟨cs,h1,h2⟩:=hc i (by omega)
      obtain⟨v0,v1,v2,v3,y0,y1,y2,y3,k,rfl,hD,t0,t1,t2,t3⟩:=four_of_trod Tryz.underlying41 c4 rfl (by kernel_rfl) h2
      obtain⟨k0,k1,k2,k3⟩:=cells_four h1
      obtain⟨s0,e0,w0,_⟩:=DataW.trod_string Tryz.underlying9 t0
      obtain⟨s1,e1,w1,_⟩:=DataW.trod_string Tryz.underlying9 t1
      obtain⟨l2,r2,b2⟩:=attrs_of_trod t2
      obtain⟨s3,e3,w3,_⟩:=DataW.trod_string Tryz.underlying9 t3
      obtain rfl:=(List.cons.inj e0).1
      obtain rfl:=(List.cons.inj e1).1
      obtain rfl:=(List.cons.inj e3).1
      have hD2:D i=.agg [y0.1,y1.1,y2.1,y3.1]:=hD
      refine⟨(s0.data.toList,s1.data.toList,l2,s3.data.toList),⟨v2,⟨?_,?_,k2,?_⟩,r2⟩,?_⟩
      · rw[k0,bts_data]
      · rw[k1,bts_data]
      · rw[k3,bts_data]
      · rw[hD2,w0,w1,w3]
        unfold costP
        simp only[Rows.uptoBulk,Rows.uptoBulkAll]
        omega
    obtain⟨X,hX⟩:=Go.Deep.choose_lt each
    refine⟨(List.range len).map X,⟨some a,cap,by rw[List.length_map,List.length_range],fun h0=>?_⟩,?_⟩
    · rw[List.length_map,List.length_range] at h0
      refine⟨a,rfl,?_,fun i r hi=>?_⟩
      · obtain⟨u,k,_⟩:=(hX 0 h0).1
        have:=lt_of_cellT k.1
        rwa [addBlock] at this
      · rw[List.getElem?_map] at hi
        obtain⟨j,hj,rfl⟩:=Option.map_eq_some_iff.1 hi
        obtain⟨hj1,rfl⟩:=List.getElem?_eq_some_iff.1 hj
        rw[List.length_range] at hj1
        rw[List.getElem_range]
        exact(hX i hj1).1
    · have h1:=sum_le_all 5 (D:=D) (f:=fun i=>costP (X i)) (List.range len) (fun i hi=>(hX i (List.mem_range.1 hi)).2)
      have e:costC ((List.range len).map X)=((List.range len).map fun i=>costP (X i)).sum:=by unfold costC;rw[List.map_map];rfl
      rw[e,hx]
      simp only[Rows.uptoBulk]
      omega
end Go.Proofs.YtfbdnaclkfmiaaaGreatDoor