import Derived.Test.YtfbdnaclkfmiaaaGreatDoorB51
import Derived.Test.YtfbdnaclkfmiaaaGreatDoorB21
import Derived.Lib.SmallJoins
namespace Go.Proofs.YtfbdnaclkfmiaaaGreatDoor
open Go.ChangeShapes Go.WideShapes Go.ChangeAt Go.RowKit Vc Ct
theorem eleven_of_trod {H:Type} {enc:TypeId × Value→H} {P:Program} {w:World} {base:Nat} {spare:Nat→Bool} {held:Bool} {e:TypeId} {f0 f1 f2 f3 f4 f5 f6 f7 f8 f9 f10:Field} {n:Nat} {cs:List Value} {x:DataW H × List MemPlace}
    (he:P.underlying e=some (.struct #[f0,f1,f2,f3,f4,f5,f6,f7,f8,f9,f10])) (ce:P.cellsOf e=11) (ho:[f0,f1,f2,f3,f4,f5,f6,f7,f8,f9,f10].map (·.offset)=[0,1,2,3,4,5,6,7,8,9,10]) (hc:[f0,f1,f2,f3,f4,f5,f6,f7,f8,f9,f10].map (fun f=>P.cellsOf f.type)=[1,1,1,1,1,1,1,1,1,1,1])
    (h:DataW.trod enc P w base spare held n e cs=some x) :
    ∃ (v0 v1 v2 v3 v4 v5 v6 v7 v8 v9 v10:Value) (y0 y1 y2 y3 y4 y5 y6 y7 y8 y9 y10:DataW H × List MemPlace) (k:Nat),cs=[v0,v1,v2,v3,v4,v5,v6,v7,v8,v9,v10]∧x.1=.agg [y0.1,y1.1,y2.1,y3.1,y4.1,y5.1,y6.1,y7.1,y8.1,y9.1,y10.1]∧DataW.trod enc P w base spare held k f0.type [v0]=some y0∧DataW.trod enc P w base spare held k f1.type [v1]=some y1∧DataW.trod enc P w base spare held k f2.type [v2]=some y2∧DataW.trod enc P w base spare held k f3.type [v3]=some y3∧DataW.trod enc P w base spare held k f4.type [v4]=some y4∧DataW.trod enc P w base spare held k f5.type [v5]=some y5∧DataW.trod enc P w base spare held k f6.type [v6]=some y6∧DataW.trod enc P w base spare held k f7.type [v7]=some y7∧DataW.trod enc P w base spare held k f8.type [v8]=some y8∧DataW.trod enc P w base spare held k f9.type [v9]=some y9∧DataW.trod enc P w base spare held k f10.type [v10]=some y10:=by
  simp only[List.map_cons,List.map_nil,List.cons.injEq,and_true] at ho hc
  obtain⟨o0,o1,o2,o3,o4,o5,o6,o7,o8,o9,o10⟩:=ho
  obtain⟨c0,c1,c2,c3,c4,c5,c6,c7,c8,c9,c10⟩:=hc
  obtain⟨xs,k,_,hxy,hlen,hxl,hf⟩:=DataW.trod_struct he h
  rw[ce] at hlen
  match xs,hxl,cs,hlen with
  | [y0,y1,y2,y3,y4,y5,y6,y7,y8,y9,y10],_,[v0,v1,v2,v3,v4,v5,v6,v7,v8,v9,v10],_ =>
    have g0:=hf 0 f0 rfl
    simp[o0,c0] at g0
    have g1:=hf 1 f1 rfl
    simp[o1,c1] at g1
    have g2:=hf 2 f2 rfl
    simp[o2,c2] at g2
    have g3:=hf 3 f3 rfl
    simp[o3,c3] at g3
    have g4:=hf 4 f4 rfl
    simp[o4,c4] at g4
    have g5:=hf 5 f5 rfl
    simp[o5,c5] at g5
    have g6:=hf 6 f6 rfl
    simp[o6,c6] at g6
    have g7:=hf 7 f7 rfl
    simp[o7,c7] at g7
    have g8:=hf 8 f8 rfl
    simp[o8,c8] at g8
    have g9:=hf 9 f9 rfl
    simp[o9,c9] at g9
    have g10:=hf 10 f10 rfl
    simp[o10,c10] at g10
    exact⟨v0,v1,v2,v3,v4,v5,v6,v7,v8,v9,v10,y0,y1,y2,y3,y4,y5,y6,y7,y8,y9,y10,k,rfl,by rw[hxy];rfl,g0,g1,g2,g3,g4,g5,g6,g7,g8,g9,g10⟩
theorem lt_of_cellK {W:World} {a:Addr} {v:Value} (h:W.cell? a=some v):a.block < W.heap.size:=by
  rcases Nat.lt_or_ge a.block W.heap.size with h' | h'
  · exact h'
  · simp[World.cell?,Array.getElem?_eq_none h'] at h
theorem bulk_strsK {H:Type}:∀ xs:List ByteArray,((Go.Proofs.YtfbdnaclkfmiaaaGreatDoor.btl xs).map fun x=>3+x.length).sum≤3*Rows.uptoBulkAll (xs.map fun s=>(DataW.lit (.string s.data.toList):DataW H))
  | []=>by simp[btl]
  | a::t=>by
    have ih:=bulk_strsK (H:=H) t
    simp only[btl,List.map_cons,List.sum_cons,Rows.uptoBulkAll,Rows.uptoBulk] at ih ⊢
    omega
theorem strs_of_cellsK {H:Type} {enc:TypeId × Value→H} {W:World} {v:Value} {n:Nat} {x:DataW H × List MemPlace}
    (hv:v.cells.toList=[v]) (hf:DataW.trod enc Tryz.prog W 0 (fun _=>true) true n 23 v.cells.toList=some x) :
    ∃ xs:List ByteArray,ReadT W.heap.size W v xs∧3+((Go.Proofs.YtfbdnaclkfmiaaaGreatDoor.btl xs).map fun x=>3+x.length).sum≤3*Rows.uptoBulk x.1:=by
  rw[hv] at hf
  rcases Go.Deep.open_strs Tryz.underlying23 Tryz.underlying9 (by kernel_rfl) hf with ⟨hcs,hx⟩ | ⟨a,len,cap,m,Sx,hcs,_,hl,hm,hmm,hx,hc⟩
  · injection hcs with hcs
    subst hcs
    refine⟨[],ReadT.nil _ _ _,?_⟩
    rw[hx]
    simp[btl,Rows.uptoBulk]
  · injection hcs with hcs
    subst hcs
    have hml:len≤m:=by rw[hmm];split<;>omega
    refine⟨(List.range len).map Sx,⟨some a,cap,by rw[List.length_map,List.length_range],fun h0=>?_⟩,?_⟩
    · rw[List.length_map,List.length_range] at h0
      refine⟨a,rfl,?_,fun i b hi=>?_⟩
      · have:=lt_of_cellK (hc 0 (by omega)).1
        rwa [addBlock] at this
      · rw[List.getElem?_map] at hi
        obtain⟨j,hj,rfl⟩:=Option.map_eq_some_iff.1 hi
        obtain⟨hj1,rfl⟩:=List.getElem?_eq_some_iff.1 hj
        rw[List.length_range] at hj1
        rw[List.getElem_range]
        exact(hc i (by omega)).1
    · have hb:=bulk_strsK (H:=H) ((List.range len).map Sx)
      rw[List.map_map] at hb
      rw[hx]
      simp only[Rows.uptoBulk]
      have he:(List.range len).map ((fun s:ByteArray=>(DataW.lit (.string s.data.toList):DataW H)) ∘ Sx)=(List.range len).map fun i=>.lit (.string (Sx i).data.toList):=rfl
      rw[he] at hb
      omega
theorem sts_btl (xs:List ByteArray):sts (Go.Proofs.YtfbdnaclkfmiaaaGreatDoor.btl xs)=xs:=by
  unfold sts btl
  rw[List.map_map]
  exact(List.map_congr_left fun s _=>bts_data s).trans (List.map_id _)
theorem sum_each {f:List UInt8→Nat}:∀ {l:List (List UInt8)} {x:List UInt8},x∈l→f x≤(l.map f).sum
  | a :: t,x,h=>by
    rw[List.map_cons,List.sum_cons]
    rcases List.mem_cons.1 h with e | e
    · rw[e];omega
    · have:=sum_each (f:=f) e
      omega
theorem sum_count {f:List UInt8→Nat} (hf:∀ x,3≤f x):∀ (l:List (List UInt8)),3*l.length≤(l.map f).sum
  | []=>Nat.zero_le _
  | a::t=>by
    rw[List.map_cons,List.sum_cons,List.length_cons]
    have:=sum_count hf t
    have:=hf a
    omega
set_option maxRecDepth 100000 in
theorem contact_of_trod {H:Type} {enc:TypeId × Value→H} {W:World} {base:Nat} {v:Value} {d:DataW H} {ps:List MemPlace}
    (hv:Value.okWide Tryz.prog W .any base 25 v) (h:DataW.Trod enc Tryz.prog W 0 (fun _=>true) true 25 v d ps) :
    ∃ (c:Con) (gv o:Value),v=agC c gv o∧ReadT W.heap.size W gv (sts c.groups)∧ReadP W o c.other∧(∀ x∈[c.name,c.family,c.given,c.nick,c.jid,c.email,c.tel,c.note,c.uid],x.length≤Rows.uptoBulk d)∧c.groups.length≤Rows.uptoBulk d∧(∀ g∈c.groups,g.length≤3*Rows.uptoBulk d)∧costC c.other≤5*Rows.uptoBulk d∧(c.groups.map fun x=>3+x.length).sum≤3*Rows.uptoBulk d:=by
  have c11 : Tryz.prog.cellsOf 25=11:=by kernel_rfl
  obtain⟨cs,rfl,hsz⟩:=okWide_struct Tryz.underlying25 hv
  obtain⟨fuel,hf⟩:=h
  obtain⟨v0,v1,v2,v3,v4,v5,v6,v7,v8,v9,v10,y0,y1,y2,y3,y4,y5,y6,y7,y8,y9,y10,k,hcs,hD,t0,t1,t2,t3,t4,t5,t6,t7,t8,t9,t10⟩:=eleven_of_trod Tryz.underlying25 c11 rfl (by kernel_rfl) hf
  obtain⟨s0,e0,w0,_⟩:=DataW.trod_string Tryz.underlying9 t0
  obtain rfl:=(List.cons.inj e0).1
  obtain⟨s1,e1,w1,_⟩:=DataW.trod_string Tryz.underlying9 t1
  obtain rfl:=(List.cons.inj e1).1
  obtain⟨s2,e2,w2,_⟩:=DataW.trod_string Tryz.underlying9 t2
  obtain rfl:=(List.cons.inj e2).1
  obtain⟨s3,e3,w3,_⟩:=DataW.trod_string Tryz.underlying9 t3
  obtain rfl:=(List.cons.inj e3).1
  obtain⟨s4,e4,w4,_⟩:=DataW.trod_string Tryz.underlying9 t4
  obtain rfl:=(List.cons.inj e4).1
  obtain⟨s5,e5,w5,_⟩:=DataW.trod_string Tryz.underlying9 t5
  obtain rfl:=(List.cons.inj e5).1
  obtain⟨s6,e6,w6,_⟩:=DataW.trod_string Tryz.underlying9 t6
  obtain rfl:=(List.cons.inj e6).1
  obtain⟨s7,e7,w7,_⟩:=DataW.trod_string Tryz.underlying9 t7
  obtain rfl:=(List.cons.inj e7).1
  obtain⟨s8,e8,w8,_⟩:=DataW.trod_string Tryz.underlying9 t8
  obtain rfl:=(List.cons.inj e8).1
  obtain⟨a9,n9,m9,rfl⟩:∃ a n m,v9=.slice a n m:=by
    rcases Go.Deep.open_strs Tryz.underlying23 Tryz.underlying9 (by kernel_rfl) t9 with ⟨hcs,_⟩ | ⟨a,len,cap,m,Sx,hcs,_⟩
    · exact⟨_,_,_,(List.cons.inj hcs).1⟩
    · exact⟨_,_,_,(List.cons.inj hcs).1⟩
  obtain⟨xs,r9,b9⟩:=strs_of_cellsK (v:=.slice a9 n9 m9) rfl t9
  obtain⟨l10,r10,b10⟩:=props_of_trod t10
  have hD2:d=.agg [y0.1,y1.1,y2.1,y3.1,y4.1,y5.1,y6.1,y7.1,y8.1,y9.1,y10.1]:=hD
  have hb:Rows.uptoBulk d=Rows.uptoBulk (.agg [y0.1,y1.1,y2.1,y3.1,y4.1,y5.1,y6.1,y7.1,y8.1,y9.1,y10.1]:DataW H):=congrArg Rows.uptoBulk hD2
  rw[w0,w1,w2,w3,w4,w5,w6,w7,w8] at hb
  simp only[Rows.uptoBulk,Rows.uptoBulkAll] at hb
  have hcnt:=sum_count (f:=fun x:List UInt8=>3+x.length) (fun x=>Nat.le_add_right _ _) (Go.Proofs.YtfbdnaclkfmiaaaGreatDoor.btl xs)
  have hone:∀ g∈Go.Proofs.YtfbdnaclkfmiaaaGreatDoor.btl xs,3+g.length≤((Go.Proofs.YtfbdnaclkfmiaaaGreatDoor.btl xs).map fun x=>3+x.length).sum:=fun g hg=>sum_each (f:=fun x:List UInt8=>3+x.length) hg
  refine⟨⟨s0.data.toList,s1.data.toList,s2.data.toList,s3.data.toList,s4.data.toList,s5.data.toList,s6.data.toList,s7.data.toList,s8.data.toList,Go.Proofs.YtfbdnaclkfmiaaaGreatDoor.btl xs,l10⟩,.slice a9 n9 m9,v10,?_,by rw[sts_btl];exact r9,r10,?_,?_,fun g hg=>?_,?_,?_⟩
  · show Value.agg cs=.agg (conCells _ _ _)
    congr 1
    apply Array.ext'
    show (Value.agg cs).cells.toList=_
    rw[hcs]
    unfold conCells
    simp only[bts_data]
  · intro x hx
    simp only[List.mem_cons,List.not_mem_nil,or_false] at hx
    rcases hx with h | h | h | h | h | h | h | h | h<;>rw[h]<;>omega
  · show (Go.Proofs.YtfbdnaclkfmiaaaGreatDoor.btl xs).length≤_
    omega
  · have:=hone g hg
    omega
  · show costC l10≤_
    omega
  · show ((Go.Proofs.YtfbdnaclkfmiaaaGreatDoor.btl xs).map fun x=>3+x.length).sum≤_
    omega
end Go.Proofs.YtfbdnaclkfmiaaaGreatDoor