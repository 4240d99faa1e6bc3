import Derived.Test.YtbgaglcgennhiaaGreatDoorQ49
import Derived.Deep.SlicePairs
set_option maxRecDepth 100000
namespace Go.Proofs.YtbgaglcgennhiaaGreatDoor
open Go.ChangeShapes Go.WideShapes Go.ChangeAt Go.RowKit Tx Ct
theorem nI {H:Type} {enc:TypeId × Value->H} {P:Program} {w:World} {base:Nat} {spare:Nat->Bool} {held:Bool} {e:TypeId} {f0 f1 f2 f3 f4 f5:Field} {n:Nat} {cs:List Value} {x:DataW H × List MemPlace}
 (he:P.underlying e=some (.struct #[f0,f1,f2,f3,f4,f5])) (ce:P.cellsOf e=6) (ho:[f0,f1,f2,f3,f4,f5].map (·.offset)=[0,1,2,3,4,5]) (hc:[f0,f1,f2,f3,f4,f5].map (fun f=>P.cellsOf f.type)=[1,1,1,1,1,1])
 (h:DataW.trod enc P w base spare held n e cs=some x):
 ∃ (v0 v1 v2 v3 v4 v5:Value) (y0 y1 y2 y3 y4 y5:DataW H × List MemPlace) (k:Nat),cs=[v0,v1,v2,v3,v4,v5]/\x.1=.agg [y0.1,y1.1,y2.1,y3.1,y4.1,y5.1] /\
   DataW.trod enc P w base spare held k f0.type [v0]=some y0/\DataW.trod enc P w base spare held k f1.type [v1]=some y1/\DataW.trod enc P w base spare held k f2.type [v2]=some y2 /\
   DataW.trod enc P w base spare held k f3.type [v3]=some y3/\DataW.trod enc P w base spare held k f4.type [v4]=some y4/\DataW.trod enc P w base spare held k f5.type [v5]=some y5:=by
 simp only[List.map_cons,List.map_nil,List.cons.injEq,and_true] at ho hc;obtain⟨o0,o1,o2,o3,o4,o5⟩:=ho;obtain⟨c0,c1,c2,c3,c4,c5⟩:=hc;obtain⟨xs,k,_,hxy,hlen,hxl,hf⟩:=DataW.trod_struct he h;rw[ce] at hlen
 match xs,hxl,cs,hlen with
 | [y0,y1,y2,y3,y4,y5],_,[v0,v1,v2,v3,v4,v5],_=>have g0:=hf 0 f0 rfl;have g1:=hf 1 f1 rfl;have g2:=hf 2 f2 rfl;have g3:=hf 3 f3 rfl;have g4:=hf 4 f4 rfl;have g5:=hf 5 f5 rfl;simp[o0,o1,o2,o3,o4,o5,c0,c1,c2,c3,c4,c5] at g0 g1 g2 g3 g4 g5;exact⟨v0,v1,v2,v3,v4,v5,y0,y1,y2,y3,y4,y5,k,rfl,by rw[hxy];rfl,g0,g1,g2,g3,g4,g5⟩
theorem l4 {H:Type} {enc:TypeId × Value->H} {W:World} {n:Nat} {cs:List Value} {x:DataW H × List MemPlace}
 (h:DataW.trod enc Tryz.prog W 0 (fun _=>true) true n 53 cs=some x):
 ∃ (i:bj) (q:bB),cs=gH i (sl q)/\ReadT W.heap.size W (sl q) (al i.groups)/\cI i<=8*Rows.uptoBulk x.1/\2<=Rows.uptoBulk x.1:=by
 have c6 : Tryz.prog.cellsOf 53=6:=by kernel_rfl
 obtain⟨v0,v1,v2,v3,v4,v5,y0,y1,y2,y3,y4,y5,k,rfl,hD,t0,t1,t2,t3,t4,t5⟩:=nI Tryz.underlying53 c6 rfl (by kernel_rfl) h;obtain⟨s0,e0,w0,_⟩:=DataW.trod_string Tryz.underlying9 t0;obtain⟨s1,e1,w1,_⟩:=DataW.trod_string Tryz.underlying9 t1;obtain⟨z3,e3,w3,_⟩:=DataW.trod_int Tryz.underlying3 t3;obtain⟨b4,e4,w4⟩:=DataW.trod_bool Tryz.underlying4 t4;obtain⟨b5,e5,w5⟩:=DataW.trod_bool Tryz.underlying4 t5;obtain rfl:=(List.cons.inj e0).1;obtain rfl:=(List.cons.inj e1).1;obtain rfl:=(List.cons.inj e3).1;obtain rfl:=(List.cons.inj e4).1;obtain rfl:=(List.cons.inj e5).1;obtain⟨a2,n2,m2,rfl⟩:∃ a n m,v2=.slice a n m:=by
  rcases Go.Deep.open_strs Tryz.underlying26 Tryz.underlying9 (by kernel_rfl) t2 with ⟨hcs,_⟩|⟨a,len,cap,m,Sx,hcs,_⟩
  ·exact⟨_,_,_,(List.cons.inj hcs).1⟩
  ·exact⟨_,_,_,(List.cons.inj hcs).1⟩
 obtain⟨xs,r2,b2⟩:=fV (v:=.slice a2 n2 m2) rfl t2;have hh:=kP b2;refine⟨⟨s0.data.toList,s1.data.toList,s8 xs,z3,b4,b5⟩,(a2,n2,m2),rfl,by rw[sX];exact r2,?_,?_⟩<;>rw[hD,w0,w1,w3,w4,w5];case refine_2=>simp only[Rows.uptoBulk,Rows.uptoBulkAll];omega
 show 5+s0.data.toList.length+s1.data.toList.length+aR (s8 xs)<=_;simp only[Rows.uptoBulk,Rows.uptoBulkAll];omega
theorem uY {W:World} {a:Addr} {v:Value} (h:W.cell? a=some v):a.spot=none:=by
 unfold World.cell? at h;split at h
 ·by_cases hs:a.spot.isSome=true
  ·rw[if_pos hs] at h;cases h
  ·cases ha:a.spot with
   |none=>rfl
   |some x=>rw[ha] at hs;exact absurd rfl hs
 ·cases h
theorem qh {H:Type} {D:Nat->DataW H} {f:Nat->Nat} (c:Nat):∀ l:List Nat,(∀ i∈l,f i<=c*Rows.uptoBulk (D i))->(l.map f).sum<=c*Rows.uptoBulkAll (l.map D)
 |[],_=>by simp
 | a::t,h=>by have h1:=h a List.mem_cons_self;have h2:=qh c t (fun i hi=>h i (List.mem_cons_of_mem _ hi));simp only[List.map_cons,List.sum_cons,Rows.uptoBulkAll];rw[Nat.mul_add];omega
end Go.Proofs.YtbgaglcgennhiaaGreatDoor
