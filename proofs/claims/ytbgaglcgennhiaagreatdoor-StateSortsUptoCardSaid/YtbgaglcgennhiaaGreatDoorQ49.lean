import Derived.Test.YtbgaglcgennhiaaGreatDoorQ29
import Derived.Test.YtbgaglcgennhiaaGreatDoorQ30
import Derived.Deep.Strs
import Derived.SizedLaws
namespace Go.Proofs.YtbgaglcgennhiaaGreatDoor
open Go.ChangeShapes Go.WideShapes Go.ChangeAt Go.RowKit Tx Ct
theorem zh {W:World} (hT:Lib.Utf8Tabs 1 2 W) (hS:W.ShapedOpen Tryz.prog):Okw W:=⟨hT,Tryz.laysM219.s1_3 W hS⟩
def s8 (xs:List ByteArray):List (List UInt8):=xs.map fun s=>s.data.toList
theorem sX (xs:List ByteArray):al (s8 xs)=xs:=by unfold al s8;rw[List.map_map];exact(List.map_congr_left fun s _=>rfl).trans (List.map_id _)
theorem jB {W:World} {a:Addr} {v:Value} (h:W.cell? a=some v):a.block<W.heap.size:=by
 rcases Nat.lt_or_ge a.block W.heap.size with h'|h'
 ·exact h'
 ·simp[World.cell?,Array.getElem?_eq_none h'] at h
theorem kt {H:Type}:∀ xs:List ByteArray,((s8 xs).map fun x=>3+x.length).sum<=3*Rows.uptoBulkAll (xs.map fun s=>(DataW.lit (.string s.data.toList):DataW H))
 |[]=>by simp[s8]
 | a::t=>by have ih:=kt (H:=H) t;simp only[s8,List.map_cons,List.sum_cons,Rows.uptoBulkAll,Rows.uptoBulk] at ih ⊢;omega
theorem fV {H:Type} {enc:TypeId × Value->H} {W:World} {v:Value} {n:Nat} {x:DataW H × List MemPlace}
 (hv:v.cells.toList=[v]) (hf:DataW.trod enc Tryz.prog W 0 (fun _=>true) true n 26 v.cells.toList=some x):
 ∃ xs:List ByteArray,ReadT W.heap.size W v xs/\3+((s8 xs).map fun x=>3+x.length).sum<=3*Rows.uptoBulk x.1:=by
 rw[hv] at hf;rcases Go.Deep.open_strs Tryz.underlying26 Tryz.underlying9 (by kernel_rfl) hf with ⟨hcs,hx⟩|⟨a,len,cap,m,Sx,hcs,_,hl,hm,hmm,hx,hc⟩
 ·injection hcs with hcs;subst hcs;refine⟨[],ReadT.nil _ _ _,?_⟩;rw[hx];simp[s8,Rows.uptoBulk]
 ·injection hcs with hcs;subst hcs;have hml:len<=m:=(by rw[hmm];split<;>omega);refine⟨(List.range len).map Sx,⟨some a,cap,by rw[cr,List.length_range],fun h0=>?_⟩,?_⟩
  ·rw[cr,List.length_range] at h0;refine⟨a,rfl,?_,fun i b hi=>?_⟩
   ·have:=jB (hc 0 (by omega)).1;rwa [aC] at this
   ·rw[List.getElem?_map] at hi;obtain⟨j,hj,rfl⟩:=Option.map_eq_some_iff.1 hi;obtain⟨hj1,rfl⟩:=cD hj;rw[List.length_range] at hj1;rw[List.getElem_range];exact(hc i (by omega)).1
  ·have hb:=kt (H:=H) ((List.range len).map Sx);rw[List.map_map] at hb;rw[hx];simp only[Rows.uptoBulk];have he:(List.range len).map ((fun s:ByteArray=>(DataW.lit (.string s.data.toList):DataW H)) ∘ Sx)=(List.range len).map fun i=>.lit (.string (Sx i).data.toList):=rfl;rw[he] at hb;omega
theorem kP {l:List (List UInt8)} {n:Nat} (h:3+(l.map fun x=>3+x.length).sum<=n):aR l<=n:=by
 have e:∀ l:List (List UInt8),aR l<=(l.map fun x=>3+x.length).sum:=fun l=>by
  unfold aR
  induction l with
  |nil=>simp
  |cons x t ih=>simp only[List.map_cons,List.sum_cons];omega
 have:=e l;omega
end Go.Proofs.YtbgaglcgennhiaaGreatDoor
