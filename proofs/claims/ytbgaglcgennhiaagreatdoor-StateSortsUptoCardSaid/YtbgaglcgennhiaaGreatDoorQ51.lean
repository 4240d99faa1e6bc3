import Derived.Test.YtbgaglcgennhiaaGreatDoorQ50
import Derived.Test.YtbgaglcgennhiaaGreatDoorQ38
set_option maxRecDepth 100000
namespace Go.Proofs.YtbgaglcgennhiaaGreatDoor
open Go.ChangeShapes Go.WideShapes Go.ChangeAt Go.RowKit Tx Ct
theorem m6 {H:Type} {enc:TypeId × Value->H} {P:Program} {w:World} {base:Nat} {spare:Nat->Bool} {held:Bool} {e:TypeId} {f0 f1 f2 f3:Field} {n:Nat} {cs:List Value} {x:DataW H × List MemPlace}
 (he:P.underlying e=some (.struct #[f0,f1,f2,f3])) (ce:P.cellsOf e=4) (ho:[f0,f1,f2,f3].map (·.offset)=[0,1,2,3]) (hc:[f0,f1,f2,f3].map (fun f=>P.cellsOf f.type)=[1,1,1,1])
 (h:DataW.trod enc P w base spare held n e cs=some x):
 ∃ (v0 v1 v2 v3:Value) (y0 y1 y2 y3:DataW H × List MemPlace) (k:Nat),cs=[v0,v1,v2,v3]/\x.1=.agg [y0.1,y1.1,y2.1,y3.1]/\DataW.trod enc P w base spare held k f0.type [v0]=some y0/\DataW.trod enc P w base spare held k f1.type [v1]=some y1/\DataW.trod enc P w base spare held k f2.type [v2]=some y2/\DataW.trod enc P w base spare held k f3.type [v3]=some y3:=by
 simp only[List.map_cons,List.map_nil,List.cons.injEq,and_true] at ho hc;obtain⟨o0,o1,o2,o3⟩:=ho;obtain⟨c0,c1,c2,c3⟩:=hc;obtain⟨xs,k,_,hxy,hlen,hxl,hf⟩:=DataW.trod_struct he h;rw[ce] at hlen
 match xs,hxl,cs,hlen with
 | [y0,y1,y2,y3],_,[v0,v1,v2,v3],_=>have g0:=hf 0 f0 rfl;have g1:=hf 1 f1 rfl;have g2:=hf 2 f2 rfl;have g3:=hf 3 f3 rfl;simp[o0,o1,o2,o3,c0,c1,c2,c3] at g0 g1 g2 g3;exact⟨v0,v1,v2,v3,y0,y1,y2,y3,k,rfl,by rw[hxy];rfl,g0,g1,g2,g3⟩
theorem qr {H:Type} {enc:TypeId × Value->H} {P:Program} {w:World} {base:Nat} {spare:Nat->Bool} {held:Bool} {e:TypeId} {f0 f1:Field} {n:Nat} {cs:List Value} {x:DataW H × List MemPlace}
 (he:P.underlying e=some (.struct #[f0,f1])) (ce:P.cellsOf e=2) (ho:[f0,f1].map (·.offset)=[0,1]) (hc:[f0,f1].map (fun f=>P.cellsOf f.type)=[1,1])
 (h:DataW.trod enc P w base spare held n e cs=some x):
 ∃ (v0 v1:Value) (y0 y1:DataW H × List MemPlace) (k:Nat),cs=[v0,v1]/\x.1=.agg [y0.1,y1.1]/\DataW.trod enc P w base spare held k f0.type [v0]=some y0/\DataW.trod enc P w base spare held k f1.type [v1]=some y1:=by
 simp only[List.map_cons,List.map_nil,List.cons.injEq,and_true] at ho hc;obtain⟨o0,o1⟩:=ho;obtain⟨c0,c1⟩:=hc;obtain⟨xs,k,_,hxy,hlen,hxl,hf⟩:=DataW.trod_struct he h;rw[ce] at hlen
 match xs,hxl,cs,hlen with
 | [y0,y1],_,[v0,v1],_=>have g0:=hf 0 f0 rfl;have g1:=hf 1 f1 rfl;simp[o0,o1,c0,c1] at g0 g1;exact⟨v0,v1,y0,y1,k,rfl,by rw[hxy];rfl,g0,g1⟩
theorem pq {H:Type} {enc:TypeId × Value->H} {P:Program} {w:World} {base:Nat} {spare:Nat->Bool} {held:Bool} {e:TypeId} {f0:Field} {n:Nat} {cs:List Value} {x:DataW H × List MemPlace}
 (he:P.underlying e=some (.struct #[f0])) (ce:P.cellsOf e=1) (ho:[f0].map (·.offset)=[0]) (hc:[f0].map (fun f=>P.cellsOf f.type)=[1])
 (h:DataW.trod enc P w base spare held n e cs=some x):
 ∃ (v0:Value) (y0:DataW H × List MemPlace) (k:Nat),cs=[v0]/\x.1=.agg [y0.1]/\DataW.trod enc P w base spare held k f0.type [v0]=some y0:=by
 simp only[List.map_cons,List.map_nil,List.cons.injEq,and_true] at ho hc;have o0:=ho;have c0:=hc;obtain⟨xs,k,_,hxy,hlen,hxl,hf⟩:=DataW.trod_struct he h;rw[ce] at hlen
 match xs,hxl,cs,hlen with
 | [y0],_,[v0],_=>have g0:=hf 0 f0 rfl;simp[o0,c0] at g0;exact⟨v0,y0,k,rfl,by rw[hxy];rfl,g0⟩
theorem jh {H:Type} {enc:TypeId × Value->H} {W:World} {ts te:TypeId} {α:Type} {en:α->List Value} {k:Nat} (hk:∀ x,(en x).length=k) (hk0:0<k) (good:α->Prop) (f:α->Nat)
 (hT : Tryz.prog.underlying ts=some (.slice te)) (ck : Tryz.prog.cellsOf te=k)
 (hone:∀ (n:Nat) (cs:List Value) (x:DataW H × List MemPlace),DataW.trod enc Tryz.prog W 0 (fun _=>true) true n te cs=some x->∃ y:α,cs=en y/\good y/\f y<=8*Rows.uptoBulk x.1)
 {v:Value} {n:Nat} {x:DataW H × List MemPlace} (hf:DataW.trod enc Tryz.prog W 0 (fun _=>true) true n ts [v]=some x):
 ∃ l:List α,(∃ a len cap,v=.slice a len cap)/\RowV en k W.heap.size W v l/\(∀ y∈l,good y)/\(l.map f).sum<=8*Rows.uptoBulk x.1:=by
 rcases Go.Deep.open_slice hT hf with ⟨hcs,hx⟩|⟨a,len,cap,m,n,D,Pl,hcs,_,hl,hcp,hmm,hx,hc⟩
 ·obtain rfl:=(List.cons.inj hcs).1;exact⟨[],⟨_,_,_,rfl⟩,⟨none,0,rfl,fun h0=>absurd h0 (Nat.lt_irrefl _)⟩,fun p hp=>(by cases hp),bI _⟩
 ·obtain rfl:=(List.cons.inj hcs).1;have hml:len<=m:=(by rw[hmm];split<;>omega);rw[ck] at hc;have each:∀ i,i<len->∃ p:α,(W.cells? 0 (a.add (i*k)) k=some (en p)/\good p)/\f p<=8*Rows.uptoBulk (D i):=(fun i hi=>by obtain⟨cs,h1,h2⟩:=hc i (by omega);obtain⟨y,rfl,hr,hb⟩:=hone _ _ _ h2;exact⟨y,⟨h1,hr⟩,hb⟩);by_cases hl0:len=0
  ·subst hl0;refine⟨[],⟨_,_,_,rfl⟩,⟨some a,cap,rfl,fun h0=>absurd h0 (Nat.lt_irrefl _)⟩,fun p hp=>(by cases hp),bI _⟩
  obtain⟨x0,hx0⟩:=each 0 (by omega)
  haveI:Inhabited α:=⟨x0⟩
  obtain⟨X,hX⟩:=Go.Deep.choose_lt each;have hcell:∀ i,i<len->∀ c u,(en (X i))[c]?=some u->W.cell? (a.add (i*k+c))=some u:=(fun i hi c u hu=>by obtain⟨_,_,hcl⟩:=World.cells?_some (hX i hi).1.1;have hck:c<k:=(by have:=(cD hu).1;rw[hk] at this;exact this);have e:=hcl c hck;rw[Go.Deep.add_add] at e;rw[e];exact hu);have hd:x.1=.slice ((List.range len).map D) ((List.range (m-len)).map fun j=>D (len+j)):=congrArg Prod.fst hx;have hu:Rows.uptoBulkAll ((List.range len).map D)<=Rows.uptoBulk x.1:=(by rw[hd];simp only[Rows.uptoBulk];omega);refine⟨(List.range len).map X,⟨_,_,_,rfl⟩,⟨some a,cap,by rw[cr,List.length_range],fun h0=>?_⟩,fun p hp=>?_,?_⟩
  ·rw[cr,List.length_range] at h0;obtain⟨u0,hu0⟩:∃ u,(en (X 0))[0]?=some u:=⟨_,aQ (by rw[hk];exact hk0)⟩;have z0:=hcell 0 h0 0 _ hu0;have z1:W.cell? a=some u0:=(by simpa [Addr.add] using z0);have hsp:=uY z1;obtain⟨b,off,sp⟩:=a;simp only at hsp;subst hsp;refine⟨b,off,rfl,jB z1,fun i p hi c u hu=>?_⟩;rw[List.getElem?_map] at hi;obtain⟨j,hj,rfl⟩:=Option.map_eq_some_iff.1 hi;obtain⟨hj1,rfl⟩:=cD hj;rw[List.length_range] at hj1;rw[List.getElem_range] at hu;have e:=hcell i hj1 c u hu;rw[show (⟨b,off+i*k+c,none⟩:Addr)=(⟨b,off,none⟩:Addr).add (i*k+c) from ?_]
   ·exact e
   ·unfold Addr.add;split
    ·next h=>simp only[Addr.mk.injEq,and_true,true_and];omega
    ·simp only[Nat.add_assoc]
  ·obtain⟨i,hi,rfl⟩:=List.mem_map.1 hp;exact(hX i (List.mem_range.1 hi)).1.2
  ·have h1:=qh 8 (D:=D) (f:=fun i=>f (X i)) (List.range len) (fun i hi=>(hX i (List.mem_range.1 hi)).2);rw[List.map_map];exact co h1 (Nat.mul_le_mul_left _ hu)
theorem mc {H:Type} {enc:TypeId × Value->H} {W:World} {n:Nat} {cs:List Value} {x:DataW H × List MemPlace}
 (h:DataW.trod enc Tryz.prog W 0 (fun _=>true) true n 28 cs=some x):
 ∃ u:bk,cs=ao u/\InU W u/\bJ u<=8*Rows.uptoBulk x.1:=by
 have c4 : Tryz.prog.cellsOf 28=4:=by kernel_rfl
 have c6 : Tryz.prog.cellsOf 53=6:=by kernel_rfl
 obtain⟨v0,v1,v2,v3,y0,y1,y2,y3,k,rfl,hD,t0,t1,t2,t3⟩:=m6 Tryz.underlying28 c4 rfl (by kernel_rfl) h;obtain⟨s0,e0,w0,_⟩:=DataW.trod_string Tryz.underlying9 t0;obtain⟨s1,e1,w1,_⟩:=DataW.trod_string Tryz.underlying9 t1;obtain rfl:=(List.cons.inj e0).1;obtain rfl:=(List.cons.inj e1).1;obtain⟨l,⟨a2,n2,m2,rfl⟩,r2,g2,b2⟩:=jh (en:=az) (k:=6) (fun _=>rfl) (by decide) (fun p=>ReadT W.heap.size W (sl p.2) (al p.1.groups)) (fun p=>cI p.1) Tryz.underlying25 c6 (fun n cs x hx=>by obtain⟨i,q,h1,h2,h3,_⟩:=l4 hx;exact⟨(i,q),h1,h2,h3⟩) t2;obtain⟨a3,n3,m3,rfl⟩:∃ a n m,v3=.slice a n m:=by
  rcases Go.Deep.open_strs Tryz.underlying26 Tryz.underlying9 (by kernel_rfl) t3 with ⟨hcs,_⟩|⟨a,len,cap,m,Sx,hcs,_⟩
  ·exact⟨_,_,_,(List.cons.inj hcs).1⟩
  ·exact⟨_,_,_,(List.cons.inj hcs).1⟩
 obtain⟨xs,r3,b3⟩:=fV (v:=.slice a3 n3 m3) rfl t3;have hh:=kP b3;refine⟨⟨s0.data.toList,s1.data.toList,l,(a2,n2,m2),s8 xs,(a3,n3,m3)⟩,rfl,⟨ReadI.of_row r2 g2,by show ReadT W.heap.size W (.slice a3 n3 m3) (al (s8 xs));rw[sX];exact r3⟩,?_⟩;have e:bJ ⟨s0.data.toList,s1.data.toList,l,(a2,n2,m2),s8 xs,(a3,n3,m3)⟩=5+s0.data.toList.length+s1.data.toList.length+aR (s8 xs)+(l.map fun p=>cI p.1).sum:=rfl;rw[e,hD,w0,w1];simp only[Rows.uptoBulk,Rows.uptoBulkAll];omega
theorem lW {H:Type} {enc:TypeId × Value->H} {W:World} {n:Nat} {cs:List Value} {x:DataW H × List MemPlace}
 (h:DataW.trod enc Tryz.prog W 0 (fun _=>true) true n 47 cs=some x):
 ∃ y:aN,cs=aw y/\ReadU W (sl y.uv) y.users/\cg y<=8*Rows.uptoBulk x.1:=by
 have c2 : Tryz.prog.cellsOf 47=2:=by kernel_rfl
 have c4 : Tryz.prog.cellsOf 28=4:=by kernel_rfl
 obtain⟨v0,v1,y0,y1,k,rfl,hD,t0,t1⟩:=qr Tryz.underlying47 c2 rfl (by kernel_rfl) h;obtain⟨s0,e0,w0,_⟩:=DataW.trod_string Tryz.underlying9 t0;obtain rfl:=(List.cons.inj e0).1;obtain⟨l,⟨a2,n2,m2,rfl⟩,r2,g2,b2⟩:=jh (en:=ao) (k:=4) (fun _=>rfl) (by decide) (fun p=>InU W p) bJ Tryz.underlying45 c4 (fun n cs x hx=>mc hx) t1;refine⟨⟨s0.data.toList,l,(a2,n2,m2)⟩,rfl,⟨r2,g2⟩,?_⟩;have e:cg ⟨s0.data.toList,l,(a2,n2,m2)⟩=1+s0.data.toList.length+(l.map bJ).sum:=rfl;rw[e,hD,w0];simp only[Rows.uptoBulk,Rows.uptoBulkAll];omega
theorem ma {H:Type} {enc:TypeId × Value->H} {W:World} {base:Nat} {v:Value} {d:DataW H} {ps:List MemPlace}
 (hv:Value.okWide Tryz.prog W .any base 24 v) (h:DataW.Trod enc Tryz.prog W 0 (fun _=>true) true 24 v d ps):
 ∃ (sv:Value) (l:List aN),v=.agg #[sv]/\ReadH W sv l/\cK l<=8*Rows.uptoBulk d:=by
 have c1 : Tryz.prog.cellsOf 24=1:=by kernel_rfl
 have c2 : Tryz.prog.cellsOf 47=2:=by kernel_rfl
 obtain⟨cs,rfl,hsz⟩:=okWide_struct Tryz.underlying24 hv;obtain⟨fuel,hf⟩:=h;obtain⟨v0,y0,k,hcs,hD,t0⟩:=pq Tryz.underlying24 c1 rfl (by kernel_rfl) hf;obtain⟨l,_,r2,g2,b2⟩:=jh (en:=aw) (k:=2) (fun _=>rfl) (by decide) (fun p=>ReadU W (sl p.uv) p.users) cg Tryz.underlying22 c2 (fun n cs x hx=>lW hx) t0;refine⟨v0,l,?_,⟨r2,g2⟩,?_⟩
 ·congr 1
  apply Array.ext';show (Value.agg cs).cells.toList=_;rw[hcs]
 ·have hD2:d=.agg [y0.1]:=hD;have e:cK l=(l.map cg).sum:=rfl;rw[e,hD2];simp only[Rows.uptoBulk,Rows.uptoBulkAll];omega
end Go.Proofs.YtbgaglcgennhiaaGreatDoor
