import Derived.Test.YtfbdnaclkfmiaaaGreatDoorRows
import Derived.Test.YtfbdnaclkfmiaaaGreatDoorB01
import Derived.WalkKit
import Derived.WalkSpells
import Derived.WalkLawsBesides
import Derived.Laws.AppendOwn
import Derived.Deep.RegionLaw
import Derived.Lib.Hide
import Derived.Test.YtfbdnaclkfmiaaaGreatDoorB14
import Derived.Test.YtfbdnaclkfmiaaaGreatDoorB03
import Derived.Test.YtfbdnaclkfmiaaaGreatDoorB13
import Derived.Test.YtfbdnaclkfmiaaaGreatDoorB19
import Derived.Test.YtfbdnaclkfmiaaaGreatDoorB20
import Derived.Laws.EntriesVeiled
import Derived.Test.YtfbdnaclkfmiaaaGreatDoorShelf
import Derived.Deep.RegionWith
import Derived.Deep.QuietTactic
import Derived.BigQuiet
section
namespace Go.Proofs.YtfbdnaclkfmiaaaGreatDoor
open Go.RowKit
abbrev Att:=List UInt8 × List UInt8
theorem Bk.type_ne {w:World} {g T:Nat} {t u:TypeId} {cs ds:Array Value} (h:Bk w g t cs) (k:Bk w T u ds) (hn:t≠u):g≠T:=fun e=>by
  subst e
  have e1:w.heap[g]?=some (.cells cs t (0,0)):=h
  have e2:w.heap[g]?=some (.cells ds u (0,0)):=k
  rw[e1] at e2
  injection e2 with e2
  injection e2 with _ e2
  exact hn e2
abbrev bts (l:List UInt8):ByteArray:=⟨l.toArray⟩
theorem infoAtt:(Tryz.prog.info? 48).map (fun i=>(i.zero,i.size,i.bytes))=some (some (.agg #[.string ⟨#[]⟩,.string ⟨#[]⟩]),2,32):=by kernel_rfl
def encA (a:Att):List Value:=[.string (bts a.1),.string (bts a.2)]
abbrev agA (a:Att):Value:=.agg #[.string (bts a.1),.string (bts a.2)]
def ats (l:List Att):List Value:=l.flatMap encA
theorem ats_nil:ats []=[]:=rfl
theorem ats_append (a b:List Att):ats (a++b)=ats a++ats b:=by simp[ats]
theorem ats_one (r:Att):ats [r]=[.string (bts r.1),.string (bts r.2)]:=by simp[ats,encA]
theorem ats_cons (r:Att) (l:List Att):ats (r::l)=.string (bts r.1)::.string (bts r.2)::ats l:=by simp[ats,encA]
theorem ats_get:∀ {l:List Att} {j:Nat} {r:Att},l[j]?=some r→(ats l)[j*2]?=some (.string (bts r.1))∧(ats l)[j*2+1]?=some (.string (bts r.2))
  | [],j,r,h=>by simp at h
  | a::l,0,r,h=>by
    obtain rfl:a=r:=by simpa using h
    rw[ats_cons]
    exact⟨rfl,rfl⟩
  | a::l,j+1,r,h=>by
    have:=ats_get (l:=l) (j:=j) (r:=r) (by simpa using h)
    rw[ats_cons,show (j+1)*2=j*2+1+1 by omega]
    simpa using this
attribute [irreducible] ats
def OwnA (B:Nat) (w:World) (v:Value) (l:List Att):Prop:=w.ownsRow B 48 2 v l.length (ats l)
theorem OwnA.nil (B:Nat) (w:World):OwnA B w (.slice none 0 0) []:=by
  unfold OwnA
  rw[ats_nil]
  exact World.ownsRow_nil _ _ _ _
theorem OwnA.below {B:Nat} {w w':World} {v:Value} {l:List Att} (h:OwnA B w v l) (hb:Below w.heap.size w w'):OwnA B w' v l:=by
  have h':w.ownsRow B 48 2 v l.length (ats l):=h
  rcases h'.2 with ⟨rfl,h0⟩ | ⟨g,cap,cur,rfl,hg,hh,h1,h2,h3,h4⟩
  · exact⟨h'.1,.inl ⟨rfl,h0⟩⟩
  · exact⟨h'.1,.inr ⟨g,cap,cur,rfl,hg,(hb.block g (lt_of_block hh)).trans hh,h1,h2,h3,h4⟩⟩
theorem OwnA.slice {B:Nat} {w:World} {v:Value} {l:List Att} (h:OwnA B w v l):∃ A cap,v=.slice A l.length cap:=by
  rcases h.2 with ⟨rfl,h0⟩ | ⟨g,cap,cur,rfl,_⟩
  · exact⟨none,0,by rw[h0]⟩
  · exact⟨_,_,rfl⟩
theorem OwnA.weak {B B':Nat} {w:World} {v:Value} {l:List Att} (h:OwnA B w v l) (hB:B'≤B):OwnA B' w v l :=
  ⟨h.1,h.2.imp id fun ⟨g,cap,cur,h1,h2,h3⟩=>⟨g,cap,cur,h1,Nat.le_trans hB h2,h3⟩⟩
theorem OwnA.stored {B g:Nat} {w:World} {v:Value} {l:List Att} {cs:Array Value} {t:TypeId} (h:OwnA B w v l) (hb:Bk w g t cs) (ht:t≠48) (o:Nat) (x:Value):OwnA B (w.setCell ⟨g,o,none⟩ x) v l:=by
  have h':w.ownsRow B 48 2 v l.length (ats l):=h
  rcases h'.2 with ⟨rfl,h0⟩ | ⟨g',cap,cur,rfl,hg,hh,h1,h2,h3,h4⟩
  · exact⟨h'.1,.inl ⟨rfl,h0⟩⟩
  · have hne:g'≠g:=Bk.type_ne (show Bk w g' _ _ from hh) hb (fun e=>ht e.symm)
    exact⟨h'.1,.inr ⟨g',cap,cur,rfl,hg,(Below.heap_setCell _ _ _ _ hne).trans hh,h1,h2,h3,h4⟩⟩
def RowA (w:World) (u:Value) (l:List Att):Prop:=∃ A cap,u=.slice A l.length cap∧(0 < l.length→∃ g cs,A=some ⟨g,0,none⟩∧Bk w g 48 cs∧cs.toList.take (l.length*2)=ats l)∧l.length≤cap∧cap≤maxLen∧(A=none→cap=0)
theorem OwnA.row {B:Nat} {w:World} {v:Value} {l:List Att} (h:OwnA B w v l):RowA w v l:=by
  have h':w.ownsRow B 48 2 v l.length (ats l):=h
  rcases h'.2 with ⟨rfl,h0⟩ | ⟨g,cap,cur,rfl,hg,hh,h1,h2,h3,h4⟩
  · exact⟨none,0,by rw[h0],fun h=>by omega,by omega,Nat.zero_le _,fun _=>rfl⟩
  · exact⟨_,cap,rfl,fun _=>⟨g,cur,rfl,hh,h4⟩,h1,h2,fun e=>by cases e⟩
def KeepA (w w':World):Prop:=∀ k cs,Bk w k 48 cs→Bk w' k 48 cs
theorem KeepA.trans {a b c:World} (h:KeepA a b) (k:KeepA b c):KeepA a c:=fun g cs hg=>k g cs (h g cs hg)
theorem KeepA.below {w w':World} (h:Below w.heap.size w w'):KeepA w w':=fun _ _ hg=>(h.block _ hg.lt).trans hg
theorem KeepA.set {w:World} {g:Nat} {t:TypeId} {cs:Array Value} (h:Bk w g t cs) (ht:t≠48) (o:Nat) (x:Value):KeepA w (w.setCell ⟨g,o,none⟩ x):=fun _ _ hk =>
  (Below.heap_setCell _ _ _ _ (Bk.type_ne hk h (fun e=>ht e.symm))).trans hk
theorem RowA.keep {w w':World} {u:Value} {l:List Att} (h:RowA w u l) (hk:KeepA w w'):RowA w' u l:=by
  obtain⟨A,cap,rfl,h2,hcp⟩:=h
  refine⟨A,cap,rfl,fun h0=>?_,hcp⟩
  obtain⟨g,cs,rfl,h3,h4⟩:=h2 h0
  exact⟨g,cs,rfl,hk g cs h3,h4⟩
theorem RowA.cells {w:World} {u:Value} {l:List Att} (h:RowA w u l):∃ A cap,u=.slice A l.length cap∧(0 < l.length→∃ g,A=some ⟨g,0,none⟩∧g < w.heap.size∧∀ i a,l[i]?=some a→w.cell? ⟨g,i*2,none⟩=some (.string (bts a.1))∧w.cell? ⟨g,i*2+1,none⟩=some (.string (bts a.2))):=by
  obtain⟨A,cap,rfl,h2,-⟩:=h
  refine⟨A,cap,rfl,fun h0=>?_⟩
  obtain⟨g,cs,rfl,h3,h4⟩:=h2 h0
  refine⟨g,rfl,h3.lt,fun i a hi=>?_⟩
  have hi2:=(List.getElem?_eq_some_iff.1 hi).1
  have h5:=ats_get hi
  rw[h3.cell,h3.cell,← Array.getElem?_toList,← Array.getElem?_toList]
  rw[← h4,List.getElem?_take_of_lt (by omega),List.getElem?_take_of_lt (by omega)] at h5
  exact h5
def ReadA (w:World) (u:Value) (l:List Att):Prop:=∃ A cap,u=.slice A l.length cap∧(0 < l.length→∃ ad:Addr,A=some ad∧ad.block < w.heap.size∧∀ i a,l[i]?=some a→w.cell? (ad.add (i*2))=some (.string (bts a.1))∧w.cell? ⟨(ad.add (i*2)).block,(ad.add (i*2)).off+1,none⟩=some (.string (bts a.2)))
theorem ReadA.below {w w':World} {u:Value} {l:List Att} (h:ReadA w u l) (hb:Below w.heap.size w w'):ReadA w' u l:=by
  obtain⟨A,cap,rfl,h2⟩:=h
  refine⟨A,cap,rfl,fun h0=>?_⟩
  obtain⟨ad,rfl,hl,hc⟩:=h2 h0
  refine⟨ad,rfl,Nat.lt_of_lt_of_le hl hb.size,fun i a hi=>?_⟩
  rw[hb.cell (by rw[addBlock];exact hl),hb.cell (by show (ad.add (i*2)).block < _;rw[addBlock];exact hl)]
  exact hc i a hi
theorem RowA.reads {w:World} {u:Value} {l:List Att} (h:RowA w u l):ReadA w u l:=by
  obtain⟨A,cap,rfl,h2⟩:=h.cells
  refine⟨A,cap,rfl,fun h0=>?_⟩
  obtain⟨g,rfl,hl,hc⟩:=h2 h0
  refine⟨_,rfl,hl,fun i a hi=>?_⟩
  rw[add_at,Nat.zero_add]
  exact hc i a hi
theorem ReadA.one {w:World} {u:Value} {l:List Att} (h:ReadA w u l):u.oneCell'=true:=by
  obtain⟨A,cap,rfl,_⟩:=h
  rfl
theorem push_att {ops:Array Oper} {rest:List Oper} {o:Oper} {a:Act} {Q:Exit→Act→World→Prop} (hgd:o.guard=none) (s x:Operand) (ho:o.op=.call { callee:=.builtin .append,args:=#[s,x],argTypes:=#[39,39] })
    (B:Nat) (v:Value) (l:List Att) (p:Att) (x1 x2:ByteArray) (h1:bts p.1=x1) (h2:bts p.2=x2) (w0:World) (hs:a.eval s=v) (hown:OwnA B w0 v l) (hx:a.eval x=.slice (some ⟨w0.heap.size,0,none⟩) 1 1) (hn:l.length≤1000000000) (hB:B≤w0.heap.size)
    (h:∀ v' w',OwnA B w' v' (l++[p])→Below B w0 w'→(∀ k,k < w0.heap.size→some k≠v.ownBlock→w'.heap[k]?=w0.heap[k]?)→wpList Tryz.prog ops Q rest (a.put o.dst v') w'):wpList Tryz.prog ops Q (o::rest) a (w0.alloc (.cells #[.string x1,.string x2] 48)):=by
  subst h1 h2
  obtain⟨i0,hi,hz0,hz1,hz2⟩:=info_parts infoAtt
  have hown':w0.ownsRow B 48 2 v l.length (ats l):=hown
  refine wpList_append_own _ hgd s x 39 ho B 48 i0 _ 2 32 Tryz.underlying39 hi hz0 hz1 hz2 rfl (by decide) v l.length (ats l) hs (hown'.alloc _) ⟨w0.heap.size,0,none⟩ 1 1 [.string (bts p.1),.string (bts p.2)] hx rfl ?_ ?_ ?_ (by omega) (by simp;omega) ?_
  · intro j y hj
    rw[add_at,cell_of_row _ _ _ #[_,_] _ (0,0) (heap_alloc_new w0 _)]
    rw[Nat.zero_add]
    simpa using hj
  · intro y hy
    simp at hy
    rcases hy with rfl | rfl<;>rfl
  · unfold maxLen;omega
  · intro v' w' hown2 hg _
    refine h v' w' ?_ (((Below.refl B w0).alloc hB _).grown hg (by simp;omega) (fun j hj=>(World.ownsRow.lt hown' j hj).1)) (fun k hk hne=>?_)
    · unfold OwnA
      rw[ats_append,ats_one,List.length_append,List.length_singleton]
      exact hown2
    · rw[hg.block k (by simp;omega) hne]
      exact Below.heap_alloc w0 _ k hk
end Go.Proofs.YtfbdnaclkfmiaaaGreatDoor
end
section
namespace Go.Proofs.YtfbdnaclkfmiaaaGreatDoor
open Go.RowKit Vc
abbrev PrV:=Pr × Value
def encP (k:PrV):List Value:=[.string (bts k.1.1),.string (bts k.1.2.1),k.2,.string (bts k.1.2.2.2)]
abbrev agP (p:Pr) (u:Value):Value:=.agg #[.string (bts p.1),.string (bts p.2.1),u,.string (bts p.2.2.2)]
def prv (l:List PrV):List Value:=l.flatMap encP
theorem prv_nil:prv []=[]:=rfl
theorem prv_cons (k:PrV) (l:List PrV):prv (k::l)=encP k++prv l:=by simp[prv]
theorem prv_get:∀ {l:List PrV} {j i:Nat} {k:PrV},l[j]?=some k→i < 4→(prv l)[j*4+i]?=(encP k)[i]?
  | [],j,i,r,h,_=>by simp at h
  | a::l,0,i,r,h,hi=>by
    obtain rfl:a=r:=by simpa using h
    rw[prv_cons,Nat.zero_mul,Nat.zero_add,List.getElem?_append_left (by simp[encP];omega)]
  | a::l,j+1,i,r,h,hi=>by
    have:=prv_get (l:=l) (j:=j) (i:=i) (k:=r) (by simpa using h) hi
    rw[prv_cons,List.getElem?_append_right (by simp[encP];omega),← this]
    congr 1
    simp[encP]
    omega
attribute [irreducible] prv
def AtP (w:World) (p:Addr) (x:Pr) (u:Value):Prop:=w.cell? p=some (.string (bts x.1))∧w.cell? ⟨p.block,p.off+1,none⟩=some (.string (bts x.2.1))∧w.cell? ⟨p.block,p.off+2,none⟩=some u∧w.cell? ⟨p.block,p.off+3,none⟩=some (.string (bts x.2.2.2))
theorem AtP.of {w w':World} {p:Addr} {x:Pr} {u:Value} (h:AtP w p x u) (hb:w'.heap[p.block]?=w.heap[p.block]?):AtP w' p x u:=by
  have hk:∀ j s,w'.cell? ⟨p.block,j,s⟩=w.cell? ⟨p.block,j,s⟩:=fun j s=>World.cell?_of_block (a:=⟨p.block,j,s⟩) hb
  obtain⟨h0,h1,h2,h3⟩:=h
  refine⟨?_,?_,?_,?_⟩
  · exact(hk p.off p.spot).trans h0
  · rw[hk];exact h1
  · rw[hk];exact h2
  · rw[hk];exact h3
def ReadP (w:World) (v:Value) (ps:List Pr):Prop:=∃ A cap,v=.slice A ps.length cap∧(0 < ps.length→∃ ad:Addr,A=some ad∧ad.block < w.heap.size∧∀ i x,ps[i]?=some x→∃ u,AtP w (ad.add (i*4)) x u∧ReadA w u x.2.2.1)
theorem ReadP.below {w w':World} {v:Value} {ps:List Pr} (h:ReadP w v ps) (hb:Below w.heap.size w w'):ReadP w' v ps:=by
  obtain⟨A,cap,rfl,h2⟩:=h
  refine⟨A,cap,rfl,fun h0=>?_⟩
  obtain⟨ad,rfl,hl,hc⟩:=h2 h0
  refine⟨ad,rfl,Nat.lt_of_lt_of_le hl hb.size,fun i x hi=>?_⟩
  obtain⟨u,h3,h4⟩:=hc i x hi
  exact⟨u,h3.of (hb.block _ (by rw[addBlock];exact hl)),h4.below hb⟩
theorem ReadP.nil (w:World):ReadP w (.slice none 0 0) []:=⟨none,0,rfl,fun h=>absurd h (Nat.not_lt_zero _)⟩
theorem ReadP.slice {w:World} {v:Value} {ps:List Pr} (h:ReadP w v ps):∃ A cap,v=.slice A ps.length cap:=by
  obtain⟨A,cap,rfl,_⟩:=h
  exact⟨A,cap,rfl⟩
theorem ReadP.one {w:World} {v:Value} {ps:List Pr} (h:ReadP w v ps):v.oneCell'=true:=by
  obtain⟨A,cap,rfl,_⟩:=h
  rfl
def OwnP (B:Nat) (w:World) (v:Value) (ps:List Pr):Prop:=∃ ks:List PrV,ks.map (·.1)=ps∧w.ownsRow B 41 4 v ks.length (prv ks)∧∀ k∈ks,RowA w k.2 k.1.2.2.1
theorem OwnP.nil (B:Nat) (w:World):OwnP B w (.slice none 0 0) []:=⟨[],rfl,by rw[prv_nil];exact World.ownsRow_nil _ _ _ _,fun k h=>by cases h⟩
theorem OwnP.slice {B:Nat} {w:World} {v:Value} {ps:List Pr} (h:OwnP B w v ps):∃ A cap,v=.slice A ps.length cap:=by
  obtain⟨ks,rfl,h,_⟩:=h
  rw[List.length_map]
  rcases h.2 with ⟨rfl,h0⟩ | ⟨g,cap,cur,rfl,_⟩
  · exact⟨none,0,by rw[h0]⟩
  · exact⟨_,_,rfl⟩
theorem OwnP.one {B:Nat} {w:World} {v:Value} {ps:List Pr} (h:OwnP B w v ps):v.oneCell'=true:=by
  obtain⟨A,cap,rfl⟩:=h.slice
  rfl
def KeepP (w w':World):Prop:=∀ k cs,Bk w k 41 cs→Bk w' k 41 cs
theorem KeepP.below {w w':World} (h:Below w.heap.size w w'):KeepP w w':=fun _ _ hg=>(h.block _ hg.lt).trans hg
theorem KeepP.set {w:World} {g:Nat} {t:TypeId} {cs:Array Value} (h:Bk w g t cs) (ht:t≠41) (o:Nat) (x:Value):KeepP w (w.setCell ⟨g,o,none⟩ x):=fun _ _ hk =>
  (Below.heap_setCell _ _ _ _ (Bk.type_ne hk h (fun e=>ht e.symm))).trans hk
theorem KeepP.trans {a b c:World} (h:KeepP a b) (k:KeepP b c):KeepP a c:=fun g cs hg=>k g cs (h g cs hg)
theorem OwnP.keep {B:Nat} {w w':World} {v:Value} {ps:List Pr} (h:OwnP B w v ps) (hb:KeepP w w') (ha:KeepA w w'):OwnP B w' v ps:=by
  obtain⟨ks,h1,h2,h3⟩:=h
  exact⟨ks,h1,⟨h2.1,h2.2.imp id fun ⟨g,cap,cur,k1,k2,k3,k4⟩=>⟨g,cap,cur,k1,k2,hb g cur k3,k4⟩⟩,fun k hk=>(h3 k hk).keep ha⟩
theorem OwnP.below {B:Nat} {w w':World} {v:Value} {ps:List Pr} (h:OwnP B w v ps) (hb:Below w.heap.size w w'):OwnP B w' v ps:=h.keep (KeepP.below hb) (KeepA.below hb)
theorem OwnP.weak {B B':Nat} {w:World} {v:Value} {ps:List Pr} (h:OwnP B w v ps) (hB:B'≤B):OwnP B' w v ps:=by
  obtain⟨ks,h1,h2,h3⟩:=h
  exact⟨ks,h1,⟨h2.1,h2.2.imp id fun ⟨g,cap,cur,k1,k2,k3⟩=>⟨g,cap,cur,k1,Nat.le_trans hB k2,k3⟩⟩,h3⟩
def RowP (C:Nat) (w:World) (v:Value) (ps:List Pr):Prop:=∃ A cap,v=.slice A ps.length cap∧(0 < ps.length→∃ (g:Nat) (cs:Array Value) (ks:List PrV),A=some ⟨g,0,none⟩∧g < C∧Bk w g 41 cs∧ks.map (·.1)=ps∧cs.toList.take (ks.length*4)=prv ks∧∀ k∈ks,RowA w k.2 k.1.2.2.1)
theorem RowP.nil (C:Nat) (w:World):RowP C w (.slice none 0 0) []:=⟨none,0,rfl,fun h=>absurd h (Nat.not_lt_zero _)⟩
theorem RowP.more {C D:Nat} {w:World} {v:Value} {ps:List Pr} (h:RowP C w v ps) (hC:C≤D):RowP D w v ps:=by
  obtain⟨A,cap,rfl,h2⟩:=h
  refine⟨A,cap,rfl,fun h0=>?_⟩
  obtain⟨g,cs,ks,e,hg,h3⟩:=h2 h0
  exact⟨g,cs,ks,e,by omega,h3⟩
theorem OwnP.row {B:Nat} {w:World} {v:Value} {ps:List Pr} (h:OwnP B w v ps):RowP w.heap.size w v ps:=by
  obtain⟨ks,rfl,h',hr⟩:=h
  rcases h'.2 with ⟨rfl,h0⟩ | ⟨g,cap,cur,rfl,hg,hh,h1,h2,h3,h4⟩
  · exact⟨none,0,by rw[List.length_map,h0],fun h=>by rw[List.length_map] at h;omega⟩
  · exact⟨_,cap,by rw[List.length_map],fun _=>⟨g,cur,ks,rfl,lt_of_block hh,hh,rfl,h4,hr⟩⟩
theorem RowP.keep {C:Nat} {w w':World} {v:Value} {ps:List Pr} (h:RowP C w v ps) (hb:∀ g cs,g < C→Bk w g 41 cs→Bk w' g 41 cs) (ha:KeepA w w'):RowP C w' v ps:=by
  obtain⟨A,cap,rfl,h2⟩:=h
  refine⟨A,cap,rfl,fun h0=>?_⟩
  obtain⟨g,cs,ks,e,hg,h3,h4,h5,h6⟩:=h2 h0
  exact⟨g,cs,ks,e,hg,hb g cs hg h3,h4,h5,fun k hk=>(h6 k hk).keep ha⟩
theorem RowP.reads {C:Nat} {w:World} {v:Value} {ps:List Pr} (h:RowP C w v ps):ReadP w v ps:=by
  obtain⟨A,cap,rfl,h2⟩:=h
  refine⟨A,cap,rfl,fun h0=>?_⟩
  obtain⟨g,cs,ks,rfl,_,hh,hm,h4,hr⟩:=h2 h0
  subst hm
  refine⟨_,rfl,hh.lt,fun i x hi=>?_⟩
  rw[List.getElem?_map] at hi
  obtain⟨k,hk,rfl⟩:=Option.map_eq_some_iff.1 hi
  have hlt:=(List.getElem?_eq_some_iff.1 hk).1
  have hc:∀ j,j < 4→w.cell? ⟨g,i*4+j,none⟩=(encP k)[j]?:=fun j hj=>by
    rw[hh.cell,← Array.getElem?_toList,← prv_get hk hj,← h4,List.getElem?_take_of_lt (by omega)]
  refine⟨k.2,?_,(hr k (List.mem_of_getElem? hk)).reads⟩
  rw[add_at,Nat.zero_add]
  exact⟨hc 0 (by omega),hc 1 (by omega),hc 2 (by omega),hc 3 (by omega)⟩
theorem OwnP.reads {B:Nat} {w:World} {v:Value} {ps:List Pr} (h:OwnP B w v ps):ReadP w v ps:=h.row.reads
theorem RowA.one {w:World} {u:Value} {l:List Att} (h:RowA w u l):u.oneCell'=true:=by
  obtain⟨A,cap,rfl,_⟩:=h
  rfl
def Grew (B:Nat) (w w':World):Prop:=Below B w w'∧∀ k cs t,Bk w k t cs→t≠41→Bk w' k t cs
end Go.Proofs.YtfbdnaclkfmiaaaGreatDoor
end
section
namespace Go.Proofs.YtfbdnaclkfmiaaaGreatDoor
open Go.RowKit Vc Ct
theorem push_gen {ops:Array Oper} {rest:List Oper} {o:Oper} {a:Act} {Q:Exit→Act→World→Prop} {S T:TypeId} {z:Value} {k bytes:Nat} (hS : Tryz.prog.underlying S=some (.slice T)) (hi:(Tryz.prog.info? T).map (fun i=>(i.zero,i.size,i.bytes))=some (some z,k,bytes)) (hzc:z.cells.size=k) (hk0:0 < k)
    (hgd:o.guard=none) (s x:Operand) (ho:o.op=.call { callee:=.builtin .append,args:=#[s,x],argTypes:=#[S,S] })
    (B:Nat) (v:Value) (n:Nat) (xs ys:List Value) (cs:Array Value) (hcs:cs.toList=ys) (hyl:ys.length=k) (w0:World) (hs:a.eval s=v) (hown:w0.ownsRow B T k v n xs) (hx:a.eval x=.slice (some ⟨w0.heap.size,0,none⟩) 1 1) (h1:∀ u∈ys,u.oneCell'=true)
    (hb:(n+1)*bytes≤140737488355328) (hn:n≤1000000000) (hB:B≤w0.heap.size)
    (h:∀ v' w',w'.ownsRow B T k v' (n+1) (xs++ys)→Below B w0 w'→(∀ g,g < w0.heap.size→some g≠v.ownBlock→w'.heap[g]?=w0.heap[g]?)→wpList Tryz.prog ops Q rest (a.put o.dst v') w'):wpList Tryz.prog ops Q (o::rest) a (w0.alloc (.cells cs T)):=by
  obtain⟨i0,hi,hz0,hz1,hz2⟩:=info_parts hi
  subst hcs
  refine wpList_append_own _ hgd s x S ho B T i0 z k bytes hS hi hz0 hz1 hz2 hzc hk0 v n xs hs (hown.alloc _) ⟨w0.heap.size,0,none⟩ 1 1 cs.toList hx (by omega) ?_ h1 ?_ hb (by simp;omega) ?_
  · intro j u hj
    rw[add_at,cell_of_row _ _ _ cs _ (0,0) (heap_alloc_new w0 _),Nat.zero_add]
    simpa using hj
  · unfold maxLen;omega
  · intro v' w' h1 hg _
    refine h v' w' h1 (((Below.refl B w0).alloc hB _).grown hg (by simp;omega) (fun j hj=>(World.ownsRow.lt hown j hj).1)) (fun g hg2 hne=>?_)
    exact(hg.block g (by simp;omega) hne).trans (Below.heap_alloc w0 _ g hg2)
def conCells (c:Con) (g o:Value):Array Value:=#[.string (bts c.name),.string (bts c.family),.string (bts c.given),.string (bts c.nick),.string (bts c.jid),.string (bts c.email),.string (bts c.tel),.string (bts c.note),.string (bts c.uid),g,o]
abbrev agC (c:Con) (g o:Value):Value:=.agg (conCells c g o)
def SeenA (w:World) (u:Value) (l:List Att):Prop:=∃ A cap,u=.slice A l.length cap∧(0 < l.length→∃ b o:Nat,A=some ⟨b,o,none⟩∧b < w.heap.size∧∀ i a,l[i]?=some a→w.cell? ⟨b,o+i*2,none⟩=some (.string (bts a.1))∧w.cell? ⟨b,o+i*2+1,none⟩=some (.string (bts a.2)))
theorem SeenA.reads {w:World} {u:Value} {l:List Att} (h:SeenA w u l):ReadA w u l:=by
  obtain⟨A,cap,rfl,h2⟩:=h
  refine⟨A,cap,rfl,fun h0=>?_⟩
  obtain⟨b,o,rfl,hl,hc⟩:=h2 h0
  refine⟨_,rfl,hl,fun i a hi=>?_⟩
  rw[add_at]
  exact hc i a hi
theorem SeenA.below {w w':World} {u:Value} {l:List Att} (h:SeenA w u l) (hb:Below w.heap.size w w'):SeenA w' u l:=by
  obtain⟨A,cap,rfl,h2⟩:=h
  refine⟨A,cap,rfl,fun h0=>?_⟩
  obtain⟨b,o,rfl,hl,hc⟩:=h2 h0
  refine⟨b,o,rfl,Nat.lt_of_lt_of_le hl hb.size,fun i a hi=>?_⟩
  rw[hb.cell (p:=⟨b,o+i*2,none⟩) hl,hb.cell (p:=⟨b,o+i*2+1,none⟩) hl]
  exact hc i a hi
theorem RowA.seen {w:World} {u:Value} {l:List Att} (h:RowA w u l):SeenA w u l:=by
  obtain⟨A,cap,rfl,h2⟩:=h.cells
  refine⟨A,cap,rfl,fun h0=>?_⟩
  obtain⟨g,rfl,hl,hc⟩:=h2 h0
  refine⟨g,0,rfl,hl,fun i a hi=>?_⟩
  rw[Nat.zero_add]
  exact hc i a hi
def SeenP (w:World) (v:Value) (ps:List Pr):Prop:=∃ A cap,v=.slice A ps.length cap∧(0 < ps.length→∃ ad:Addr,A=some ad∧ad.block < w.heap.size∧∀ i x,ps[i]?=some x→∃ u,AtP w (ad.add (i*4)) x u∧SeenA w u x.2.2.1)
theorem SeenP.reads {w:World} {v:Value} {ps:List Pr} (h:SeenP w v ps):ReadP w v ps:=by
  obtain⟨A,cap,rfl,h2⟩:=h
  refine⟨A,cap,rfl,fun h0=>?_⟩
  obtain⟨ad,rfl,hl,hc⟩:=h2 h0
  refine⟨ad,rfl,hl,fun i x hi=>?_⟩
  obtain⟨u,h3,h4⟩:=hc i x hi
  exact⟨u,h3,h4.reads⟩
theorem SeenP.below {w w':World} {v:Value} {ps:List Pr} (h:SeenP w v ps) (hb:Below w.heap.size w w'):SeenP w' v ps:=by
  obtain⟨A,cap,rfl,h2⟩:=h
  refine⟨A,cap,rfl,fun h0=>?_⟩
  obtain⟨ad,rfl,hl,hc⟩:=h2 h0
  refine⟨ad,rfl,Nat.lt_of_lt_of_le hl hb.size,fun i x hi=>?_⟩
  obtain⟨u,h3,h4⟩:=hc i x hi
  exact⟨u,h3.of (hb.block _ (by rw[addBlock];exact hl)),h4.below hb⟩
theorem SeenP.nil (w:World):SeenP w (.slice none 0 0) []:=⟨none,0,rfl,fun h=>absurd h (Nat.not_lt_zero _)⟩
theorem seen_row {B:Nat} {w:World} {v:Value} {ks:List PrV} (h:w.ownsRow B 41 4 v ks.length (prv ks)) (hr:∀ k∈ks,SeenA w k.2 k.1.2.2.1):SeenP w v (ks.map (·.1)):=by
  rcases h.2 with ⟨rfl,h0⟩ | ⟨g,cap,cur,rfl,hg,hh,_⟩
  · exact⟨none,0,by rw[List.length_map,h0],fun h=>by rw[List.length_map] at h;omega⟩
  · refine⟨_,cap,by rw[List.length_map],fun _=>⟨_,rfl,lt_of_block hh,fun i x hi=>?_⟩⟩
    rw[List.getElem?_map] at hi
    obtain⟨k,hk,rfl⟩:=Option.map_eq_some_iff.1 hi
    have hc:∀ j v,j < 4→(encP k)[j]?=some v→w.cell? ⟨g,i*4+j,none⟩=some v:=fun j v hj hv=>by
      have:=h.cells (g:=g) rfl (i*4+j) v (by rw[prv_get hk hj];exact hv)
      rw[add_at,Nat.zero_add] at this
      exact this
    refine⟨k.2,?_,hr k (List.mem_of_getElem? hk)⟩
    rw[add_at,Nat.zero_add]
    exact⟨hc 0 _ (by decide) rfl,hc 1 _ (by decide) rfl,hc 2 _ (by decide) rfl,hc 3 _ (by decide) rfl⟩
theorem OwnP.seen {B:Nat} {w:World} {v:Value} {ps:List Pr} (h:OwnP B w v ps):SeenP w v ps:=by
  obtain⟨ks,rfl,h2,h3⟩:=h
  exact seen_row h2 fun k hk=>(h3 k hk).seen
def SeenC (w:World) (v:Value) (c:Con):Prop:=∃ g o,v=agC c g o∧ReadT w.heap.size w g (sts c.groups)∧SeenP w o c.other
theorem ReadT.upon {w w':World} {v:Value} {x:List ByteArray} (h:ReadT w.heap.size w v x) (hb:Below w.heap.size w w'):ReadT w'.heap.size w' v x:=(h.below hb).more hb.size
theorem SeenC.below {w w':World} {v:Value} {c:Con} (h:SeenC w v c) (hb:Below w.heap.size w w'):SeenC w' v c:=by
  obtain⟨g,o,rfl,h1,h2⟩:=h
  exact⟨g,o,rfl,h1.upon hb,h2.below hb⟩
theorem seen_none (w:World):SeenC w (agC noneC (.slice none 0 0) (.slice none 0 0)) noneC:=⟨_,_,rfl,ReadT.nil _ _ _,SeenP.nil _⟩
end Go.Proofs.YtfbdnaclkfmiaaaGreatDoor
end
section
namespace Go.Proofs.YtfbdnaclkfmiaaaGreatDoor
open Go.RowKit Vc Ct
def fieldF:Nat→Nat
  | 0=>65
  | 2=>68
  | 4=>71
  | 5=>72
  | 7=>75
  | _=>76
def isT (i:Nat):Bool:=i != 1&&i != 3&&i != 6
def putV (b:Nat→Nat):Nat→Value
  | 1=>.func (.func 66) #[] #[]
  | 3=>.func (.func 69) #[] #[]
  | 6=>.func (.func 73) #[] #[]
  | i=>.func (.func 105) #[] #[.pointer (some ⟨b i,0,none⟩)]
def textsV (b:Nat→Nat):Nat→Value
  | 1=>.func (.func 67) #[] #[]
  | 3=>.func (.func 70) #[] #[]
  | 6=>.func (.func 74) #[] #[]
  | i=>.func (.func 106) #[] #[.pointer (some ⟨b i,0,none⟩)]
def encK (b:Nat→Nat) (i:Nat):List Value:=[.string (bts (kname i)),.string (bts (kstart i)),.string (bts (ksep i)),putV b i,textsV b i]
theorem encK_len (b:Nat→Nat) (i:Nat):(encK b i).length=5:=rfl
def KindsAt (b:Nat→Nat) (w:World):Prop:=∀ i,i < 9→isT i=true→Bk w (b i) 103 #[.func (.func (fieldF i)) #[] #[]]
theorem KindsAt.below {b:Nat→Nat} {w w':World} (h:KindsAt b w) (hb:Below w.heap.size w w'):KindsAt b w':=fun i hi ht=>(h i hi ht).below hb (h i hi ht).lt
set_option maxHeartbeats 1000000 in
theorem ctText_any (n:ByteArray) (F:Nat) (w:World) :
    Calls Tryz.prog 64 #[.string n,.func (.func F) #[] #[]] w fun e w'=>e=.returned (.agg #[.string n,.string ⟨#[]⟩,.string ⟨#[]⟩,.func (.func 105) #[] #[.pointer (some ⟨w.heap.size,0,none⟩)],.func (.func 106) #[] #[.pointer (some ⟨w.heap.size,0,none⟩)]]) ∧
      Bk w' w.heap.size 103 #[.func (.func F) #[] #[]]∧Below w.heap.size w w':=by
  go_enter Tryz.func64,Tryz.ntmps64
  go_wp2_with fail
  obtain⟨W2,hW2⟩:∃ W2,(w.alloc (.cells #[.func (.func F) #[] #[]] 103)).alloc (.cells #[.string n,.string ⟨#[]⟩,.string ⟨#[]⟩,.func (.func 105) #[] #[.pointer (some ⟨w.heap.size,0,none⟩)],.func (.func 106) #[] #[.pointer (some ⟨w.heap.size,0,none⟩)]] 64)=W2:=⟨_,rfl⟩
  have k2:Bk W2 (w.heap.size+1) 64 #[.string n,.string ⟨#[]⟩,.string ⟨#[]⟩,.func (.func 105) #[] #[.pointer (some ⟨w.heap.size,0,none⟩)],.func (.func 106) #[] #[.pointer (some ⟨w.heap.size,0,none⟩)]]:=by rw[← hW2];exact Bk.new1 _ _ _ _
  have k1:Bk W2 w.heap.size 103 #[.func (.func F) #[] #[]]:=by rw[← hW2];exact(Bk.new _ _ _).alloc _
  have b2:Below w.heap.size w W2:=by rw[← hW2];exact((Below.refl _ w).alloc (Nat.le_refl _) _).alloc (by simp) _
  have q0:=k2.cell 0
  have q1:=k2.cell 1
  have q2:=k2.cell 2
  have q3:=k2.cell 3
  have q4:=k2.cell 4
  rw[hW2]
  refine bodyPost_ret (v:=.agg #[.string n,.string ⟨#[]⟩,.string ⟨#[]⟩,.func (.func 105) #[] #[.pointer (some ⟨w.heap.size,0,none⟩)],.func (.func 106) #[] #[.pointer (some ⟨w.heap.size,0,none⟩)]]) (by simp[results,Tryz.results64,go_sem,q0,q1,q2,q3,q4]) rfl ⟨rfl,k1,b2⟩
def KindsV (B:Nat) (e:Ending) (w':World):Prop:=∃ (b:Nat→Nat) (gk:Nat),e=.returned (.slice (some ⟨gk,0,none⟩) 9 9)∧B≤gk∧Bk w' gk 64 ((allK.flatMap (encK b)).toArray)∧KindsAt b w'∧∀ i,i < 9→isT i=true→B≤b i
set_option maxHeartbeats 4000000 in
set_option maxRecDepth 100000 in
theorem kinds_any (w:World):Calls Tryz.prog 29 #[] w fun e w'=>KindsV w.heap.size e w'∧Below w.heap.size w w':=by
  go_enter Tryz.func29,Tryz.ntmps29
  go_wp2_with fail
  refine(ctText_any _ _ _).mono ?_
  rintro e w0 ⟨rfl,k0,b0⟩
  have K0:=Lib.hid k0
  have B0:=Lib.hid b0
  clear k0 b0
  go_wp2_with fail
  refine(ctText_any _ _ _).mono ?_
  rintro e w1 ⟨rfl,k1,b1⟩
  have K1:=Lib.hid k1
  have B1:=Lib.hid b1
  clear k1 b1
  go_wp2_with fail
  refine(ctText_any _ _ _).mono ?_
  rintro e w2 ⟨rfl,k2,b2⟩
  have K2:=Lib.hid k2
  have B2:=Lib.hid b2
  clear k2 b2
  go_wp2_with fail
  refine(ctText_any _ _ _).mono ?_
  rintro e w3 ⟨rfl,k3,b3⟩
  have K3:=Lib.hid k3
  have B3:=Lib.hid b3
  clear k3 b3
  go_wp2_with fail
  refine(ctText_any _ _ _).mono ?_
  rintro e w4 ⟨rfl,k4,b4⟩
  have K4:=Lib.hid k4
  have B4:=Lib.hid b4
  clear k4 b4
  go_wp2_with fail
  refine(ctText_any _ _ _).mono ?_
  rintro e w5 ⟨rfl,k5,b5⟩
  have K5:=Lib.hid k5
  have B5:=Lib.hid b5
  clear k5 b5
  go_wp2_with fail
  go_ret
  obtain⟨b,hb⟩:∃ b:Nat→Nat,b=fun i=>if i=0 then w.heap.size else if i=2 then w0.heap.size else if i=4 then w1.heap.size else if i=5 then w2.heap.size else if i=7 then w3.heap.size else w4.heap.size:=⟨_,rfl⟩
  have z0:=B0.out.size
  have z1:=B1.out.size
  have z2:=B2.out.size
  have z3:=B3.out.size
  have z4:=B4.out.size
  have z5:=B5.out.size
  have c1:=B1.out
  have c2:=c1.trans (B2.out.mono z1)
  have c3:=c2.trans (B3.out.mono (by omega))
  have c4:=c3.trans (B4.out.mono (by omega))
  have c5:=c4.trans (B5.out.mono (by omega))
  refine⟨⟨b,w5.heap.size,rfl,by omega,?_,?_,?_⟩,((B0.out.trans (c5.mono z0)).alloc (by omega) _)⟩
  · subst hb
    exact Bk.new _ _ _
  · intro i hi ht
    refine Bk.alloc ?_ _
    have d5:=B5.out
    have d4:=B4.out.trans (d5.mono z4)
    have d3:=B3.out.trans (d4.mono z3)
    have d2:=B2.out.trans (d3.mono z2)
    rcases kcases hi with rfl | rfl | rfl | rfl | rfl | rfl | rfl | rfl | rfl
    · subst hb;exact K0.out.below c5 K0.out.lt
    · cases ht
    · subst hb;exact K1.out.below d2 K1.out.lt
    · cases ht
    · subst hb;exact K2.out.below d3 K2.out.lt
    · subst hb;exact K3.out.below d4 K3.out.lt
    · cases ht
    · subst hb;exact K4.out.below d5 K4.out.lt
    · subst hb;exact K5.out
  · intro i hi ht
    rcases kcases hi with rfl | rfl | rfl | rfl | rfl | rfl | rfl | rfl | rfl<;>subst hb<;>first | (cases ht;done) | (simp;omega) | simp
end Go.Proofs.YtfbdnaclkfmiaaaGreatDoor
end
section
namespace Go.Proofs.YtfbdnaclkfmiaaaGreatDoor
open Go.RowKit
theorem below_drewNP (w:World) (n:Nat):Below w.heap.size w (w.drewN n):=⟨rfl,rfl,rfl,Nat.le_refl _,fun _ _=>rfl⟩
def MaxL (w:World):Prop:=∃ m,w.cell? ⟨0,0,none⟩=some (.int .i64 m)
theorem MaxL.below {w w':World} (h:MaxL w) (hb:Below w.heap.size w w'):MaxL w':=by
  obtain⟨m,hm⟩:=h
  refine⟨m,?_⟩
  rw[hb.cell (p:=⟨0,0,none⟩) (World.block_lt_of_cell? _ _ hm)]
  exact hm
theorem MaxL.belowB {w w':World} {B:Nat} (h:MaxL w) (hb:Below B w w') (hB : 0 < B):MaxL w':=by
  obtain⟨m,hm⟩:=h
  exact⟨m,by rw[hb.cell (p:=⟨0,0,none⟩) hB];exact hm⟩
theorem cut_one (c:UInt8):∀ l:List UInt8,(Lib.cut l [c]=(l,[],false)∧∀ x∈l,x≠c)∨∃ p r,l=p++c::r∧(∀ x∈p,x≠c)∧Lib.cut l [c]=(p,r,true):=by
  intro l
  rcases Lib.index_spec l [c] with ⟨h1,h2⟩ | ⟨i,h1,h2,h3,h4⟩
  · left
    refine⟨by unfold Lib.cut;rw[h1];rfl,fun x hx e=>?_⟩
    subst e
    obtain⟨j,hj,hx⟩:=List.mem_iff_getElem.1 hx
    have:=h2 j (by omega)
    unfold Lib.occAt at this
    rw[List.drop_eq_getElem_cons hj,hx] at this
    simp[List.isPrefixOf] at this
  · right
    unfold Lib.occAt at h3
    rw[List.isPrefixOf_iff_prefix] at h3
    obtain⟨r,hr⟩:=h3
    have hr2:l.drop i=c::r:=hr.symm
    have hl:l=l.take i++c::r:=by rw[← hr2,List.take_append_drop]
    have hr3:l.drop (i+1)=r:=by
      have:=congrArg (List.drop 1) hr2
      simpa [List.drop_drop] using this
    refine⟨l.take i,r,hl,fun x hx e=>?_,?_⟩
    · subst e
      obtain⟨j,hj,hx⟩:=List.mem_iff_getElem.1 hx
      rw[List.length_take] at hj
      have:=h4 j (by omega)
      unfold Lib.occAt at this
      rw[List.getElem_take] at hx
      rw[List.drop_eq_getElem_cons (by omega),hx] at this
      simp[List.isPrefixOf] at this
    · unfold Lib.cut
      rw[h1,if_pos (by omega)]
      simp only[Int.toNat_natCast,List.length_singleton]
      rw[hr3]
end Go.Proofs.YtfbdnaclkfmiaaaGreatDoor
end
section
namespace Go.Proofs.YtfbdnaclkfmiaaaGreatDoor
open Go.RowKit Vc
theorem RowA.slice {w:World} {u:Value} {l:List Att} (h:RowA w u l):∃ A cap,u=.slice A l.length cap:=by
  obtain⟨A,cap,rfl,_⟩:=h
  exact⟨A,cap,rfl⟩
theorem Grew.of {B:Nat} {w w2 w3:World} (h:Below w.heap.size w w2) (g:Grew B w2.drew w3) (hB:B≤w.heap.size):Grew B w w3 :=
  ⟨(h.mono hB).drew.trans g.1,fun k cs t hk ht=>g.2 k cs t (have e:Bk w2 k t cs:=hk.below h hk.lt;e) ht⟩
end Go.Proofs.YtfbdnaclkfmiaaaGreatDoor
end