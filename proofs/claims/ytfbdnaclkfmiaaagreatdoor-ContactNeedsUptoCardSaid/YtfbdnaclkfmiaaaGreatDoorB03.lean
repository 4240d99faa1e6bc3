import Derived.Test.YtfbdnaclkfmiaaaGreatDoorRows
import Derived.Test.YtfbdnaclkfmiaaaGreatDoorB01
import Derived.WalkKit
import Derived.WalkSpells
import Derived.WalkLawsBesides
import Derived.Lib.SlicesS
import Derived.Laws.AppendOwn
import Derived.Deep.QuietTactic
import Derived.BigQuiet
import Derived.Test.YtfbdnaclkfmiaaaGreatDoorShelf
import Derived.Lib.FrozenHead2
section
namespace Go.Proofs.YtfbdnaclkfmiaaaGreatDoor
open Go.RowKit
theorem infoStr:(Tryz.prog.info? 9).map (fun i=>(i.zero,i.size,i.bytes))=some (some (.string ⟨#[]⟩),1,16):=by kernel_rfl
def strs (x:List ByteArray):List Value:=x.map Value.string
theorem strs_length (x:List ByteArray):(strs x).length=x.length:=List.length_map _
theorem strs_snoc (x:List ByteArray) (c:ByteArray):strs (x++[c])=strs x++[.string c]:=by simp[strs]
theorem strs_get {x:List ByteArray} {i:Nat} {b:ByteArray} (h:x[i]?=some b):(strs x)[i]?=some (.string b):=by simp[strs,h]
attribute [irreducible] strs
def OwnT (B:Nat) (w:World) (v:Value) (x:List ByteArray):Prop:=w.ownsRow B 9 1 v x.length (strs x)
theorem OwnT.nil (B:Nat) (w:World):OwnT B w (.slice none 0 0) []:=by
  unfold OwnT
  rw[show strs []=[] from by unfold strs;rfl]
  exact World.ownsRow_nil _ _ _ _
theorem OwnT.below {B:Nat} {w w':World} {v:Value} {x:List ByteArray} (h:OwnT B w v x) (hb:Below w.heap.size w w'):OwnT B w' v x:=by
  have h':w.ownsRow B 9 1 v x.length (strs x):=h
  refine h'.kept (w':=w') (row:=some w.heap.size) ⟨hb.os,hb.tape,hb.output,hb.size,fun i hi _=>hb.block i hi⟩ ?_
  cases ho:v.ownBlock with
  | none=>exact .inl rfl
  | some g=>exact .inr (fun e=>by have:=(h'.lt g ho).2;injection e with e;omega)
theorem OwnT.low {B:Nat} {w:World} {v:Value} {x:List ByteArray} (h:OwnT B w v x) {j:Nat} (hj:v.ownBlock=some j):B≤j∧j < w.heap.size:=World.ownsRow.lt h j hj
theorem OwnT.slice {B:Nat} {w:World} {v:Value} {x:List ByteArray} (h:OwnT B w v x):∃ A cap,v=.slice A x.length cap:=by
  rcases h.2 with ⟨rfl,h0⟩ | ⟨g,cap,cur,rfl,_⟩
  · exact⟨none,0,by rw[h0]⟩
  · exact⟨_,_,rfl⟩
theorem add_at0 (g:Nat):(⟨g,0,none⟩:Addr).add 0=⟨g,0,none⟩:=by unfold Addr.add;split<;>simp_all
theorem push_one {ops:Array Oper} {rest:List Oper} {o:Oper} {a:Act} {Q:Exit→Act→World→Prop} {t e:TypeId} {i:TypeInfo} {z:Value} {bytes:Nat} (ht : Tryz.prog.underlying t=some (.slice e)) (hi : Tryz.prog.info? e=some i) (hz:i.zero=some z)
    (h1:i.size=1) (hby:i.bytes=bytes) (hzc:z.cells.size=1) (hgd:o.guard=none) (s x:Operand) (ho:o.op=.call { callee:=.builtin .append,args:=#[s,x],argTypes:=#[t,t] })
    (B:Nat) (v:Value) (n:Nat) (xs:List Value) (u:Value) (w0:World) (hs:a.eval s=v) (hown:w0.ownsRow B e 1 v n xs) (hx:a.eval x=.slice (some ⟨w0.heap.size,0,none⟩) 1 1) (hu:u.oneCell'=true)
    (hlen:(n+1)*bytes≤140737488355328) (hn:n≤1000000000000) (hB:B≤w0.heap.size)
    (h:∀ v' w',w'.ownsRow B e 1 v' (n+1) (xs++[u])→Below B w0 w'→wpList Tryz.prog ops Q rest (a.put o.dst v') w'):wpList Tryz.prog ops Q (o::rest) a (w0.alloc (.cells #[u] e)):=by
  refine wpList_append_own _ hgd s x t ho B e i z 1 bytes ht hi hz h1 hby hzc (by decide) v n xs hs (hown.alloc _) ⟨w0.heap.size,0,none⟩ 1 1 [u] hx rfl ?_ ?_ ?_ hlen (by simp;omega) ?_
  · intro j y hj
    match j,hj with
    | 0,hj =>
      simp at hj
      subst hj
      rw[add_at0]
      exact cell_of_row _ _ 0 #[_] e (0,0) (heap_alloc_new w0 _)
    | j+1,hj=>simp at hj
  · intro y hy
    simp at hy
    subst hy
    exact hu
  · unfold maxLen;omega
  · intro v' w' hown' hg _
    exact h v' w' hown' (((Below.refl B w0).alloc hB _).grown hg (by simp;omega) (fun j hj=>(World.ownsRow.lt hown j hj).1))
theorem push_str {ops:Array Oper} {rest:List Oper} {o:Oper} {a:Act} {Q:Exit→Act→World→Prop} (hgd:o.guard=none) (s x:Operand) (ho:o.op=.call { callee:=.builtin .append,args:=#[s,x],argTypes:=#[23,23] })
    (B:Nat) (v:Value) (xs:List ByteArray) (b:ByteArray) (w0:World) (hs:a.eval s=v) (hown:OwnT B w0 v xs) (hx:a.eval x=.slice (some ⟨w0.heap.size,0,none⟩) 1 1) (hn:xs.length≤1000000000000) (hB:B≤w0.heap.size)
    (h:∀ v' w',OwnT B w' v' (xs++[b])→Below B w0 w'→wpList Tryz.prog ops Q rest (a.put o.dst v') w'):wpList Tryz.prog ops Q (o::rest) a (w0.alloc (.cells #[.string b] 9)):=by
  obtain⟨i0,hi,hz0,hz1,hz2⟩:=info_parts infoStr
  refine push_one Tryz.underlying23 hi hz0 hz1 hz2 rfl hgd s x ho B v xs.length (strs xs) (.string b) w0 hs hown hx rfl (by omega) hn hB fun v' w' h1 h2=>h v' w' ?_ h2
  unfold OwnT
  rw[strs_snoc,List.length_append,List.length_singleton]
  exact h1
def ReadT (B:Nat) (w:World) (v:Value) (x:List ByteArray):Prop :=
  ∃ A cap,v=.slice A x.length cap∧(0 < x.length→∃ ad:Addr,A=some ad∧ad.block < B∧∀ i b,x[i]?=some b→w.cell? (ad.add i)=some (.string b))
theorem ReadT.below {B:Nat} {w w':World} {v:Value} {x:List ByteArray} (h:ReadT B w v x) (hb:Below B w w'):ReadT B w' v x:=by
  obtain⟨A,cap,rfl,h2⟩:=h
  refine⟨A,cap,rfl,fun h0=>?_⟩
  obtain⟨ad,rfl,hl,hc⟩:=h2 h0
  refine⟨ad,rfl,hl,fun i b hi=>(hb.cell ?_).trans (hc i b hi)⟩
  rw[addBlock]
  exact hl
theorem ReadT.more {B C:Nat} {w:World} {v:Value} {x:List ByteArray} (h:ReadT B w v x) (hB:B≤C):ReadT C w v x:=by
  obtain⟨A,cap,rfl,h2⟩:=h
  refine⟨A,cap,rfl,fun h0=>?_⟩
  obtain⟨ad,rfl,hl,hc⟩:=h2 h0
  exact⟨ad,rfl,by omega,hc⟩
theorem ReadT.nil (B:Nat) (w:World) (cap:Nat):ReadT B w (.slice none 0 cap) []:=⟨none,cap,rfl,fun h=>absurd h (by simp)⟩
theorem OwnT.reads {B:Nat} {w:World} {v:Value} {x:List ByteArray} (h:OwnT B w v x):ReadT w.heap.size w v x:=by
  have h':w.ownsRow B 9 1 v x.length (strs x):=h
  rcases h'.2 with ⟨rfl,h0⟩ | ⟨g,cap,cur,rfl,_,hh,_⟩
  · exact⟨none,0,by rw[h0],fun h=>absurd h (by omega)⟩
  · refine⟨_,cap,rfl,fun h0=>⟨_,rfl,lt_of_block hh,fun i b hi=>?_⟩⟩
    exact h'.cells (g:=g) rfl i _ (strs_get hi)
theorem ReadT.made {w:World} {g cap n o:Nat} {x:List ByteArray} (hn:x.length=n) (hg:g < w.heap.size) (hc:∀ i b,x[i]?=some b→w.cell? ⟨g,o+i,none⟩=some (.string b)):ReadT w.heap.size w (.slice (some ⟨g,o,none⟩) n cap) x:=by
  subst hn
  refine⟨_,cap,rfl,fun _=>⟨_,rfl,hg,fun i b hi=>?_⟩⟩
  rw[add_at]
  exact hc i b hi
end Go.Proofs.YtfbdnaclkfmiaaaGreatDoor
end
section
namespace Go.Proofs.YtfbdnaclkfmiaaaGreatDoor
open Go.RowKit
structure Btw (b C:Nat) (w w':World):Prop where
  below:Below b w w'
  mid:∀ g,b < g→g < C→w'.heap[g]?=w.heap[g]?
theorem Btw.refl (b C:Nat) (w:World):Btw b C w w:=⟨Below.refl _ _,fun _ _ _=>rfl⟩
theorem Btw.trans {b C:Nat} {w x y:World} (h:Btw b C w x) (k:Btw b C x y):Btw b C w y:=⟨h.below.trans k.below,fun g h1 h2=>(k.mid g h1 h2).trans (h.mid g h1 h2)⟩
theorem Btw.of {b C D:Nat} {w x:World} (h:Below D w x) (h1:b≤D) (h2:C≤D):Btw b C w x:=⟨h.mono h1,fun g _ hg=>h.block g (by omega)⟩
theorem Btw.keeps {b C g:Nat} {w x:World} (h:Btw b C w x) (h1:g≠b) (h2:g < C):x.heap[g]?=w.heap[g]?:=by
  rcases Nat.lt_or_ge g b with h3 | h3
  · exact h.below.block g h3
  · exact h.mid g (by omega) h2
def Holding (b C:Nat) (p:Value) (l:List UInt8) (w:World):Prop :=
  ∃ v,w.heap[b]?=some (.cells #[p,v] 113 (0,0))∧w.ownsRowF C 5 1 v l.length (Lib.byteCells l)∧b < C∧C≤w.heap.size
def Bld (b C:Nat) (l:List UInt8) (w:World):Prop:=∃ p,(p=.pointer none∨p=.pointer (some ⟨b,0,none⟩))∧Holding b C p l w
theorem Holding.below {b C:Nat} {p:Value} {l:List UInt8} {w w':World} (h:Holding b C p l w) (hb:Below w.heap.size w w'):Holding b C p l w':=by
  obtain⟨v,h1,h2,h3,h4⟩:=h
  exact⟨v,by rw[hb.block b (by omega)];exact h1,h2.kept (row:=none) ⟨hb.os,hb.tape,hb.output,hb.size,fun k hk _=>hb.block k hk⟩ (by cases v.ownBlock<;>simp),h3,Nat.le_trans h4 hb.size⟩
theorem Bld.below {b C:Nat} {l:List UInt8} {w w':World} (h:Bld b C l w) (hb:Below w.heap.size w w'):Bld b C l w':=by
  obtain⟨p,hp,h⟩:=h
  exact⟨p,hp,h.below hb⟩
theorem Bld.start (w:World):Bld w.heap.size (w.heap.size+1) [] (w.alloc (.cells #[.pointer none,.slice none 0 0] 113)) :=
  ⟨_,.inl rfl,_,heap_alloc_new w _,World.ownsRowF_nil _ _ _ _,Nat.lt_succ_self _,by simp⟩
theorem Bld.lt {b C:Nat} {l:List UInt8} {w:World} (h:Bld b C l w):b < C∧C≤w.heap.size:=by
  obtain⟨p,_,v,_,_,h3,h4⟩:=h
  exact⟨h3,h4⟩
theorem Bld.later {b C D:Nat} {w:World} (h:Bld b C [] w) (h1:C≤D) (h2:D≤w.heap.size) (hv:∀ p v,w.heap[b]?=some (.cells #[p,v] 113 (0,0))→v=.slice none 0 0):Bld b D [] w:=by
  obtain⟨p,hp,v,h3,h4,h5,h6⟩:=h
  obtain rfl:=hv p v h3
  exact⟨p,hp,_,h3,World.ownsRowF_nil _ _ _ _,by omega,h2⟩
theorem ownsRowF_mono {w:World} {C D:Nat} {e:TypeId} {v:Value} {n:Nat} {xs:List Value} (h:w.ownsRowF C e 1 v n xs) (hD:D≤C):w.ownsRowF D e 1 v n xs:=by
  refine⟨h.1,?_⟩
  rcases h.2 with hn | ⟨g,cap,cur,fz,hv,hb,rest⟩
  · exact .inl hn
  · exact .inr ⟨g,cap,cur,fz,hv,Nat.le_trans hD hb,rest⟩
theorem Bld.is {b C:Nat} {l:List UInt8} {w:World} (h:Bld b C l w):Lib.IsBuilderF 113 5 b b (Lib.byteCells l) w:=by
  obtain⟨p,hp,v,h1,h2,h3,h4⟩:=h
  have hne:v.ownBlock≠some b:=fun e=>by have:=(h2.lt b e).1;omega
  have h2':w.ownsRowF b 5 1 v (Lib.byteCells l).length (Lib.byteCells l):=by rw[Lib.byteCells_length];exact ownsRowF_mono h2 (by omega)
  rcases hp with rfl | rfl
  · exact .inl ⟨Nat.le_refl _,v,h1,h2',hne⟩
  · exact .inr ⟨Nat.le_refl _,v,h1,h2',hne⟩
theorem bld_String (b C:Nat) (l:List UInt8) (w:World) (h:Bld b C l w) :
    Calls Tryz.prog 88 #[.pointer (some ⟨b,0,none⟩)] w fun e w'=>e=.returned (.string ⟨l.toArray⟩)∧Below b w w' :=
  (Tryz.Builder_String_any_f b b l w h.is (by have:=h.lt;omega)).mono fun e w' ⟨h1,_,h2⟩=>⟨h1,h2⟩
set_option maxHeartbeats 1000000 in
set_option maxRecDepth 100000 in
theorem bld_check (b C:Nat) (l:List UInt8) (w:World) (h:Bld b C l w) :
    Calls Tryz.prog 118 #[.pointer (some ⟨b,0,none⟩)] w fun e w'=>e=.returned (.tuple #[])∧Holding b C (.pointer (some ⟨b,0,none⟩)) l w'∧Btw b C w w':=by
  obtain⟨p,hp,v,h1,h2,h3,h4⟩:=h
  have HH:=Lib.hid h2
  have B1:Bk w b 113 #[p,v]:=h1
  have hshape:w.shape? b=some (113,2):=by unfold World.shape?;rw[h1];rfl
  clear h1 h2
  have c0:=B1.cell 0
  have f0:=B1.free 0
  simp only[Nat.reduceLT,List.size_toArray,List.length_cons,List.length_nil,getElem?_pos,Nat.reduceAdd,List.getElem_toArray,List.getElem_cons_zero] at c0
  rcases hp with rfl | rfl
  · obtain⟨i0,hi0,hi2⟩:=Option.map_eq_some_iff.1 (show (Tryz.prog.info? 113).map (·.size)=some 2 by kernel_rfl)
    have hlies:liesAt Tryz.prog Tryz.prog.depth 113 (2 / Tryz.prog.cellsOf 113) 0 113 1=true:=by kernel_rfl
    go_enter Tryz.func118,Tryz.ntmps118
    go_wp2
    rw[Lib.run_to_unsafe w ⟨b,0,none⟩ Tryz.underlying111 Tryz.underlying156 hi0 (by rw[hi2];decide) hshape (Nat.zero_lt_succ 1)]
    simp only[Result.andThen]
    rw[Oper.upon_value]
    go_wp2
    rw[run_callFunc_extern Tryz.func138 (by kernel_rfl) (by kernel_rfl) (by kernel_rfl) (e:=Extern.AbiNoEscape.same) (by kernel_rfl)]
    rw[Lib.run_noEscape]
    simp only[Result.andThen]
    rw[Oper.upon_value]
    go_wp2
    rw[Lib.run_from_unsafe w ⟨b,0,none⟩ Tryz.underlying156 Tryz.underlying111 hi0 hshape hlies]
    simp only[Result.andThen]
    rw[Oper.upon_value]
    go_wp2
    go_end0
    have hne:v.ownBlock=none∨v.ownBlock≠some b:=.inr (fun e=>by have:=(HH.out.lt b e).1;omega)
    refine⟨rfl,⟨v,B1.put 0 (.pointer (some ⟨b,0,none⟩)),HH.out.kept (row:=some b) ⟨rfl,rfl,rfl,by simp[World.setCell],fun k _ hk=>Below.heap_setCell _ _ _ _ (fun e=>hk (by simp[e]))⟩ hne,h3,by simpa [World.setCell] using h4⟩,?_⟩
    exact⟨(Below.refl _ _).setCell (p:=⟨b,0,none⟩) (Nat.le_refl _) _,fun g hg _=>Below.heap_setCell _ _ _ _ (fun e=>by simp at e;omega)⟩
  · go_enter Tryz.func118,Tryz.ntmps118
    go_wp2
    obtain⟨i1,hi1,_⟩:=Option.map_eq_some_iff.1 (show (Tryz.prog.info? 113).map (·.size)=some 2 by kernel_rfl)
    rw[Lib.run_neq_ptr_same w _ Tryz.underlying111 hi1]
    go_wp2
    go_end0
    exact⟨rfl,⟨v,B1,HH.out,h3,h4⟩,Btw.refl _ _ _⟩
theorem gtrans {a x y:World} {row:Option Nat} (h:a.grownBy x row) (k:x.grownBy y row):a.grownBy y row :=
  ⟨k.os.trans h.os,k.tape.trans h.tape,k.output.trans h.output,Nat.le_trans h.size k.size,fun i h1 h2=>(k.block i (Nat.lt_of_lt_of_le h1 h.size) h2).trans (h.block i h1 h2)⟩
theorem wrote {b C:Nat} {p v v':Value} {l more:List UInt8} {w w2:World} (hb:Bk w b 113 #[p,v]) (hown:w.ownsRowF C 5 1 v l.length (Lib.byteCells l)) (h3:b < C) (h4:C≤w.heap.size)
    (hown':w2.ownsRowF C 5 1 v' (l.length+more.length) (Lib.byteCells l++Lib.byteCells more)) (hg:w.grownBy w2 v.ownBlock) :
    Bk w2 b 113 #[p,v]∧Holding b C p (l++more) (w2.setCell ⟨b,1,none⟩ v')∧Btw b C w (w2.setCell ⟨b,1,none⟩ v'):=by
  have hlow:∀ k,v.ownBlock=some k→C≤k:=fun k hk=>(hown.lt k hk).1
  have hne:some b≠v.ownBlock:=fun e=>by have:=hlow b e.symm;omega
  have hb2:=hb.grown hg hne
  have hne':v'.ownBlock≠some b:=fun e=>by have:=(hown'.lt b e).1;omega
  refine⟨hb2,⟨v',?_,?_,h3,?_⟩,?_,?_⟩
  · have:=hb2.put 1 v'
    exact this
  · have:=hown'.kept (row:=some b) (w':=w2.setCell ⟨b,1,none⟩ v') ⟨rfl,rfl,rfl,by simp[World.setCell],fun k _ hk=>Below.heap_setCell _ _ _ _ (fun e=>hk (by simp[e]))⟩ (.inr hne')
    rw[List.length_append,Lib.byteCells_append]
    exact this
  · have:=hg.size
    simp[World.setCell];omega
  · exact((Below.refl b w).grown hg (by omega) (fun k hk=>by have:=hlow k hk;omega)).setCell (p:=⟨b,1,none⟩) (Nat.le_refl _) _
  · intro g h5 h6
    rw[Below.heap_setCell _ _ _ _ (by simp;omega)]
    exact hg.block g (by omega) (fun e=>by have:=hlow g e.symm;omega)
theorem infoByte:(Tryz.prog.info? 5).map (fun i=>(i.zero,i.size,i.bytes))=some (some (.int .u8 0),1,1):=by kernel_rfl
theorem words {b:Nat} {p v:Value} {w:World} (h:Bk w b 113 #[p,v]):w.cell? ⟨b,0,none⟩=some p∧w.cell? ⟨b,1,none⟩=some v∧w.frozen? ⟨b,1,none⟩=false:=by
  have c0:=h.cell 0
  have c1:=h.cell 1
  simp only[Nat.reduceLT,List.size_toArray,List.length_cons,List.length_nil,getElem?_pos,Nat.reduceAdd,List.getElem_toArray,List.getElem_cons_zero,List.getElem_cons_succ] at c0 c1
  exact⟨c0,c1,h.free 1⟩
theorem slice_of {w:World} {C n:Nat} {v:Value} {xs:List Value} (h:w.ownsRowF C 5 1 v n xs):∃ a n' c,v=.slice a n' c:=by
  rcases h.2 with ⟨hv,_⟩ | ⟨g,cap,cur,fz,hv,_⟩
  · exact⟨_,_,_,hv⟩
  · exact⟨_,_,_,hv⟩
set_option maxHeartbeats 1000000 in
set_option maxRecDepth 100000 in
theorem bld_string (b C:Nat) (l:List UInt8) (s:ByteArray) (w:World) (h:Bld b C l w) (hlen:l.length+s.size≤140737488355328 - 4096) :
    Calls Tryz.prog 87 #[.pointer (some ⟨b,0,none⟩),.string s] w fun e w'=>e=.returned (.tuple #[.int .i64 s.size,.nilIface])∧Bld b C (l++s.data.toList) w'∧Btw b C w w':=by
  obtain⟨i0,hi,hz0,hz1,hz2⟩:=info_parts infoByte
  go_enter Tryz.func87,Tryz.ntmps87
  go_wp2_with (go_at_call 118;refine(bld_check b C l _ h).mono ?_)
  rintro e w1 ⟨rfl,⟨v,hb,hown,h3,h4⟩,ht⟩
  obtain⟨c0,c1,_⟩:=words hb
  go_wp2_with (at_builtin;refine Lib.wpList_append_own_stringF _ rfl _ _ 50 9 rfl C 5 i0 Tryz.underlying50 Tryz.underlying9 hi hz0 hz1 hz2 _ _ _ rfl hown s rfl ?c3 ?c4 ?c5 ?_)
  case c3=>unfold maxLen;omega
  case c4=>omega
  case c5=>omega
  intro v' w2 hown' hgrow _
  have R:=wrote (more:=s.data.toList) hb hown h3 h4 (by rw[← Lib.strCells_eq,← Lib.size_eq];exact hown') hgrow
  obtain⟨d0,d1,f1⟩:=words R.1
  obtain⟨a',n',cap',rfl⟩:=slice_of hown'
  have RR:=Lib.hid R
  clear R hown' hgrow
  go_wp2
  go_ret2
  exact⟨rfl,⟨_,.inr rfl,RR.out.2.1⟩,ht.trans RR.out.2.2⟩
end Go.Proofs.YtfbdnaclkfmiaaaGreatDoor
end
section
namespace Go.Proofs.YtfbdnaclkfmiaaaGreatDoor
open Go.RowKit
theorem infoInt:(Tryz.prog.info? 3).map (fun i=>(i.zero,i.size,i.bytes))=some (some (.int .i64 0),1,8):=by kernel_rfl
def ints (x:List Nat):List Value:=x.map fun c=>.int .i64 (c:Nat)
theorem ints_length (x:List Nat):(ints x).length=x.length:=List.length_map _
theorem ints_snoc (x:List Nat) (c:Nat):ints (x++[c])=ints x++[.int .i64 (c:Nat)]:=by simp[ints]
theorem ints_get (x:List Nat) (i:Nat) (h:i < x.length):(ints x)[i]?=some (.int .i64 (x.getD i 0:Nat)):=by
  simp[ints,List.getElem?_map,List.getD,List.getElem?_eq_getElem h]
theorem ints_one (a:Nat):(ints [a]).toArray=#[.int .i64 (a:Nat)]:=rfl
theorem ints_two (a b:Nat):(ints [a,b]).toArray=#[.int .i64 (a:Nat),.int .i64 (b:Nat)]:=rfl
theorem ints_append (x y:List Nat):ints (x++y)=ints x++ints y:=by simp[ints]
theorem ints_cells (x:List Nat):∀ u∈ints x,u.oneCell'=true:=by
  intro u hu
  obtain⟨c,_,rfl⟩:=List.mem_map.1 hu
  rfl
attribute [irreducible] ints
def Owned (B:Nat) (w:World) (v:Value) (x:List Nat):Prop:=w.ownsRow B 3 1 v x.length (ints x)
theorem Owned.nil (B:Nat) (w:World):Owned B w (.slice none 0 0) []:=by
  unfold Owned
  rw[show ints []=[] from by unfold ints;rfl]
  exact World.ownsRow_nil _ _ _ _
theorem Owned.below {B:Nat} {w w':World} {v:Value} {x:List Nat} (h:Owned B w v x) (hb:Below w.heap.size w w'):Owned B w' v x:=by
  have h':w.ownsRow B 3 1 v x.length (ints x):=h
  refine h'.kept (w':=w') (row:=some w.heap.size) ⟨hb.os,hb.tape,hb.output,hb.size,fun i hi _=>hb.block i hi⟩ ?_
  cases ho:v.ownBlock with
  | none=>exact .inl rfl
  | some g=>exact .inr (fun e=>by have:=(h'.lt g ho).2;injection e with e;omega)
def Pushed (B:Nat) (w:World) (x:List Nat) (c:Nat) (e:Ending) (w':World):Prop:=∃ v',e=.returned v'∧Owned B w' v' (x++[c])∧Below B w w'
theorem pushed_of {B:Nat} {w w1:World} {v v':Value} {x:List Nat} {c:Nat} {o:Obj} (hown:Owned B w v x) (hB:B≤w.heap.size)
    (hown':w1.ownsRow B 3 1 v' (x.length+1) (ints x++[.int .i64 (c:Nat)])) (hg:(w.alloc o).grownBy w1 v.ownBlock):Owned B w1 v' (x++[c])∧Below B w w1:=by
  refine⟨by unfold Owned;rw[ints_snoc];simpa using hown',?_⟩
  exact((Below.refl B w).alloc hB o).grown hg (by simp;omega) (fun j hj=>(hown.lt j hj).1)
def Reads (B:Nat) (w:World) (v:Value) (x:List Nat):Prop :=
  ∃ A cap,v=.slice A x.length cap∧(0 < x.length→∃ ad:Addr,A=some ad∧ad.block < B∧∀ i,i < x.length→w.cell? (ad.add i)=some (.int .i64 (x.getD i 0:Nat)))
theorem Reads.below {B:Nat} {w w':World} {v:Value} {x:List Nat} (h:Reads B w v x) (hb:Below B w w'):Reads B w' v x:=by
  obtain⟨A,cap,rfl,h2⟩:=h
  refine⟨A,cap,rfl,fun h0=>?_⟩
  obtain⟨ad,rfl,hl,hc⟩:=h2 h0
  refine⟨ad,rfl,hl,fun i hi=>(hb.cell ?_).trans (hc i hi)⟩
  have:(ad.add i).block=ad.block:=by unfold Addr.add;split<;>rfl
  omega
theorem Reads.more {B C:Nat} {w:World} {v:Value} {x:List Nat} (h:Reads B w v x) (hB:B≤C):Reads C w v x:=by
  obtain⟨A,cap,rfl,h2⟩:=h
  refine⟨A,cap,rfl,fun h0=>?_⟩
  obtain⟨ad,rfl,hl,hc⟩:=h2 h0
  exact⟨ad,rfl,by omega,hc⟩
theorem Owned.reads {B:Nat} {w:World} {v:Value} {x:List Nat} (h:Owned B w v x):Reads w.heap.size w v x:=by
  have h':w.ownsRow B 3 1 v x.length (ints x):=h
  rcases h'.2 with ⟨rfl,h0⟩ | ⟨g,cap,cur,rfl,_,hh,_⟩
  · exact⟨none,0,by rw[h0],fun h=>absurd h (by omega)⟩
  · refine⟨_,cap,rfl,fun h0=>⟨_,rfl,lt_of_block hh,fun i hi=>?_⟩⟩
    exact h'.cells (g:=g) rfl i _ (ints_get x i hi)
theorem Owned.source {B:Nat} {w:World} {v:Value} {x:List Nat} (h:Owned B w v x) {A:Option Addr} {n cap:Nat} (hv:v=.slice A n cap) :
    (A=none∧cap=0∧x=[])∨∃ ad,A=some ad∧∀ j u,(ints x)[j]?=some u→w.cell? (ad.add j)=some u:=by
  have h':w.ownsRow B 3 1 v x.length (ints x):=h
  rcases h'.2 with ⟨hn,h0⟩ | ⟨g,cap',cur,hg,_,hh,_⟩
  · rw[hv] at hn
    injection hn with h1 h2 h3
    exact .inl ⟨h1,h3,List.eq_nil_of_length_eq_zero h0⟩
  · rw[hv] at hg
    injection hg with h1 h2 h3
    exact .inr ⟨_,h1,fun j u hj=>h'.cells (g:=g) (by rw[hv,h1];rfl) j u hj⟩
theorem Reads.made (w:World) (t:TypeId) (x:List Nat) (cs:Array Value) (cap n:Nat) (hcs:(ints x).toArray=cs) (hn:x.length=n):Reads (w.heap.size+1) (w.alloc (.cells cs t)) (.slice (some ⟨w.heap.size,0,none⟩) n cap) x:=by
  subst hcs
  subst hn
  refine⟨_,cap,rfl,fun _=>⟨_,rfl,Nat.lt_succ_self _,fun i hi=>?_⟩⟩
  have hb:=Bk.new w t (ints x).toArray
  have:=hb.cell i
  have e:(⟨w.heap.size,0,none⟩:Addr).add i=⟨w.heap.size,i,none⟩:=by unfold Addr.add;split<;>simp_all
  rw[e,this,List.getElem?_toArray,ints_get x i hi]
end Go.Proofs.YtfbdnaclkfmiaaaGreatDoor
end
section
namespace Go.Proofs.YtfbdnaclkfmiaaaGreatDoor
open Go.RowKit
set_option maxHeartbeats 1000000 in
set_option maxRecDepth 100000 in
theorem bld_byte (b C:Nat) (l:List UInt8) (c:UInt8) (w:World) (h:Bld b C l w) (hlen:l.length+1≤140737488355328 - 4096) :
    Calls Tryz.prog 89 #[.pointer (some ⟨b,0,none⟩),.int .u8 c.toNat] w fun e w'=>e=.returned .nilIface∧Bld b C (l++[c]) w'∧Btw b C w w':=by
  obtain⟨i0,hi,hz0,hz1,hz2⟩:=info_parts infoByte
  go_enter Tryz.func89,Tryz.ntmps89
  go_wp2_with (go_at_call 118;refine(bld_check b C l _ h).mono ?_)
  rintro e w1 ⟨rfl,⟨v,hb,hown,h3,h4⟩,ht⟩
  obtain⟨c0,c1,_⟩:=words hb
  obtain⟨z,hz⟩:∃ z:Int,(c.toNat:Int)=z:=⟨_,rfl⟩
  have hnew:Lib.byteCells [c]=[.int .u8 z]:=by rw[← hz];rfl
  rw[hz]
  go_wp2_with (at_builtin;refine wpList_append_ownF _ rfl _ _ 50 rfl C 5 i0 (.int .u8 0) 1 1 Tryz.underlying50 hi hz0 hz1 hz2 rfl (by decide) _ _ _ rfl (hown.alloc _) ⟨w1.heap.size,0,none⟩ 1 1 [.int .u8 z] rfl rfl ?c1 ?c2 ?c3 ?c4 ?c5 ?_)
  case c1 =>
    intro j u hj
    match j,hj with
    | 0,hj=>simp at hj;subst hj;simp[Addr.add]
  case c2=>intro u hu;simp at hu;subst hu;rfl
  case c3=>unfold maxLen;omega
  case c4=>omega
  case c5=>simp;omega
  intro v' w2 hown' hgrow _
  have R:=wrote (more:=[c]) hb hown h3 h4 (by rw[hnew];exact hown') (gtrans (World.grownBy_alloc w1 _ _) hgrow)
  obtain⟨d0,d1,f1⟩:=words R.1
  obtain⟨a',n',cap',rfl⟩:=slice_of hown'
  have RR:=Lib.hid R
  clear R hown' hgrow
  go_wp2
  go_ret
  exact⟨rfl,⟨_,.inr rfl,RR.out.2.1⟩,ht.trans RR.out.2.2⟩
end Go.Proofs.YtfbdnaclkfmiaaaGreatDoor
end