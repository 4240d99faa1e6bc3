import Derived.Test.YtbgaglcgennhiaaGreatDoorRows
import Derived.Test.YtbgaglcgennhiaaGreatDoorP02
import Derived.Test.YtbgaglcgennhiaaGreatDoorShelf
import Derived.WalkKit
import Derived.WalkSpells
import Derived.WalkLawsBesides
import Derived.Laws.AppendOwn
import Derived.Deep.RegionLaw
import Derived.Lib.Hide
import Derived.Lib.SlicesS
import Derived.Deep.QuietTactic
import Derived.BigQuiet
import Derived.Test.YtbgaglcgennhiaaGreatDoorP11
import Derived.Lib.FrozenHead2
import Derived.Test.YtbgaglcgennhiaaGreatDoorP13
import Derived.Lib.OthersKept
import Derived.Scope
import Derived.Deep.RegionWith
import Derived.ScopeJumps
import Derived.WalkMore
import Derived.Lib.Fold
import Derived.Deep.LoopGhost
import Derived.Laws.RangeString
import Derived.Lib.IndexBytes
import Derived.Test.YtbgaglcgennhiaaGreatDoorP07
import Derived.Shelf.Strings.SlTrimAscii
import Derived.Lib.Case
import Derived.Test.YtbgaglcgennhiaaGreatDoorP08
section
namespace Go.Proofs.YtbgaglcgennhiaaGreatDoor
open Go.RowKit
theorem l9 (w:World) (n:Nat):Below w.heap.size w (w.drewN n):=⟨rfl,rfl,rfl,Nat.le_refl _,fun _ _=>rfl⟩
def MaxL (w:World):Prop:=∃ m,w.cell? ⟨0,0,none⟩=some (.int .i64 m)
theorem MaxL.below {w w':World} (h:MaxL w) (hb:Below w.heap.size w w'):MaxL w':=by
 obtain⟨m,hm⟩:=h
 refine⟨m,?_⟩
 rw[hb.cell (p:=⟨0,0,none⟩) (World.block_lt_of_cell? _ _ hm)];exact hm
theorem uE (c:UInt8):∀ l:List UInt8,(Lib.cut l [c]=(l,[],false)∧∀ x∈l,x≠c)∨∃ p r,l=p++c::r∧(∀ x∈p,x≠c)∧Lib.cut l [c]=(p,r,true):=by
 intro l;rcases Lib.index_spec l [c] with ⟨h1,h2⟩ | ⟨i,h1,h2,h3,h4⟩
 · left
   refine⟨by unfold Lib.cut;rw[h1];rfl,fun x hx e=>?_⟩
   subst e
   obtain⟨j,hj,hx⟩:=List.mem_iff_getElem.1 hx
   have:=h2 j (by omega)
   unfold Lib.occAt at this;rw[List.drop_eq_getElem_cons hj,hx] at this
   simp[List.isPrefixOf] at this
 · right
   unfold Lib.occAt at h3;rw[List.isPrefixOf_iff_prefix] at h3
   obtain⟨r,hr⟩:=h3
   have hr2:l.drop i=c::r:=hr.symm;have hl:l=l.take i++c::r:=by rw[← hr2,List.take_append_drop]
   have hr3:l.drop (i+1)=r:=by
    have:=congrArg (List.drop 1) hr2
    simpa [List.drop_drop] using this
   refine⟨l.take i,r,hl,fun x hx e=>?_,?_⟩
   · subst e
     obtain⟨j,hj,hx⟩:=List.mem_iff_getElem.1 hx
     rw[List.length_take] at hj
     have:=h4 j (by omega)
     unfold Lib.occAt at this;rw[List.getElem_take] at hx;rw[List.drop_eq_getElem_cons (by omega),hx] at this
     simp[List.isPrefixOf] at this
   · unfold Lib.cut
     rw[h1,if_pos (by omega)];simp only[Int.toNat_natCast,List.length_singleton];rw[hr3]
end Go.Proofs.YtbgaglcgennhiaaGreatDoor
end
section
namespace Go.Proofs.YtbgaglcgennhiaaGreatDoor
open Go.RowKit
abbrev Att:=List UInt8 × List UInt8
abbrev aa (l:List UInt8):ByteArray:=⟨l.toArray⟩
end Go.Proofs.YtbgaglcgennhiaaGreatDoor
end
section
namespace Go.Proofs.YtbgaglcgennhiaaGreatDoor
open Go.RowKit
theorem pM:(Tryz.prog.info? 9).map (fun i=>(i.zero,i.size,i.bytes))=some (some (.string ⟨#[]⟩),1,16):=by kernel_rfl
def cS (x:List ByteArray):List Value:=x.map Value.string
theorem nK (x:List ByteArray):(cS x).length=x.length:=List.length_map _
theorem rg (x:List ByteArray) (c:ByteArray):cS (x++[c])=cS x++[.string c]:=by simp[cS]
theorem jr {x:List ByteArray} {i:Nat} {b:ByteArray} (h:x[i]?=some b):(cS x)[i]?=some (.string b):=by simp[cS,h]
attribute [irreducible] cS
def OwnT (B:Nat) (w:World) (v:Value) (x:List ByteArray):Prop:=w.ownsRow B 9 1 v x.length (cS x)
theorem OwnT.nil (B:Nat) (w:World):OwnT B w (.slice none 0 0) []:=by
 unfold OwnT;rw[show cS []=[] from by unfold cS;rfl];exact World.ownsRow_nil _ _ _ _
theorem OwnT.below {B:Nat} {w w':World} {v:Value} {x:List ByteArray} (h:OwnT B w v x) (hb:Below w.heap.size w w'):OwnT B w' v x:=by
 have h':w.ownsRow B 9 1 v x.length (cS x):=h;refine h'.kept (w':=w') (row:=some w.heap.size) ⟨hb.os,hb.tape,hb.output,hb.size,fun i hi _=>hb.block i hi⟩ ?_;cases ho:v.ownBlock with
 | none=>exact .inl rfl
 | some g=>exact .inr (fun e=>by have:=(h'.lt g ho).2;injection e with e;omega)
theorem OwnT.low {B:Nat} {w:World} {v:Value} {x:List ByteArray} (h:OwnT B w v x) {j:Nat} (hj:v.ownBlock=some j):B≤j∧j < w.heap.size:=World.ownsRow.lt h j hj
theorem OwnT.slice {B:Nat} {w:World} {v:Value} {x:List ByteArray} (h:OwnT B w v x):∃ A cap,v=.slice A x.length cap:=by
 rcases h.2 with ⟨rfl,h0⟩ | ⟨g,cap,cur,rfl,_⟩
 · exact⟨none,0,by rw[h0]⟩
 · exact⟨_,_,rfl⟩
theorem uF (g:Nat):(⟨g,0,none⟩:Addr).add 0=⟨g,0,none⟩:=by unfold Addr.add;split<;>simp_all
theorem sM {ops:Array Oper} {rest:List Oper} {o:Oper} {a:Act} {Q:Exit→Act→World→Prop} {t e:TypeId} {i:TypeInfo} {z:Value} {bytes:Nat} (ht : Tryz.prog.underlying t=some (.slice e)) (hi : Tryz.prog.info? e=some i) (hz:i.zero=some z)
 (h1:i.size=1) (hby:i.bytes=bytes) (hzc:z.cells.size=1) (hgd:o.guard=none) (s x:Operand) (ho:o.op=.call { callee:=.builtin .append,args:=#[s,x],argTypes:=#[t,t] })
 (B:Nat) (v:Value) (n:Nat) (xs:List Value) (u:Value) (w0:World) (hs:a.eval s=v) (hown:w0.ownsRow B e 1 v n xs) (hx:a.eval x=.slice (some ⟨w0.heap.size,0,none⟩) 1 1) (hu:u.oneCell'=true)
 (hlen:(n+1)*bytes≤140737488355328) (hn:n≤1000000000000) (hB:B≤w0.heap.size)
 (h:∀ v' w',w'.ownsRow B e 1 v' (n+1) (xs++[u])→Below B w0 w'→wpList Tryz.prog ops Q rest (a.put o.dst v') w'):wpList Tryz.prog ops Q (o::rest) a (w0.alloc (.cells #[u] e)):=by
 refine wpList_append_own _ hgd s x t ho B e i z 1 bytes ht hi hz h1 hby hzc (by decide) v n xs hs (hown.alloc _) ⟨w0.heap.size,0,none⟩ 1 1 [u] hx rfl ?_ ?_ ?_ hlen (by simp;omega) ?_
 · intro j y hj
   match j,hj with
   | 0,hj =>
     simp at hj;subst hj;rw[uF];exact cell_of_row _ _ 0 #[_] e (0,0) (heap_alloc_new w0 _)
   | j+1,hj=>simp at hj
 · intro y hy
   simp at hy;subst hy;exact hu
 · unfold maxLen;omega
 · intro v' w' hown' hg _
   exact h v' w' hown' (((Below.refl B w0).alloc hB _).grown hg (by simp;omega) (fun j hj=>(World.ownsRow.lt hown j hj).1))
theorem ns {ops:Array Oper} {rest:List Oper} {o:Oper} {a:Act} {Q:Exit→Act→World→Prop} (hgd:o.guard=none) (s x:Operand) (ho:o.op=.call { callee:=.builtin .append,args:=#[s,x],argTypes:=#[26,26] })
 (B:Nat) (v:Value) (xs:List ByteArray) (b:ByteArray) (w0:World) (hs:a.eval s=v) (hown:OwnT B w0 v xs) (hx:a.eval x=.slice (some ⟨w0.heap.size,0,none⟩) 1 1) (hn:xs.length≤1000000000000) (hB:B≤w0.heap.size)
 (h:∀ v' w',OwnT B w' v' (xs++[b])→Below B w0 w'→wpList Tryz.prog ops Q rest (a.put o.dst v') w'):wpList Tryz.prog ops Q (o::rest) a (w0.alloc (.cells #[.string b] 9)):=by
 obtain⟨i0,hi,hz0,hz1,hz2⟩:=info_parts pM
 refine sM Tryz.underlying26 hi hz0 hz1 hz2 rfl hgd s x ho B v xs.length (cS xs) (.string b) w0 hs hown hx rfl (by omega) hn hB fun v' w' h1 h2=>h v' w' ?_ h2
 unfold OwnT;rw[rg,List.length_append,List.length_singleton];exact h1
def ReadT (B:Nat) (w:World) (v:Value) (x:List ByteArray):Prop :=
 ∃ A cap,v=.slice A x.length cap∧(0 < x.length→∃ ad:Addr,A=some ad∧ad.block < B∧∀ i b,x[i]?=some b→w.cell? (ad.add i)=some (.string b))
theorem ReadT.below {B:Nat} {w w':World} {v:Value} {x:List ByteArray} (h:ReadT B w v x) (hb:Below B w w'):ReadT B w' v x:=by
 obtain⟨A,cap,rfl,h2⟩:=h
 refine⟨A,cap,rfl,fun h0=>?_⟩
 obtain⟨ad,rfl,hl,hc⟩:=h2 h0
 refine⟨ad,rfl,hl,fun i b hi=>(hb.cell ?_).trans (hc i b hi)⟩
 rw[au];exact hl
theorem ReadT.more {B C:Nat} {w:World} {v:Value} {x:List ByteArray} (h:ReadT B w v x) (hB:B≤C):ReadT C w v x:=by
 obtain⟨A,cap,rfl,h2⟩:=h
 refine⟨A,cap,rfl,fun h0=>?_⟩
 obtain⟨ad,rfl,hl,hc⟩:=h2 h0
 exact⟨ad,rfl,by omega,hc⟩
theorem ReadT.nil (B:Nat) (w:World) (cap:Nat):ReadT B w (.slice none 0 cap) []:=⟨none,cap,rfl,fun h=>absurd h (by simp)⟩
theorem OwnT.reads {B:Nat} {w:World} {v:Value} {x:List ByteArray} (h:OwnT B w v x):ReadT w.heap.size w v x:=by
 have h':w.ownsRow B 9 1 v x.length (cS x):=h;rcases h'.2 with ⟨rfl,h0⟩ | ⟨g,cap,cur,rfl,_,hh,_⟩
 · exact⟨none,0,by rw[h0],fun h=>absurd h (by omega)⟩
 · refine⟨_,cap,rfl,fun h0=>⟨_,rfl,lt_of_block hh,fun i b hi=>?_⟩⟩
   exact h'.cells (g:=g) rfl i _ (jr hi)
set_option maxHeartbeats 400000 in
theorem qF (a b:ByteArray) (w:World):Calls Tryz.prog 48 #[.string a,.string b] w fun e w'=>e=.returned (.bool (a.toList==b.toList))∧w=w':=by
 go_enter Tryz.func48,Tryz.ntmps48
 go_wp2
 go_ret
 exact⟨rfl,rfl⟩
theorem gk (w:World) (n:Nat):Below w.heap.size w (w.drewN n):=⟨rfl,rfl,rfl,Nat.le_refl _,fun _ _=>rfl⟩
theorem lu (w:World) (n m:Nat):Below w.heap.size w ((w.drewN n).drewN m):=⟨rfl,rfl,rfl,Nat.le_refl _,fun _ _=>rfl⟩
set_option maxHeartbeats 1000000 in
theorem qK (B:Nat) (v u:Value) (x y:List ByteArray) (w:World) (hx:ReadT B w v x) (hy:ReadT B w u y) (hl:x.length≤140737488355328) (hm:y.length≤140737488355328) :
 Calls Tryz.prog 47 #[v,u,.func (.func 48) #[] #[]] w fun e w'=>e=.returned (.bool (decide (x=y)))∧Below w.heap.size w w':=by
 obtain⟨A,cap,rfl,hx2⟩:=hx
 obtain⟨A',cap',rfl,hy2⟩:=hy
 by_cases hne:x.length=y.length
 · have HNE:=Lib.hid hne
   have hbne:(((x.length:Nat):Int) != ((y.length:Nat):Int))=false:=by simp[hne]
   clear hne;go_enter Tryz.func47,Tryz.ntmps47
   go_wp2_with fail
   go_loopw [7] (fun i wr=>∃ (k n:Nat),k≤x.length∧i=.int .i64 k∧Hid (x.take k=y.take k)∧wr=w.drewN n) (fun i _=>x.length - (intOf i).toNat)
   case atStart=>exact⟨0,0,Nat.zero_le _,rfl,Lib.hid (by simp),rfl⟩
   case round =>
    obtain⟨k,n,hk,rfl,hte,rfl⟩:=hrel
    by_cases hlt:k < x.length
    · have hlty:k < y.length:=by rw[← HNE.out];exact hlt
      obtain⟨ad,rfl,hlb,hc⟩:=hx2 (by omega)
      obtain⟨bd,rfl,hlb',hd⟩:=hy2 (by omega)
      obtain⟨p,hp⟩:∃ p,x[k]?=some p:=⟨_,List.getElem?_eq_getElem hlt⟩
      obtain⟨q,hq⟩:∃ q,y[k]?=some q:=⟨_,List.getElem?_eq_getElem hlty⟩
      have c1:=hc k p hp;have d1:=hd k q hq;have HP:=Lib.hid hp;have HQ:=Lib.hid hq;clear hp hq hc hd hx2 hy2
      go_wp2_with fail
      go_quiet ((go_at_call 48;exact(qF p q _).mono (fun _ _ h=>⟨h.1,_,h.2.symm⟩)))
      go_wp2_with fail
      · have hpq:(p.toList==q.toList)=false:=by simpa using (show (!(p.toList==q.toList))=true by assumption)
        have hq2:decide (x=y)=false:=by
         refine decide_eq_false (fun e=>?_);subst e;have e2:p=q:=Option.some.inj (HP.out.symm.trans HQ.out);subst e2;simp at hpq
        go_ret
        exact⟨aG hq2.symm,lu w n nq⟩
      · have hpq:(p.toList==q.toList)=true:=by simpa using (show (!(p.toList==q.toList))=false by assumption)
        have e2:p=q:=(Lib.bytes_beq_iff p q).1 hpq;go_roundw
        case rel=>exact⟨k+1,n+nq,by omega,by go_num,jq HP.out HQ.out hte.out e2,rfl⟩
        case measure=>simp[intOf];omega
    · have hke:k=x.length:=by omega
      have hxy:decide (x=y)=true:=by
       have h1:=hte.out;rw[hke,List.take_length,HNE.out,List.take_length] at h1;exact decide_eq_true h1
      clear hke
      go_wp2_with fail
      go_ret
      exact⟨aG hxy.symm,gk w n⟩
 · have hbne:(((x.length:Nat):Int) != ((y.length:Nat):Int))=true:=by simp;omega
   have hq:decide (x=y)=false:=decide_eq_false (fun e=>hne (congrArg List.length e));rw[hq];clear hq hne;go_enter Tryz.func47,Tryz.ntmps47
   go_wp2_with fail
   go_ret
   exact⟨rfl,Below.refl _ _⟩
set_option maxHeartbeats 400000 in
theorem jf (B:Nat) (v u:Value) (x y:List ByteArray) (w:World) (hx:ReadT B w v x) (hy:ReadT B w u y) (hl:x.length≤140737488355328) (hm:y.length≤140737488355328) :
 Calls Tryz.prog 23 #[v,u] w fun e w'=>e=.returned (.bool (decide (x=y)))∧Below w.heap.size w w':=by
 have HS:=Lib.hid (qK B v u x y w hx hy hl hm);clear hx hy;go_enter Tryz.func23,Tryz.ntmps23
 go_wp2_with (go_at_call 47;refine HS.out.mono ?_;rintro e w2 ⟨rfl,hb⟩)
 go_ret
 exact⟨rfl,hb⟩
end Go.Proofs.YtbgaglcgennhiaaGreatDoor
end
section
namespace Go.Proofs.YtbgaglcgennhiaaGreatDoor.Ct
open Go.Proofs.YtbgaglcgennhiaaGreatDoor Tx
def iE (x:List UInt8):List (List UInt8)→List (List UInt8)
 | []=>[x]
 | y::t=>if Jd.ltL y x then y::iE x t else if y=x then y::t else x::y::t
def ag (l:List (List UInt8)):List (List UInt8):=l.foldl (fun out x=>if x=[] then out else iE x out) []
def bU:List (List UInt8)→Bool
 | []=>true
 | [_]=>true
 | x::y::t=>Jd.ltL x y&&bU (y::t)
theorem eI {x:List UInt8} {t:List (List UInt8)} (h:bU (x::t)=true):bU t=true:=by
 cases t with
 | nil=>rfl
 | cons y t=>exact(Bool.and_eq_true_iff.1 h).2
theorem dt:∀ {t:List (List UInt8)} {x:List UInt8},bU (x::t)=true→∀ y∈t,Jd.ltL x y=true
 | [],_,_,y,hy=>by cases hy
 | z::t,x,h,y,hy=>by
   obtain⟨h1,h2⟩:=Bool.and_eq_true_iff.1 h
   rcases List.mem_cons.1 hy with rfl | hy
   · exact h1
   · exact Jd.lt_trans _ _ _ h1 (dt h2 y hy)
theorem nf:∀ {l:List (List UInt8)} {x:List UInt8},(∀ y∈l,Jd.ltL y x=true)→iE x l=l++[x]
 | [],_,_=>rfl
 | y::t,x,h=>by
   rw[iE,if_pos (h y List.mem_cons_self),nf (fun z hz=>h z (List.mem_cons_of_mem _ hz))];rfl
theorem ins_mem:∀ {l:List (List UInt8)} {x y:List UInt8},y∈iE x l↔y=x∨y∈l
 | [],x,y=>by simp[iE]
 | z::t,x,y=>by
   rw[iE]
   split
   · rw[List.mem_cons,ins_mem,List.mem_cons]
     constructor
     · rintro (h | h | h)
       · exact .inr (.inl h)
       · exact .inl h
       · exact .inr (.inr h)
     · rintro (h | h | h)
       · exact .inr (.inl h)
       · exact .inl h
       · exact .inr (.inr h)
   · split
     · rename_i _ e
       subst e
       simp
     · simp
theorem iK:∀ {l:List (List UInt8)} {x:List UInt8},bU l=true→bU (iE x l)=true
 | [],_,_=>rfl
 | y::t,x,h=>by
   rw[iE]
   split
   · rename_i hlt
     have h1:=iK (x:=x) (eI h);cases hi:iE x t with
     | nil=>rfl
     | cons z r =>
       rw[hi] at h1;have hz:z∈iE x t:=by rw[hi];exact List.mem_cons_self
       refine Bool.and_eq_true_iff.2 ⟨?_,h1⟩;rcases ins_mem.1 hz with rfl | hz
       · exact hlt
       · exact dt h z hz
   · split
     · exact h
     · rename_i h1 h2
       refine Bool.and_eq_true_iff.2 ⟨?_,h⟩;rcases Jd.lt_tri y x with ⟨h3,_⟩ | ⟨_,h3,_⟩ | ⟨_,_,h3⟩
       · exact absurd h3 h1
       · exact h3
       · exact absurd h3 h2
theorem oT (l:List (List UInt8)):∀ out,bU out=true→(∀ g∈out,g≠[])→bU (l.foldl (fun out x=>if x=[] then out else iE x out) out)=true∧∀ g,g∈l.foldl (fun out x=>if x=[] then out else iE x out) out↔(g∈out∨(g∈l∧g≠[])):=by
 induction l with
 | nil=>exact fun out h1 h2=>⟨h1,fun g=>by simp⟩
 | cons x t ih =>
   intro out h1 h2;rw[List.foldl_cons]
   by_cases hx:x=[]
   · rw[if_pos hx]
     obtain⟨h3,h4⟩:=ih out h1 h2
     refine⟨h3,fun g=>?_⟩
     rw[h4 g,List.mem_cons]
     constructor
     · rintro (h | ⟨h,h5⟩)
       · exact .inl h
       · exact .inr ⟨.inr h,h5⟩
     · rintro (h | ⟨h | h,h5⟩)
       · exact .inl h
       · exact absurd (h.trans hx) h5
       · exact .inr ⟨h,h5⟩
   · rw[if_neg hx]
     obtain⟨h3,h4⟩:=ih (iE x out) (iK h1) (fun g hg=>by
      rcases ins_mem.1 hg with rfl | hg
      · exact hx
      · exact h2 g hg)
     refine⟨h3,fun g=>?_⟩
     rw[h4 g,ins_mem,List.mem_cons]
     constructor
     · rintro ((h | h) | ⟨h,h5⟩)
       · exact .inr ⟨.inl h,by rw[h];exact hx⟩
       · exact .inl h
       · exact .inr ⟨.inr h,h5⟩
     · rintro (h | ⟨h | h,h5⟩)
       · exact .inl (.inr h)
       · exact .inl (.inl h)
       · exact .inr ⟨h,h5⟩
theorem fx (l:List (List UInt8)):bU (ag l)=true∧∀ g,g∈ag l↔(g∈l∧g≠[]):=by
 obtain⟨h1,h2⟩:=oT l [] rfl (fun g hg=>by cases hg)
 refine⟨h1,fun g=>?_⟩
 have:=h2 g
 unfold ag;rw[this]
 constructor
 · rintro (h | h)
   · cases h
   · exact h
 · exact .inr
theorem fQ:∀ (l:List (List UInt8)) (x:List UInt8),(iE x l).length≤l.length+1
 | [],_=>Nat.le_refl _
 | y::t,x=>by
   rw[iE]
   have:=fQ t x
   split
   · simp only[List.length_cons];omega
   · split
     · simp only[List.length_cons];omega
     · simp only[List.length_cons];omega
theorem px (l:List (List UInt8)):(ag l).length≤l.length:=by
 have:∀ (l out:List (List UInt8)),(l.foldl (fun out x=>if x=[] then out else iE x out) out).length≤out.length+l.length:=by
  intro l
  induction l with
  | nil=>exact fun out=>by simp
  | cons x t ih =>
    intro out;rw[List.foldl_cons,List.length_cons]
    split
    · have:=ih out;omega
    · have h1:=ih (iE x out)
      have h2:=fQ out x;omega
 have h:=this l [];simpa [ag] using h
end Go.Proofs.YtbgaglcgennhiaaGreatDoor.Ct
end
section
namespace Go.Proofs.YtbgaglcgennhiaaGreatDoor
open Go.RowKit Tx
def slv (g cap:Nat) (x:Nat × Nat):Value:=.slice (some ⟨g,x.1,none⟩) (x.2 - x.1) (cap - x.1)
def xh (g cap:Nat) (l:List (Nat × Nat)):List Value:=l.map (slv g cap)
attribute [irreducible] xh
end Go.Proofs.YtbgaglcgennhiaaGreatDoor
end
section
namespace Go.Proofs.YtbgaglcgennhiaaGreatDoor
open Go.RowKit Tx
section
variable {s:ByteArray} {k:Nat} {o:List UInt8}
end
end Go.Proofs.YtbgaglcgennhiaaGreatDoor
end
