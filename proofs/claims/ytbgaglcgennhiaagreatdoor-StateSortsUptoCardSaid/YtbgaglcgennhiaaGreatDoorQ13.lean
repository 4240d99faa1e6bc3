import Derived.Lib.SlicesS
import Derived.Lib.FrozenHead2
import Derived.Test.YtbgaglcgennhiaaGreatDoorQ12
import Derived.Lib.OthersKept
import Derived.Scope
import Derived.ScopeJumps
import Derived.WalkMore
import Derived.Lib.Fold
import Derived.Deep.LoopGhost
import Derived.Laws.RangeString
import Derived.Lib.IndexBytes
import Derived.Laws.OwnMore
set_option maxHeartbeats 1000000
set_option maxRecDepth 100000
namespace Go.Proofs.YtbgaglcgennhiaaGreatDoor
section
open Go.RowKit
theorem mN (w:World) (n:Nat):Below w.heap.size w (w.drewN n):=⟨rfl,rfl,rfl,aq _,fun _ _=>rfl⟩
def MaxL (w:World):Prop:=∃ m,w.cell? ⟨0,0,none⟩=some (.int .i64 m)
theorem MaxL.below {w w':World} (h:MaxL w) (hb:Below w.heap.size w w'):MaxL w':=by obtain⟨m,hm⟩:=h;refine⟨m,?_⟩;rw[hb.cell (p:=⟨0,0,none⟩) (World.block_lt_of_cell? _ _ hm)];exact hm
theorem yS (c:UInt8):∀ l:List UInt8,(Lib.cut l [c]=(l,[],false)/\∀ x∈l,x≠c)\/∃ p r,l=p++c::r/\(∀ x∈p,x≠c)/\Lib.cut l [c]=(p,r,true):=by
 intro l;rcases Lib.index_spec l [c] with ⟨h1,h2⟩|⟨i,h1,h2,h3,h4⟩
 ·left;refine⟨by unfold Lib.cut;rw[h1];rfl,fun x hx e=>?_⟩;subst e;obtain⟨j,hj,hx⟩:=List.mem_iff_getElem.1 hx;have:=h2 j (by omega);unfold Lib.occAt at this;rw[List.drop_eq_getElem_cons hj,hx] at this;simp[List.isPrefixOf] at this
 ·right;unfold Lib.occAt at h3;rw[List.isPrefixOf_iff_prefix] at h3;obtain⟨r,hr⟩:=h3;have hr2:l.drop i=c::r:=hr.symm;have hl:l=l.take i++c::r:=(by rw[<-hr2,List.take_append_drop]);have hr3:l.drop (i+1)=r:=(by have:=congrArg (List.drop 1) hr2;simpa [List.drop_drop] using this);refine⟨l.take i,r,hl,fun x hx e=>?_,?_⟩
  ·subst e;obtain⟨j,hj,hx⟩:=List.mem_iff_getElem.1 hx;rw[dL] at hj;have:=h4 j (by omega);unfold Lib.occAt at this;rw[List.getElem_take] at hx;rw[List.drop_eq_getElem_cons (by omega),hx] at this;simp[List.isPrefixOf] at this
  ·unfold Lib.cut;rw[h1,if_pos (by omega)];simp only[Int.toNat_natCast,List.length_singleton];rw[hr3]
theorem sH:(Tryz.prog.info? 9).map (fun i=>(i.zero,i.size,i.bytes))=some (some (.string ⟨#[]⟩),1,16):=by kernel_rfl
def cX (x:List ByteArray):List Value:=x.map Value.string
theorem qg (x:List ByteArray):(cX x).length=x.length:=cr _
theorem vl (x:List ByteArray) (c:ByteArray):cX (x++[c])=cX x++[.string c]:=by simp[cX]
theorem lK {x:List ByteArray} {i:Nat} {b:ByteArray} (h:x[i]?=some b):(cX x)[i]?=some (.string b):=by simp[cX,h]
attribute [irreducible] cX
def OwnT (B:Nat) (w:World) (v:Value) (x:List ByteArray):Prop:=w.ownsRow B 9 1 v x.length (cX x)
theorem OwnT.nil (B:Nat) (w:World):OwnT B w (.slice none 0 0) []:=by unfold OwnT;rw[show cX []=[] from by unfold cX;rfl];exact World.ownsRow_nil _ _ _ _
theorem OwnT.below {B:Nat} {w w':World} {v:Value} {x:List ByteArray} (h:OwnT B w v x) (hb:Below w.heap.size w w'):OwnT B w' v x:=by
 have h':w.ownsRow B 9 1 v x.length (cX x):=h;refine h'.kept (w':=w') (row:=some w.heap.size) ⟨hb.os,hb.tape,hb.output,hb.size,fun i hi _=>hb.block i hi⟩ ?_;cases ho:v.ownBlock with
 |none=>exact .inl rfl
 |some g=>exact .inr (fun e=>by have:=(h'.lt g ho).2;injection e with e;omega)
theorem OwnT.low {B:Nat} {w:World} {v:Value} {x:List ByteArray} (h:OwnT B w v x) {j:Nat} (hj:v.ownBlock=some j):B<=j/\j<w.heap.size:=World.ownsRow.lt h j hj
theorem OwnT.slice {B:Nat} {w:World} {v:Value} {x:List ByteArray} (h:OwnT B w v x):∃ A cap,v=.slice A x.length cap:=by
 rcases h.2 with ⟨rfl,h0⟩|⟨g,cap,cur,rfl,_⟩
 ·exact⟨none,0,by rw[h0]⟩
 ·exact⟨_,_,rfl⟩
theorem yL (g:Nat):(⟨g,0,none⟩:Addr).add 0=⟨g,0,none⟩:=by unfold Addr.add;split<;>simp_all
theorem xH {ops:Array Oper} {rest:List Oper} {o:Oper} {a:Act} {Q:Exit->Act->World->Prop} {t e:TypeId} {i:TypeInfo} {z:Value} {bytes:Nat} (ht : Tryz.prog.underlying t=some (.slice e)) (hi : Tryz.prog.info? e=some i) (hz:i.zero=some z)
 (h1:i.size=1) (hby:i.bytes=bytes) (hzc:z.cells.size=1) (hgd:o.guard=none) (s x:Operand) (ho:o.op=.call { callee:=.builtin .append,args:=#[s,x],argTypes:=#[t,t] })
 (B:Nat) (v:Value) (n:Nat) (xs:List Value) (u:Value) (w0:World) (hs:a.eval s=v) (hown:w0.ownsRow B e 1 v n xs) (hx:a.eval x=.slice (some ⟨w0.heap.size,0,none⟩) 1 1) (hu:u.oneCell'=true)
 (hlen:(n+1)*bytes<=140737488355328) (hn:n<=1000000000000) (hB:B<=w0.heap.size)
 (h:∀ v' w',w'.ownsRow B e 1 v' (n+1) (xs++[u])->Below B w0 w'->wpList Tryz.prog ops Q rest (a.put o.dst v') w'):wpList Tryz.prog ops Q (o::rest) a (w0.alloc (.cells #[u] e)):=by
 refine wpList_append_own _ hgd s x t ho B e i z 1 bytes ht hi hz h1 hby hzc (by decide) v n xs hs (hown.alloc _) ⟨w0.heap.size,0,none⟩ 1 1 [u] hx rfl ?_ ?_ ?_ hlen (by simp;omega) ?_
 ·intro j y hj
  match j,hj with
  | 0,hj=>simp at hj;subst hj;rw[yL];exact cell_of_row _ _ 0 #[_] e (0,0) (heap_alloc_new w0 _)
  |j+1,hj=>simp at hj
 ·intro y hy;simp at hy;subst hy;exact hu
 ·unfold maxLen;omega
 ·intro v' w' hown' hg _;exact h v' w' hown' (((Below.refl B w0).alloc hB _).grown hg (by simp;omega) (fun j hj=>(World.ownsRow.lt hown j hj).1))
theorem pC {ops:Array Oper} {rest:List Oper} {o:Oper} {a:Act} {Q:Exit->Act->World->Prop} (hgd:o.guard=none) (s x:Operand) (ho:o.op=.call { callee:=.builtin .append,args:=#[s,x],argTypes:=#[26,26] })
 (B:Nat) (v:Value) (xs:List ByteArray) (b:ByteArray) (w0:World) (hs:a.eval s=v) (hown:OwnT B w0 v xs) (hx:a.eval x=.slice (some ⟨w0.heap.size,0,none⟩) 1 1) (hn:xs.length<=1000000000000) (hB:B<=w0.heap.size)
 (h:∀ v' w',OwnT B w' v' (xs++[b])->Below B w0 w'->wpList Tryz.prog ops Q rest (a.put o.dst v') w'):wpList Tryz.prog ops Q (o::rest) a (w0.alloc (.cells #[.string b] 9)):=by
 obtain⟨i0,hi,hz0,hz1,hz2⟩:=info_parts sH;refine xH Tryz.underlying26 hi hz0 hz1 hz2 rfl hgd s x ho B v xs.length (cX xs) (.string b) w0 hs hown hx rfl (by omega) hn hB fun v' w' h1 h2=>h v' w' ?_ h2
 unfold OwnT;rw[vl,de,List.length_singleton];exact h1
def ReadT (B:Nat) (w:World) (v:Value) (x:List ByteArray):Prop:=∃ A cap,v=.slice A x.length cap/\(0<x.length->∃ ad:Addr,A=some ad/\ad.block<B/\∀ i b,x[i]?=some b->w.cell? (ad.add i)=some (.string b))
theorem ReadT.below {B:Nat} {w w':World} {v:Value} {x:List ByteArray} (h:ReadT B w v x) (hb:Below B w w'):ReadT B w' v x:=by obtain⟨A,cap,rfl,h2⟩:=h;refine⟨A,cap,rfl,fun h0=>?_⟩;obtain⟨ad,rfl,hl,hc⟩:=h2 h0;refine⟨ad,rfl,hl,fun i b hi=>(hb.cell ?_).trans (hc i b hi)⟩;rw[aC];exact hl
theorem ReadT.more {B C:Nat} {w:World} {v:Value} {x:List ByteArray} (h:ReadT B w v x) (hB:B<=C):ReadT C w v x:=by obtain⟨A,cap,rfl,h2⟩:=h;refine⟨A,cap,rfl,fun h0=>?_⟩;obtain⟨ad,rfl,hl,hc⟩:=h2 h0;exact⟨ad,rfl,by omega,hc⟩
theorem ReadT.nil (B:Nat) (w:World) (cap:Nat):ReadT B w (.slice none 0 cap) []:=⟨none,cap,rfl,fun h=>absurd h (by simp)⟩
theorem OwnT.reads {B:Nat} {w:World} {v:Value} {x:List ByteArray} (h:OwnT B w v x):ReadT w.heap.size w v x:=by
 have h':w.ownsRow B 9 1 v x.length (cX x):=h;rcases h'.2 with ⟨rfl,h0⟩|⟨g,cap,cur,rfl,_,hh,_⟩
 ·exact⟨none,0,by rw[h0],fun h=>absurd h (by omega)⟩
 ·refine⟨_,cap,rfl,fun h0=>⟨_,rfl,lt_of_block hh,fun i b hi=>?_⟩⟩;exact h'.cells (g:=g) rfl i _ (lK hi)
theorem ua (a b:ByteArray) (w:World):Calls Tryz.prog 48 #[.string a,.string b] w fun e w'=>e=.returned (.bool (a.toList==b.toList))/\w=w':=by
 go_enter Tryz.func48,Tryz.ntmps48;go_wp2
 go_ret;exact⟨rfl,rfl⟩
theorem gX (w:World) (n:Nat):Below w.heap.size w (w.drewN n):=⟨rfl,rfl,rfl,aq _,fun _ _=>rfl⟩
theorem mM (w:World) (n m:Nat):Below w.heap.size w ((w.drewN n).drewN m):=⟨rfl,rfl,rfl,aq _,fun _ _=>rfl⟩
theorem uH (B:Nat) (v u:Value) (x y:List ByteArray) (w:World) (hx:ReadT B w v x) (hy:ReadT B w u y) (hl:x.length<=140737488355328) (hm:y.length<=140737488355328):
 Calls Tryz.prog 47 #[v,u,.func (.func 48) #[] #[]] w fun e w'=>e=.returned (.bool (decide (x=y)))/\Below w.heap.size w w':=by
 obtain⟨A,cap,rfl,hx2⟩:=hx;obtain⟨A',cap',rfl,hy2⟩:=hy;by_cases hne:x.length=y.length
 ·have HNE:=aa hne;have hbne:(((x.length:Nat):Int) != ((y.length:Nat):Int))=false:=(by simp[hne]);clear hne;go_enter Tryz.func47,Tryz.ntmps47;go_wp2_with fail
  go_loopw [7] (fun i wr=>∃ (k n:Nat),k<=x.length/\i=.int .i64 k/\Hid (x.take k=y.take k)/\wr=w.drewN n) (fun i _=>x.length-(intOf i).toNat)
  case atStart=>exact⟨0,0,bI _,rfl,aa (by simp),rfl⟩
  case round=>
   obtain⟨k,n,hk,rfl,hte,rfl⟩:=hrel;by_cases hlt:k<x.length
   ·have hlty:k<y.length:=(by rw[<-HNE.out];exact hlt);obtain⟨ad,rfl,hlb,hc⟩:=hx2 (by omega);obtain⟨bd,rfl,hlb',hd⟩:=hy2 (by omega);obtain⟨p,hp⟩:∃ p,x[k]?=some p:=⟨_,aQ hlt⟩;obtain⟨q,hq⟩:∃ q,y[k]?=some q:=⟨_,aQ hlty⟩;have c1:=hc k p hp;have d1:=hd k q hq;have HP:=aa hp;have HQ:=aa hq;clear hp hq hc hd hx2 hy2;(go_wp2_with fail);(go_quiet ((go_at_call 48;exact(ua p q _).mono (fun _ _ h=>⟨h.1,_,h.2.symm⟩))));go_wp2_with fail
    ·have hpq:(p.toList==q.toList)=false:=(by simpa using (show (!(p.toList==q.toList))=true by assumption));have hq2:decide (x=y)=false:=(by refine bF (fun e=>?_);subst e;have e2:p=q:=Option.some.inj (HP.out.symm.trans HQ.out);subst e2;simp at hpq);go_ret;exact⟨aV hq2.symm,mM w n nq⟩
    ·have hpq:(p.toList==q.toList)=true:=(by simpa using (show (!(p.toList==q.toList))=false by assumption));have e2:p=q:=(Lib.bytes_beq_iff p q).1 hpq;go_roundw;case rel=>exact⟨k+1,n+nq,by omega,by go_num,lQ HP.out HQ.out hte.out e2,rfl⟩
     case measure=>simp[intOf];omega
   ·have hke:k=x.length:=(by omega);have hxy:decide (x=y)=true:=(by have h1:=hte.out;rw[hke,List.take_length,HNE.out,List.take_length] at h1;exact bq h1);clear hke;(go_wp2_with fail);go_ret;exact⟨aV hxy.symm,gX w n⟩
 ·have hbne:(((x.length:Nat):Int) != ((y.length:Nat):Int))=true:=(by simp;omega);have hq:decide (x=y)=false:=bF (fun e=>hne (congrArg List.length e));rw[hq];clear hq hne;go_enter Tryz.func47,Tryz.ntmps47;(go_wp2_with fail);go_ret;exact⟨rfl,aE _ _⟩
theorem lg (B:Nat) (v u:Value) (x y:List ByteArray) (w:World) (hx:ReadT B w v x) (hy:ReadT B w u y) (hl:x.length<=140737488355328) (hm:y.length<=140737488355328):
 Calls Tryz.prog 23 #[v,u] w fun e w'=>e=.returned (.bool (decide (x=y)))/\Below w.heap.size w w':=by
 have HS:=aa (uH B v u x y w hx hy hl hm);clear hx hy;go_enter Tryz.func23,Tryz.ntmps23;go_wp2_with (go_at_call 47;refine HS.out.mono ?_;rintro e w2 ⟨rfl,hb⟩)
 go_ret;exact⟨rfl,hb⟩
end
section
open Go.RowKit Tx
def al (l:List (List UInt8)):List ByteArray:=l.map fun x=>⟨x.toArray⟩
end
namespace Tx
theorem wn {c:Nat} (h1:cB c) (h2:jD c=true) (h3:32<=c):g7 (enc c)/\valid (enc c)=true:=by
 refine⟨fun x hx=>?_,bA (vU h1 h2)⟩;rcases ec h1 with ⟨a,e⟩|⟨a,b,e⟩|⟨a,b,e⟩|⟨a,b,e⟩
 all_goals
  rw[e] at hx;have key:∀ k,k<256->32<=k->x=UInt8.ofNat k->x≠10/\x≠13:=fun k hk hk2 hxk=>by subst hxk;have:=bE k hk;exact⟨fun e=>by rw[e] at this;simp at this;omega,fun e=>by rw[e] at this;simp at this;omega⟩
  simp only[List.mem_cons,List.not_mem_nil,or_false] at hx
 ·exact key c (by omega) h3 hx
 ·rcases hx with hx|hx
  ·exact key _ (by omega) (by omega) hx
  ·exact key _ (by omega) (by omega) hx
 ·rcases hx with hx|hx|hx
  ·exact key _ (by omega) (by omega) hx
  ·exact key _ (by omega) (by omega) hx
  ·exact key _ (by omega) (by omega) hx
 ·rcases hx with hx|hx|hx|hx
  ·exact key _ (by omega) (by omega) hx
  ·exact key _ (by omega) (by omega) hx
  ·exact key _ (by omega) (by omega) hx
  ·exact key _ (by omega) (by omega) hx
theorem fj {l:List UInt8} {most:Int} (h:line l most=true):∃ cs,ch l=some cs/\flat cs=l/\∀ c∈cs,cB c/\jD c=true/\32<=c:=by
 cases hc:ch l with
 |none=>rw[i9 hc] at h;cases h
 | some cs=>
   rw[dK hc,Bool.and_eq_true,beq_iff_eq,nh] at h;refine⟨cs,rfl,gZ _ l cs (aq _) hc,fun c hm=>?_⟩;obtain⟨h1,h2⟩:=dp _ l cs (aq _) hc c hm;refine⟨h1,h2,?_⟩;rcases Nat.lt_or_ge c 32 with h3|h3
   ·have:c∈cs.filter (fun c=>decide (c<32)):=List.mem_filter.2 ⟨hm,bq h3⟩;rw[List.eq_nil_of_length_eq_zero h.1] at this;cases this
   ·exact h3
end Tx
namespace Ct
open Go.Proofs.YtbgaglcgennhiaaGreatDoor Tx
def jN (x:List UInt8):List (List UInt8)->List (List UInt8)
 |[]=>[x]
 |y::t=>if Jd.ltL y x then y::jN x t else if y=x then y::t else x::y::t
def an (l:List (List UInt8)):List (List UInt8):=l.foldl (fun out x=>if x=[] then out else jN x out) []
def cd:List (List UInt8)->Bool
 |[]=>true
 |[_]=>true
 |x::y::t=>Jd.ltL x y&&cd (y::t)
def lo (l:List (List UInt8)):Bool:=decide (l.length<=8)&&l.all (fun g=>decide (g≠[])&&line g 100)&&cd l
theorem eH {x:List UInt8} {t:List (List UInt8)} (h:cd (x::t)=true):cd t=true:=by
 cases t with
 |nil=>rfl
 |cons y t=>exact(Bool.and_eq_true_iff.1 h).2
theorem dO:∀ {t:List (List UInt8)} {x:List UInt8},cd (x::t)=true->∀ y∈t,Jd.ltL x y=true
 |[],_,_,y,hy=>by cases hy
 | z::t,x,h,y,hy=>by
   obtain⟨h1,h2⟩:=Bool.and_eq_true_iff.1 h;rcases List.mem_cons.1 hy with rfl|hy
   ·exact h1
   ·exact Jd.lt_trans _ _ _ h1 (dO h2 y hy)
theorem kS:∀ {l:List (List UInt8)} {x:List UInt8},(∀ y∈l,Jd.ltL y x=true)->jN x l=l++[x]
 |[],_,_=>rfl
 | y::t,x,h=>by rw[jN,if_pos (h y List.mem_cons_self),kS (fun z hz=>h z (List.mem_cons_of_mem _ hz))];rfl
theorem jt:∀ (l out:List (List UInt8)),(∀ g∈l,g≠[])->cd l=true->(∀ y∈out,∀ g∈l,Jd.ltL y g=true)->l.foldl (fun out x=>if x=[] then out else jN x out) out=out++l
 |[],out,_,_,_=>by simp
 | x::t,out,h1,h2,h3=>by
   rw[List.foldl_cons,if_neg (h1 x List.mem_cons_self),kS (fun y hy=>h3 y hy x List.mem_cons_self),jt t _ (fun g hg=>h1 g (List.mem_cons_of_mem _ hg)) (eH h2) ?_,List.append_assoc]
   ·rfl
   ·intro y hy g hg;rcases List.mem_append.1 hy with hy|hy
    ·exact h3 y hy g (List.mem_cons_of_mem _ hg)
    ·rw[List.mem_singleton] at hy;subst hy;exact dO h2 g hg
theorem m9 {l:List (List UInt8)} (h:lo l=true):an l=l:=by unfold lo at h;simp only[Bool.and_eq_true,decide_eq_true_eq,List.all_eq_true] at h;exact jt l [] (fun g hg=>(h.1.2 g hg).1) h.2 (fun y hy=>by cases hy)
theorem ins_mem:∀ {l:List (List UInt8)} {x y:List UInt8},y∈jN x l↔y=x\/y∈l
 |[],x,y=>by simp[jN]
 | z::t,x,y=>by
   rw[jN];split
   ·rw[List.mem_cons,ins_mem,List.mem_cons];constructor
    ·rintro (h|h|h)
     ·exact .inr (.inl h)
     ·exact .inl h
     ·exact .inr (.inr h)
    ·rintro (h|h|h)
     ·exact .inr (.inl h)
     ·exact .inl h
     ·exact .inr (.inr h)
   ·split
    ·rename_i _ e
     subst e;simp
    ·simp
theorem kU:∀ {l:List (List UInt8)} {x:List UInt8},cd l=true->cd (jN x l)=true
 |[],_,_=>rfl
 | y::t,x,h=>by
   rw[jN];split
   ·rename_i hlt
    have h1:=kU (x:=x) (eH h);cases hi:jN x t with
    |nil=>rfl
    | cons z r=>
      rw[hi] at h1;have hz:z∈jN x t:=(by rw[hi];exact List.mem_cons_self);refine Bool.and_eq_true_iff.2 ⟨?_,h1⟩;rcases ins_mem.1 hz with rfl|hz
      ·exact hlt
      ·exact dO h z hz
   ·split
    ·exact h
    ·rename_i h1 h2
     refine Bool.and_eq_true_iff.2 ⟨?_,h⟩;rcases Jd.lt_tri y x with ⟨h3,_⟩|⟨_,h3,_⟩|⟨_,_,h3⟩
     ·exact absurd h3 h1
     ·exact h3
     ·exact absurd h3 h2
theorem qN (l:List (List UInt8)):∀ out,cd out=true->(∀ g∈out,g≠[])->cd (l.foldl (fun out x=>if x=[] then out else jN x out) out)=true/\∀ g,g∈l.foldl (fun out x=>if x=[] then out else jN x out) out↔(g∈out\/(g∈l/\g≠[])):=by
 induction l with
 |nil=>exact fun out h1 h2=>⟨h1,fun g=>by simp⟩
 | cons x t ih=>
   intro out h1 h2;rw[List.foldl_cons];by_cases hx:x=[]
   ·rw[if_pos hx];obtain⟨h3,h4⟩:=ih out h1 h2;refine⟨h3,fun g=>?_⟩;rw[h4 g,List.mem_cons];constructor
    ·rintro (h|⟨h,h5⟩)
     ·exact .inl h
     ·exact .inr ⟨.inr h,h5⟩
    ·rintro (h|⟨h|h,h5⟩)
     ·exact .inl h
     ·exact absurd (h.trans hx) h5
     ·exact .inr ⟨h,h5⟩
   ·rw[if_neg hx];obtain⟨h3,h4⟩:=ih (jN x out) (kU h1) (fun g hg=>by
     rcases ins_mem.1 hg with rfl|hg
     ·exact hx
     ·exact h2 g hg)
    refine⟨h3,fun g=>?_⟩;rw[h4 g,ins_mem,List.mem_cons];constructor
    ·rintro ((h|h)|⟨h,h5⟩)
     ·exact .inr ⟨.inl h,by rw[h];exact hx⟩
     ·exact .inl h
     ·exact .inr ⟨.inr h,h5⟩
    ·rintro (h|⟨h|h,h5⟩)
     ·exact .inl (.inr h)
     ·exact .inl (.inl h)
     ·exact .inr ⟨h,h5⟩
theorem eL (l:List (List UInt8)):cd (an l)=true/\∀ g,g∈an l↔(g∈l/\g≠[]):=by
 obtain⟨h1,h2⟩:=qN l [] rfl (fun g hg=>by cases hg);refine⟨h1,fun g=>?_⟩;have:=h2 g;unfold an;rw[this];constructor
 ·rintro (h|h)
  ·cases h
  ·exact h
 ·exact .inr
theorem iw:∀ (l:List (List UInt8)) (x:List UInt8),(jN x l).length<=l.length+1
 |[],_=>aq _
 | y::t,x=>by
   rw[jN];have:=iw t x;split
   ·simp only[List.length_cons];omega
   ·split
    ·simp only[List.length_cons];omega
    ·simp only[List.length_cons];omega
theorem kM (l:List (List UInt8)):(an l).length<=l.length:=by
 have:∀ (l out:List (List UInt8)),(l.foldl (fun out x=>if x=[] then out else jN x out) out).length<=out.length+l.length:=by
  intro l
  induction l with
  |nil=>exact fun out=>by simp
  | cons x t ih=>
    intro out;rw[List.foldl_cons,List.length_cons];split
    ·have:=ih out;omega
    ·have h1:=ih (jN x out);have h2:=iw out x;omega
 have h:=this l [];simpa [an] using h
end Ct
section
open Go.RowKit Tx
section
variable {l:List UInt8} {acc:List (List UInt8)} {f k:Nat} {c:UInt8}
end
def Decoded (w:World) (l:List UInt8) (e:Ending) (w':World):Prop:=e=.returned (.tuple #[.int .i64 (fy l).1,.int .i64 (fy l).2])/\w=w'
theorem Decoded.some {w:World} {l:List UInt8} {c n:Nat} (h:fy l=(c,n)):Decoded w l (.returned (.tuple #[.int .i64 c,.int .i64 n])) w:=⟨by rw[h],rfl⟩
theorem Decoded.none {w:World} {l:List UInt8} (h:fy l=(0,0)):Decoded w l (.returned (.tuple #[.int .i64 0,.int .i64 0])) w:=⟨by rw[h];rfl,rfl⟩
theorem jX (s:ByteArray) (i k:Nat) (h:i+k<s.size):((s[i+k]'h).toNat:Int)=(bt (s.data.toList.drop i) k:Nat):=by rw[yQ _ _ _ (by rw[<-bS];exact h)];rfl
theorem eR (s:ByteArray) (i:Nat) (h:i<s.size):((s[i]'h).toNat:Int)=(bt (s.data.toList.drop i) 0:Nat):=jX s i 0 h
theorem z7 {l:List UInt8} (h1:192<=bt l 0) (h2:bt l 0<224):Lead l 2 32 128:=k7.2 (.inl ⟨h1,h2,rfl,rfl,rfl⟩)
theorem z8 {l:List UInt8} (h1:224<=bt l 0) (h2:bt l 0<240):Lead l 3 16 2048:=k7.2 (.inr (.inl ⟨h1,h2,rfl,rfl,rfl⟩))
theorem Ac {l:List UInt8} (h1:240<=bt l 0) (h2:bt l 0<248):Lead l 4 8 65536:=k7.2 (.inr (.inr ⟨h1,h2,rfl,rfl,rfl⟩))
theorem wg (s:ByteArray) (i:Nat) (w:World) (hs:s.size<10000000000000) (h0:i<s.size) (h1:192<=bt (s.data.toList.drop i) 0) (h2:bt (s.data.toList.drop i) 0<224):
 Calls Tryz.prog 135 #[.string s,.int .i64 i] w (Decoded w (s.data.toList.drop i)):=by
 have HL:Lead (s.data.toList.drop i) 2 32 128:=z7 h1 h2;have hsz:=aa (bS s);have hln:Hid ((s.data.toList.drop i).length=s.size-i):=by unfold Hid;rw[List.length_drop,<-hsz.out]
 obtain⟨a,ha⟩:∃ a:Nat,bt (s.data.toList.drop i) 0=a:=⟨_,rfl⟩;have hsa:((s[i]'h0).toNat:Int)=a:=by rw[eR s i h0,ha]
 rw[ha] at h1 h2;have HA:=aa ha;clear ha;by_cases hlen:i+2<=s.size
 ·have hand:bits .and .i64 (a:Int) 31=((acc (s.data.toList.drop i) 32 0:Nat):Int):=(by rw[AJ _ (by omega) (by omega),kl,HA.out];push_cast;rfl);obtain⟨c0,hc0⟩:∃ c0:Nat,acc (s.data.toList.drop i) 32 0=c0:=⟨_,rfl⟩;rw[hc0] at hand;have HC0:=aa hc0;clear hc0;have h192:¬ (a:Int)<192:=(by omega);go_enter Tryz.func135,Tryz.ntmps135;go_wp2_with fail
  go_loop [6,9] (fun c k=>∃ (kk:Nat),1<=kk/\kk<=2/\c=.int .i64 (acc (s.data.toList.drop i) 32 (kk-1):Nat)/\k=.int .i64 kk/\Cont (s.data.toList.drop i) kk) (fun _ k=>2-(intOf k).toNat)
  case atStart=>exact⟨1,by omega,by omega,by rw[show 1-1=0 from rfl,HC0.out],rfl,Cont.one _⟩
  case round=>
   obtain⟨k,hk1,hk2,rfl,rfl,hco⟩:=hrel;have hcb:=HL.bound (k-1) (by omega);obtain⟨c,hc⟩:∃ c:Nat,acc (s.data.toList.drop i) 32 (k-1)=c:=⟨_,rfl⟩;rw[hc] at hcb ⊢;have HC:=aa hc;clear hc;by_cases hlt:k<2
   ·obtain⟨b,hb⟩:∃ b:Nat,bt (s.data.toList.drop i) k=b:=⟨_,rfl⟩;have hbl:b<256:=(by rw[<-hb];exact ow _ _);have hsb:((s[i+k]'(by omega)).toNat:Int)=b:=(by rw[jX s i k (by omega),hb]);have HB:=aa hb;clear hb;by_cases hq:b / 64=2
    ·have g:(bits .and .u8 (b:Int) 192 != 128)=false:=(by rw[iR _ (by omega) (by omega)];simp;omega);have g6:bits .or .i64 ((c:Int)*64) ((b:Int) % 64)=((acc (s.data.toList.drop i) 32 k:Nat):Int):=(by rw[AW _ _ (by omega) (by omega) (by omega) (by omega),show k=k-1+1 by omega,kj,HC.out,show k-1+1=k by omega,HB.out];push_cast;rfl);have G6:=aa g6;clear g6;(go_wp2_with fail);go_round
     case rel=>exact⟨k+1,by omega,by omega,by rw[G6.out,Nat.add_sub_cancel],by go_num,hco.next (by rw[HB.out];exact hq)⟩
     case measure=>simp[intOf];omega
    ·have g:(bits .and .u8 (b:Int) 192 != 128)=true:=(by rw[iR _ (by omega) (by omega)];simp;omega);have hno:=aa (nA HL hk1 hlt (by rw[HB.out];exact hq));(go_wp2_with fail);go_ret2;exact Decoded.none hno.out
   ·have hke:k=2:=(by omega);have hend:Hid (fy (s.data.toList.drop i)=if 128<=c/\c<=1114111/\(c<55296\/57343<c) then (c,2) else (0,0)):=(by have h:=ny HL (by rw[hln.out];omega) (by rw[<-hke];exact hco);rw[<-hke,HC.out,hke] at h;exact h);clear hke;by_cases hv:128<=c/\c<=1114111/\(c<55296\/57343<c)
    ·have hyes:Hid (fy (s.data.toList.drop i)=(c,2)):=(by unfold Hid;rw[hend.out,if_pos hv]);obtain⟨v1,v2,v3⟩:=hv;rcases v3 with v3|v3
     all_goals ((go_wp2_with fail)<;>(go_ret2;exact Decoded.some hyes.out))
    ·have hno:Hid (fy (s.data.toList.drop i)=(0,0)):=(by unfold Hid;rw[hend.out,if_neg hv]);rcases(show c<128\/(128<=c/\1114111<c)\/(128<=c/\c<=1114111/\55296<=c/\c<=57343) by omega) with v|⟨v1,v2⟩|⟨v1,v2,v3,v4⟩
     all_goals (clear hv;(go_wp2_with fail)<;>(go_ret2;exact Decoded.none hno.out))
 ·have hno:=aa (jd HL (by rw[hln.out];omega));go_enter Tryz.func135,Tryz.ntmps135;(go_wp2_with fail);go_ret2;exact Decoded.none hno.out
theorem wh (s:ByteArray) (i:Nat) (w:World) (hs:s.size<10000000000000) (h0:i<s.size) (h1:224<=bt (s.data.toList.drop i) 0) (h2:bt (s.data.toList.drop i) 0<240):
 Calls Tryz.prog 135 #[.string s,.int .i64 i] w (Decoded w (s.data.toList.drop i)):=by
 have HL:Lead (s.data.toList.drop i) 3 16 2048:=z8 h1 h2;have hsz:=aa (bS s);have hln:Hid ((s.data.toList.drop i).length=s.size-i):=by unfold Hid;rw[List.length_drop,<-hsz.out]
 obtain⟨a,ha⟩:∃ a:Nat,bt (s.data.toList.drop i) 0=a:=⟨_,rfl⟩;have hsa:((s[i]'h0).toNat:Int)=a:=by rw[eR s i h0,ha]
 rw[ha] at h1 h2;have HA:=aa ha;clear ha;by_cases hlen:i+3<=s.size
 ·have hand:bits .and .i64 (a:Int) 15=((acc (s.data.toList.drop i) 16 0:Nat):Int):=(by rw[AI _ (by omega) (by omega),kl,HA.out];push_cast;rfl);obtain⟨c0,hc0⟩:∃ c0:Nat,acc (s.data.toList.drop i) 16 0=c0:=⟨_,rfl⟩;rw[hc0] at hand;have HC0:=aa hc0;clear hc0;have h192:¬ (a:Int)<192:=(by omega);go_enter Tryz.func135,Tryz.ntmps135;go_wp2_with fail
  go_loop [6,9] (fun c k=>∃ (kk:Nat),1<=kk/\kk<=3/\c=.int .i64 (acc (s.data.toList.drop i) 16 (kk-1):Nat)/\k=.int .i64 kk/\Cont (s.data.toList.drop i) kk) (fun _ k=>3-(intOf k).toNat)
  case atStart=>exact⟨1,by omega,by omega,by rw[show 1-1=0 from rfl,HC0.out],rfl,Cont.one _⟩
  case round=>
   obtain⟨k,hk1,hk2,rfl,rfl,hco⟩:=hrel;have hcb:=HL.bound (k-1) (by omega);obtain⟨c,hc⟩:∃ c:Nat,acc (s.data.toList.drop i) 16 (k-1)=c:=⟨_,rfl⟩;rw[hc] at hcb ⊢;have HC:=aa hc;clear hc;by_cases hlt:k<3
   ·obtain⟨b,hb⟩:∃ b:Nat,bt (s.data.toList.drop i) k=b:=⟨_,rfl⟩;have hbl:b<256:=(by rw[<-hb];exact ow _ _);have hsb:((s[i+k]'(by omega)).toNat:Int)=b:=(by rw[jX s i k (by omega),hb]);have HB:=aa hb;clear hb;by_cases hq:b / 64=2
    ·have g:(bits .and .u8 (b:Int) 192 != 128)=false:=(by rw[iR _ (by omega) (by omega)];simp;omega);have g6:bits .or .i64 ((c:Int)*64) ((b:Int) % 64)=((acc (s.data.toList.drop i) 16 k:Nat):Int):=(by rw[AW _ _ (by omega) (by omega) (by omega) (by omega),show k=k-1+1 by omega,kj,HC.out,show k-1+1=k by omega,HB.out];push_cast;rfl);have G6:=aa g6;clear g6;(go_wp2_with fail);go_round
     case rel=>exact⟨k+1,by omega,by omega,by rw[G6.out,Nat.add_sub_cancel],by go_num,hco.next (by rw[HB.out];exact hq)⟩
     case measure=>simp[intOf];omega
    ·have g:(bits .and .u8 (b:Int) 192 != 128)=true:=(by rw[iR _ (by omega) (by omega)];simp;omega);have hno:=aa (nA HL hk1 hlt (by rw[HB.out];exact hq));(go_wp2_with fail);go_ret2;exact Decoded.none hno.out
   ·have hke:k=3:=(by omega);have hend:Hid (fy (s.data.toList.drop i)=if 2048<=c/\c<=1114111/\(c<55296\/57343<c) then (c,3) else (0,0)):=(by have h:=ny HL (by rw[hln.out];omega) (by rw[<-hke];exact hco);rw[<-hke,HC.out,hke] at h;exact h);clear hke;by_cases hv:2048<=c/\c<=1114111/\(c<55296\/57343<c)
    ·have hyes:Hid (fy (s.data.toList.drop i)=(c,3)):=(by unfold Hid;rw[hend.out,if_pos hv]);obtain⟨v1,v2,v3⟩:=hv;rcases v3 with v3|v3
     all_goals ((go_wp2_with fail)<;>(go_ret2;exact Decoded.some hyes.out))
    ·have hno:Hid (fy (s.data.toList.drop i)=(0,0)):=(by unfold Hid;rw[hend.out,if_neg hv]);rcases(show c<2048\/(2048<=c/\1114111<c)\/(2048<=c/\c<=1114111/\55296<=c/\c<=57343) by omega) with v|⟨v1,v2⟩|⟨v1,v2,v3,v4⟩
     all_goals (clear hv;(go_wp2_with fail)<;>(go_ret2;exact Decoded.none hno.out))
 ·have hno:=aa (jd HL (by rw[hln.out];omega));go_enter Tryz.func135,Tryz.ntmps135;(go_wp2_with fail);go_ret2;exact Decoded.none hno.out
theorem wj (s:ByteArray) (i:Nat) (w:World) (hs:s.size<10000000000000) (h0:i<s.size) (h1:240<=bt (s.data.toList.drop i) 0) (h2:bt (s.data.toList.drop i) 0<248):
 Calls Tryz.prog 135 #[.string s,.int .i64 i] w (Decoded w (s.data.toList.drop i)):=by
 have HL:Lead (s.data.toList.drop i) 4 8 65536:=Ac h1 h2;have hsz:=aa (bS s);have hln:Hid ((s.data.toList.drop i).length=s.size-i):=by unfold Hid;rw[List.length_drop,<-hsz.out]
 obtain⟨a,ha⟩:∃ a:Nat,bt (s.data.toList.drop i) 0=a:=⟨_,rfl⟩;have hsa:((s[i]'h0).toNat:Int)=a:=by rw[eR s i h0,ha]
 rw[ha] at h1 h2;have HA:=aa ha;clear ha;by_cases hlen:i+4<=s.size
 ·have hand:bits .and .i64 (a:Int) 7=((acc (s.data.toList.drop i) 8 0:Nat):Int):=(by rw[AS _ (by omega) (by omega),kl,HA.out];push_cast;rfl);obtain⟨c0,hc0⟩:∃ c0:Nat,acc (s.data.toList.drop i) 8 0=c0:=⟨_,rfl⟩;rw[hc0] at hand;have HC0:=aa hc0;clear hc0;have h192:¬ (a:Int)<192:=(by omega);go_enter Tryz.func135,Tryz.ntmps135;go_wp2_with fail
  go_loop [6,9] (fun c k=>∃ (kk:Nat),1<=kk/\kk<=4/\c=.int .i64 (acc (s.data.toList.drop i) 8 (kk-1):Nat)/\k=.int .i64 kk/\Cont (s.data.toList.drop i) kk) (fun _ k=>4-(intOf k).toNat)
  case atStart=>exact⟨1,by omega,by omega,by rw[show 1-1=0 from rfl,HC0.out],rfl,Cont.one _⟩
  case round=>
   obtain⟨k,hk1,hk2,rfl,rfl,hco⟩:=hrel;have hcb:=HL.bound (k-1) (by omega);obtain⟨c,hc⟩:∃ c:Nat,acc (s.data.toList.drop i) 8 (k-1)=c:=⟨_,rfl⟩;rw[hc] at hcb ⊢;have HC:=aa hc;clear hc;by_cases hlt:k<4
   ·obtain⟨b,hb⟩:∃ b:Nat,bt (s.data.toList.drop i) k=b:=⟨_,rfl⟩;have hbl:b<256:=(by rw[<-hb];exact ow _ _);have hsb:((s[i+k]'(by omega)).toNat:Int)=b:=(by rw[jX s i k (by omega),hb]);have HB:=aa hb;clear hb;by_cases hq:b / 64=2
    ·have g:(bits .and .u8 (b:Int) 192 != 128)=false:=(by rw[iR _ (by omega) (by omega)];simp;omega);have g6:bits .or .i64 ((c:Int)*64) ((b:Int) % 64)=((acc (s.data.toList.drop i) 8 k:Nat):Int):=(by rw[AW _ _ (by omega) (by omega) (by omega) (by omega),show k=k-1+1 by omega,kj,HC.out,show k-1+1=k by omega,HB.out];push_cast;rfl);have G6:=aa g6;clear g6;(go_wp2_with fail);go_round
     case rel=>exact⟨k+1,by omega,by omega,by rw[G6.out,Nat.add_sub_cancel],by go_num,hco.next (by rw[HB.out];exact hq)⟩
     case measure=>simp[intOf];omega
    ·have g:(bits .and .u8 (b:Int) 192 != 128)=true:=(by rw[iR _ (by omega) (by omega)];simp;omega);have hno:=aa (nA HL hk1 hlt (by rw[HB.out];exact hq));(go_wp2_with fail);go_ret2;exact Decoded.none hno.out
   ·have hke:k=4:=(by omega);have hend:Hid (fy (s.data.toList.drop i)=if 65536<=c/\c<=1114111/\(c<55296\/57343<c) then (c,4) else (0,0)):=(by have h:=ny HL (by rw[hln.out];omega) (by rw[<-hke];exact hco);rw[<-hke,HC.out,hke] at h;exact h);clear hke;by_cases hv:65536<=c/\c<=1114111/\(c<55296\/57343<c)
    ·have hyes:Hid (fy (s.data.toList.drop i)=(c,4)):=(by unfold Hid;rw[hend.out,if_pos hv]);obtain⟨v1,v2,v3⟩:=hv;rcases v3 with v3|v3
     all_goals ((go_wp2_with fail)<;>(go_ret2;exact Decoded.some hyes.out))
    ·have hno:Hid (fy (s.data.toList.drop i)=(0,0)):=(by unfold Hid;rw[hend.out,if_neg hv]);rcases(show c<65536\/(65536<=c/\1114111<c)\/(65536<=c/\c<=1114111/\55296<=c/\c<=57343) by omega) with v|⟨v1,v2⟩|⟨v1,v2,v3,v4⟩
     all_goals (clear hv;(go_wp2_with fail)<;>(go_ret2;exact Decoded.none hno.out))
 ·have hno:=aa (jd HL (by rw[hln.out];omega));go_enter Tryz.func135,Tryz.ntmps135;(go_wp2_with fail);go_ret2;exact Decoded.none hno.out
theorem qF (s:ByteArray) (i:Nat) (w:World) (hs:s.size<10000000000000) (h0:i<s.size):
 Calls Tryz.prog 135 #[.string s,.int .i64 i] w (Decoded w (s.data.toList.drop i)):=by
 rcases(show bt (s.data.toList.drop i) 0<128\/(128<=bt (s.data.toList.drop i) 0/\bt (s.data.toList.drop i) 0<192)\/(192<=bt (s.data.toList.drop i) 0/\bt (s.data.toList.drop i) 0<224) \/
  (224<=bt (s.data.toList.drop i) 0/\bt (s.data.toList.drop i) 0<240)\/(240<=bt (s.data.toList.drop i) 0/\bt (s.data.toList.drop i) 0<248)\/248<=bt (s.data.toList.drop i) 0 by omega) with h|h|h|h|h|h
 ·have hyes:=aa (AO h);obtain⟨a,ha⟩:∃ a:Nat,bt (s.data.toList.drop i) 0=a:=⟨_,rfl⟩;have hsa:((s[i]'h0).toNat:Int)=a:=(by rw[eR s i h0,ha]);rw[ha] at h hyes;clear ha;go_enter Tryz.func135,Tryz.ntmps135;go_wp2_with fail
  go_loop [6,9] (fun c k=>c=.int .i64 a/\k=.int .i64 1) (fun _ _=>0)
  case atStart=>exact⟨rfl,rfl⟩
  case round=>obtain⟨rfl,rfl⟩:=hrel;(go_wp2_with fail);go_ret2;exact Decoded.some hyes.out
 ·have hno:=aa (zI h.1 (.inl h.2));obtain⟨a,ha⟩:∃ a:Nat,bt (s.data.toList.drop i) 0=a:=⟨_,rfl⟩;have hsa:((s[i]'h0).toNat:Int)=a:=(by rw[eR s i h0,ha]);rw[ha] at h;obtain⟨h1,h2⟩:=h;clear ha;go_enter Tryz.func135,Tryz.ntmps135;(go_wp2_with fail);go_ret2;exact Decoded.none hno.out
 ·exact wg s i w hs h0 h.1 h.2
 ·exact wh s i w hs h0 h.1 h.2
 ·exact wj s i w hs h0 h.1 h.2
 ·have hno:=aa (zI (by omega) (.inr h));obtain⟨a,ha⟩:∃ a:Nat,bt (s.data.toList.drop i) 0=a:=⟨_,rfl⟩;have hsa:((s[i]'h0).toNat:Int)=a:=(by rw[eR s i h0,ha]);have hb:a<256:=(by rw[<-ha];exact ow _ _);rw[ha] at h;clear ha;go_enter Tryz.func135,Tryz.ntmps135;(go_wp2_with fail);go_ret2;exact Decoded.none hno.out
theorem oy (c:Int) (w:World):Calls Tryz.prog 136 #[.int .i64 c] w fun e w'=>e=.returned (.bool (sy c))/\w=w':=by
 go_enter Tryz.func136,Tryz.ntmps136;go_wp2_with fail
 all_goals (go_ret;refine⟨aV ?_,rfl⟩;unfold sy;rw[Bool.eq_iff_iff];simp;try omega)
def Nexted (w:World) (l:List UInt8) (e:Ending) (w':World):Prop:=e=.returned (.tuple #[.int .i64 (nx l).1,.int .i64 (nx l).2])/\w=w'
theorem Nexted.of {w:World} {l:List UInt8} {c n:Nat} (h:nx l=(c,n)):Nexted w l (.returned (.tuple #[.int .i64 c,.int .i64 n])) w:=⟨by rw[h],rfl⟩
theorem Nexted.none {w:World} {l:List UInt8} (h:nx l=(0,0)):Nexted w l (.returned (.tuple #[.int .i64 0,.int .i64 0])) w:=⟨by rw[h];rfl,rfl⟩
theorem pj (s:ByteArray) (i:Nat) (w:World) (hs:s.size<10000000000000) (h0:i<s.size):
 Calls Tryz.prog 98 #[.string s,.int .i64 i] w (Nexted w (s.data.toList.drop i)):=by
 have HD:=aa (qF s i w hs h0);have hb:=uq (s.data.toList.drop i);have hn:=xS (s.data.toList.drop i);obtain⟨c,hc⟩:=ac ((fy (s.data.toList.drop i)).1);obtain⟨n,hn'⟩:∃ n,(fy (s.data.toList.drop i)).2=n:=⟨_,rfl⟩;have hr:fy (s.data.toList.drop i)=(c,n):=by rw[<-hc,<-hn']
 rw[hc,hn'] at hb;rw[hr] at hn;have HR:=aa hr;have HN:=aa hn;obtain⟨b1,b2,b3⟩:=hb;have hch:=tc c b1 b3;clear hc hn' hr hn b3;have hD:Hid (∀ e w',Decoded w (s.data.toList.drop i) e w'->e=.returned (.tuple #[.int .i64 c,.int .i64 n])/\w=w'):=fun e w' ⟨h1,h2⟩=>⟨by rw[h1,HR.out],h2⟩
 by_cases h:n=0
 ·subst h;have hno:Hid (nx (s.data.toList.drop i)=(0,0)):=(by unfold Hid;rw[HN.out];rfl);clear hch;go_enter Tryz.func98,Tryz.ntmps98;(go_wp2_with (go_at_call 135;refine HD.out.mono ?_;intro e w' hd;obtain⟨rfl,rfl⟩:=hD.out _ _ hd));go_ret2;exact Nexted.none hno.out
 ·have g:((n:Int)==0)=false:=(by simp;omega);cases hok:jD c with
  | true=>
    have hyes:Hid (nx (s.data.toList.drop i)=(c,n)):=(by unfold Hid;rw[HN.out,hok,if_neg];simp;omega);rw[hok] at hch;have HC:=aa hch;clear hch hok h;go_enter Tryz.func98,Tryz.ntmps98;go_wp2_with (first|(go_at_call 135;refine HD.out.mono ?_;intro e w' hd;obtain⟨rfl,rfl⟩:=hD.out _ _ hd)|(go_at_call 136;refine(oy _ _).mono ?_;rintro e w' ⟨rfl,rfl⟩;rw[HC.out]))
    go_ret2;exact Nexted.of hyes.out
  | false=>
    have hno:Hid (nx (s.data.toList.drop i)=(0,0)):=(by unfold Hid;rw[HN.out,hok,if_pos];simp);rw[hok] at hch;have HC:=aa hch;clear hch hok h;go_enter Tryz.func98,Tryz.ntmps98;go_wp2_with (first|(go_at_call 135;refine HD.out.mono ?_;intro e w' hd;obtain⟨rfl,rfl⟩:=hD.out _ _ hd)|(go_at_call 136;refine(oy _ _).mono ?_;rintro e w' ⟨rfl,rfl⟩;rw[HC.out]))
    go_ret2;exact Nexted.none hno.out
theorem gP (s:ByteArray) (w:World) (hs:s.size<10000000000000):
 Calls Tryz.prog 72 #[.string s] w fun e w'=>e=.returned (.bool (valid s.data.toList))/\w=w':=by
 have hsz:=aa (bS s);have hyes:=aa (fun (x:List Nat) (h:ch s.data.toList=some x)=>bA h);have hno:=aa (fun (h:ch s.data.toList=none)=>bz h);obtain⟨b,hb⟩:=ac (valid s.data.toList);rw[hb] at hyes hno ⊢;clear hb;go_enter Tryz.func72,Tryz.ntmps72;go_wp2_with fail
 go_loop [3] (fun at_=>∃ (k:Nat) (x:List Nat),k<=s.size/\at_=.int .i64 k/\At s.data.toList k x) (fun at_=>s.size-(intOf at_).toNat)
 case atStart=>exact⟨0,[],bI _,rfl,At.start _⟩
 case round=>
  obtain⟨k,x,hk,rfl,hat⟩:=hrel;by_cases hlt:k<s.size
  ·have hlt':k<s.data.toList.length:=(by rw[<-hsz.out];exact hlt);have hle:=po (f8 hlt');rw[List.length_drop,<-hsz.out] at hle;have HD:=aa (pj s k w hs hlt);obtain⟨c,n,hcn⟩:∃ c n,Hid (nx (s.data.toList.drop k)=(c,n)):=⟨_,_,aa rfl⟩;have hD:Hid (∀ e w',Nexted w (s.data.toList.drop k) e w'->e=.returned (.tuple #[.int .i64 c,.int .i64 n])/\w=w'):=(fun e w' ⟨h1,h2⟩=>⟨by rw[h1,hcn.out],h2⟩);rw[hcn.out] at hle;by_cases hn:n=0
   ·subst hn;have hbad:Hid (b=false):=(hno.out (hat.bad hlt' (by rw[hcn.out])));(go_wp2_with (go_at_call 98;refine HD.out.mono ?_;intro e w' hd;obtain⟨rfl,rfl⟩:=hD.out _ _ hd));go_ret;exact⟨aV hbad.out.symm,rfl⟩
   ·have hat':=hat.next hlt' (by rw[hcn.out];exact hn);rw[hcn.out] at hat';have g:((n:Int)==0)=false:=(by simp;omega);(go_wp2_with (go_at_call 98;refine HD.out.mono ?_;intro e w' hd;obtain⟨rfl,rfl⟩:=hD.out _ _ hd));go_round
    case rel=>exact⟨k+n,x++[c],by omega,by go_num,hat'⟩
    case measure=>simp[intOf];omega
  ·have hke:k=s.data.toList.length:=(by rw[<-hsz.out];omega);have hgood:Hid (b=true):=hyes.out x (At.stop (by rw[<-hke];exact hat));clear hke;(go_wp2_with fail);go_ret;exact⟨aV hgood.out.symm,rfl⟩
section
variable {s:ByteArray} {k:Nat} {o:List UInt8}
end
end
end Go.Proofs.YtbgaglcgennhiaaGreatDoor

