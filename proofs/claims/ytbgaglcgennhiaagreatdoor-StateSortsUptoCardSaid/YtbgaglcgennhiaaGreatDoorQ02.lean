import Derived.Test.YtbgaglcgennhiaaGreatDoorQ01
import Derived.Shelf.SlicesQ.Reverse
import Derived.Laws.AppendOwn
import Derived.Test.YtbgaglcgennhiaaGreatDoorProg
import Derived.BigRegion
import Derived.Deep.LoopGhost
set_option maxHeartbeats 4000000
set_option maxRecDepth 100000
namespace Go.Proofs.YtbgaglcgennhiaaGreatDoor
namespace Sy
variable {α:Type} {lt:α->α->Bool}
structure Weak (lt:α->α->Bool):Prop where
 asym:∀ {x y},lt x y=true->lt y x=false
 neg:∀ {x z},lt x z=true->∀ y,lt x y=true\/lt y z=true
theorem Weak.trans (h:Weak lt) {x y z:α} (a:lt x y=true) (b:lt y z=true):lt x z=true:=by
 rcases h.neg a z with c|c
 ·exact c
 ·have:=h.asym b;rw[c] at this;cases this
theorem Weak.n1 (h:Weak lt) {x a b:α} (p:lt x a=true) (q:lt b a=false):lt x b=true:=by
 rcases h.neg p b with c|c
 ·exact c
 ·rw[q] at c;cases c
theorem Weak.n2 (h:Weak lt) {y a b:α} (p:lt y a=true) (q:lt y b=false):lt b a=true:=by
 rcases h.neg p b with c|c
 ·rw[q] at c;cases c
 ·exact c
theorem Weak.irr (h:Weak lt) (x:α):lt x x=false:=by
 cases e:lt x x with
 |false=>rfl
 |true=>have:=h.asym e;rw[e] at this;cases this
def aT (lt:α->α->Bool) (x:α):List α->List α
 |[]=>[x]
 |y::l=>if lt x y=true then x::y::l else y::aT lt x l
def af (lt:α->α->Bool) (l:List α):List α:=l.foldl (fun acc x=>aT lt x acc) []
def aj (lt:α->α->Bool):List α->List α->List α
 |[],B=>B
 |a::A,[]=>a::A
 |a::A,b::B=>if lt b a=true then b::aj lt (a::A) B else a::aj lt A (b::B)
termination_by A B=>A.length+B.length
def Up (lt:α->α->Bool) (l:List α):Prop:=l.Pairwise fun x y=>lt y x=false
theorem bg (A:List α):aj lt A []=A:=by cases A<;>simp[aj]
theorem aM (B:List α):aj lt [] B=B:=by simp[aj]
theorem aU (a b:α) (A B:List α):aj lt (a::A) (b::B)=if lt b a=true then b::aj lt (a::A) B else a::aj lt A (b::B):=by simp[aj]
theorem eq (l:List α) (x:α):af lt (l++[x])=aT lt x (af lt l):=by simp[af]
theorem iw (x:α) (l:List α):(aT lt x l).length=l.length+1:=by
 induction l with
 |nil=>rfl
 |cons y l ih=>unfold aT;split<;>simp[ih]
theorem aI (l:List α):(af lt l).length=l.length:=by
 suffices h:∀ (l acc:List α),(l.foldl (fun acc x=>aT lt x acc) acc).length=acc.length+l.length by simpa [af] using h l []
 intro l
 induction l with
 |nil=>simp
 |cons x l ih=>intro acc;simp only[List.foldl_cons,ih,iw,List.length_cons];omega
theorem ins_mem (x z:α) (l:List α):z∈aT lt x l↔z=x\/z∈l:=by
 induction l with
 |nil=>simp[aT]
 | cons y l ih=>
   unfold aT;split
   ·simp
   ·simp only[List.mem_cons,ih];constructor<;>rintro (h|h|h)<;>simp[h]
theorem kT (x:α) (l:List α):(aT lt x l).Perm (x::l):=by
 induction l with
 |nil=>exact List.Perm.refl _
 | cons y l ih=>
   unfold aT;split
   ·exact List.Perm.refl _
   ·exact(List.Perm.cons y ih).trans (List.Perm.swap x y l)
theorem bQ (l:List α):(af lt l).Perm l:=by
 suffices h:∀ (l acc:List α),(l.foldl (fun acc x=>aT lt x acc) acc).Perm (acc++l) by simpa [af] using h l []
 intro l
 induction l with
 |nil=>intro acc;simp
 | cons x l ih=>intro acc;simp only[List.foldl_cons];refine(ih _).trans ?_;refine((kT x acc).append_right l).trans ?_;exact(List.perm_middle (a:=x) (l₁:=acc) (l₂:=l)).symm
theorem wM (h:Weak lt) (x:α) (l:List α) (hl:Up lt l):Up lt (aT lt x l):=by
 induction l with
 |nil=>simp[aT,Up]
 | cons y l ih=>
   have hy:∀ z∈l,lt z y=false:=(List.pairwise_cons.1 hl).1;have hl':Up lt l:=(List.pairwise_cons.1 hl).2;unfold aT;split
   ·rename_i hxy
    refine List.pairwise_cons.2 ⟨?_,hl⟩;intro z hz;rcases List.mem_cons.1 hz with rfl|hz
    ·exact h.asym hxy
    ·exact h.asym (h.n1 hxy (hy z hz))
   ·rename_i hxy
    refine List.pairwise_cons.2 ⟨?_,ih hl'⟩;intro z hz;rcases(ins_mem x z l).1 hz with rfl|hz
    ·exact Bool.eq_false_iff.2 hxy
    ·exact hy z hz
theorem cm (h:Weak lt) (l:List α):Up lt (af lt l):=by
 suffices g:∀ (l acc:List α),Up lt acc->Up lt (l.foldl (fun acc x=>aT lt x acc) acc) from g l [] List.Pairwise.nil
 intro l
 induction l with
 |nil=>intro acc ha;exact ha
 |cons x l ih=>intro acc ha;exact ih _ (wM h x acc ha)
theorem eT (x:α) (P Q:List α) (hP:∀ p∈P,lt x p=false) (hQ:∀ q∈Q.head?,lt x q=true):aT lt x (P++Q)=P++x::Q:=by
 induction P with
 | nil=>
   cases Q with
   |nil=>rfl
   |cons q Q=>simp only[List.nil_append,aT];rw[if_pos (hQ q (by simp))]
 | cons p P ih=>simp only[List.cons_append,aT];rw[if_neg (by rw[hP p (by simp)];simp),ih (fun z hz=>hP z (by simp[hz]))]
theorem z6 (h:Weak lt) (x:α) (P Q:List α) (hs:Up lt (P++Q)) (hP:∀ p∈P.getLast?,lt x p=false) (hQ:∀ q∈Q.head?,lt x q=true):aT lt x (P++Q)=P++x::Q:=by
 refine eT x P Q ?_ hQ;intro p hp;rcases List.eq_nil_or_concat P with rfl|⟨P',z,rfl⟩
 ·simp at hp
 ·have hz:lt x z=false:=hP z (by simp);rw[List.concat_eq_append] at hs hp;rcases List.mem_append.1 hp with hp|hp
  ·have hsp:Up lt (P'++[z]):=(List.pairwise_append.1 hs).1;have hzp:lt z p=false:=(List.pairwise_append.1 hsp).2.2 p hp z (by simp);cases e:lt x p with
   |false=>rfl
   |true=>have:=h.n1 e hzp;rw[hz] at this;cases this
  ·simp at hp;subst hp;exact hz
theorem tJ (h:Weak lt) (x:α):∀ (n:Nat) (A B:List α),A.length+B.length<=n->aj lt A (aT lt x B)=aT lt x (aj lt A B):=by
 intro n
 induction n with
 | zero=>intro A B hn;have hA:A=[]:=eB (by omega);subst hA;rw[aM,aM]
 | succ n ih=>
   intro A B hn;cases A with
   |nil=>rw[aM,aM]
   | cons a A=>
     cases B with
     | nil=>
       rw[bg];simp only[aT];rw[aU];by_cases hx:lt x a=true
       ·rw[if_pos hx,if_pos hx,bg]
       ·rw[if_neg hx,if_neg hx];have:=ih A [] (by simp at hn ⊢;omega);simp only[aT,bg] at this;rw[this]
     | cons b B=>
       simp only[List.length_cons] at hn;by_cases hba:lt b a=true
       ·rw[aU a b,if_pos hba];have e:aT lt x (b::aj lt (a::A) B)=if lt x b=true then x::b::aj lt (a::A) B else b::aT lt x (aj lt (a::A) B):=rfl;rw[e];by_cases hxb:lt x b=true
        ·rw[if_pos hxb];have e2:aT lt x (b::B)=x::b::B:=(by simp only[aT];rw[if_pos hxb]);rw[e2,aU,if_pos (h.trans hxb hba),aU,if_pos hba]
        ·rw[if_neg hxb];have e2:aT lt x (b::B)=b::aT lt x B:=(by simp only[aT];rw[if_neg hxb]);rw[e2,aU,if_pos hba,ih (a::A) B (by simp only[List.length_cons];omega)]
       ·rw[aU a b,if_neg hba];have e:aT lt x (a::aj lt A (b::B))=if lt x a=true then x::a::aj lt A (b::B) else a::aT lt x (aj lt A (b::B)):=rfl;rw[e];have ih':=ih A (b::B) (by simp only[List.length_cons];omega);by_cases hxa:lt x a=true
        ·rw[if_pos hxa];have hxb:lt x b=true:=h.n1 hxa (Bool.eq_false_iff.2 hba);have e2:aT lt x (b::B)=x::b::B:=(by simp only[aT];rw[if_pos hxb]);rw[e2,aU,if_pos hxa,aU,if_neg hba]
        ·rw[if_neg hxa];by_cases hxb:lt x b=true
         ·have e2:aT lt x (b::B)=x::b::B:=(by simp only[aT];rw[if_pos hxb]);rw[e2,aU,if_neg hxa,<-ih',e2]
         ·have e2:aT lt x (b::B)=b::aT lt x B:=(by simp only[aT];rw[if_neg hxb]);rw[e2,aU,if_neg hba,<-ih',e2]
theorem p6 (h:Weak lt) (l m:List α):af lt (l++m)=aj lt (af lt l) (af lt m):=by
 suffices g:∀ n (m:List α),m.length=n->af lt (l++m)=aj lt (af lt l) (af lt m) from g _ m rfl
 intro n
 induction n with
 |zero=>intro m hm;rw[eB hm,List.append_nil,show af lt ([] : List α)=[] from rfl,bg]
 | succ n ih=>
   intro m hm;rcases List.eq_nil_or_concat m with rfl|⟨k,x,rfl⟩
   ·simp at hm
   ·rw[List.concat_eq_append] at hm ⊢;rw[<-List.append_assoc,eq,eq,ih k (by simpa using hm),tJ h x _ _ _ (aq _)]
theorem fJ (A1 A2 B1 B2:List α) (h1:∀ a∈A2,∀ b∈B1,lt b a=true) (h2:∀ a∈A1,∀ b∈B2,lt b a=false):aj lt (A1++A2) (B1++B2)=aj lt A1 B1++aj lt A2 B2:=by
 suffices g:∀ (n:Nat) (A1 B1:List α),A1.length+B1.length<=n->(∀ a∈A2,∀ b∈B1,lt b a=true)->(∀ a∈A1,∀ b∈B2,lt b a=false)->aj lt (A1++A2) (B1++B2)=aj lt A1 B1++aj lt A2 B2 from g _ A1 B1 (aq _) h1 h2
 clear h1 h2 A1 B1;intro n
 induction n with
 | zero=>intro A1 B1 hn h1 h2;have hA:A1=[]:=eB (by omega);have hB:B1=[]:=eB (by omega);subst hA;subst hB;simp[aM]
 | succ n ih=>
   intro A1 B1 hn h1 h2;cases A1 with
   | nil=>
     cases B1 with
     |nil=>simp[aM]
     | cons b B1=>
       rw[aM,List.nil_append];have ih':=ih [] B1 (by simp at hn ⊢;omega) (fun a ha z hz=>h1 a ha z (by simp[hz])) (by simp);rw[aM,List.nil_append] at ih';cases A2 with
       |nil=>rw[aM,aM]
       |cons a A2=>rw[List.cons_append,aU,if_pos (h1 a (by simp) b (by simp)),ih'];rfl
   | cons a A1=>
     cases B1 with
     | nil=>
       rw[bg,List.nil_append];have ih':=ih A1 [] (by simp at hn ⊢;omega) (by simp) (fun z hz=>h2 z (by simp[hz]));rw[bg,List.nil_append] at ih';cases B2 with
       |nil=>rw[bg,bg]
       |cons b B2=>rw[List.cons_append,aU,if_neg (by rw[h2 a (by simp) b (by simp)];simp),ih'];rfl
     | cons b B1=>
       simp only[List.length_cons] at hn;rw[List.cons_append,List.cons_append,aU,aU];split
       ·have ih':=ih (a::A1) B1 (by simp only[List.length_cons];omega) (fun a ha z hz=>h1 a ha z (by simp[hz])) h2;rw[List.cons_append] at ih';rw[ih'];rfl
       ·have ih':=ih A1 (b::B1) (by simp only[List.length_cons];omega) h1 (fun z hz=>h2 z (by simp[hz]));rw[List.cons_append] at ih';rw[ih'];rfl
theorem cS (A B:List α):(aj lt A B).length=A.length+B.length:=by
 suffices g:∀ (n:Nat) (A B:List α),A.length+B.length<=n->(aj lt A B).length=A.length+B.length from g _ A B (aq _)
 intro n
 induction n with
 | zero=>intro A B hn;have hA:A=[]:=eB (by omega);subst hA;simp[aM]
 | succ n ih=>
   intro A B hn;cases A with
   |nil=>simp[aM]
   | cons a A=>
     cases B with
     |nil=>simp[bg]
     | cons b B=>
       simp only[List.length_cons] at hn;rw[aU];split
       ·simp only[List.length_cons];rw[ih (a::A) B (by simp only[List.length_cons];omega)];simp only[List.length_cons];omega
       ·simp only[List.length_cons];rw[ih A (b::B) (by simp only[List.length_cons];omega)];simp only[List.length_cons];omega
theorem tK (a:α) (B1 B2:List α) (h1:∀ b∈B1,lt b a=true) (h2:∀ b∈B2.head?,lt b a=false):aj lt [a] (B1++B2)=B1++a::B2:=by
 have:=fJ (lt:=lt) [] [a] B1 B2 (fun z hz b hb=>by simp at hz;subst hz;exact h1 b hb) (by simp);rw[List.nil_append] at this;rw[this,aM];cases B2 with
 |nil=>rw[bg]
 |cons b B2=>rw[aU,if_neg (by rw[h2 b (by simp)];simp),aM]
theorem tS (x:α) (A1 A2:List α) (h1:∀ a∈A1,lt x a=false) (h2:∀ a∈A2,lt x a=true):aj lt (A1++A2) [x]=A1++x::A2:=by
 have:=fJ (lt:=lt) A1 A2 [] [x] (by simp) (fun a ha b hb=>by simp at hb;subst hb;exact h1 a ha);rw[List.nil_append] at this;rw[this,bg];cases A2 with
 |nil=>rw[aM]
 |cons a A2=>rw[aU,if_pos (h2 a (by simp)),bg]
theorem As (h:Weak lt) (A1 A2 B1 B2:List α) (hA:Up lt (A1++A2)) (hB:Up lt (B1++B2)) (h1:∀ a∈A2.head?,∀ b∈B1.getLast?,lt b a=true) (h2:∀ a∈A1.getLast?,∀ b∈B2.head?,lt b a=false):
 aj lt (A1++A2) (B1++B2)=aj lt A1 B1++aj lt A2 B2:=by
 refine fJ A1 A2 B1 B2 ?_ ?_
 ·intro a ha b hb;obtain⟨a0,A',rfl⟩:∃ a0 A',A2=a0::A':=(by cases A2 with|nil=>simp at ha|cons c C=>exact⟨c,C,rfl⟩);rcases List.eq_nil_or_concat B1 with rfl|⟨B',z,rfl⟩
  ·simp at hb
  ·rw[List.concat_eq_append] at hB hb h1;have k:lt z a0=true:=h1 a0 (by simp) z (by simp);have kb:b=z\/lt z b=false:=by
    rcases List.mem_append.1 hb with hb|hb
    ·exact Or.inr ((List.pairwise_append.1 (List.pairwise_append.1 hB).1).2.2 b hb z (by simp))
    ·simp at hb;exact Or.inl hb
   have ka:a=a0\/lt a a0=false:=by
    rcases List.mem_cons.1 ha with ha|ha
    ·exact Or.inl ha
    ·exact Or.inr ((List.pairwise_cons.1 (List.pairwise_append.1 hA).2.1).1 a ha)
   have k2:lt b a0=true:=(by rcases kb with rfl|kb;exact k;exact h.n2 k kb);rcases ka with rfl|ka
   ·exact k2
   ·exact h.n1 k2 ka
 ·intro a ha b hb;obtain⟨b0,B',rfl⟩:∃ a0 A',B2=a0::A':=(by cases B2 with|nil=>simp at hb|cons c C=>exact⟨c,C,rfl⟩);rcases List.eq_nil_or_concat A1 with rfl|⟨A',z,rfl⟩
  ·simp at ha
  ·rw[List.concat_eq_append] at hA ha h2;have k:lt b0 z=false:=h2 z (by simp) b0 (by simp);have ka:a=z\/lt z a=false:=by
    rcases List.mem_append.1 ha with ha|ha
    ·exact Or.inr ((List.pairwise_append.1 (List.pairwise_append.1 hA).1).2.2 a ha z (by simp))
    ·simp at ha;exact Or.inl ha
   have kb:b=b0\/lt b b0=false:=by
    rcases List.mem_cons.1 hb with hb|hb
    ·exact Or.inl hb
    ·exact Or.inr ((List.pairwise_cons.1 (List.pairwise_append.1 hB).2.1).1 b hb)
   cases e:lt b a with
   |false=>rfl
   | true=>have e2:lt b0 a=true:=(by rcases kb with rfl|kb;exact e;exact h.n2 e kb);have e3:lt b0 z=true:=(by rcases ka with rfl|ka;exact e2;exact h.n1 e2 ka);rw[k] at e3;cases e3
end Sy
namespace Sy
open Go Go.Proofs Go.Proofs.YtbgaglcgennhiaaGreatDoor Go.RowKit Go.Lib Go.Sort
variable {α:Type} [Inhabited α] {enc:α->List Value} {k:Nat} {W0 W W':World} {B:Nat} {d:Array α}
structure Enc (enc:α->List Value) (k:Nat):Prop where
 hk:∀ x,(enc x).length=k
 h1:∀ x,∀ v∈enc x,v.oneCell'=true
structure St (enc:α->List Value) (k:Nat) (W0:World) (B:Nat) (d:Array α) (W:World):Prop where
 grown:W0.grownBy W (some B)
 holds:HoldsK enc k W B 0 d
 lt:B<W0.heap.size
theorem jg {α:Type} (d:Array α) (k x:Nat) (hx:x<d.size):x*k+k<=d.size*k:=by have:=Nat.mul_le_mul_right k (show x+1<=d.size from hx);rwa [Nat.add_mul,Nat.one_mul] at this
theorem dV {W:World} {blk off:Nat} {F:Array Value} (h:Holds id W blk off F) (s:Nat) (vs:List Value) (hs:s+vs.length<=F.size):Holds id (W.setCells blk (off+s) vs) blk off (setMany F s vs):=by
 have e:W.setCells blk (off+s) vs=putRow id W blk off (setMany F s vs):=by
  conv=>lhs;rw[<-putRow_self id W blk off F h]
  exact setCells_putRow _ _ _ _ _ _ hs
 rw[e];exact holds_putRow id W blk off F _ h (by rw[size_setMany])
theorem qO {a w:World} {b:Nat} (h:a.grownBy w (some b)) (i:Nat) (v:Value):a.grownBy (w.setCell ⟨b,i,none⟩ v) (some b):=⟨h.os,h.tape,h.output,by rw[World.size_setCell];exact h.size,fun k hk hne=>by rw[Below.heap_setCell w ⟨b,i,none⟩ v k (fun e=>hne (by rw[e]))];exact h.block k hk hne⟩
theorem na {a w w':World} {b:Nat} (h:a.grownBy w (some b)) (hb:Below w.heap.size w w'):a.grownBy w' (some b):=⟨by rw[hb.os,h.os],by rw[hb.tape,h.tape],by rw[hb.output,h.output],co h.size hb.size,fun k hk hne=>by rw[hb.block k (Nat.lt_of_lt_of_le hk h.size)];exact h.block k hk hne⟩
theorem Enc.string:Enc (fun s:ByteArray=>[Value.string s]) 1:=⟨fun _=>rfl,fun _ v hv=>by simp at hv;subst hv;rfl⟩
theorem oO {F:Array Value} (h:Holds id W B 0 F) (hb:Below W.heap.size W W') (hB:B<W.heap.size):Holds id W' B 0 F:=fun j hj=>by have:=h j hj;exact⟨by rw[hb.cell (p:=⟨B,0+j,none⟩) hB];exact this.1,by rw[hb.frozen (p:=⟨B,0+j,none⟩) hB];exact this.2⟩
theorem St.ltW (h:St enc k W0 B d W):B<W.heap.size:=Nat.lt_of_lt_of_le h.lt h.grown.size
theorem St.below (h:St enc k W0 B d W) (hb:Below W.heap.size W W'):St enc k W0 B d W':=⟨na h.grown hb,oO h.holds hb h.ltW,h.lt⟩
theorem St.drew (h:St enc k W0 B d W):St enc k W0 B d W.drew:=⟨⟨h.grown.os,h.grown.tape,h.grown.output,h.grown.size,h.grown.block⟩,h.holds,h.lt⟩
theorem St.drewN (h:St enc k W0 B d W) (n:Nat):St enc k W0 B d (W.drewN n):=⟨⟨h.grown.os,h.grown.tape,h.grown.output,h.grown.size,h.grown.block⟩,h.holds,h.lt⟩
theorem St.alloc (h:St enc k W0 B d W) (o:Obj):St enc k W0 B d (W.alloc o):=h.below (bp _ _)
theorem cP {a:World} {b:Nat}:∀ (vs:List Value) (i:Nat) (w:World),a.grownBy w (some b)->a.grownBy (w.setCells b i vs) (some b)
 |[],_,_,h=>h
 |v::r,i,_,h=>by rw[World.setCells];exact cP r (i+1) _ (qO h i v)
theorem St.swap (h:St enc k W0 B d W) (R:Enc enc k) (i j:Nat) (hi:i<d.size) (hj:j<d.size):
 St enc k W0 B (swp d i j) ((W.setCells B (i*k) (enc d[j]!)).setCells B (j*k) (enc d[i]!)):=by
 refine⟨cP _ _ _ (cP _ _ _ h.grown),?_,h.lt⟩;have a:=dV h.holds (i*k) (enc d[j]!) (by rw[R.hk,size_flatK];exact jg d k i hi);have b:=dV a (j*k) (enc d[i]!) (by rw[R.hk,size_setMany,size_flatK];exact jg d k j hj);rw[Nat.zero_add,Nat.zero_add,setMany_swp enc k R.hk d i j hi hj] at b;exact b
theorem St.cell {d:Array ByteArray} (h:St (fun s:ByteArray=>[Value.string s]) 1 W0 B d W) (i:Nat) (hi:i<d.size):W.cell? ⟨B,i,none⟩=some (.string d[i]!)/\W.frozen? ⟨B,i,none⟩=false:=by have:=HoldsK.cell h.holds hi (c:=0) (by omega);simpa using this
theorem St.swapS {d:Array ByteArray} (h:St (fun s:ByteArray=>[Value.string s]) 1 W0 B d W) (i j:Nat) (hi:i<d.size) (hj:j<d.size):
 St (fun s:ByteArray=>[Value.string s]) 1 W0 B (swp d i j) ((W.setCell ⟨B,i,none⟩ (.string d[j]!)).setCell ⟨B,j,none⟩ (.string d[i]!)):=by
 have:=h.swap Enc.string i j hi hj;simpa [World.setCells] using this
theorem iP (X M Y:List α) (a b:α) (i j:Nat) (hi:i=X.length) (hj:j=X.length+1+M.length):swp (X++a::(M++b::Y)).toArray i j=(X++b::(M++a::Y)).toArray:=by
 subst hi;subst hj;apply Array.ext
 ·simp[size_swp]
 ·intro t h1 h2;have g:=swp_get (d:=(X++a::(M++b::Y)).toArray) (i:=X.length) (j:=X.length+1+M.length) (by simp) (by simp;omega) t;rw[getElem!_pos _ t h1] at g;rw[g];have hb:((X++a::(M++b::Y)).toArray)[X.length+1+M.length]! = b:=(by rw[getElem!_pos _ _ (by simp;omega)];simp only[List.getElem_toArray];rw[List.getElem_append_right (by omega),List.getElem_cons,dif_neg (by omega),List.getElem_append_right (by omega)];simp only[show X.length+1+M.length-X.length-1-M.length=0 by omega,List.getElem_cons_zero]);have ha:((X++a::(M++b::Y)).toArray)[X.length]! = a:=(by rw[getElem!_pos _ _ (by simp)];simp);have hs:t<(X++a::(M++b::Y)).length:=(by simpa [size_swp] using h1);by_cases e1:t=X.length+1+M.length
  ·subst e1;simp only[if_pos,ha];simp only[List.getElem_toArray];rw[List.getElem_append_right (by omega),List.getElem_cons,dif_neg (by omega),List.getElem_append_right (by omega)];simp only[show X.length+1+M.length-X.length-1-M.length=0 by omega,List.getElem_cons_zero]
  ·rw[if_neg e1];by_cases e2:t=X.length
   ·subst e2;rw[if_pos rfl,hb];simp
   ·rw[if_neg e2,getElem!_pos _ t (by simpa using hs)];simp only[List.getElem_toArray];by_cases c1:t<X.length
    ·rw[List.getElem_append_left c1,List.getElem_append_left c1]
    ·rw[List.getElem_append_right (by omega),List.getElem_append_right (by omega),List.getElem_cons,List.getElem_cons,dif_neg (by omega),dif_neg (by omega)];by_cases c2:t-X.length-1<M.length
     ·rw[List.getElem_append_left c2,List.getElem_append_left c2]
     ·rw[List.getElem_append_right (by omega),List.getElem_append_right (by omega),List.getElem_cons,List.getElem_cons,dif_neg (by omega),dif_neg (by omega)]
structure Bel (w:World) where
 v:World
 h:Below w.heap.size w v
instance (w:World):Inhabited (Bel w):=⟨⟨w,aE _ _⟩⟩
theorem wp_region_quiet_bel {P:Program} {id:Nat} {Q:Exit->Act->World->Prop} {a:Act} {w:World} {l:List Oper} (hm:P.follows .mixedOrders=true) (hB:Region.lexB .any l.toArray=true)
 (h:wpQuiet P l.toArray (fun w'=>∃ p:Bel w,w'=p.v) (fun a'=>∀ w',(∃ p:Bel w,w'=p.v)->Q .normal a' w') l a):(Code.region id l.toArray true).wp P Q a w:=
 wp_region_quiet (C:=fun w'=>∃ p:Bel w,w'=p.v) hm hB ⟨⟨w.drew,(aE _ _).drew⟩,rfl⟩ (by simpa using h)
theorem Calls.bel_of {P:Program} {f:FuncId} {args:Array Value} {w:World} {p:Bel w} {v:Value}
 (h:Calls P f args p.v fun e w'=>e=.returned v/\Below p.v.heap.size p.v w'):Calls P f args p.v fun e w''=>e=.returned v/\∃ q:Bel w,w''=q.v:=
 h.mono fun _ w' ⟨he,hb⟩=>⟨he,⟨w',p.h.trans (hb.mono p.h.size)⟩,rfl⟩
theorem St.bel (h:St enc k W0 B d W) (p:Bel W):St enc k W0 B d p.v:=h.below p.h
def gU (a b:Nat):Nat->Array α->Array α
 |0,d=>d
 |i+1,d=>swp (gU a b i d) (a+i) (b+i)
theorem iI (a b:Nat):∀ (i:Nat) (d:Array α),(gU a b i d).size=d.size
 |0,_=>rfl
 |i+1,d=>by rw[gU,size_swp,iI a b i d]
theorem qi (X P M Q Y:List α) (n:Nat) (hP:P.length=n) (hQ:Q.length=n):∀ i,i<=n ->
 gU X.length (X.length+P.length+M.length) i (X++P++M++Q++Y).toArray=(X++Q.take i++P.drop i++M++P.take i++Q.drop i++Y).toArray
 |0,_=>by simp[gU]
 | i+1,h=>by rw[gU,qi X P M Q Y n hP hQ i (by omega)];have eP:P.drop i=P[i]::P.drop (i+1):=List.drop_eq_getElem_cons (by omega);have eQ:Q.drop i=Q[i]::Q.drop (i+1):=List.drop_eq_getElem_cons (by omega);have tP:P.take (i+1)=P.take i++[P[i]]:=(by rw[List.take_add_one,aQ (by omega)];rfl);have tQ:Q.take (i+1)=Q.take i++[Q[i]]:=(by rw[List.take_add_one,aQ (by omega)];rfl);have e1:X++Q.take i++P.drop i++M++P.take i++Q.drop i++Y=(X++Q.take i)++P[i]::((P.drop (i+1)++M++P.take i)++Q[i]::(Q.drop (i+1)++Y)):=(by rw[eP,eQ];simp only[List.append_assoc,List.cons_append]);rw[e1,iP _ _ _ _ _ _ _ (by simp;omega) (by simp;omega),tP,tQ];simp only[List.append_assoc,List.cons_append,List.nil_append]
theorem nV (X P M Q Y:List α) (n:Nat) (hP:P.length=n) (hQ:Q.length=n):
 gU X.length (X.length+P.length+M.length) n (X++P++M++Q++Y).toArray=(X++Q++M++P++Y).toArray:=by
 rw[qi X P M Q Y n hP hQ n (aq _),List.take_of_length_le (by omega),List.take_of_length_le (by omega),List.drop_eq_nil_of_le (by omega),List.drop_eq_nil_of_le (by omega)];simp
end Sy
section
open Go.RowKit
theorem ew {P:Program} {id:Nat} {Q:Exit->Act->World->Prop} {a:Act} {w:World} {l:List Oper} (h:wpQuiet P l.toArray (fun w'=>∃ p:Sy.Bel w,w'=p.v) (fun a'=>∀ w',(∃ p:Sy.Bel w,w'=p.v)->Q .normal a' w') l a) (hm:P.follows .mixedOrders=true:=by kernel_rfl) (hB:Region.lexB .any l.toArray=true:=by kernel_rfl):(Code.region id l.toArray true).wp P Q a w:=Sy.wp_region_quiet_bel hm hB h
end
namespace Sy
open Go Go.Proofs Go.Proofs.YtbgaglcgennhiaaGreatDoor Go.RowKit Go.Lib Go.Sort
variable {α:Type} {lt:α->α->Bool}
def Rot (T:List α) (m i j:Nat) (D:Array α):Prop:=∃ X U V Y:List α,D=(X++U++V++Y).toArray/\X.length+U.length=m/\U.length=i/\V.length=j/\X++V++U++Y=T
theorem Rot.size {T:List α} {m i j:Nat} {D:Array α} (h:Rot T m i j D):D.size=T.length/\i<=m/\m+j<=D.size:=by obtain⟨X,U,V,Y,rfl,h1,h2,h3,rfl⟩:=h;refine⟨by simp;omega,by omega,by simp;omega⟩
theorem Rot.left [Inhabited α] {T:List α} {m i j:Nat} {D:Array α} (h:Rot T m i j D) (hij:j<i):Rot T m (i-j) j (gU (m-i) m j D):=by
 obtain⟨X,U,V,Y,rfl,h1,h2,h3,rfl⟩:=h;have e:U=U.take j++U.drop j:=(List.take_append_drop j U).symm;have l1:(U.take j).length=j:=by rw[dL];omega
 have l2:(U.drop j).length=i-j:=by rw[List.length_drop];omega
 generalize U.take j=U1 at e l1;generalize U.drop j=U2 at e l2;subst e;have hx:m-i=X.length:=by omega
 have hm:m=X.length+U1.length+U2.length:=by simp at h1;omega
 have:=nV X U1 U2 V Y j l1 h3;refine⟨X++V,U2,U1,Y,?_,by simp;omega,l2,l1,by simp⟩;rw[hx,hm,<-List.append_assoc X U1 U2,this]
theorem Rot.right [Inhabited α] {T:List α} {m i j:Nat} {D:Array α} (h:Rot T m i j D) (hij:i<j):Rot T m i (j-i) (gU (m-i) (m+j-i) i D):=by
 obtain⟨X,U,V,Y,rfl,h1,h2,h3,rfl⟩:=h;have e:V=V.take (j-i)++V.drop (j-i):=(List.take_append_drop (j-i) V).symm;have l1:(V.take (j-i)).length=j-i:=by rw[dL];omega
 have l2:(V.drop (j-i)).length=i:=by rw[List.length_drop];omega
 generalize V.take (j-i)=V1 at e l1;generalize V.drop (j-i)=V2 at e l2;subst e;have hx:m-i=X.length:=by omega
 have hm:m+j-i=X.length+U.length+V1.length:=by omega
 have:=nV X U V1 V2 Y i h2 l2;refine⟨X,V2,V1,U++Y,?_,by omega,l2,l1,by simp⟩;rw[hx,hm,show X++U++(V1++V2)++Y=X++U++V1++V2++Y by simp,this];simp
theorem Rot.last [Inhabited α] {T:List α} {m i:Nat} {D:Array α} (h:Rot T m i i D):gU (m-i) m i D=T.toArray:=by
 obtain⟨X,U,V,Y,rfl,h1,h2,h3,rfl⟩:=h;have:=nV X U [] V Y i h2 h3;have hx:m-i=X.length:=by omega
 have hm:m=X.length+U.length+([]:List α).length:=by simp;omega
 rw[hx,hm,show X++U++V++Y=X++U++[]++V++Y by simp,this];simp
theorem qj [Inhabited α] (d:Array α) (i j:Nat) (hi:i<d.size) (hj:j<d.size):swp d i j=swp d j i:=by
 apply Array.ext
 ·simp[size_swp]
 ·intro t h1 h2;have g1:=swp_get d hi hj t;have g2:=swp_get d hj hi t;rw[getElem!_pos _ t h1] at g1;rw[getElem!_pos _ t h2] at g2;rw[g1,g2];by_cases a:t=j
  ·by_cases b:t=i
   ·subst a;subst b;rfl
   ·rw[if_pos a,if_neg b,if_pos a]
  ·by_cases b:t=i
   ·rw[if_neg a,if_pos b,if_pos b]
   ·rw[if_neg a,if_neg b,if_neg b,if_neg a]
theorem dR [Inhabited α] (X Y:List α) (a:α) (i:Nat) (h:i=X.length):(X++a::Y).toArray[i]! = a:=by subst h;rw[getElem!_pos _ _ (by simp)];simp
def InsR (lt:α->α->Bool) (X:List α) (x:α) (L Z:List α) (j:Nat) (D:Array α):Prop:=∃ P Q:List α,D=(X++P++x::(Q++Z)).toArray/\X.length+P.length=j/\P++Q=L/\∀ q∈Q.head?,lt x q=true
theorem InsR.size {X:List α} {x:α} {L Z:List α} {j:Nat} {D:Array α} (h:InsR lt X x L Z j D):D.size=X.length+L.length+1+Z.length/\X.length<=j/\j<=X.length+L.length:=by obtain⟨P,Q,rfl,h1,rfl,h2⟩:=h;refine⟨by simp;omega,by omega,by simp;omega⟩
theorem InsR.step [Inhabited α] {X:List α} {x:α} {L Z:List α} {j:Nat} {D:Array α} (h:InsR lt X x L Z j D) (hj:X.length<j) (hl:lt D[j]! D[j-1]! = true):InsR lt X x L Z (j-1) (swp D j (j-1)):=by
 obtain⟨P,Q,rfl,h1,rfl,h2⟩:=h;rcases List.eq_nil_or_concat P with rfl|⟨P',z,rfl⟩
 ·simp at h1;omega
 ·rw[List.concat_eq_append] at h1 hl ⊢;have e:X++(P'++[z])++x::(Q++Z)=(X++P')++z::([]++x::(Q++Z)):=(by simp);have g1:(X++(P'++[z])++x::(Q++Z)).toArray[j]! = x:=dR _ _ _ _ (by simp at h1 ⊢;omega);have g2:(X++(P'++[z])++x::(Q++Z)).toArray[j-1]! = z:=(by rw[e];exact dR _ _ _ _ (by simp at h1 ⊢;omega));rw[g1,g2] at hl;refine⟨P',z::Q,?_,by simp at h1 ⊢;omega,by simp,by simp;exact hl⟩;have hs:(X++(P'++[z])++x::(Q++Z)).toArray.size=X.length+P'.length+1+1+Q.length+Z.length:=(by simp;omega);rw[qj _ _ _ (by rw[hs];simp at h1;omega) (by rw[hs];simp at h1;omega),e,iP _ _ _ _ _ _ _ (by simp at h1 ⊢;omega) (by simp at h1 ⊢;omega)];simp
theorem InsR.stop [Inhabited α] (hW:Weak lt) {X:List α} {x:α} {L Z:List α} {j:Nat} {D:Array α} (h:InsR lt X x L Z j D) (hL:Up lt L) (hj:j<=X.length\/lt D[j]! D[j-1]! = false):D=(X++aT lt x L++Z).toArray:=by
 obtain⟨P,Q,rfl,h1,rfl,h2⟩:=h;rw[z6 hW x P Q hL ?_ h2]
 ·simp
 ·intro p hp;rcases List.eq_nil_or_concat P with rfl|⟨P',z,rfl⟩
  ·simp at hp
  ·rw[List.concat_eq_append] at h1 hj hp;have e:X++(P'++[z])++x::(Q++Z)=(X++P')++z::([]++x::(Q++Z)):=(by simp);have g1:(X++(P'++[z])++x::(Q++Z)).toArray[j]! = x:=dR _ _ _ _ (by simp at h1 ⊢;omega);have g2:(X++(P'++[z])++x::(Q++Z)).toArray[j-1]! = z:=(by rw[e];exact dR _ _ _ _ (by simp at h1 ⊢;omega));rw[g1,g2] at hj;simp at hp;subst hp;rcases hj with hj|hj
   ·simp at h1;omega
   ·exact hj
def OutR (lt:α->α->Bool) (X S Y:List α) (i:Nat) (D:Array α):Prop:=D=(X++af lt (S.take (i-X.length))++S.drop (i-X.length)++Y).toArray
theorem OutR.start (X S Y:List α):OutR lt X S Y (X.length+1) (X++S++Y).toArray:=by
 unfold OutR;rw[show X.length+1-X.length=1 by omega];cases S with
 |nil=>simp[af]
 |cons s S=>simp[af,aT]
theorem OutR.inner {X S Y:List α} {i:Nat} {D:Array α} (h:OutR lt X S Y i D) (hi:X.length<i) (hl:i<X.length+S.length):
 ∃ x,S[i-X.length]?=some x/\InsR lt X x (af lt (S.take (i-X.length))) (S.drop (i-X.length+1)++Y) i D:=by
 refine⟨S[i-X.length]'(by omega),aQ (by omega),af lt (S.take (i-X.length)),[],?_,?_,by simp,by simp⟩
 ·unfold OutR at h;rw[h,List.drop_eq_getElem_cons (show i-X.length<S.length by omega)];simp only[List.append_assoc,List.cons_append,List.nil_append]
 ·rw[aI,dL];omega
theorem OutR.next {X S Y:List α} {i:Nat} {x:α} (hi:X.length<i) (hx:S[i-X.length]?=some x):OutR lt X S Y (i+1) (X++aT lt x (af lt (S.take (i-X.length)))++(S.drop (i-X.length+1)++Y)).toArray:=by unfold OutR;rw[show i+1-X.length=i-X.length+1 by omega,List.take_add_one,hx];simp only[Option.toList_some,eq];simp
theorem OutR.last {X S Y:List α} {i:Nat} {D:Array α} (h:OutR lt X S Y i D) (hi:X.length+S.length<=i):D=(X++af lt S++Y).toArray:=by unfold OutR at h;rw[h,List.take_of_length_le (by omega),List.drop_eq_nil_of_le (by omega)];simp
theorem yy (hW:Weak lt) {B:List α} (hB:Up lt B) {i j:Nat} (hij:i<=j) (hj:j<B.length):lt (B[j]'hj) (B[i]'(by omega))=false:=by
 by_cases e:i=j
 ·subst e;exact hW.irr _
 ·exact List.pairwise_iff_getElem.1 hB i j (by omega) hj (by omega)
def SeaL (lt:α->α->Bool) (x:α) (B:List α) (m i j:Nat):Prop:=(∀ c∈B.take (i-m),lt c x=true)/\∀ c∈(B.drop (j-m)).head?,lt c x=false
theorem SeaL.start (x:α) (B:List α) (m b:Nat) (hb:m+B.length=b):SeaL lt x B m m b:=by refine⟨by simp,?_⟩;rw[List.drop_eq_nil_of_le (by omega)];simp
theorem SeaL.up (hW:Weak lt) {x:α} {B:List α} {m i j h:Nat} (s:SeaL lt x B m i j) (hB:Up lt B) (hm:m<=h) (hl:h-m<B.length) (hx:lt (B[h-m]'hl) x=true):SeaL lt x B m (h+1) j:=by refine⟨?_,s.2⟩;intro c hc;obtain⟨k,hk,rfl⟩:=List.mem_take_iff_getElem.1 hc;exact hW.n2 hx (yy hW hB (by omega) hl)
theorem SeaL.down {x:α} {B:List α} {m i j h:Nat} (s:SeaL lt x B m i j) (hl:h-m<B.length) (hx:lt (B[h-m]'hl) x=false):SeaL lt x B m i h:=by refine⟨s.1,?_⟩;rw[List.drop_eq_getElem_cons hl];simp only[List.head?_cons,Option.mem_def,Option.some.injEq,forall_eq'];exact hx
theorem SeaL.last {x:α} {B:List α} {m i:Nat} (s:SeaL lt x B m i i):aj lt [x] B=B.take (i-m)++x::B.drop (i-m):=by have:=tK x (B.take (i-m)) (B.drop (i-m)) s.1 s.2;rwa [List.take_append_drop] at this
def SeaR (lt:α->α->Bool) (x:α) (A:List α) (a i j:Nat):Prop:=(∀ c∈A.take (i-a),lt x c=false)/\∀ c∈A.drop (j-a),lt x c=true
theorem SeaR.start (x:α) (A:List α) (a m:Nat) (hm:a+A.length=m):SeaR lt x A a a m:=by refine⟨by simp,?_⟩;rw[List.drop_eq_nil_of_le (by omega)];simp
theorem SeaR.up (hW:Weak lt) {x:α} {A:List α} {a i j h:Nat} (s:SeaR lt x A a i j) (hA:Up lt A) (hm:a<=h) (hl:h-a<A.length) (hx:lt x (A[h-a]'hl)=false):SeaR lt x A a (h+1) j:=by
 refine⟨?_,s.2⟩;intro c hc;obtain⟨k,hk,rfl⟩:=List.mem_take_iff_getElem.1 hc;cases e:lt x (A[k]'(by omega)) with
 |false=>rfl
 |true=>have:=hW.n1 e (yy hW hA (show k<=h-a by omega) hl);rw[hx] at this;cases this
theorem SeaR.down (hW:Weak lt) {x:α} {A:List α} {a i j h:Nat} (s:SeaR lt x A a i j) (hA:Up lt A) (hl:h-a<A.length) (hx:lt x (A[h-a]'hl)=true):SeaR lt x A a i h:=by refine⟨s.1,?_⟩;intro c hc;obtain⟨k,hk,rfl⟩:=List.mem_iff_getElem.1 hc;rw[List.getElem_drop];rw[List.length_drop] at hk;exact hW.n1 hx (yy hW hA (by omega) (by omega))
theorem SeaR.last {x:α} {A:List α} {a i:Nat} (s:SeaR lt x A a i i):aj lt A [x]=A.take (i-a)++x::A.drop (i-a):=by have:=tS x (A.take (i-a)) (A.drop (i-a)) s.1 s.2;rwa [List.take_append_drop] at this
def MovR (X:List α) (x:α) (L Y:List α) (k:Nat) (D:Array α):Prop:=D=(X++L.take (k-X.length)++x::(L.drop (k-X.length)++Y)).toArray
theorem MovR.size {X:List α} {x:α} {L Y:List α} {k:Nat} {D:Array α} (h:MovR X x L Y k D):D.size=X.length+L.length+1+Y.length:=by unfold MovR at h;rw[h];simp;omega
theorem MovR.up [Inhabited α] {X:List α} {x:α} {L Y:List α} {k:Nat} {D:Array α} (h:MovR X x L Y k D) (hk:X.length<=k) (hl:k<X.length+L.length):MovR X x L Y (k+1) (swp D k (k+1)):=by
 unfold MovR at h ⊢;have e:L.drop (k-X.length)=L[k-X.length]::L.drop (k-X.length+1):=List.drop_eq_getElem_cons (by omega);have t:L.take (k-X.length+1)=L.take (k-X.length)++[L[k-X.length]]:=by rw[List.take_add_one,aQ (by omega)];rfl
 rw[h,e,show k+1-X.length=k-X.length+1 by omega,t];have e1:X++L.take (k-X.length)++x::(L[k-X.length]::L.drop (k-X.length+1)++Y)=(X++L.take (k-X.length))++x::([]++L[k-X.length]::(L.drop (k-X.length+1)++Y)):=by simp only[List.append_assoc,List.cons_append,List.nil_append]
 rw[e1,iP _ _ _ _ _ _ _ (by simp;omega) (by simp;omega)];simp only[List.append_assoc,List.cons_append,List.nil_append]
theorem MovR.down [Inhabited α] {X:List α} {x:α} {L Y:List α} {k:Nat} {D:Array α} (h:MovR X x L Y (k+1) D) (hk:X.length<=k) (hl:k<X.length+L.length):MovR X x L Y k (swp D (k+1) k):=by
 have hs:=h.size;unfold MovR at h ⊢;have e:L.drop (k-X.length)=L[k-X.length]::L.drop (k-X.length+1):=List.drop_eq_getElem_cons (by omega);have t:L.take (k-X.length+1)=L.take (k-X.length)++[L[k-X.length]]:=by rw[List.take_add_one,aQ (by omega)];rfl
 rw[qj _ _ _ (by omega) (by omega),h,e,show k+1-X.length=k-X.length+1 by omega,t];have e1:X++(L.take (k-X.length)++[L[k-X.length]])++x::(L.drop (k-X.length+1)++Y)=(X++L.take (k-X.length))++L[k-X.length]::([]++x::(L.drop (k-X.length+1)++Y)):=by simp only[List.append_assoc,List.cons_append,List.nil_append]
 rw[e1,iP _ _ _ _ _ _ _ (by simp;omega) (by simp;omega)];simp only[List.append_assoc,List.cons_append,List.nil_append]
theorem eE [Inhabited α] (X L Y:List α) (i:Nat) (h:X.length<=i) (hl:i-X.length<L.length):(X++L++Y).toArray[i]! = L[i-X.length]:=by rw[getElem!_pos _ _ (by simp;omega)];simp only[List.getElem_toArray];rw[List.getElem_append_left (by simp;omega),List.getElem_append_right (by omega)]
theorem nW [Inhabited α] (hW:Weak lt) (X A B Y:List α) (D:Array α) (a m b s e:Nat) (hD:(X++A++B++Y).toArray=D) (hX:X.length=a) (hm:a+A.length=m) (hb:m+B.length=b) (hA:Up lt A) (hB:Up lt B) (has:a<=s) (hsm:s<=m) (hme:m<=e) (heb:e<=b)
 (h1:s=a\/e=b\/lt D[e]! D[s-1]! = false) (h2:s=m\/e=m\/lt D[e-1]! D[s]! = true):
 aj lt A B=aj lt (A.take (s-a)) (B.take (e-m))++aj lt (A.drop (s-a)) (B.drop (e-m)):=by
 have gA:∀ i,a<=i->(hi:i-a<A.length)->D[i]! = A[i-a]'hi:=fun i h hi=>by subst hX;rw[<-hD,show X++A++B++Y=X++A++(B++Y) by simp];exact eE X A (B++Y) i h hi
 have gB:∀ i,m<=i->(hi:i-m<B.length)->D[i]! = B[i-m]'hi:=fun i h hi=>by
  have hl:(X++A).length=m:=by simp;omega
  rw[<-hD];have:=eE (X++A) B Y i (by omega) (by omega);rw[this];simp only[hl]
 have key:=As hW (A.take (s-a)) (A.drop (s-a)) (B.take (e-m)) (B.drop (e-m)) (by rw[List.take_append_drop];exact hA) (by rw[List.take_append_drop];exact hB) ?_ ?_
 ·rwa [List.take_append_drop,List.take_append_drop] at key
 ·intro x hx y hy;by_cases c1:s=m
  ·rw[List.drop_eq_nil_of_le (by omega)] at hx;simp at hx
  ·by_cases c2:e=m
   ·rw[c2,Nat.sub_self,List.take_zero] at hy;simp at hy
   ·have k:=(h2.resolve_left c1).resolve_left c2;rw[gA s has (by omega),gB (e-1) (by omega) (by omega)] at k;rw[List.drop_eq_getElem_cons (show s-a<A.length by omega)] at hx;simp only[List.head?_cons,Option.mem_def,Option.some.injEq] at hx;rw[List.getLast?_eq_getElem?,dL,Nat.min_eq_left (by omega),List.getElem?_take,if_pos (by omega),aQ (show e-m-1<B.length by omega)] at hy;simp only[Option.mem_def,Option.some.injEq] at hy;rw[<-hx,<-hy];simp only[show e-m-1=e-1-m by omega];exact k
 ·intro x hx y hy;by_cases c1:s=a
  ·rw[c1,Nat.sub_self,List.take_zero] at hx;simp at hx
  ·by_cases c2:e=b
   ·rw[List.drop_eq_nil_of_le (by omega)] at hy;simp at hy
   ·have k:=(h1.resolve_left c1).resolve_left c2;rw[gB e hme (by omega),gA (s-1) (by omega) (by omega)] at k;rw[List.drop_eq_getElem_cons (show e-m<B.length by omega)] at hy;simp only[List.head?_cons,Option.mem_def,Option.some.injEq] at hy;rw[List.getLast?_eq_getElem?,dL,Nat.min_eq_left (by omega),List.getElem?_take,if_pos (by omega),aQ (show s-a-1<A.length by omega)] at hx;simp only[Option.mem_def,Option.some.injEq] at hx;rw[<-hx,<-hy];simp only[show s-a-1=s-1-a by omega];exact k
end Sy
section
open Go.RowKit Go.Sort Sy
def bL (s:ByteArray):List Value:=[.string s]
theorem ev (a b n len cap:Nat) (d:Array ByteArray) (fv:Value) (W0 W:World) (B:Nat) (hd:d.size=len) (hlen:len<=1000000000) (ha:a+n<=len) (hb:b+n<=len) (hab:a+n<=b) (S:St bL 1 W0 B d W):
 Calls Tryz.prog 288 #[.slice (some ⟨B,0,none⟩) len cap,.int .i64 a,.int .i64 b,.int .i64 n,fv] W fun e w'=>e=.returned (.tuple #[])/\St bL 1 W0 B (gU a b n d) w':=by
 have HS:=aa S;have HD:=aa hd;clear S hd;go_enter Tryz.func288,Tryz.ntmps288;go_wp2_with fail
 go_loopw [10] (fun i wr=>∃ k,k<=n/\i=.int .i64 (k:Nat)/\Hid (St bL 1 W0 B (gU a b k d) wr)) (fun i _=>n-(intOf i).toNat)
 case atStart=>exact⟨0,bI _,rfl,HS.out⟩
 case round=>
  obtain⟨k,hk,rfl,SK⟩:=hrel;by_cases hlt:k<n
  ·have hz:(gU a b k d).size=len:=(by rw[iI];exact HD.out);have i1:IntKind.i64.wrap ((a:Int)+(k:Int))=((a+k:Nat):Int):=(by rw[aO];omega);have i2:IntKind.i64.wrap ((b:Int)+(k:Int))=((b+k:Nat):Int):=(by rw[aO];omega);obtain⟨p,hp⟩:=ac (a+k);obtain⟨q,hq⟩:=ac (b+k);rw[hp] at i1;rw[hq] at i2;have hpl:p<len:=(by omega);have hql:q<len:=(by omega);have cp:=SK.out.cell p (by rw[hz];exact hpl);have cq:=SK.out.cell q (by rw[hz];exact hql);have SW1:=aa (SK.out.swapS p q (by rw[hz];exact hpl) (by rw[hz];exact hql));obtain⟨x,hx⟩:=ac ((gU a b k d)[p]!);obtain⟨y,hy⟩:=ac ((gU a b k d)[q]!);rw[hx] at cp SW1;rw[hy] at cq SW1;obtain⟨cp1,cp2⟩:=cp;obtain⟨cq1,cq2⟩:=cq;have HPQ:Hid (a+k=p/\b+k=q):=⟨hp,hq⟩;have hpq:p≠q:=(by omega);have cq3:(wr.setCell ⟨B,p,none⟩ (.string y)).cell? ⟨B,q,none⟩=some (.string y):=(by rw[aP];exact cq1);clear hx hy hp hq hz SK;(go_wp2_with fail);go_region
   have S3:Hid (St bL 1 W0 B (gU a b (k+1) d) ((wr.setCell ⟨B,p,none⟩ (.string y)).setCell ⟨B,q,none⟩ (.string x)).drew):=(by unfold Hid;rw[gU,HPQ.out.1,HPQ.out.2];exact SW1.out.drew);(go_wp2_with fail);go_roundw;case rel=>exact⟨k+1,by omega,by go_num,S3⟩
   case measure=>simp[intOf];omega
  ·have hkn:k=n:=(by omega);subst hkn;(go_wp2_with fail);go_end0;exact⟨rfl,SK.out⟩
theorem pP (X U V Y:List ByteArray) (a m b len cap:Nat) (fv:Value) (W0 W:World) (B:Nat) (hl:(X++U++V++Y).length=len) (hlen:len<=1000000000) (ha:X.length=a) (hm:a+U.length=m) (hb:m+V.length=b) (hU:0<U.length) (hV:0<V.length)
 (S:St bL 1 W0 B (X++U++V++Y).toArray W):
 Calls Tryz.prog 287 #[.slice (some ⟨B,0,none⟩) len cap,.int .i64 a,.int .i64 m,.int .i64 b,fv] W fun e w'=>e=.returned (.tuple #[])/\St bL 1 W0 B (X++V++U++Y).toArray w':=by
 obtain⟨T,hT⟩:=ac (X++V++U++Y);have hTl:T.length=len:=by rw[<-hT,<-hl];simp;omega
 have R0:Hid (Rot T m U.length V.length (X++U++V++Y).toArray):=⟨X,U,V,Y,rfl,by omega,rfl,rfl,hT⟩;rw[hT];obtain⟨D,hD⟩:=ac ((X++U++V++Y).toArray);rw[hD] at S R0;obtain⟨u,hu⟩:=ac U.length;obtain⟨v,hv⟩:=ac V.length;rw[hu] at R0 hm hU;rw[hv] at R0 hb hV;have HS:=aa S;have HTL:=aa hTl;have hbl:b<=len:=by have:=R0.out.size;omega
 clear S hD hT hl hu hv ha hTl;have e1:(m:Int)-(a:Int)=(u:Nat):=by omega
 have e2:(b:Int)-(m:Int)=(v:Nat):=by omega
 have w1:IntKind.i64.wrap ((m:Int)-(a:Int))=(u:Nat):=by rw[aO];omega
 have w2:IntKind.i64.wrap ((b:Int)-(m:Int))=(v:Nat):=by rw[aO];omega
 have hml:m<=len:=by omega
 clear hm hb e1 e2;go_enter Tryz.func287,Tryz.ntmps287;go_wp2_with fail
 go_loopw [10,11] (fun iv jv wr=>∃ (i j:Nat) (D:Array ByteArray),iv=.int .i64 (i:Nat)/\jv=.int .i64 (j:Nat)/\0<i/\0<j/\Hid (Rot T m i j D)/\Hid (St bL 1 W0 B D wr)) (fun iv jv _=>(intOf iv).toNat+(intOf jv).toNat)
 case atStart=>exact⟨u,v,D,rfl,rfl,hU,hV,R0,HS.out⟩
 case round=>
  clear HS R0 w1 w2 hU hV;obtain⟨i,j,D,rfl,rfl,hi,hj,HR,SD⟩:=hrel;have hsz:=HR.out.size;have hdl:D.size=len:=hsz.1.trans HTL.out;have him:i<=m:=hsz.2.1;have hmj:m+j<=len:=by rw[<-hdl];exact hsz.2.2
  clear hsz;obtain⟨p,hp⟩:=ac (m-i);have w3:IntKind.i64.wrap ((m:Int)-(i:Int))=(p:Int):=by rw[aO];omega
  by_cases hij:i=j
  ·subst hij;have hne:((i:Int) != (i:Int))=false:=(by simp);have HQ:=aa (ev p m i len cap D fv W0 wr B hdl hlen (by omega) (by omega) (by omega) SD.out);have HL:=aa HR.out.last;rw[hp] at HL;clear hp;(go_wp2_with (go_at_call 288;refine HQ.out.mono ?_;rintro e w' ⟨rfl,S2⟩));go_end0;exact⟨rfl,by rw[<-HL.out];exact S2⟩
  ·have hne:((i:Int) != (j:Int))=true:=(by simp;omega);by_cases hgt:j<i
   ·have hg:(j:Int)<(i:Int):=(by omega);obtain⟨q,hq⟩:=ac (i-j);have w4:IntKind.i64.wrap ((i:Int)-(j:Int))=(q:Int):=(by rw[aO];omega);have HQ:=aa (ev p m j len cap D fv W0 wr B hdl hlen (by omega) (by omega) (by omega) SD.out);have H2:=aa (HR.out.left hgt);rw[hp,hq] at H2;have hq0:0<q:=(by omega);have hqi:q+j=i:=(by omega);clear hp hq;(go_wp2_with (go_at_call 288;refine HQ.out.mono ?_;rintro e w' ⟨rfl,S2⟩));go_roundw;case rel=>exact⟨q,j,_,rfl,rfl,hq0,hj,H2,S2⟩
    case measure=>simp[intOf];omega
   ·have hlt:i<j:=(by omega);have hg:¬ (j:Int)<(i:Int):=(by omega);obtain⟨q,hq⟩:=ac (j-i);obtain⟨x,hx⟩:=ac (m+j);obtain⟨y,hy⟩:=ac (x-i);have w4:IntKind.i64.wrap ((j:Int)-(i:Int))=(q:Int):=(by rw[aO];omega);have w5:IntKind.i64.wrap ((m:Int)+(j:Int))=(x:Int):=(by rw[aO];omega);have w6:IntKind.i64.wrap ((x:Int)-(i:Int))=(y:Int):=(by rw[aO];omega);have HQ:=aa (ev p y i len cap D fv W0 wr B hdl hlen (by omega) (by omega) (by omega) SD.out);have H2:=aa (HR.out.right hlt);rw[hp,hx,hy,hq] at H2;have hq0:0<q:=(by omega);have hqi:q+i=j:=(by omega);clear hp hq hx hy;(go_wp2_with (go_at_call 288;refine HQ.out.mono ?_;rintro e w' ⟨rfl,S2⟩));go_roundw;case rel=>exact⟨i,q,_,rfl,rfl,hi,hq0,H2,S2⟩
    case measure=>simp[intOf];omega
def od (g:Nat) (cb:Array Value) (cf:ByteArray->ByteArray->Int) (W0:World) (B:Nat):Prop:=∀ (D:Array ByteArray) (W:World),St bL 1 W0 B D W->∀ x y,Calls Tryz.prog g (#[.string x,.string y]++cb) W fun e w'=>e=.returned (.int .i64 (cf x y))/\Below W.heap.size W w'
theorem kW (lt:ByteArray->ByteArray->Bool) (hW:Weak lt) (cf:ByteArray->ByteArray->Int) (hcf:∀ x y,lt x y=decide (cf x y<0)) (g:Nat) (cb:Array Value) (eg:∀ args w,(callFunc g args).run Tryz.prog w=.ok (.enter g args) w)
 (X S Y:List ByteArray) (a b len cap:Nat) (W0 W:World) (B:Nat) (hC:od g cb cf W0 B) (hl:(X++S++Y).length=len) (hlen:len<=1000000000) (ha:X.length=a) (hb:a+S.length=b) (hS:St bL 1 W0 B (X++S++Y).toArray W):
 Calls Tryz.prog 285 #[.slice (some ⟨B,0,none⟩) len cap,.int .i64 a,.int .i64 b,.func (.func g) #[] cb] W fun e w'=>e=.returned (.tuple #[])/\St bL 1 W0 B (X++af lt S++Y).toArray w':=by
 obtain⟨T,hT⟩:=ac ((X++af lt S++Y).toArray);rw[hT];have HT:=aa hT;have HC:=aa hC;have HS:=aa hS;have HL:=aa hl;have HA:=aa ha;have HB:=aa hb;have HW:=aa hW;have HCF:=aa hcf;have hbl:b<=len:=by rw[<-hl];simp;omega
 have hab:a<=b:=by omega
 have wa:IntKind.i64.wrap ((a:Int)+1)=(a:Int)+1:=by rw[aO];omega
 clear hC hS hl ha hb hW hcf hT;go_enter Tryz.func285,Tryz.ntmps285;go_wp2_with fail
 go_loopw [8] (fun iv wr=>∃ (i:Nat) (D:Array ByteArray),iv=.int .i64 (i:Nat)/\a<i/\i<=b+1/\Hid (OutR lt X S Y i D)/\Hid (St bL 1 W0 B D wr)) (fun iv _=>b+1-(intOf iv).toNat)
 case atStart=>exact⟨a+1,_,by go_num,by omega,by omega,by rw[<-HA.out];exact OutR.start X S Y,HS.out⟩
 case round=>
  clear HS;obtain⟨i,D,rfl,hai,hib,HO,SD⟩:=hrel;by_cases hlt:i<b
  ·have hltz:(i:Int)<(b:Int):=(by omega);obtain⟨x,hx,hI⟩:=HO.out.inner (by rw[HA.out];exact hai) (by rw[HA.out,HB.out];exact hlt);have HX:=aa hx;have HI:=aa hI;have hUp:=aa (cm HW.out (S.take (i-X.length)));have HZ:Hid (X.length+(af lt (S.take (i-X.length))).length+1+(S.drop (i-X.length+1)++Y).length=len):=(by unfold Hid;have:=HL.out;simp only[de,aI,dL,List.length_drop] at this ⊢;have h1:=HA.out;have h2:=HB.out;omega);have hNX:Hid (OutR lt X S Y (i+1) (X++aT lt x (af lt (S.take (i-X.length)))++(S.drop (i-X.length+1)++Y)).toArray):=OutR.next (by rw[HA.out];exact hai) hx;obtain⟨L,hL⟩:=ac (af lt (S.take (i-X.length)));obtain⟨Z,hZ⟩:=ac (S.drop (i-X.length+1)++Y);rw[hL,hZ] at HI hNX HZ;rw[hL] at hUp;have wi:IntKind.i64.wrap ((i:Int)+1)=(i:Int)+1:=(by rw[aO];omega);have hil:i<len:=(by omega);clear hx hI hL hZ HO;go_wp2_with fail
   go_loopw [9] (fun jv wr=>∃ (j:Nat) (E:Array ByteArray),jv=.int .i64 (j:Nat)/\a<=j/\j<=i/\Hid (InsR lt X x L Z j E)/\Hid (St bL 1 W0 B E wr)) (fun jv _=>(intOf jv).toNat)
   case atStart=>exact⟨i,D,rfl,by omega,aq _,HI,SD⟩
   case round=>
    clear SD HI;obtain⟨j,E,rfl,haj,hji,HJ,SE⟩:=hrel;have hEl:E.size=len:=HJ.out.size.1.trans HZ.out;by_cases hja:a<j
    ·obtain⟨p,hq⟩:∃ p,p+1=j:=⟨j-1,by omega⟩;have wq:IntKind.i64.wrap ((j:Int)-1)=(p:Int):=(by rw[aO];omega);have hgq:(a:Int)<(j:Int):=(by omega);have hgd:decide ((a:Int)<(j:Int))=true:=bq hgq;have hgd2:decide ((j:Int) > (a:Int))=true:=bq hgq;have hpl:p<len:=(by omega);have hql:j<len:=(by omega);have cp:∀ v:Bel wr,v.v.cell? ⟨B,p,none⟩=some (.string E[p]!):=(fun v=>((SE.out.bel v).cell p (by rw[hEl];exact hpl)).1);have cq:∀ v:Bel wr,v.v.cell? ⟨B,j,none⟩=some (.string E[j]!):=(fun v=>((SE.out.bel v).cell j (by rw[hEl];exact hql)).1);have hcm:∀ v:Bel wr,Calls Tryz.prog g (#[.string E[j]!,.string E[p]!]++cb) v.v fun e w'=>e=.returned (.int .i64 (cf E[j]! E[p]!))/\Below v.v.heap.size v.v w':=(fun v=>HC.out E v.v (SE.out.bel v) _ _);have SW1:Hid (∀ w2,Below wr.heap.size wr w2->St bL 1 W0 B (swp E j p) ((w2.setCell ⟨B,j,none⟩ (.string E[p]!)).setCell ⟨B,p,none⟩ (.string E[j]!))):=(fun w2 h2=>(SE.out.below h2).swapS j p (by rw[hEl];exact hql) (by rw[hEl];exact hpl));have CL:Hid (∀ w2,Below wr.heap.size wr w2->(w2.cell? ⟨B,p,none⟩=some (.string E[p]!)/\w2.frozen? ⟨B,p,none⟩=false)/\(w2.cell? ⟨B,j,none⟩=some (.string E[j]!)/\w2.frozen? ⟨B,j,none⟩=false)/\(w2.setCell ⟨B,j,none⟩ (.string E[p]!)).cell? ⟨B,p,none⟩=some (.string E[p]!)):=(fun w2 h2=>⟨(SE.out.below h2).cell p (by rw[hEl];exact hpl),(SE.out.below h2).cell j (by rw[hEl];exact hql),by rw[aP];exact((SE.out.below h2).cell p (by rw[hEl];exact hpl)).1⟩);have hlq:=HCF.out E[j]! E[p]!;have hst:Hid (lt E[j]! E[p]! = true->InsR lt X x L Z p (swp E j p)):=(fun h=>by have:=HJ.out.step (by rw[HA.out];omega) (by rw[show j-1=p by omega];exact h);rwa [show j-1=p by omega] at this);have hsp:Hid (lt E[j]! E[p]! = false->E=(X++aT lt x L++Z).toArray):=(fun h=>HJ.out.stop HW.out hUp.out (Or.inr (by rw[show j-1=p by omega];exact h)));obtain⟨s,hs⟩:=ac (E[j]!);obtain⟨t,ht⟩:=ac (E[p]!);rw[hs,ht] at hcm SW1 CL hlq hst hsp;rw[ht] at cp;rw[hs] at cq;have hip:p<i:=(by omega);have hpa:a<=p:=(by omega);have HQP:Hid (p+1=j):=hq;clear hs ht hq;by_cases hc:cf s t<0
     ·have hcd:decide (cf s t<0)=true:=bq hc;have hL2:Hid (lt s t=true):=(by unfold Hid;rw[hlq];exact hcd);clear hlq;(go_wp2_with fail);refine ew ?_
      repeat (quiet_step (first|(go_at_fn g;exact Calls.bel_of (hcm _))))
      refine wpQuiet_nil ?_;intro w2 hw';have hb2:Below wr.heap.size wr w2:=(by obtain⟨v,rfl⟩:=hw';exact v.h);clear hw';obtain⟨⟨c1,c2⟩,⟨c3,c4⟩,c5⟩:=CL.out w2 hb2;have SW2:=aa (SW1.out w2 hb2);have hR:=aa (hst.out hL2.out);clear cp cq hcm CL SW1 hst hsp SE HJ;(go_wp2_with fail);go_region
      have S3:=aa SW2.out.drew;(go_wp2_with fail);go_roundw;case rel=>exact⟨p,_,rfl,hpa,by omega,hR,S3⟩
      case measure=>have:=HQP.out;simp[intOf];omega
     ·have hcd:decide (cf s t<0)=false:=bF hc;have hL2:Hid (lt s t=false):=(by unfold Hid;rw[hlq];exact hcd);clear hlq;(go_wp2_with fail);refine ew ?_
      repeat (quiet_step (first|(go_at_fn g;exact Calls.bel_of (hcm _))))
      refine wpQuiet_nil ?_;intro w2 hw';have hb2:Below wr.heap.size wr w2:=(by obtain⟨v,rfl⟩:=hw';exact v.h);clear hw';have S3:=aa (SE.out.below hb2);have hE:=aa (hsp.out hL2.out);clear cp cq hcm CL SW1 hst hsp SE HJ;(go_wp2_with fail);go_roundw;case rel=>exact⟨i+1,_,by go_num,by omega,by omega,hNX,by rw[<-hE.out];exact S3.out⟩
      case measure=>simp[intOf];omega
    ·have hje:j=a:=(by omega);subst hje;have hg:decide ((j:Int)<(j:Int))=false:=bF (by omega);have hg2:¬ (j:Int)<(j:Int):=(by omega);have hE:=aa (HJ.out.stop HW.out hUp.out (Or.inl (by rw[HA.out];exact aq _)));clear HJ;(go_wp2_with fail);(go_quiet (fail));have S3:Hid (St bL 1 W0 B E (wr.drewN nq)):=SE.out.drewN nq;(go_wp2_with fail);go_roundw;case rel=>exact⟨i+1,_,by go_num,by omega,by omega,hNX,by rw[<-hE.out];exact S3.out⟩
     case measure=>simp[intOf];omega
  ·have hltz:¬ (i:Int)<(b:Int):=(by omega);have hD:=HO.out.last (by rw[HA.out,HB.out];omega);(go_wp2_with fail);go_end0;exact⟨rfl,by rw[<-HT.out,<-hD];exact SD.out⟩
end
end Go.Proofs.YtbgaglcgennhiaaGreatDoor

