import Derived.WalkKit
import Derived.Test.YtbgaglcgennhiaaGreatDoorP02
import Derived.Shelf.SlicesQ.Reverse
import Derived.Laws.AppendOwn
import Derived.Deep.QuietTactic
section
namespace Go.Proofs.YtbgaglcgennhiaaGreatDoor.Sy
variable {α:Type} {lt:α→α→Bool}
structure Weak (lt:α→α→Bool):Prop where
 asym:∀ {x y},lt x y=true→lt y x=false
 neg:∀ {x z},lt x z=true→∀ y,lt x y=true∨lt y z=true
theorem Weak.trans (h:Weak lt) {x y z:α} (a:lt x y=true) (b:lt y z=true):lt x z=true:=by
 rcases h.neg a z with c | c
 · exact c
 · have:=h.asym b;rw[c] at this;cases this
theorem Weak.n1 (h:Weak lt) {x a b:α} (p:lt x a=true) (q:lt b a=false):lt x b=true:=by
 rcases h.neg p b with c | c
 · exact c
 · rw[q] at c;cases c
theorem Weak.n2 (h:Weak lt) {y a b:α} (p:lt y a=true) (q:lt y b=false):lt b a=true:=by
 rcases h.neg p b with c | c
 · rw[q] at c;cases c
 · exact c
theorem Weak.irr (h:Weak lt) (x:α):lt x x=false:=by
 cases e:lt x x with
 | false=>rfl
 | true=>have:=h.asym e;rw[e] at this;cases this
def aS (lt:α→α→Bool) (x:α):List α→List α
 | []=>[x]
 | y::l=>if lt x y=true then x::y::l else y::aS lt x l
def an (lt:α→α→Bool) (l:List α):List α:=l.foldl (fun acc x=>aS lt x acc) []
def ao (lt:α→α→Bool):List α→List α→List α
 | [],B=>B
 | a::A,[]=>a::A
 | a::A,b::B=>if lt b a=true then b::ao lt (a::A) B else a::ao lt A (b::B)
termination_by A B=>A.length+B.length
def Up (lt:α→α→Bool) (l:List α):Prop:=l.Pairwise fun x y=>lt y x=false
theorem bk (A:List α):ao lt A []=A:=by cases A<;>simp[ao]
theorem aU (B:List α):ao lt [] B=B:=by simp[ao]
theorem aH (a b:α) (A B:List α):ao lt (a::A) (b::B)=if lt b a=true then b::ao lt (a::A) B else a::ao lt A (b::B):=by simp[ao]
theorem dY (l:List α) (x:α):an lt (l++[x])=aS lt x (an lt l):=by simp[an]
theorem fQ (x:α) (l:List α):(aS lt x l).length=l.length+1:=by
 induction l with
 | nil=>rfl
 | cons y l ih=>unfold aS;split<;>simp[ih]
theorem bG (l:List α):(an lt l).length=l.length:=by
 suffices h:∀ (l acc:List α),(l.foldl (fun acc x=>aS lt x acc) acc).length=acc.length+l.length by simpa [an] using h l []
 intro l
 induction l with
 | nil=>simp
 | cons x l ih=>intro acc;simp only[List.foldl_cons,ih,fQ,List.length_cons];omega
theorem ins_mem (x z:α) (l:List α):z∈aS lt x l↔z=x∨z∈l:=by
 induction l with
 | nil=>simp[aS]
 | cons y l ih =>
   unfold aS;split
   · simp
   · simp only[List.mem_cons,ih];constructor<;>rintro (h | h | h)<;>simp[h]
theorem nh (x:α) (l:List α):(aS lt x l).Perm (x::l):=by
 induction l with
 | nil=>exact List.Perm.refl _
 | cons y l ih =>
   unfold aS;split
   · exact List.Perm.refl _
   · exact(List.Perm.cons y ih).trans (List.Perm.swap x y l)
theorem fD (l:List α):(an lt l).Perm l:=by
 suffices h:∀ (l acc:List α),(l.foldl (fun acc x=>aS lt x acc) acc).Perm (acc++l) by simpa [an] using h l []
 intro l
 induction l with
 | nil=>intro acc;simp
 | cons x l ih =>
   intro acc;simp only[List.foldl_cons]
   refine(ih _).trans ?_
   refine((nh x acc).append_right l).trans ?_
   exact(List.perm_middle (a:=x) (l₁:=acc) (l₂:=l)).symm
theorem sA (h:Weak lt) (x:α) (l:List α) (hl:Up lt l):Up lt (aS lt x l):=by
 induction l with
 | nil=>simp[aS,Up]
 | cons y l ih =>
   have hy:∀ z∈l,lt z y=false:=(List.pairwise_cons.1 hl).1;have hl':Up lt l:=(List.pairwise_cons.1 hl).2;unfold aS;split
   · rename_i hxy
     refine List.pairwise_cons.2 ⟨?_,hl⟩;intro z hz;rcases List.mem_cons.1 hz with rfl | hz
     · exact h.asym hxy
     · exact h.asym (h.n1 hxy (hy z hz))
   · rename_i hxy
     refine List.pairwise_cons.2 ⟨?_,ih hl'⟩;intro z hz
     rcases(ins_mem x z l).1 hz with rfl | hz
     · exact Bool.eq_false_iff.2 hxy
     · exact hy z hz
theorem cY (h:Weak lt) (l:List α):Up lt (an lt l):=by
 suffices g:∀ (l acc:List α),Up lt acc→Up lt (l.foldl (fun acc x=>aS lt x acc) acc) from g l [] List.Pairwise.nil
 intro l
 induction l with
 | nil=>intro acc ha;exact ha
 | cons x l ih=>intro acc ha;exact ih _ (sA h x acc ha)
theorem dU (x:α) (P Q:List α) (hP:∀ p∈P,lt x p=false) (hQ:∀ q∈Q.head?,lt x q=true):aS lt x (P++Q)=P++x::Q:=by
 induction P with
 | nil =>
   cases Q with
   | nil=>rfl
   | cons q Q=>simp only[List.nil_append,aS];rw[if_pos (hQ q (by simp))]
 | cons p P ih =>
   simp only[List.cons_append,aS];rw[if_neg (by rw[hP p (by simp)];simp),ih (fun z hz=>hP z (by simp[hz]))]
theorem wu (h:Weak lt) (x:α) (P Q:List α) (hs:Up lt (P++Q)) (hP:∀ p∈P.getLast?,lt x p=false) (hQ:∀ q∈Q.head?,lt x q=true):aS lt x (P++Q)=P++x::Q:=by
 refine dU x P Q ?_ hQ;intro p hp;rcases List.eq_nil_or_concat P with rfl | ⟨P',z,rfl⟩
 · simp at hp
 · have hz:lt x z=false:=hP z (by simp)
   rw[List.concat_eq_append] at hs hp;rcases List.mem_append.1 hp with hp | hp
   · have hsp:Up lt (P'++[z]):=(List.pairwise_append.1 hs).1
     have hzp:lt z p=false:=(List.pairwise_append.1 hsp).2.2 p hp z (by simp);cases e:lt x p with
     | false=>rfl
     | true=>have:=h.n1 e hzp;rw[hz] at this;cases this
   · simp at hp;subst hp;exact hz
theorem qw (h:Weak lt) (x:α):∀ (n:Nat) (A B:List α),A.length+B.length≤n→ao lt A (aS lt x B)=aS lt x (ao lt A B):=by
 intro n
 induction n with
 | zero =>
   intro A B hn;have hA:A=[]:=List.length_eq_zero_iff.1 (by omega);subst hA;rw[aU,aU]
 | succ n ih =>
   intro A B hn;cases A with
   | nil=>rw[aU,aU]
   | cons a A =>
     cases B with
     | nil =>
       rw[bk];simp only[aS];rw[aH]
       by_cases hx:lt x a=true
       · rw[if_pos hx,if_pos hx,bk]
       · rw[if_neg hx,if_neg hx]
         have:=ih A [] (by simp at hn ⊢;omega)
         simp only[aS,bk] at this;rw[this]
     | cons b B =>
       simp only[List.length_cons] at hn
       by_cases hba:lt b a=true
       · rw[aH a b,if_pos hba]
         have e:aS lt x (b::ao lt (a::A) B)=if lt x b=true then x::b::ao lt (a::A) B else b::aS lt x (ao lt (a::A) B):=rfl
         rw[e]
         by_cases hxb:lt x b=true
         · rw[if_pos hxb]
           have e2:aS lt x (b::B)=x::b::B:=by simp only[aS];rw[if_pos hxb]
           rw[e2,aH,if_pos (h.trans hxb hba),aH,if_pos hba]
         · rw[if_neg hxb]
           have e2:aS lt x (b::B)=b::aS lt x B:=by simp only[aS];rw[if_neg hxb]
           rw[e2,aH,if_pos hba,ih (a::A) B (by simp only[List.length_cons];omega)]
       · rw[aH a b,if_neg hba]
         have e:aS lt x (a::ao lt A (b::B))=if lt x a=true then x::a::ao lt A (b::B) else a::aS lt x (ao lt A (b::B)):=rfl
         rw[e];have ih':=ih A (b::B) (by simp only[List.length_cons];omega)
         by_cases hxa:lt x a=true
         · rw[if_pos hxa]
           have hxb:lt x b=true:=h.n1 hxa (Bool.eq_false_iff.2 hba);have e2:aS lt x (b::B)=x::b::B:=by simp only[aS];rw[if_pos hxb]
           rw[e2,aH,if_pos hxa,aH,if_neg hba]
         · rw[if_neg hxa]
           by_cases hxb:lt x b=true
           · have e2:aS lt x (b::B)=x::b::B:=by simp only[aS];rw[if_pos hxb]
             rw[e2,aH,if_neg hxa,← ih',e2]
           · have e2:aS lt x (b::B)=b::aS lt x B:=by simp only[aS];rw[if_neg hxb]
             rw[e2,aH,if_neg hba,← ih',e2]
theorem m6 (h:Weak lt) (l m:List α):an lt (l++m)=ao lt (an lt l) (an lt m):=by
 suffices g:∀ n (m:List α),m.length=n→an lt (l++m)=ao lt (an lt l) (an lt m) from g _ m rfl
 intro n
 induction n with
 | zero=>intro m hm;rw[List.length_eq_zero_iff.1 hm,List.append_nil,show an lt ([] : List α)=[] from rfl,bk]
 | succ n ih =>
   intro m hm;rcases List.eq_nil_or_concat m with rfl | ⟨k,x,rfl⟩
   · simp at hm
   · rw[List.concat_eq_append] at hm ⊢
     rw[← List.append_assoc,dY,dY,ih k (by simpa using hm),qw h x _ _ _ (Nat.le_refl _)]
theorem eo (A1 A2 B1 B2:List α) (h1:∀ a∈A2,∀ b∈B1,lt b a=true) (h2:∀ a∈A1,∀ b∈B2,lt b a=false):ao lt (A1++A2) (B1++B2)=ao lt A1 B1++ao lt A2 B2:=by
 suffices g:∀ (n:Nat) (A1 B1:List α),A1.length+B1.length≤n→(∀ a∈A2,∀ b∈B1,lt b a=true)→(∀ a∈A1,∀ b∈B2,lt b a=false)→ao lt (A1++A2) (B1++B2)=ao lt A1 B1++ao lt A2 B2 from g _ A1 B1 (Nat.le_refl _) h1 h2
 clear h1 h2 A1 B1;intro n
 induction n with
 | zero =>
   intro A1 B1 hn h1 h2;have hA:A1=[]:=List.length_eq_zero_iff.1 (by omega);have hB:B1=[]:=List.length_eq_zero_iff.1 (by omega);subst hA;subst hB;simp[aU]
 | succ n ih =>
   intro A1 B1 hn h1 h2;cases A1 with
   | nil =>
     cases B1 with
     | nil=>simp[aU]
     | cons b B1 =>
       rw[aU,List.nil_append];have ih':=ih [] B1 (by simp at hn ⊢;omega) (fun a ha z hz=>h1 a ha z (by simp[hz])) (by simp);rw[aU,List.nil_append] at ih';cases A2 with
       | nil=>rw[aU,aU]
       | cons a A2=>rw[List.cons_append,aH,if_pos (h1 a (by simp) b (by simp)),ih'];rfl
   | cons a A1 =>
     cases B1 with
     | nil =>
       rw[bk,List.nil_append];have ih':=ih A1 [] (by simp at hn ⊢;omega) (by simp) (fun z hz=>h2 z (by simp[hz]));rw[bk,List.nil_append] at ih';cases B2 with
       | nil=>rw[bk,bk]
       | cons b B2=>rw[List.cons_append,aH,if_neg (by rw[h2 a (by simp) b (by simp)];simp),ih'];rfl
     | cons b B1 =>
       simp only[List.length_cons] at hn;rw[List.cons_append,List.cons_append,aH,aH]
       split
       · have ih':=ih (a::A1) B1 (by simp only[List.length_cons];omega) (fun a ha z hz=>h1 a ha z (by simp[hz])) h2
         rw[List.cons_append] at ih';rw[ih'];rfl
       · have ih':=ih A1 (b::B1) (by simp only[List.length_cons];omega) h1 (fun z hz=>h2 z (by simp[hz]))
         rw[List.cons_append] at ih';rw[ih'];rfl
theorem gH (A B:List α):(ao lt A B).length=A.length+B.length:=by
 suffices g:∀ (n:Nat) (A B:List α),A.length+B.length≤n→(ao lt A B).length=A.length+B.length from g _ A B (Nat.le_refl _)
 intro n
 induction n with
 | zero =>
   intro A B hn;have hA:A=[]:=List.length_eq_zero_iff.1 (by omega);subst hA;simp[aU]
 | succ n ih =>
   intro A B hn;cases A with
   | nil=>simp[aU]
   | cons a A =>
     cases B with
     | nil=>simp[bk]
     | cons b B =>
       simp only[List.length_cons] at hn;rw[aH]
       split
       · simp only[List.length_cons];rw[ih (a::A) B (by simp only[List.length_cons];omega)];simp only[List.length_cons];omega
       · simp only[List.length_cons];rw[ih A (b::B) (by simp only[List.length_cons];omega)];simp only[List.length_cons];omega
theorem qV (a:α) (B1 B2:List α) (h1:∀ b∈B1,lt b a=true) (h2:∀ b∈B2.head?,lt b a=false):ao lt [a] (B1++B2)=B1++a::B2:=by
 have:=eo (lt:=lt) [] [a] B1 B2 (fun z hz b hb=>by simp at hz;subst hz;exact h1 b hb) (by simp)
 rw[List.nil_append] at this;rw[this,aU];cases B2 with
 | nil=>rw[bk]
 | cons b B2=>rw[aH,if_neg (by rw[h2 b (by simp)];simp),aU]
theorem qY (x:α) (A1 A2:List α) (h1:∀ a∈A1,lt x a=false) (h2:∀ a∈A2,lt x a=true):ao lt (A1++A2) [x]=A1++x::A2:=by
 have:=eo (lt:=lt) A1 A2 [] [x] (by simp) (fun a ha b hb=>by simp at hb;subst hb;exact h1 a ha)
 rw[List.nil_append] at this;rw[this,bk];cases A2 with
 | nil=>rw[aU]
 | cons a A2=>rw[aH,if_pos (h2 a (by simp)),bk]
theorem vV (h:Weak lt) (A1 A2 B1 B2:List α) (hA:Up lt (A1++A2)) (hB:Up lt (B1++B2)) (h1:∀ a∈A2.head?,∀ b∈B1.getLast?,lt b a=true) (h2:∀ a∈A1.getLast?,∀ b∈B2.head?,lt b a=false) :
 ao lt (A1++A2) (B1++B2)=ao lt A1 B1++ao lt A2 B2:=by
 refine eo A1 A2 B1 B2 ?_ ?_
 · intro a ha b hb
   obtain⟨a0,A',rfl⟩:∃ a0 A',A2=a0::A':=by cases A2 with | nil=>simp at ha | cons c C=>exact⟨c,C,rfl⟩
   rcases List.eq_nil_or_concat B1 with rfl | ⟨B',z,rfl⟩
   · simp at hb
   · rw[List.concat_eq_append] at hB hb h1
     have k:lt z a0=true:=h1 a0 (by simp) z (by simp);have kb:b=z∨lt z b=false:=by
      rcases List.mem_append.1 hb with hb | hb
      · exact Or.inr ((List.pairwise_append.1 (List.pairwise_append.1 hB).1).2.2 b hb z (by simp))
      · simp at hb;exact Or.inl hb
     have ka:a=a0∨lt a a0=false:=by
      rcases List.mem_cons.1 ha with ha | ha
      · exact Or.inl ha
      · exact Or.inr ((List.pairwise_cons.1 (List.pairwise_append.1 hA).2.1).1 a ha)
     have k2:lt b a0=true:=by rcases kb with rfl | kb;exact k;exact h.n2 k kb
     rcases ka with rfl | ka
     · exact k2
     · exact h.n1 k2 ka
 · intro a ha b hb
   obtain⟨b0,B',rfl⟩:∃ a0 A',B2=a0::A':=by cases B2 with | nil=>simp at hb | cons c C=>exact⟨c,C,rfl⟩
   rcases List.eq_nil_or_concat A1 with rfl | ⟨A',z,rfl⟩
   · simp at ha
   · rw[List.concat_eq_append] at hA ha h2
     have k:lt b0 z=false:=h2 z (by simp) b0 (by simp);have ka:a=z∨lt z a=false:=by
      rcases List.mem_append.1 ha with ha | ha
      · exact Or.inr ((List.pairwise_append.1 (List.pairwise_append.1 hA).1).2.2 a ha z (by simp))
      · simp at ha;exact Or.inl ha
     have kb:b=b0∨lt b b0=false:=by
      rcases List.mem_cons.1 hb with hb | hb
      · exact Or.inl hb
      · exact Or.inr ((List.pairwise_cons.1 (List.pairwise_append.1 hB).2.1).1 b hb)
     cases e:lt b a with
     | false=>rfl
     | true =>
       have e2:lt b0 a=true:=by rcases kb with rfl | kb;exact e;exact h.n2 e kb
       have e3:lt b0 z=true:=by rcases ka with rfl | ka;exact e2;exact h.n1 e2 ka
       rw[k] at e3;cases e3
end Go.Proofs.YtbgaglcgennhiaaGreatDoor.Sy
end
section
namespace Go.Proofs.YtbgaglcgennhiaaGreatDoor.Sy
open Go Go.Proofs Go.Proofs.YtbgaglcgennhiaaGreatDoor Go.RowKit Go.Lib Go.Sort
variable {α:Type} [Inhabited α] {ai:α→List Value} {k:Nat} {W0 W W':World} {B:Nat} {d:Array α}
structure Enc (ai:α→List Value) (k:Nat):Prop where
 hk:∀ x,(ai x).length=k
 h1:∀ x,∀ v∈ai x,v.oneCell'=true
structure St (ai:α→List Value) (k:Nat) (W0:World) (B:Nat) (d:Array α) (W:World):Prop where
 grown:W0.grownBy W (some B)
 holds:HoldsK ai k W B 0 d
 lt:B < W0.heap.size
theorem kT {α:Type} (d:Array α) (k x:Nat) (hx:x < d.size):x*k+k≤d.size*k:=by
 have:=Nat.mul_le_mul_right k (show x+1≤d.size from hx);rwa [Nat.add_mul,Nat.one_mul] at this
theorem ei {W:World} {blk off:Nat} {F:Array Value} (h:Holds id W blk off F) (s:Nat) (vs:List Value) (hs:s+vs.length≤F.size):Holds id (W.setCells blk (off+s) vs) blk off (setMany F s vs):=by
 have e:W.setCells blk (off+s) vs=putRow id W blk off (setMany F s vs):=by
  conv=>lhs;rw[← putRow_self id W blk off F h]
  exact setCells_putRow _ _ _ _ _ _ hs
 rw[e];exact holds_putRow id W blk off F _ h (by rw[size_setMany])
theorem pE {a w:World} {b:Nat} (h:a.grownBy w (some b)) (i:Nat) (v:Value):a.grownBy (w.setCell ⟨b,i,none⟩ v) (some b) :=
 ⟨h.os,h.tape,h.output,by rw[World.size_setCell];exact h.size,fun k hk hne=>by rw[Below.heap_setCell w ⟨b,i,none⟩ v k (fun e=>hne (by rw[e]))];exact h.block k hk hne⟩
theorem l4 {a w w':World} {b:Nat} (h:a.grownBy w (some b)) (hb:Below w.heap.size w w'):a.grownBy w' (some b) :=
 ⟨by rw[hb.os,h.os],by rw[hb.tape,h.tape],by rw[hb.output,h.output],Nat.le_trans h.size hb.size,fun k hk hne=>by rw[hb.block k (Nat.lt_of_lt_of_le hk h.size)];exact h.block k hk hne⟩
theorem Enc.string:Enc (fun s:ByteArray=>[Value.string s]) 1:=⟨fun _=>rfl,fun _ v hv=>by simp at hv;subst hv;rfl⟩
theorem nC {F:Array Value} (h:Holds id W B 0 F) (hb:Below W.heap.size W W') (hB:B < W.heap.size):Holds id W' B 0 F:=fun j hj=>by
 have:=h j hj
 exact⟨by rw[hb.cell (p:=⟨B,0+j,none⟩) hB];exact this.1,by rw[hb.frozen (p:=⟨B,0+j,none⟩) hB];exact this.2⟩
theorem St.ltW (h:St ai k W0 B d W):B < W.heap.size:=Nat.lt_of_lt_of_le h.lt h.grown.size
theorem St.below (h:St ai k W0 B d W) (hb:Below W.heap.size W W'):St ai k W0 B d W':=⟨l4 h.grown hb,nC h.holds hb h.ltW,h.lt⟩
theorem St.drew (h:St ai k W0 B d W):St ai k W0 B d W.drew:=⟨⟨h.grown.os,h.grown.tape,h.grown.output,h.grown.size,h.grown.block⟩,h.holds,h.lt⟩
theorem St.drewN (h:St ai k W0 B d W) (n:Nat):St ai k W0 B d (W.drewN n):=⟨⟨h.grown.os,h.grown.tape,h.grown.output,h.grown.size,h.grown.block⟩,h.holds,h.lt⟩
theorem cR {a:World} {b:Nat}:∀ (vs:List Value) (i:Nat) (w:World),a.grownBy w (some b)→a.grownBy (w.setCells b i vs) (some b)
 | [],_,_,h=>h
 | v::r,i,_,h=>by rw[World.setCells];exact cR r (i+1) _ (pE h i v)
theorem St.swap (h:St ai k W0 B d W) (R:Enc ai k) (i j:Nat) (hi:i < d.size) (hj:j < d.size) :
 St ai k W0 B (swp d i j) ((W.setCells B (i*k) (ai d[j]!)).setCells B (j*k) (ai d[i]!)):=by
 refine⟨cR _ _ _ (cR _ _ _ h.grown),?_,h.lt⟩
 have a:=ei h.holds (i*k) (ai d[j]!) (by rw[R.hk,size_flatK];exact kT d k i hi);have b:=ei a (j*k) (ai d[i]!) (by rw[R.hk,size_setMany,size_flatK];exact kT d k j hj);rw[Nat.zero_add,Nat.zero_add,setMany_swp ai k R.hk d i j hi hj] at b;exact b
theorem St.cell {d:Array ByteArray} (h:St (fun s:ByteArray=>[Value.string s]) 1 W0 B d W) (i:Nat) (hi:i < d.size):W.cell? ⟨B,i,none⟩=some (.string d[i]!)∧W.frozen? ⟨B,i,none⟩=false:=by
 have:=HoldsK.cell h.holds hi (c:=0) (by omega)
 simpa using this
theorem St.swapS {d:Array ByteArray} (h:St (fun s:ByteArray=>[Value.string s]) 1 W0 B d W) (i j:Nat) (hi:i < d.size) (hj:j < d.size) :
 St (fun s:ByteArray=>[Value.string s]) 1 W0 B (swp d i j) ((W.setCell ⟨B,i,none⟩ (.string d[j]!)).setCell ⟨B,j,none⟩ (.string d[i]!)):=by
 have:=h.swap Enc.string i j hi hj
 simpa [World.setCells] using this
theorem f7 (X M Y:List α) (a b:α) (i j:Nat) (hi:i=X.length) (hj:j=X.length+1+M.length):swp (X++a::(M++b::Y)).toArray i j=(X++b::(M++a::Y)).toArray:=by
 subst hi;subst hj;apply Array.ext
 · simp[size_swp]
 · intro t h1 h2
   have g:=swp_get (d:=(X++a::(M++b::Y)).toArray) (i:=X.length) (j:=X.length+1+M.length) (by simp) (by simp;omega) t;rw[getElem!_pos _ t h1] at g;rw[g];have hb:((X++a::(M++b::Y)).toArray)[X.length+1+M.length]! = b:=by
    rw[getElem!_pos _ _ (by simp;omega)];simp only[List.getElem_toArray];rw[List.getElem_append_right (by omega),List.getElem_cons,dif_neg (by omega),List.getElem_append_right (by omega)];simp only[show X.length+1+M.length - X.length - 1 - M.length=0 by omega,List.getElem_cons_zero]
   have ha:((X++a::(M++b::Y)).toArray)[X.length]! = a:=by
    rw[getElem!_pos _ _ (by simp)];simp
   have hs:t < (X++a::(M++b::Y)).length:=by simpa [size_swp] using h1
   by_cases e1:t=X.length+1+M.length
   · subst e1
     simp only[if_pos,ha];simp only[List.getElem_toArray];rw[List.getElem_append_right (by omega),List.getElem_cons,dif_neg (by omega),List.getElem_append_right (by omega)];simp only[show X.length+1+M.length - X.length - 1 - M.length=0 by omega,List.getElem_cons_zero]
   · rw[if_neg e1]
     by_cases e2:t=X.length
     · subst e2
       rw[if_pos rfl,hb];simp
     · rw[if_neg e2,getElem!_pos _ t (by simpa using hs)]
       simp only[List.getElem_toArray]
       by_cases c1:t < X.length
       · rw[List.getElem_append_left c1,List.getElem_append_left c1]
       · rw[List.getElem_append_right (by omega),List.getElem_append_right (by omega),List.getElem_cons,List.getElem_cons,dif_neg (by omega),dif_neg (by omega)]
         by_cases c2:t - X.length - 1 < M.length
         · rw[List.getElem_append_left c2,List.getElem_append_left c2]
         · rw[List.getElem_append_right (by omega),List.getElem_append_right (by omega),List.getElem_cons,List.getElem_cons,dif_neg (by omega),dif_neg (by omega)]
structure Bel (w:World) where
 v:World
 h:Below w.heap.size w v
instance (w:World):Inhabited (Bel w):=⟨⟨w,Below.refl _ _⟩⟩
theorem wp_region_quiet_bel {P:Program} {id:Nat} {Q:Exit→Act→World→Prop} {a:Act} {w:World} {l:List Oper} (hm:P.follows .mixedOrders=true) (hB:Region.lexB .any l.toArray=true)
 (h:wpQuiet P l.toArray (fun w'=>∃ p:Bel w,w'=p.v) (fun a'=>∀ w',(∃ p:Bel w,w'=p.v)→Q .normal a' w') l a):(Code.region id l.toArray true).wp P Q a w :=
 wp_region_quiet (C:=fun w'=>∃ p:Bel w,w'=p.v) hm hB ⟨⟨w.drew,(Below.refl _ _).drew⟩,rfl⟩ (by simpa using h)
theorem Calls.bel_of {P:Program} {f:FuncId} {args:Array Value} {w:World} {p:Bel w} {v:Value}
 (h:Calls P f args p.v fun e w'=>e=.returned v∧Below p.v.heap.size p.v w'):Calls P f args p.v fun e w''=>e=.returned v∧∃ q:Bel w,w''=q.v :=
 h.mono fun _ w' ⟨he,hb⟩=>⟨he,⟨w',p.h.trans (hb.mono p.h.size)⟩,rfl⟩
theorem St.bel (h:St ai k W0 B d W) (p:Bel W):St ai k W0 B d p.v:=h.below p.h
def mU (a b:Nat):Nat→Array α→Array α
 | 0,d=>d
 | i+1,d=>swp (mU a b i d) (a+i) (b+i)
theorem mw (a b:Nat):∀ (i:Nat) (d:Array α),(mU a b i d).size=d.size
 | 0,_=>rfl
 | i+1,d=>by rw[mU,size_swp,mw a b i d]
theorem nu (X P M Q Y:List α) (n:Nat) (hP:P.length=n) (hQ:Q.length=n):∀ i,i≤n →
 mU X.length (X.length+P.length+M.length) i (X++P++M++Q++Y).toArray=(X++Q.take i++P.drop i++M++P.take i++Q.drop i++Y).toArray
 | 0,_=>by simp[mU]
 | i+1,h=>by
   rw[mU,nu X P M Q Y n hP hQ i (by omega)];have eP:P.drop i=P[i]::P.drop (i+1):=List.drop_eq_getElem_cons (by omega);have eQ:Q.drop i=Q[i]::Q.drop (i+1):=List.drop_eq_getElem_cons (by omega);have tP:P.take (i+1)=P.take i++[P[i]]:=by rw[List.take_add_one,List.getElem?_eq_getElem (by omega)];rfl
   have tQ:Q.take (i+1)=Q.take i++[Q[i]]:=by rw[List.take_add_one,List.getElem?_eq_getElem (by omega)];rfl
   have e1:X++Q.take i++P.drop i++M++P.take i++Q.drop i++Y=(X++Q.take i)++P[i]::((P.drop (i+1)++M++P.take i)++Q[i]::(Q.drop (i+1)++Y)):=by rw[eP,eQ];simp only[List.append_assoc,List.cons_append]
   rw[e1,f7 _ _ _ _ _ _ _ (by simp;omega) (by simp;omega),tP,tQ];simp only[List.append_assoc,List.cons_append,List.nil_append]
theorem lJ (X P M Q Y:List α) (n:Nat) (hP:P.length=n) (hQ:Q.length=n) :
 mU X.length (X.length+P.length+M.length) n (X++P++M++Q++Y).toArray=(X++Q++M++P++Y).toArray:=by
 rw[nu X P M Q Y n hP hQ n (Nat.le_refl _),List.take_of_length_le (by omega),List.take_of_length_le (by omega),List.drop_eq_nil_of_le (by omega),List.drop_eq_nil_of_le (by omega)]
 simp
end Go.Proofs.YtbgaglcgennhiaaGreatDoor.Sy
end
