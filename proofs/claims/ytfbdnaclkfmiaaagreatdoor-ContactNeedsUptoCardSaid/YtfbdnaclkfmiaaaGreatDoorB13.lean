import Derived.Test.YtfbdnaclkfmiaaaGreatDoorB04
import Derived.Lib.Join
import Derived.Lib.SplitLaws
import Derived.Test.YtfbdnaclkfmiaaaGreatDoorB12
import Derived.Test.YtfbdnaclkfmiaaaGreatDoorB11
import Derived.Test.YtfbdnaclkfmiaaaGreatDoorB03
section
namespace Go.Proofs.YtfbdnaclkfmiaaaGreatDoor.Tx
open Go.Lib
def chsF:Nat→List UInt8→List (List UInt8)
  | 0,_=>[]
  | f+1,l=>if l=[] then [] else l.take (dc l).2::chsF f (l.drop (dc l).2)
def chs (l:List UInt8):List (List UInt8):=chsF l.length l
theorem chsF_nil (f:Nat):chsF f []=[]:=by cases f<;>rfl
theorem chsF_succ (f:Nat) {l:List UInt8} (h:l≠[]):chsF (f+1) l=l.take (dc l).2::chsF f (l.drop (dc l).2):=if_neg h
theorem chsF_enough:∀ (f g:Nat) (l:List UInt8),l.length≤f→l.length≤g→chsF f l=chsF g l
  | f,g,[],_,_=>by rw[chsF_nil,chsF_nil]
  | 0,_,_::_,h,_=>by simp at h
  | _+1,0,_::_,_,h=>by simp at h
  | f+1,g+1,a::l,hf,hg=>by
    have:=dc_ge1 (a::l)
    rw[chsF_succ f (by simp),chsF_succ g (by simp),chsF_enough f g _ (by rw[List.length_drop];simp at hf ⊢;omega) (by rw[List.length_drop];simp at hg ⊢;omega)]
theorem chs_nil:chs []=[]:=rfl
theorem chs_step {l:List UInt8} (hl:l≠[]):chs l=l.take (dc l).2::chs (l.drop (dc l).2):=by
  cases l with
  | nil=>exact absurd rfl hl
  | cons a t =>
    have:=dc_ge1 (a::t)
    unfold chs
    rw[List.length_cons,chsF_succ _ hl,chsF_enough t.length _ _ (by rw[List.length_drop];simp;omega) (Nat.le_refl _)]
theorem len_ind {p:List UInt8→Prop} (h:∀ l,(∀ r:List UInt8,r.length < l.length→p r)→p l) (l:List UInt8):p l:=by
  have:∀ n,∀ l:List UInt8,l.length < n→p l:=by
    intro n
    induction n with
    | zero=>intro l hl;omega
    | succ n ih=>intro l hl;exact h l (fun r hr=>ih r (by omega))
  exact this (l.length+1) l (Nat.lt_succ_self _)
theorem drop_less {l:List UInt8} (hl:l≠[]):(l.drop (dc l).2).length < l.length:=by
  have:=dc_ge1 l
  have:0 < l.length:=by cases l with | nil=>exact absurd rfl hl | cons=>simp
  rw[List.length_drop];omega
theorem chs_flat (l:List UInt8):(chs l).flatten=l:=by
  induction l using len_ind with
  | h l ih =>
    by_cases hl:l=[]
    · subst hl;rfl
    · rw[chs_step hl,List.flatten_cons,ih _ (drop_less hl),List.take_append_drop]
theorem chs_len (l:List UInt8):(chs l).length≤l.length:=by
  induction l using len_ind with
  | h l ih =>
    by_cases hl:l=[]
    · subst hl;exact Nat.le_refl _
    · have h1:=drop_less hl
      have h2:=ih _ h1
      rw[chs_step hl,List.length_cons];omega
theorem chs_size (l:List UInt8):∀ c∈chs l,1≤c.length∧c.length≤4:=by
  induction l using len_ind with
  | h l ih =>
    by_cases hl:l=[]
    · subst hl;intro c hc;cases hc
    · intro c hc
      rw[chs_step hl,List.mem_cons] at hc
      rcases hc with rfl | hc
      · have h1:=dc_ge1 l
        have h2:=dc_le hl
        have h3:=dc_le4 l
        rw[List.length_take];omega
      · exact ih _ (drop_less hl) c hc
def frows:Nat→List UInt8→List (List UInt8)→List (List UInt8)
  | _,cur,[]=>[cur]
  | room,cur,c::t=>if room < c.length then cur::frows (74 - c.length) (32::c) t else frows (room - c.length) (cur++c) t
def rowsOf (l:List UInt8):List (List UInt8):=frows 75 [] (chs l)
def ends (rs:List (List UInt8)):List UInt8:=rs.flatMap (·++[13,10])
def foldOne (l:List UInt8):List UInt8:=ends (rowsOf l)
def foldL (m:List (List UInt8)):List UInt8:=m.flatMap foldOne
theorem ends_nil:ends []=[]:=rfl
theorem ends_cons (r:List UInt8) (t:List (List UInt8)):ends (r::t)=r++13::10::ends t:=by simp[ends]
theorem ends_append (a b:List (List UInt8)):ends (a++b)=ends a++ends b:=by simp[ends]
def fr:Nat→List (List UInt8)→List UInt8
  | _,[]=>[13,10]
  | room,c::t=>if room < c.length then [13,10,32]++c++fr (74 - c.length) t else c++fr (room - c.length) t
theorem frows_fr:∀ (cs:List (List UInt8)) (room:Nat) (cur:List UInt8),ends (frows room cur cs)=cur++fr room cs
  | [],_,cur=>by simp[frows,fr,ends]
  | c::t,room,cur=>by
    unfold frows fr
    by_cases h:room < c.length
    · rw[if_pos h,if_pos h,ends_cons,frows_fr t]
      simp
    · rw[if_neg h,if_neg h,frows_fr t]
      simp
theorem foldOne_fr (l:List UInt8):foldOne l=fr 75 (chs l):=by
  unfold foldOne rowsOf
  rw[frows_fr,List.nil_append]
theorem fr_nil (room:Nat):fr room []=[13,10]:=rfl
theorem fr_cut {room:Nat} {c:List UInt8} (t:List (List UInt8)) (h:room < c.length):fr room (c::t)=[13,10,32]++c++fr (74 - c.length) t:=by
  rw[fr,if_pos h]
theorem fr_on {room:Nat} {c:List UInt8} (t:List (List UInt8)) (h:¬ room < c.length):fr room (c::t)=c++fr (room - c.length) t:=by
  rw[fr,if_neg h]
theorem fr_size:∀ (cs:List (List UInt8)) (room:Nat),(∀ c∈cs,1≤c.length)→(fr room cs).length≤4*cs.flatten.length+2
  | [],_,_=>by simp[fr]
  | c::t,room,h=>by
    have h1:=h c (by simp)
    have ih:=fun r=>fr_size t r (fun d hd=>h d (by simp[hd]))
    unfold fr
    split
    · have:=ih (74 - c.length)
      simp only[List.length_append,List.flatten_cons,List.length_cons,List.length_nil]
      omega
    · have:=ih (room - c.length)
      simp only[List.length_append,List.flatten_cons]
      omega
theorem foldOne_size (l:List UInt8):(foldOne l).length≤4*l.length+2:=by
  have h:=fr_size (chs l) 75 (fun c hc=>(chs_size l c hc).1)
  rw[chs_flat] at h
  rw[foldOne_fr]
  exact h
section
variable {α:Type}
def gat:List α→List α→List Bool→List (List α)
  | cur,[],_=>[cur]
  | cur,_::_,[]=>[cur]
  | cur,p::ps,b::bs=>if b then cur::gat [p] ps bs else gat (cur++[p]) ps bs
theorem gat_nil (cur:List α) (bs:List Bool):gat cur [] bs=[cur]:=by cases bs<;>rfl
theorem gat_true (cur:List α) (p:α) (ps:List α) (bs:List Bool):gat cur (p::ps) (true::bs)=cur::gat [p] ps bs:=rfl
theorem gat_false (cur:List α) (p:α) (ps:List α) (bs:List Bool):gat cur (p::ps) (false::bs)=gat (cur++[p]) ps bs:=rfl
def ivs:Nat→Nat→List Bool→List (Nat × Nat)
  | o,k,[]=>[(o,k)]
  | o,k,b::bs=>if b then (o,k)::ivs k (k+1) bs else ivs o (k+1) bs
def piece2 (ps:List α) (x:Nat × Nat):List α:=(ps.drop x.1).take (x.2 - x.1)
theorem take_snoc {ps:List α} {p:α} {t:List α} {o k:Nat} (h:ps.drop k=p::t) (ho:o≤k):(ps.drop o).take (k+1 - o)=(ps.drop o).take (k - o)++[p]:=by
  have hk:(ps.drop o)[k - o]?=some p:=by
    rw[List.getElem?_drop,show o+(k - o)=k by omega]
    have:=congrArg List.head? h
    simpa using this
  rw[show k+1 - o=k - o+1 by omega,List.take_add_one,hk]
  rfl
theorem gat_ivs:∀ (bs:List Bool) (ps rest cur:List α) (o k:Nat),ps.drop k=rest→rest.length=bs.length→o≤k→cur=(ps.drop o).take (k - o)→gat cur rest bs=(ivs o k bs).map (piece2 ps)
  | [],ps,rest,cur,o,k,h1,h2,h3,h4=>by
    obtain rfl:rest=[]:=List.eq_nil_of_length_eq_zero h2
    rw[gat_nil,h4]
    rfl
  | b::bs,ps,[],cur,o,k,h1,h2,h3,h4=>by simp at h2
  | b::bs,ps,p::t,cur,o,k,h1,h2,h3,h4=>by
    have hd:ps.drop (k+1)=t:=by
      have:=congrArg (List.drop 1) h1
      simpa [List.drop_drop] using this
    cases b with
    | true =>
      rw[gat_true,gat_ivs bs ps t [p] k (k+1) hd (by simpa using h2) (by omega) (by rw[take_snoc h1 (Nat.le_refl _)];simp),h4]
      rfl
    | false =>
      rw[gat_false,gat_ivs bs ps t (cur++[p]) o (k+1) hd (by simpa using h2) (by omega) (by rw[h4,take_snoc h1 h3])]
      rfl
theorem gat_all (ps:List α) (bs:List Bool) (h:ps.length=bs.length):gat [] ps bs=(ivs 0 0 bs).map (piece2 ps) :=
  gat_ivs bs ps ps [] 0 0 rfl h (Nat.le_refl _) rfl
theorem ivs_ok:∀ (bs:List Bool) (o k:Nat),o≤k→∀ x∈ivs o k bs,x.1≤x.2∧x.2≤k+bs.length
  | [],o,k,h,x,hx=>by
    have:x=(o,k):=by simpa [ivs] using hx
    subst this
    exact⟨h,by simp⟩
  | b::bs,o,k,h,x,hx=>by
    cases b with
    | true =>
      have hx2:x∈(o,k)::ivs k (k+1) bs:=hx
      rcases List.mem_cons.1 hx2 with rfl | hx3
      · exact⟨h,by simp⟩
      · have:=ivs_ok bs k (k+1) (by omega) x hx3
        simp;omega
    | false =>
      have hx2:x∈ivs o (k+1) bs:=hx
      have:=ivs_ok bs o (k+1) (by omega) x hx2
      simp;omega
theorem ivs_len:∀ (bs:List Bool) (o k:Nat),1≤(ivs o k bs).length∧(ivs o k bs).length≤bs.length+1
  | [],_,_=>by simp[ivs]
  | b::bs,o,k=>by
    cases b with
    | true =>
      have:=ivs_len bs k (k+1)
      show 1≤((o,k)::ivs k (k+1) bs).length∧_
      simp
      show (ivs k (k+1) bs).length+1≤_
      omega
    | false =>
      have:=ivs_len bs o (k+1)
      show 1≤(ivs o (k+1) bs).length∧(ivs o (k+1) bs).length≤_
      simp
      omega
end
def brk:Nat→List (List UInt8)→List Bool
  | _,[]=>[]
  | n,c::t=>if n+c.length≤75 then false::brk (n+c.length) t else true::brk (1+c.length) t
theorem brk_len:∀ (cs:List (List UInt8)) (n:Nat),(brk n cs).length=cs.length
  | [],_=>rfl
  | c::t,n=>by
    unfold brk
    split<;>simp[brk_len t]
theorem gat_fr:∀ (cs:List (List UInt8)) (n:Nat) (cur:List (List UInt8)),n≤75→(∀ c∈cs,c.length≤4) →
    ∃ h t,gat cur cs (brk n cs)=h::t∧h.flatten++joinTail [13,10,32] (t.map List.flatten)++[13,10]=cur.flatten++fr (75 - n) cs
  | [],n,cur,_,_=>⟨cur,[],rfl,by simp[joinTail,fr]⟩
  | c::t,n,cur,hn,hc=>by
    have h4:=hc c (by simp)
    unfold brk
    by_cases h:n+c.length≤75
    · rw[if_pos h,gat_false]
      obtain⟨a,b,e1,e2⟩:=gat_fr t (n+c.length) (cur++[c]) h (fun d hd=>hc d (by simp[hd]))
      refine⟨a,b,e1,?_⟩
      rw[e2,fr_on t (by omega)]
      simp
      rw[show 75 - (n+c.length)=75 - n - c.length by omega]
    · rw[if_neg h,gat_true]
      obtain⟨a,b,e1,e2⟩:=gat_fr t (1+c.length) [c] (by omega) (fun d hd=>hc d (by simp[hd]))
      refine⟨cur,gat [c] t (brk (1+c.length) t),rfl,?_⟩
      rw[e1,fr_cut t (by omega)]
      have e3:joinTail [13,10,32] ((a::b).map List.flatten)=[13,10,32]++a.flatten++joinTail [13,10,32] (b.map List.flatten):=by simp[joinTail]
      rw[e3]
      have e4:a.flatten++(joinTail [13,10,32] (b.map List.flatten)++[13,10])=c++fr (75 - (1+c.length)) t:=by
        rw[← List.append_assoc,e2];simp
      rw[show 74 - c.length=75 - (1+c.length) by omega]
      simp only[List.append_assoc]
      rw[e4]
theorem fold_join (l:List UInt8):join ((gat [] (chs l) (brk 0 (chs l))).map List.flatten) [13,10,32]++[13,10]=foldOne l:=by
  obtain⟨h,t,e1,e2⟩:=gat_fr (chs l) 0 [] (by omega) (fun c hc=>(chs_size l c hc).2)
  rw[e1,List.map_cons,join_cons,e2,foldOne_fr]
  rfl
end Go.Proofs.YtfbdnaclkfmiaaaGreatDoor.Tx
end
section
namespace Go.Proofs.YtfbdnaclkfmiaaaGreatDoor.Tx
def valB (c:UInt8):List UInt8:=if c=92∨c=44∨c=59 then [92,c] else if c=10 then [92,110] else if c=13 then [] else [c]
def val (l:List UInt8):List UInt8:=l.flatMap valB
def unb (c:UInt8):Option UInt8:=if c=92∨c=44∨c=59 then some c else if c=110∨c=78 then some 10 else none
def plain:List UInt8→Option (List UInt8)
  | []=>some []
  | c::t=>if c=92 then (match t with
    | []=>none
    | d::u=>match unb d with
      | some x=>(plain u).map (x::·)
      | none=>none) else (plain t).map (c::·)
theorem plain_nil:plain []=some []:=rfl
theorem plain_end:plain [92]=none:=by unfold plain;rw[if_pos rfl]
theorem plain_bad {d:UInt8} (u:List UInt8) (h:unb d=none):plain (92::d::u)=none:=by
  unfold plain
  rw[if_pos rfl]
  simp only[h]
theorem plain_esc {d x:UInt8} (u:List UInt8) (h:unb d=some x):plain (92::d::u)=(plain u).map (x::·):=by
  conv=>lhs;unfold plain
  rw[if_pos rfl]
  simp only[h]
theorem plain_on {c:UInt8} (t:List UInt8) (h:c≠92):plain (c::t)=(plain t).map (c::·):=by
  conv=>lhs;unfold plain
  rw[if_neg h]
theorem plain_run:∀ (p t:List UInt8),(∀ c∈p,c≠92)→plain (p++t)=(plain t).map (p++·)
  | [],t,_=>by rw[List.nil_append];cases plain t<;>rfl
  | c::p,t,h=>by
    rw[List.cons_append,plain_on _ (h c (by simp)),plain_run p t (fun d hd=>h d (by simp[hd]))]
    cases plain t<;>rfl
def spl (sep:UInt8):Bool→List UInt8→List UInt8→List (List UInt8)
  | _,cur,[]=>[cur]
  | e,cur,c::t=>if c=sep∧e=false then cur::spl sep (c==92&&!e) [] t else spl sep (c==92&&!e) (cur++[c]) t
theorem spl_nil (sep:UInt8) (e:Bool) (cur:List UInt8):spl sep e cur []=[cur]:=rfl
theorem spl_cut {sep:UInt8} {e:Bool} (cur:List UInt8) {c:UInt8} (t:List UInt8) (h:c=sep∧e=false):spl sep e cur (c::t)=cur::spl sep (c==92&&!e) [] t:=by
  conv=>lhs;unfold spl
  rw[if_pos h]
theorem spl_on {sep:UInt8} {e:Bool} (cur:List UInt8) {c:UInt8} (t:List UInt8) (h:¬ (c=sep∧e=false)):spl sep e cur (c::t)=spl sep (c==92&&!e) (cur++[c]) t:=by
  conv=>lhs;unfold spl
  rw[if_neg h]
def cutsAt (sep:UInt8):Bool→List UInt8→List Bool
  | _,[]=>[]
  | e,c::t=>(c==sep&&!e)::cutsAt sep (c==92&&!e) t
theorem cutsAt_len (sep:UInt8):∀ (l:List UInt8) (e:Bool),(cutsAt sep e l).length=l.length
  | [],_=>rfl
  | c::t,e=>by unfold cutsAt;simp[cutsAt_len sep t]
def tails:List (List UInt8)→List (List UInt8)
  | []=>[]
  | h::t=>h::t.map List.tail
theorem spl_gat_in (sep:UInt8):∀ (l:List UInt8) (e:Bool) (x:UInt8) (cur:List UInt8),(gat (x::cur) l (cutsAt sep e l)).map List.tail=spl sep e cur l
  | [],e,x,cur=>by rw[gat_nil];rfl
  | c::t,e,x,cur=>by
    unfold cutsAt
    by_cases h:c=sep∧e=false
    · rw[spl_cut cur t h,show (c==sep&&!e)=true by rw[h.1,h.2];simp,gat_true,List.map_cons,spl_gat_in sep t _ c []]
      rfl
    · have hb:(c==sep&&!e)=false:=by
        rw[Bool.eq_false_iff]
        intro hb
        rw[Bool.and_eq_true,beq_iff_eq,Bool.not_eq_true'] at hb
        exact h hb
      rw[spl_on cur t h,hb,gat_false]
      exact spl_gat_in sep t _ x (cur++[c])
theorem spl_gat (sep:UInt8):∀ (l:List UInt8) (e:Bool) (cur:List UInt8),tails (gat cur l (cutsAt sep e l))=spl sep e cur l
  | [],e,cur=>by rw[gat_nil];rfl
  | c::t,e,cur=>by
    unfold cutsAt
    by_cases h:c=sep∧e=false
    · rw[spl_cut cur t h,show (c==sep&&!e)=true by rw[h.1,h.2];simp,gat_true]
      show cur::(gat [c] t _).map List.tail=_
      rw[spl_gat_in sep t _ c []]
    · have hb:(c==sep&&!e)=false:=by
        rw[Bool.eq_false_iff]
        intro hb
        rw[Bool.and_eq_true,beq_iff_eq,Bool.not_eq_true'] at hb
        exact h hb
      rw[spl_on cur t h,hb,gat_false]
      exact spl_gat sep t _ (cur++[c])
def split1 (sep:UInt8) (l:List UInt8):List (List UInt8):=spl sep false [] l
end Go.Proofs.YtfbdnaclkfmiaaaGreatDoor.Tx
end
section
namespace Go.Proofs.YtfbdnaclkfmiaaaGreatDoor
open Go.RowKit Tx
def plainV (l:List UInt8):Value:=match plain l with
  | some x=>.tuple #[.string ⟨x.toArray⟩,.int .i64 0]
  | none=>.tuple #[.string ⟨#[]⟩,.int .i64 18]
theorem plainV_some {l x:List UInt8} (h:plain l=some x):plainV l=.tuple #[.string ⟨x.toArray⟩,.int .i64 0]:=by unfold plainV;rw[h]
theorem plainV_none {l:List UInt8} (h:plain l=none):plainV l=.tuple #[.string ⟨#[]⟩,.int .i64 18]:=by unfold plainV;rw[h]
def PStand (l:List UInt8) (k:Nat) (o:List UInt8):Prop:=plain l=(plain (l.drop k)).map (o++·)
theorem PStand.start (l:List UInt8):PStand l 0 []:=by unfold PStand;rw[List.drop_zero];cases plain l<;>rfl
theorem PStand.done {l o:List UInt8} {k:Nat} (h:PStand l k o) (hk:l.length≤k):plain l=some o:=by
  unfold PStand at h
  rw[List.drop_eq_nil_of_le hk,plain_nil] at h
  simpa using h
section
variable {s:ByteArray} {k:Nat} {o:List UInt8}
theorem PStand.on (h:PStand s.data.toList k o) (hk:k < s.size) (h1:(s[k]'hk)≠92):PStand s.data.toList (k+1) (o++[s[k]'hk]):=by
  unfold PStand at h ⊢
  rw[h,drop_step hk,plain_on _ h1]
  cases plain (List.drop (k+1) s.data.toList)<;>simp
theorem PStand.last (h:PStand s.data.toList k o) (hk:k < s.size) (h1:(s[k]'hk)=92) (h2:¬ k+1 < s.size):plain s.data.toList=none:=by
  unfold PStand at h
  rw[h,drop_step hk,h1,List.drop_eq_nil_of_le (by rw[← Lib.size_eq];omega),plain_end]
  rfl
theorem PStand.bad (h:PStand s.data.toList k o) (hk:k < s.size) (h1:(s[k]'hk)=92) (h2:k+1 < s.size) (h3:unb (s[k+1]'h2)=none):plain s.data.toList=none:=by
  unfold PStand at h
  rw[h,drop_step hk,h1,drop_step h2,plain_bad _ h3]
  rfl
end
theorem unb_of {c:UInt8}:((c=92∨c=44∨c=59)∧unb c=some c)∨((c=110∨c=78)∧unb c=some 10)∨(c≠92∧c≠44∧c≠59∧c≠110∧c≠78∧unb c=none):=by
  unfold unb
  by_cases h1:c=92∨c=44∨c=59
  · rw[if_pos h1];exact .inl ⟨h1,rfl⟩
  rw[if_neg h1]
  by_cases h2:c=110∨c=78
  · rw[if_pos h2];exact .inr (.inl ⟨h2,rfl⟩)
  · rw[if_neg h2]
    exact .inr (.inr ⟨fun e=>h1 (.inl e),fun e=>h1 (.inr (.inl e)),fun e=>h1 (.inr (.inr e)),fun e=>h2 (.inl e),fun e=>h2 (.inr e),rfl⟩)
end Go.Proofs.YtfbdnaclkfmiaaaGreatDoor
end
section
namespace Go.Proofs.YtfbdnaclkfmiaaaGreatDoor
open Go.RowKit Tx
def sts (l:List (List UInt8)):List ByteArray:=l.map fun x=>⟨x.toArray⟩
theorem sts_snoc (l:List (List UInt8)) (x:List UInt8):sts (l++[x])=sts l++[⟨x.toArray⟩]:=by simp[sts]
theorem sts_len (l:List (List UInt8)):(sts l).length=l.length:=by simp[sts]
def SStand (sep:UInt8) (l:List UInt8) (acc:List (List UInt8)) (f k:Nat) (e:Bool):Prop:=f≤k∧k≤l.length∧acc.length≤f∧split1 sep l=acc++spl sep e ((l.drop f).take (k - f)) (l.drop k)
theorem SStand.start (sep:UInt8) (l:List UInt8):SStand sep l [] 0 0 false:=⟨Nat.le_refl _,Nat.zero_le _,Nat.le_refl _,by simp[split1]⟩
theorem SStand.done {sep:UInt8} {l:List UInt8} {acc:List (List UInt8)} {f k:Nat} {e:Bool} (h:SStand sep l acc f k e) (hk:l.length≤k):split1 sep l=acc++[l.drop f]:=by
  obtain⟨h1,h2,_,h3⟩:=h
  rw[h3,List.drop_eq_nil_of_le hk,spl_nil,List.take_of_length_le (by rw[List.length_drop];omega)]
theorem SStand.cut {sep c:UInt8} {l:List UInt8} {acc:List (List UInt8)} {f k:Nat} {e:Bool} (h:SStand sep l acc f k e) (hc:l[k]?=some c) (hs:c=sep∧e=false):SStand sep l (acc++[(l.drop f).take (k - f)]) (k+1) (k+1) (c==92&&!e):=by
  obtain⟨h1,h2,h4,h3⟩:=h
  obtain⟨hk,he⟩:=List.getElem?_eq_some_iff.1 hc
  refine⟨Nat.le_refl _,hk,by rw[List.length_append,List.length_singleton];omega,?_⟩
  rw[h3,List.drop_eq_getElem_cons hk,he,spl_cut _ _ hs]
  simp
theorem SStand.on {sep c:UInt8} {l:List UInt8} {acc:List (List UInt8)} {f k:Nat} {e:Bool} (h:SStand sep l acc f k e) (hc:l[k]?=some c) (hs:¬ (c=sep∧e=false)):SStand sep l acc f (k+1) (c==92&&!e):=by
  obtain⟨h1,h2,h4,h3⟩:=h
  obtain⟨hk,he⟩:=List.getElem?_eq_some_iff.1 hc
  refine⟨by omega,hk,h4,?_⟩
  have hd:l.drop k=c::l.drop (k+1):=by rw[List.drop_eq_getElem_cons hk,he]
  rw[h3,hd,spl_on _ _ hs,take_snoc hd h1]
end Go.Proofs.YtfbdnaclkfmiaaaGreatDoor
end