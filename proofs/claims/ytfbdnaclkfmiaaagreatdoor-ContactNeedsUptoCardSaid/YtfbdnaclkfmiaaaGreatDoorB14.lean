import Derived.Test.YtfbdnaclkfmiaaaGreatDoorB13
import Derived.Test.YtfbdnaclkfmiaaaGreatDoorB03
import Derived.Test.YtfbdnaclkfmiaaaGreatDoorB12
import Derived.Test.YtfbdnaclkfmiaaaGreatDoorB11
section
namespace Go.Proofs.YtfbdnaclkfmiaaaGreatDoor.Tx
open Go.Lib
def rowsA:List UInt8→List UInt8→Option (List (List UInt8))
  | cur,[]=>if cur=[] then some [] else none
  | cur,c::t=>if c=10 then none else if c=13 then (match t with
    | []=>none
    | d::u=>if d=10 then (rowsA [] u).map (cur::·) else none) else rowsA (cur++[c]) t
theorem rowsA_nil (cur:List UInt8):rowsA cur []=if cur=[] then some [] else none:=rfl
theorem rowsA_13 (cur:List UInt8):rowsA cur [13]=none:=by unfold rowsA;rw[if_neg (by decide),if_pos rfl]
theorem rowsA_end (cur u:List UInt8):rowsA cur (13::10::u)=(rowsA [] u).map (cur::·):=by
  conv=>lhs;unfold rowsA
  rw[if_neg (by decide),if_pos rfl]
  simp only[if_true]
theorem rowsA_on (cur:List UInt8) {c:UInt8} (t:List UInt8) (h1:c≠10) (h2:c≠13):rowsA cur (c::t)=rowsA (cur++[c]) t:=by
  conv=>lhs;unfold rowsA
  rw[if_neg h1,if_neg h2]
def clean (r:List UInt8):Prop:=∀ c∈r,c≠10∧c≠13
theorem rowsA_run:∀ (p t cur:List UInt8),clean p→rowsA cur (p++t)=rowsA (cur++p) t
  | [],t,cur,_=>by simp
  | c::p,t,cur,h=>by
    rw[List.cons_append,rowsA_on cur _ (h c (by simp)).1 (h c (by simp)).2,rowsA_run p t _ (fun d hd=>h d (by simp[hd]))]
    simp
theorem rowsA_ends:∀ rs:List (List UInt8),(∀ r∈rs,clean r)→rowsA [] (ends rs)=some rs
  | [],_=>rfl
  | r::rs,h=>by
    rw[ends_cons,rowsA_run r _ [] (h r (by simp)),rowsA_end,rowsA_ends rs (fun x hx=>h x (by simp[hx]))]
    rfl
def cont:List UInt8→Bool
  | []=>false
  | c::_=>c==32||c==9
def addLast (acc:List (List UInt8)) (x:List UInt8):List (List UInt8):=acc.dropLast++[acc.getLastD []++x]
theorem addLast_snoc (a:List (List UInt8)) (y x:List UInt8):addLast (a++[y]) x=a++[y++x]:=by simp[addLast]
theorem addLast_len {acc:List (List UInt8)} (h:acc≠[]) (x:List UInt8):(addLast acc x).length=acc.length:=by
  have:0 < acc.length:=List.length_pos_iff.2 h
  simp[addLast];omega
def linesA:List (List UInt8)→List (List UInt8)→Option (List (List UInt8))
  | acc,[]=>some acc
  | acc,r::t=>if cont r then (if acc=[] then none else linesA (addLast acc r.tail) t) else linesA (acc++[r]) t
theorem linesA_nil (acc:List (List UInt8)):linesA acc []=some acc:=rfl
theorem linesA_more {acc:List (List UInt8)} {r:List UInt8} (t:List (List UInt8)) (h:cont r=true) (ha:acc≠[]):linesA acc (r::t)=linesA (addLast acc r.tail) t:=by
  conv=>lhs;unfold linesA
  rw[if_pos h,if_neg ha]
theorem linesA_new (acc:List (List UInt8)) {r:List UInt8} (t:List (List UInt8)) (h:cont r=false):linesA acc (r::t)=linesA (acc++[r]) t:=by
  conv=>lhs;unfold linesA
  rw[h];rfl
def unfold(l:List UInt8):Option (List (List UInt8)):=(rowsA [] l).bind (linesA [])
def jn:List (List UInt8)→List UInt8
  | []=>[]
  | r::t=>r++t.flatMap List.tail
theorem jn_snoc {cur:List (List UInt8)} (h:cur≠[]) (r:List UInt8):jn (cur++[r])=jn cur++r.tail:=by
  cases cur with
  | nil=>exact absurd rfl h
  | cons a t=>simp[jn]
instance (r:List UInt8):Decidable (clean r):=List.decidableBAll _ r
end Go.Proofs.YtfbdnaclkfmiaaaGreatDoor.Tx
end
section
namespace Go.Proofs.YtfbdnaclkfmiaaaGreatDoor.Tx
open Go.Lib
theorem ends_valid:∀ rs:List (List UInt8),(∀ r∈rs,valid r=true)→valid (ends rs)=true
  | [],_=>valid_some ch_nil
  | r::t,h=>by
    rw[ends_cons]
    exact(valid_append (h r (by simp)) (valid_append (a:=[13,10]) (by decide +kernel) (ends_valid t (fun x hx=>h x (by simp[hx])))).1).1
def Fine (l:List UInt8):Prop:=clean l∧valid l=true∧cont l=false
end Go.Proofs.YtfbdnaclkfmiaaaGreatDoor.Tx
end
section
namespace Go.Proofs.YtfbdnaclkfmiaaaGreatDoor.Vc
open Go.Lib Tx
abbrev Par:=List UInt8 × List UInt8
abbrev Pr:=List UInt8 × List UInt8 × List Par × List UInt8
instance decPr:DecidableEq Pr:=@instDecidableEqProd _ _ inferInstance (@instDecidableEqProd _ _ inferInstance (@instDecidableEqProd _ _ inferInstance inferInstance))
def lett (c:UInt8):Bool:=(decide (65≤c.toNat)&&decide (c.toNat≤90))||(decide (97≤c.toNat)&&decide (c.toNat≤122))
def wc (c:UInt8):Bool:=lett c||(decide (48≤c.toNat)&&decide (c.toNat≤57))||c==45
def upC (c:UInt8):UInt8:=if 97≤c.toNat∧c.toNat≤122 then c - 32 else c
def up (l:List UInt8):List UInt8:=l.map upC
def free (c:UInt8):Bool:=c != 34&&c != 59&&c != 58&&c != 44
def pvalL:List UInt8→Option (List UInt8 × List UInt8)
  | 34::q=>match q.dropWhile (· != 34) with
    | []=>none
    | _::m=>some (q.takeWhile (· != 34),m)
  | r=>some (r.takeWhile free,r.dropWhile free)
def parL (l:List UInt8):Option (Par × List UInt8) :=
  if l.takeWhile wc=[] then none else
  match l.dropWhile wc with
  | 61::r=>(pvalL r).map fun v=>((up (l.takeWhile wc),v.1),v.2)
  | _=>none
def parsF:Nat→List Par→List UInt8→Option (List Par × List UInt8)
  | 0,ps,l=>some (ps,l)
  | f+1,ps,l=>match l with
    | 59::r=>match parL r with
      | some p=>parsF f (ps++[p.1]) p.2
      | none=>none
    | l=>some (ps,l)
def headL (l:List UInt8):List UInt8 × List UInt8 × List UInt8 :=
  match l.takeWhile wc,l.dropWhile wc with
  | c::w,46::m=>(c::w,up (m.takeWhile wc),m.dropWhile wc)
  | w,r=>([],up w,r)
def propL (l:List UInt8):Option Pr :=
  if (headL l).2.1=[] then none else
  match parsF (l.length+1) [] (headL l).2.2 with
  | some (ps,58::v)=>some ((headL l).1,(headL l).2.1,ps,v)
  | _=>none
def beginT:List UInt8:=[66,69,71,73,78,58,86,67,65,82,68]
def endT:List UInt8:=[69,78,68,58,86,67,65,82,68]
def versT:List UInt8:=[86,69,82,83,73,79,78,58,52,46,48]
def beginN:List UInt8:=[66,69,71,73,78]
def versN:List UInt8:=[86,69,82,83,73,79,78]
def fourT:List UInt8:=[52,46,48]
abbrev RSt:=List (List Pr) × Option (Bool × List Pr)
def stepV (st:RSt) (l:List UInt8):Nat × RSt:=match st.2 with
  | none=>if up l≠beginT then (20,st) else if 60≤st.1.length then (4,st) else (0,(st.1,some (true,[])))
  | some (true,c)=>match propL l with
    | some p=>if p.2.1=versN∧p.2.2.2=fourT then (0,(st.1,some (false,c))) else (20,st)
    | none=>(20,st)
  | some (false,c)=>if up l=endT then (0,(st.1++[c],none)) else match propL l with
    | none=>(17,st)
    | some p=>if p.2.1=beginN∨p.2.1=versN then (20,st) else if 40≤c.length then (4,st) else (0,(st.1,some (false,c++[p])))
def runV:Nat→RSt→List (List UInt8)→List (List Pr) × Nat × Nat
  | n,st,[]=>match st.2 with
    | none=>(st.1,0,0)
    | some _=>([],n,20)
  | n,st,l::t=>if (stepV st l).1=0 then runV (n+1) (stepV st l).2 t else ([],n+1,(stepV st l).1)
def readV (s:List UInt8):List (List Pr) × Nat × Nat :=
  if 20000 < s.length then ([],0,4) else if valid s=false then ([],0,3) else match unfold s with
  | none=>([],0,17)
  | some ls=>runV 0 ([],none) ls
def quoteB (v:List UInt8):Bool:=decide (v=[])||v.any (fun c=>c==59||c==58||c==44)
def pvalT (v:List UInt8):List UInt8:=if quoteB v then 34::(v++[34]) else v
def parT (p:Par):List UInt8:=59::(p.1++61::pvalT p.2)
def groupT (g:List UInt8):List UInt8:=if g=[] then [] else g++[46]
def lineT (p:Pr):List UInt8:=groupT p.1++(p.2.1++(p.2.2.1.flatMap parT++58::p.2.2.2))
def mayB (p:Pr):Bool:=decide (propL (lineT p)=some p)&&valid (lineT p)&&(lineT p).all (fun c=>c != 10&&c != 13)&&decide (p.2.1≠beginN)&&decide (p.2.1≠versN)&&decide (up (lineT p)≠endT)
def cardT (c:List Pr):List (List UInt8):=beginT::versT::(c.map lineT++[endT])
def rightV (l:List (List Pr)):Bool:=decide (l.length≤60)&&l.all (fun c=>decide (c.length≤40)&&c.all mayB)
def writeV (l:List (List Pr)):List UInt8 × Nat :=
  if rightV l then (if 20000 < (foldL (l.flatMap cardT)).length then ([],4) else (foldL (l.flatMap cardT),0)) else ([],12)
theorem right_iff {l:List (List Pr)}:rightV l=true↔l.length≤60∧∀ c∈l,c.length≤40∧∀ p∈c,mayB p=true:=by
  unfold rightV
  simp only[Bool.and_eq_true,decide_eq_true_eq,List.all_eq_true]
end Go.Proofs.YtfbdnaclkfmiaaaGreatDoor.Vc
end
section
namespace Go.Proofs.YtfbdnaclkfmiaaaGreatDoor.Vc
open Go.Lib Tx
theorem up_word:∀ c:UInt8,wc c=true→wc (upC c)=true∧upC (upC c)=upC c:=by
  have h:∀ n:Nat,n < 256→wc (UInt8.ofNat n)=true→wc (upC (UInt8.ofNat n))=true∧upC (upC (UInt8.ofNat n))=upC (UInt8.ofNat n):=by decide +kernel
  intro c hc
  have:=h c.toNat c.toNat_lt (by simpa using hc)
  simpa using this
def Word (w:List UInt8):Prop:=w≠[]∧∀ c∈w,wc c=true
def NameV (n:List UInt8):Prop:=Word n∧up n=n
theorem Word.up {w:List UInt8} (h:Word w):NameV (up w):=by
  refine⟨⟨fun e=>h.1 (List.map_eq_nil_iff.1 e),fun c hc=>?_⟩,?_⟩
  · obtain⟨d,hd,rfl⟩:=List.mem_map.1 hc
    exact(up_word d (h.2 d hd)).1
  · unfold Vc.up
    rw[List.map_map]
    exact List.map_congr_left fun c hc=>(up_word c (h.2 c hc)).2
theorem take_all {p:UInt8→Bool} {w r:List UInt8} (h:∀ c∈w,p c=true) (hr:∀ c t,r=c::t→p c=false):(w++r).takeWhile p=w∧(w++r).dropWhile p=r:=by
  induction w with
  | nil =>
    cases r with
    | nil=>exact⟨rfl,rfl⟩
    | cons c t =>
      have:=hr c t rfl
      constructor
      · rw[List.nil_append,List.takeWhile_cons,this];rfl
      · rw[List.nil_append,List.dropWhile_cons,this];rfl
  | cons a w ih =>
    have ha:=h a List.mem_cons_self
    obtain⟨h1,h2⟩:=ih fun c hc=>h c (List.mem_cons_of_mem _ hc)
    constructor
    · rw[List.cons_append,List.takeWhile_cons,ha,if_pos rfl,h1]
    · rw[List.cons_append,List.dropWhile_cons,ha,if_pos rfl,h2]
theorem flat_len (ts:List Par):ts.length≤(ts.flatMap parT).length:=by
  induction ts with
  | nil=>exact Nat.le_refl _
  | cons a ts ih =>
    rw[List.flatMap_cons,List.length_append,List.length_cons]
    unfold parT at ih ⊢
    simp only[List.length_cons]
    omega
end Go.Proofs.YtfbdnaclkfmiaaaGreatDoor.Vc
end
section
namespace Go.Proofs.YtfbdnaclkfmiaaaGreatDoor
open Go.RowKit Tx
def slv (g cap:Nat) (x:Nat × Nat):Value:=.slice (some ⟨g,x.1,none⟩) (x.2 - x.1) (cap - x.1)
def slvs (g cap:Nat) (l:List (Nat × Nat)):List Value:=l.map (slv g cap)
theorem slvs_snoc (g cap:Nat) (l:List (Nat × Nat)) (x:Nat × Nat):slvs g cap (l++[x])=slvs g cap l++[slv g cap x]:=by simp[slvs]
theorem slvs_get {g cap:Nat} {l:List (Nat × Nat)} {j:Nat} {x:Nat × Nat} (h:l[j]?=some x):(slvs g cap l)[j]?=some (slv g cap x):=by simp[slvs,h]
attribute [irreducible] slvs
theorem infoSS:(Tryz.prog.info? 23).map (fun i=>(i.zero,i.size,i.bytes))=some (some (.slice none 0 0),1,24):=by kernel_rfl
theorem infoSB:(Tryz.prog.info? 50).map (fun i=>(i.zero,i.size,i.bytes))=some (some (.slice none 0 0),1,24):=by kernel_rfl
theorem drop_bit {bs:List Bool} {k:Nat} {b:Bool} (h:bs[k]?=some b):bs.drop k=b::bs.drop (k+1):=by
  obtain⟨hk,he⟩:=List.getElem?_eq_some_iff.1 h
  rw[List.drop_eq_getElem_cons hk,he]
def GStand (bs:List Bool) (R:List (Nat × Nat)) (o k:Nat):Prop:=R.length≤k∧ivs 0 0 bs=R++ivs o k (bs.drop k)
theorem GStand.start (bs:List Bool):GStand bs [] 0 0:=⟨Nat.le_refl _,rfl⟩
theorem GStand.cut {bs:List Bool} {R:List (Nat × Nat)} {o k:Nat} (h:GStand bs R o k) (hb:bs[k]?=some true):GStand bs (R++[(o,k)]) k (k+1):=by
  refine⟨by rw[List.length_append,List.length_singleton];have:=h.1;omega,?_⟩
  rw[h.2,drop_bit hb]
  show R++((o,k)::ivs k (k+1) _)=_
  simp
theorem GStand.on {bs:List Bool} {R:List (Nat × Nat)} {o k:Nat} (h:GStand bs R o k) (hb:bs[k]?=some false):GStand bs R o (k+1):=by
  refine⟨by have:=h.1;omega,?_⟩
  rw[h.2,drop_bit hb]
  rfl
theorem GStand.done {bs:List Bool} {R:List (Nat × Nat)} {o k:Nat} (h:GStand bs R o k) (hk:bs.length≤k):ivs 0 0 bs=R++[(o,k)]:=by
  rw[h.2,List.drop_eq_nil_of_le hk]
  rfl
def Rows2 (C:Nat) (w:World) (v:Value) (g cap:Nat) (l:List (Nat × Nat)):Prop :=
  ∃ g' cap',v=.slice (some ⟨g',0,none⟩) l.length cap'∧l.length≤cap'∧C≤g'∧g' < w.heap.size∧∀ j x,l[j]?=some x→w.cell? ⟨g',j,none⟩=some (slv g cap x)
theorem Rows2.of {C:Nat} {w:World} {v:Value} {g cap:Nat} {l:List (Nat × Nat)} {e:TypeId} (h:w.ownsRow C e 1 v l.length (slvs g cap l)) (hl:0 < l.length):Rows2 C w v g cap l:=by
  rcases h.2 with ⟨_,h0⟩ | ⟨g',cap',cur,rfl,hC,hg,hc,_⟩
  · omega
  · refine⟨g',cap',rfl,hc,hC,lt_of_block hg,fun j x hj=>?_⟩
    have:=h.cells (g:=g') rfl j _ (slvs_get hj)
    rwa [add_at,Nat.zero_add] at this
theorem Rows2.keep {C:Nat} {w w':World} {v:Value} {g cap:Nat} {l:List (Nat × Nat)} (h:Rows2 C w v g cap l) (hb:Below w.heap.size w w'):Rows2 C w' v g cap l:=by
  obtain⟨g',cap',rfl,h1,h2,h3,h4⟩:=h
  exact⟨g',cap',rfl,h1,h2,Nat.lt_of_lt_of_le h3 hb.size,fun j x hj=>by rw[hb.cell (p:=⟨g',j,none⟩) h3];exact h4 j x hj⟩
theorem grown_btw {b C:Nat} {w w1:World} (h:w.grownBy w1 (some b)) (hC:C≤w.heap.size) (hb:b < C):Btw b C w w1 :=
  ⟨⟨h.os,h.tape,h.output,h.size,fun g hg=>h.block g (by omega) (by simp;omega)⟩,fun g h1 h2=>h.block g (by omega) (by simp;omega)⟩
theorem grown_self (w:World) (r:Option Nat):w.grownBy w r:=⟨rfl,rfl,rfl,Nat.le_refl _,fun _ _ _=>rfl⟩
theorem grown_set {w:World} {b o:Nat} (u:Value):w.grownBy (w.setCell ⟨b,o,none⟩ u) (some b) :=
  ⟨rfl,rfl,rfl,by simp[World.setCell],fun k _ hk=>Below.heap_setCell _ _ _ _ (fun e=>hk (by simp[e]))⟩
set_option maxHeartbeats 4000000 in
set_option maxRecDepth 100000 in
theorem gatherR_any (g cap n b C:Nat) (xs:List ByteArray) (bs:List Bool) (Inv:Nat→World→Prop) (w:World) (hC:C≤w.heap.size) (hbC:b < C) (hg:g < C) (hgb:g≠b)
    (hx:∀ j x,xs[j]?=some x→w.cell? ⟨g,j,none⟩=some (.string x)) (hn:xs.length=n) (hbs:bs.length=n) (hcap:n≤cap) (hcap2:cap≤maxLen) (hn2:n≤1000000000000)
    (hinv:Inv 0 w) (hkeep:∀ k W W',W'.heap[b]?=W.heap[b]?→Inv k W→Inv k W')
    (hcall:∀ k x B W,xs[k]?=some x→bs[k]?=some B→Inv k W→C≤W.heap.size→Btw b C w W→Calls Tryz.prog 190 #[.string x,.pointer (some ⟨b,0,none⟩)] W fun e W'=>e=.returned (.bool B)∧Inv (k+1) W'∧W.grownBy W' (some b)) :
    Calls Tryz.prog 188 #[.slice (some ⟨g,0,none⟩) n cap,.func (.func 190) #[] #[.pointer (some ⟨b,0,none⟩)]] w fun e w'=>∃ v,e=.returned v∧Rows2 C w' v g cap (ivs 0 0 bs)∧Inv n w'∧Btw b C w w':=by
  obtain⟨i0,hi,hz0,hz1,hz2⟩:=info_parts infoSS
  unfold maxLen at hcap2
  have HX:=Lib.hid hx
  have HLn:=Lib.hid (fun (k:Nat) (h:k < n)=>(⟨xs[k],List.getElem?_eq_getElem (by omega)⟩:∃ x,xs[k]?=some x))
  have HBn:=Lib.hid (fun (k:Nat) (h:k < n)=>(⟨bs[k],List.getElem?_eq_getElem (by omega)⟩:∃ x,bs[k]?=some x))
  have HK:=Lib.hid hkeep
  have HC:=Lib.hid hcall
  have HI:=Lib.hid hinv
  have HN:=Lib.hid hbs
  clear hx hkeep hcall hinv hn hbs
  go_enter Tryz.func188,Tryz.ntmps188
  go_wp2_with fail
  go_loopw [5,6,11] (fun rv ov at_ wr=>∃ (k o:Nat) (R:List (Nat × Nat)) (v:Value),rv=v∧ov=.int .i64 o∧at_=.int .i64 k∧o≤k∧k≤n∧(o=0∨o < n)∧Hid (GStand bs R o k)∧Hid (wr.ownsRow C 23 1 v R.length (slvs g cap R))∧Hid (Inv k wr)∧Btw b C w wr) (fun _ _ at_ _=>n - (intOf at_).toNat)
  case atStart=>exact⟨0,0,[],_,rfl,rfl,rfl,Nat.le_refl _,Nat.zero_le _,.inl rfl,GStand.start _,by unfold Hid;rw[show slvs g cap []=[] from by unfold slvs;rfl];exact World.ownsRow_nil _ _ _ _,HI,Btw.refl _ _ _⟩
  case round =>
    obtain⟨k,o,R,rv,hrv,rfl,rfl,hok,hk,ho0,hst,hown,hiv,ht⟩:=hrel
    have hrv2:=hrv.symm
    subst hrv2
    have hsw:=ht.below.size
    have hCr:C≤wr.heap.size:=by omega
    have hRl:R.length≤1000000000000:=by have:=hst.out.1;omega
    have HRL:=Lib.hid hRl
    clear hRl
    by_cases hlt:k < n
    · obtain⟨x,hx⟩:=HLn.out k hlt
      obtain⟨B,hB⟩:=HBn.out k hlt
      have c0:=HX.out k x hx
      rw[← World.cell?_of_block (w:=w) (w':=wr) (a:=⟨g,k,none⟩) (ht.keeps (g:=g) hgb hg)] at c0
      have HCk:=Lib.hid (HC.out k x B wr hx hB hiv.out hCr ht)
      cases B with
      | true =>
        have HS:=Lib.hid (hst.out.cut hB)
        clear hx hB
        go_wp2_with fail
        refine HCk.out.mono ?_
        rintro e w1 ⟨rfl,hiv1,hg1⟩
        have hC1:C≤w1.heap.size:=by have:=hg1.size;omega
        have hown1:=hown.out.kept hg1 (by
          cases hob:rv.ownBlock with
          | none=>exact .inl rfl
          | some j=>exact .inr (fun e=>by have:=(World.ownsRow.lt hown.out j hob).1;injection e with e;omega))
        have HO1:=Lib.hid hown1
        have HV1:=Lib.hid hiv1
        have ht1:=ht.trans (grown_btw hg1 hCr hbC)
        clear hown1 hiv1
        go_wp2_with (at_builtin;refine push_one Tryz.underlying196 hi hz0 hz1 hz2 rfl rfl _ _ rfl C rv R.length (slvs g cap R) _ w1 rfl HO1.out rfl rfl (by have:=HRL.out;omega) HRL.out hC1 ?_)
        intro v' w2 h1 h2
        have R1:Hid (w2.ownsRow C 23 1 v' (R++[(o,k)]).length (slvs g cap (R++[(o,k)]))):=by
          unfold Hid
          rw[slvs_snoc,List.length_append,List.length_singleton]
          exact h1
        have HV2:=Lib.hid (HK.out (k+1) w1 w2 (h2.block b hbC) HV1.out)
        clear h1
        go_wp2_with fail
        go_roundw
        case rel=>exact⟨k+1,k,_,_,rfl,rfl,by go_num,by omega,by omega,.inr hlt,HS,R1,HV2,ht1.trans (Btw.of h2 (by omega) (Nat.le_refl _))⟩
        case measure=>simp[intOf];omega
      | false =>
        have HS:=Lib.hid (hst.out.on hB)
        clear hx hB
        go_wp2_with fail
        refine HCk.out.mono ?_
        rintro e w1 ⟨rfl,hiv1,hg1⟩
        have hown1:=hown.out.kept hg1 (by
          cases hob:rv.ownBlock with
          | none=>exact .inl rfl
          | some j=>exact .inr (fun e=>by have:=(World.ownsRow.lt hown.out j hob).1;injection e with e;omega))
        have HO1:=Lib.hid hown1
        have HV1:=Lib.hid hiv1
        have ht1:=ht.trans (grown_btw hg1 hCr hbC)
        clear hown1 hiv1
        go_wp2_with fail
        go_roundw
        case rel=>exact⟨k+1,o,R,_,rfl,rfl,by go_num,by omega,by omega,ho0,HS,HO1,HV1,ht1⟩
        case measure=>simp[intOf];omega
    · obtain rfl:k=n:=by omega
      have HA:=Lib.hid (hst.out.done (Nat.le_of_eq HN.out))
      by_cases hco:cap=o
      · obtain rfl:o=0:=by omega
        obtain rfl:k=0:=by omega
        subst hco
        go_wp2_with (at_builtin;refine push_one Tryz.underlying196 hi hz0 hz1 hz2 rfl rfl _ _ rfl C rv R.length (slvs g 0 R) _ wr rfl hown.out rfl rfl (by have:=HRL.out;omega) HRL.out hCr ?_)
        intro v' w2 h1 h2
        have R1:Hid (Rows2 C w2 v' g 0 (ivs 0 0 bs)):=by
          unfold Hid
          rw[HA.out]
          refine Rows2.of (e:=23) ?_ (by simp)
          rw[slvs_snoc,List.length_append,List.length_singleton]
          exact h1
        clear h1
        go_wp2_with fail
        go_ret
        exact⟨_,rfl,R1.out,HK.out _ wr w2 (h2.block b hbC) hiv.out,ht.trans (Btw.of h2 (by omega) (Nat.le_refl _))⟩
      · go_wp2_with (at_builtin;refine push_one Tryz.underlying196 hi hz0 hz1 hz2 rfl rfl _ _ rfl C rv R.length (slvs g cap R) _ wr rfl hown.out rfl rfl (by have:=HRL.out;omega) HRL.out hCr ?_)
        intro v' w2 h1 h2
        have R1:Hid (Rows2 C w2 v' g cap (ivs 0 0 bs)):=by
          unfold Hid
          rw[HA.out]
          refine Rows2.of (e:=23) ?_ (by simp)
          rw[slvs_snoc,List.length_append,List.length_singleton]
          exact h1
        clear h1
        go_wp2_with fail
        go_ret
        exact⟨_,rfl,R1.out,HK.out _ wr w2 (h2.block b hbC) hiv.out,ht.trans (Btw.of h2 (by omega) (Nat.le_refl _))⟩
set_option maxHeartbeats 4000000 in
set_option maxRecDepth 100000 in
theorem gatherB_any (g cap n a b C:Nat) (xs:List UInt8) (bs:List Bool) (Inv:Nat→World→Prop) (w:World) (hC:C≤w.heap.size) (hbC:b < C) (hg:g < C) (hgb:g≠b)
    (hx:∀ j x,xs[j]?=some x→w.cell? ⟨g,j,none⟩=some (.int .u8 x.toNat)) (hn:xs.length=n) (hbs:bs.length=n) (hcap:n≤cap) (hcap2:cap≤maxLen) (hn2:n≤1000000000000)
    (hinv:Inv 0 w) (hkeep:∀ k W W',W'.heap[b]?=W.heap[b]?→Inv k W→Inv k W')
    (hcall:∀ k x B W,xs[k]?=some x→bs[k]?=some B→Inv k W→C≤W.heap.size→Btw b C w W→Calls Tryz.prog 112 #[.int .u8 x.toNat,.pointer (some ⟨a,0,none⟩),.pointer (some ⟨b,0,none⟩)] W fun e W'=>e=.returned (.bool B)∧Inv (k+1) W'∧W.grownBy W' (some b)) :
    Calls Tryz.prog 111 #[.slice (some ⟨g,0,none⟩) n cap,.func (.func 112) #[] #[.pointer (some ⟨a,0,none⟩),.pointer (some ⟨b,0,none⟩)]] w fun e w'=>∃ v,e=.returned v∧Rows2 C w' v g cap (ivs 0 0 bs)∧Inv n w'∧Btw b C w w':=by
  obtain⟨i0,hi,hz0,hz1,hz2⟩:=info_parts infoSB
  unfold maxLen at hcap2
  have HX:=Lib.hid hx
  have HLn:=Lib.hid (fun (k:Nat) (h:k < n)=>(⟨xs[k],List.getElem?_eq_getElem (by omega)⟩:∃ x,xs[k]?=some x))
  have HBn:=Lib.hid (fun (k:Nat) (h:k < n)=>(⟨bs[k],List.getElem?_eq_getElem (by omega)⟩:∃ x,bs[k]?=some x))
  have HK:=Lib.hid hkeep
  have HC:=Lib.hid hcall
  have HI:=Lib.hid hinv
  have HN:=Lib.hid hbs
  clear hx hkeep hcall hinv hn hbs
  go_enter Tryz.func111,Tryz.ntmps111
  go_wp2_with fail
  go_loopw [5,6,11] (fun rv ov at_ wr=>∃ (k o:Nat) (R:List (Nat × Nat)) (v:Value),rv=v∧ov=.int .i64 o∧at_=.int .i64 k∧o≤k∧k≤n∧(o=0∨o < n)∧Hid (GStand bs R o k)∧Hid (wr.ownsRow C 50 1 v R.length (slvs g cap R))∧Hid (Inv k wr)∧Btw b C w wr) (fun _ _ at_ _=>n - (intOf at_).toNat)
  case atStart=>exact⟨0,0,[],_,rfl,rfl,rfl,Nat.le_refl _,Nat.zero_le _,.inl rfl,GStand.start _,by unfold Hid;rw[show slvs g cap []=[] from by unfold slvs;rfl];exact World.ownsRow_nil _ _ _ _,HI,Btw.refl _ _ _⟩
  case round =>
    obtain⟨k,o,R,rv,hrv,rfl,rfl,hok,hk,ho0,hst,hown,hiv,ht⟩:=hrel
    have hrv2:=hrv.symm
    subst hrv2
    have hsw:=ht.below.size
    have hCr:C≤wr.heap.size:=by omega
    have hRl:R.length≤1000000000000:=by have:=hst.out.1;omega
    have HRL:=Lib.hid hRl
    clear hRl
    by_cases hlt:k < n
    · obtain⟨x,hx⟩:=HLn.out k hlt
      obtain⟨B,hB⟩:=HBn.out k hlt
      have c0:=HX.out k x hx
      rw[← World.cell?_of_block (w:=w) (w':=wr) (a:=⟨g,k,none⟩) (ht.keeps (g:=g) hgb hg)] at c0
      have hcl:=HC.out k x B wr hx hB hiv.out hCr ht
      obtain⟨z,hz⟩:∃ z:Int,(x.toNat:Int)=z:=⟨_,rfl⟩
      rw[hz] at c0 hcl
      have HCk:=Lib.hid hcl
      clear hcl hz
      cases B with
      | true =>
        have HS:=Lib.hid (hst.out.cut hB)
        clear hx hB
        go_wp2_with fail
        refine HCk.out.mono ?_
        rintro e w1 ⟨rfl,hiv1,hg1⟩
        have hC1:C≤w1.heap.size:=by have:=hg1.size;omega
        have hown1:=hown.out.kept hg1 (by
          cases hob:rv.ownBlock with
          | none=>exact .inl rfl
          | some j=>exact .inr (fun e=>by have:=(World.ownsRow.lt hown.out j hob).1;injection e with e;omega))
        have HO1:=Lib.hid hown1
        have HV1:=Lib.hid hiv1
        have ht1:=ht.trans (grown_btw hg1 hCr hbC)
        clear hown1 hiv1
        go_wp2_with (at_builtin;refine push_one Tryz.underlying132 hi hz0 hz1 hz2 rfl rfl _ _ rfl C rv R.length (slvs g cap R) _ w1 rfl HO1.out rfl rfl (by have:=HRL.out;omega) HRL.out hC1 ?_)
        intro v' w2 h1 h2
        have R1:Hid (w2.ownsRow C 50 1 v' (R++[(o,k)]).length (slvs g cap (R++[(o,k)]))):=by
          unfold Hid
          rw[slvs_snoc,List.length_append,List.length_singleton]
          exact h1
        have HV2:=Lib.hid (HK.out (k+1) w1 w2 (h2.block b hbC) HV1.out)
        clear h1
        go_wp2_with fail
        go_roundw
        case rel=>exact⟨k+1,k,_,_,rfl,rfl,by go_num,by omega,by omega,.inr hlt,HS,R1,HV2,ht1.trans (Btw.of h2 (by omega) (Nat.le_refl _))⟩
        case measure=>simp[intOf];omega
      | false =>
        have HS:=Lib.hid (hst.out.on hB)
        clear hx hB
        go_wp2_with fail
        refine HCk.out.mono ?_
        rintro e w1 ⟨rfl,hiv1,hg1⟩
        have hown1:=hown.out.kept hg1 (by
          cases hob:rv.ownBlock with
          | none=>exact .inl rfl
          | some j=>exact .inr (fun e=>by have:=(World.ownsRow.lt hown.out j hob).1;injection e with e;omega))
        have HO1:=Lib.hid hown1
        have HV1:=Lib.hid hiv1
        have ht1:=ht.trans (grown_btw hg1 hCr hbC)
        clear hown1 hiv1
        go_wp2_with fail
        go_roundw
        case rel=>exact⟨k+1,o,R,_,rfl,rfl,by go_num,by omega,by omega,ho0,HS,HO1,HV1,ht1⟩
        case measure=>simp[intOf];omega
    · obtain rfl:k=n:=by omega
      have HA:=Lib.hid (hst.out.done (Nat.le_of_eq HN.out))
      by_cases hco:cap=o
      · obtain rfl:o=0:=by omega
        obtain rfl:k=0:=by omega
        subst hco
        go_wp2_with (at_builtin;refine push_one Tryz.underlying132 hi hz0 hz1 hz2 rfl rfl _ _ rfl C rv R.length (slvs g 0 R) _ wr rfl hown.out rfl rfl (by have:=HRL.out;omega) HRL.out hCr ?_)
        intro v' w2 h1 h2
        have R1:Hid (Rows2 C w2 v' g 0 (ivs 0 0 bs)):=by
          unfold Hid
          rw[HA.out]
          refine Rows2.of (e:=50) ?_ (by simp)
          rw[slvs_snoc,List.length_append,List.length_singleton]
          exact h1
        clear h1
        go_wp2_with fail
        go_ret
        exact⟨_,rfl,R1.out,HK.out _ wr w2 (h2.block b hbC) hiv.out,ht.trans (Btw.of h2 (by omega) (Nat.le_refl _))⟩
      · go_wp2_with (at_builtin;refine push_one Tryz.underlying132 hi hz0 hz1 hz2 rfl rfl _ _ rfl C rv R.length (slvs g cap R) _ wr rfl hown.out rfl rfl (by have:=HRL.out;omega) HRL.out hCr ?_)
        intro v' w2 h1 h2
        have R1:Hid (Rows2 C w2 v' g cap (ivs 0 0 bs)):=by
          unfold Hid
          rw[HA.out]
          refine Rows2.of (e:=50) ?_ (by simp)
          rw[slvs_snoc,List.length_append,List.length_singleton]
          exact h1
        clear h1
        go_wp2_with fail
        go_ret
        exact⟨_,rfl,R1.out,HK.out _ wr w2 (h2.block b hbC) hiv.out,ht.trans (Btw.of h2 (by omega) (Nat.le_refl _))⟩
end Go.Proofs.YtfbdnaclkfmiaaaGreatDoor
end
section
namespace Go.Proofs.YtfbdnaclkfmiaaaGreatDoor
open Go.RowKit Tx
def FStand (l:List UInt8) (k room:Nat) (o:List UInt8):Prop:=foldOne l=o++fr room (chs (l.drop k))
theorem FStand.start (l:List UInt8):FStand l 0 75 []:=by unfold FStand;rw[List.drop_zero,foldOne_fr];rfl
theorem FStand.done {l o:List UInt8} {k room:Nat} (h:FStand l k room o) (hk:l.length≤k):foldOne l=o++[13,10]:=by
  unfold FStand at h
  rw[List.drop_eq_nil_of_le hk,chs_nil,fr_nil] at h
  exact h
theorem chs_at {l:List UInt8} {k n:Nat} (hk:k < l.length) (hn:(dc (l.drop k)).2=n):chs (l.drop k)=(l.drop k).take n::chs (l.drop (k+n)):=by
  rw[chs_step (drop_ne hk),hn,List.drop_drop]
theorem take_len {l:List UInt8} {k n:Nat} (hk:k+n≤l.length):((l.drop k).take n).length=n:=by
  rw[List.length_take,List.length_drop];omega
theorem FStand.on {l o:List UInt8} {k room n:Nat} (h:FStand l k room o) (hk:k < l.length) (hn:(dc (l.drop k)).2=n) (hkn:k+n≤l.length) (hr:n≤room):FStand l (k+n) (room - n) (o++(l.drop k).take n):=by
  unfold FStand at h ⊢
  rw[h,chs_at hk hn,fr_on _ (by rw[take_len hkn];omega),take_len hkn,List.append_assoc]
theorem FStand.cut {l o:List UInt8} {k room n:Nat} (h:FStand l k room o) (hk:k < l.length) (hn:(dc (l.drop k)).2=n) (hkn:k+n≤l.length) (hr:room < n):FStand l (k+n) (74 - n) (o++[13,10,32]++(l.drop k).take n):=by
  unfold FStand at h ⊢
  rw[h,chs_at hk hn,fr_cut _ (by rw[take_len hkn];omega),take_len hkn]
  simp
def btl (xs:List ByteArray):List (List UInt8):=xs.map fun b=>b.data.toList
def bulk (xs:List ByteArray):Nat:=(xs.map fun b=>b.size+3).sum
theorem bulk_snoc (xs:List ByteArray) (b:ByteArray):bulk (xs++[b])=bulk xs+(b.size+3):=by simp[bulk]
theorem bulk_take (xs:List ByteArray) (k:Nat):bulk (xs.take k)≤bulk xs:=by
  have h:bulk xs=bulk (xs.take k)+bulk (xs.drop k):=by
    conv=>lhs;rw[← List.take_append_drop k xs]
    unfold bulk
    rw[List.map_append,List.sum_append]
  omega
theorem bulk_one {xs:List ByteArray} {b:ByteArray} {k:Nat} (h:xs[k]?=some b):b.size+3≤bulk xs:=by
  have h1:=bulk_take xs (k+1)
  rw[List.take_add_one,h,Option.toList_some,bulk_snoc] at h1
  omega
theorem bulk_len (xs:List ByteArray):3*xs.length≤bulk xs:=by
  induction xs with
  | nil=>simp
  | cons b t ih=>simp only[bulk,List.map_cons,List.sum_cons,List.length_cons] at ih ⊢;omega
theorem foldL_take {xs:List ByteArray} {b:ByteArray} {k:Nat} (h:xs[k]?=some b):foldL (btl (xs.take (k+1)))=foldL (btl (xs.take k))++foldOne b.data.toList:=by
  rw[List.take_add_one,h]
  simp[btl,foldL]
theorem foldL_size:∀ xs:List ByteArray,(foldL (btl xs)).length≤4*bulk xs
  | []=>by simp[btl,foldL]
  | b::t=>by
    have h1:=foldOne_size b.data.toList
    have h2:=foldL_size t
    rw[← Lib.size_eq] at h1
    simp only[btl,foldL,bulk,List.map_cons,List.flatMap_cons,List.length_append,List.sum_cons] at h2 ⊢
    omega
end Go.Proofs.YtfbdnaclkfmiaaaGreatDoor
end