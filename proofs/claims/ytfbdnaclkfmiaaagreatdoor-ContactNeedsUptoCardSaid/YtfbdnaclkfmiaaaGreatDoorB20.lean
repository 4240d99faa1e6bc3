import Derived.Test.YtfbdnaclkfmiaaaGreatDoorB19
import Derived.Sort.KeysCollected
import Derived.Sort.Walk0
import Derived.Lib.SlicesCompact
import Derived.Lib.Strings
section
namespace Go.Proofs.YtfbdnaclkfmiaaaGreatDoor.Ct
open Go.Proofs.YtfbdnaclkfmiaaaGreatDoor Tx Vc
def kname:Nat→List UInt8
  | 0=>nFN
  | 1=>nN
  | 2=>nNICK
  | 3=>nIMPP
  | 4=>nEMAIL
  | 5=>nTEL
  | 6=>nCAT
  | 7=>nNOTE
  | _=>nUID
def kstart (i:Nat):List UInt8:=if i=3 then xmppT else []
def ksep (i:Nat):List UInt8:=if i=1 then [59] else if i=6 then [44] else []
def hasB (i:Nat) (p:Pr):Bool:=decide (p.1=[])&&decide (p.2.2.1=[])&&decide (p.2.1=kname i)&&decide (p.2.2.2.take (kstart i).length=kstart i)
def fiveC (c:Con):List (List UInt8)→Nat × Con
  | [a,b,[],[],[]]=>(0,{ c with family:=a,given:=b })
  | _=>(12,c)
def readC (i:Nat) (v:List UInt8) (c:Con):Nat × Con :=
  if i=1 then (match manyL 59 v with
    | none=>(18,c)
    | some l=>fiveC c l)
  else if i=6 then (match manyL 44 v with
    | none=>(18,c)
    | some l=>(0,{ c with groups:=c.groups++groupsL l }))
  else if i=3 then (match plain (v.drop 5) with
    | none=>(18,c)
    | some t=>if (Jd.bareL t).2=0 then (0,{ c with jid:=(Jd.bareL t).1 }) else ((Jd.bareL t).2,c))
  else match plain v with
    | none=>(18,c)
    | some t=>(0,setC (kname i) t c)
def allK:List Nat:=[0,1,2,3,4,5,6,7,8]
def findF:List Nat→List Pr→List (Nat × Pr) × List Pr
  | _,[]=>([],[])
  | free,p::t=>match free.findIdx? (fun i=>hasB i p) with
    | none=>((findF free t).1,p::(findF free t).2)
    | some a=>((free.getD a 0,p)::(findF (free.eraseIdx a) t).1,(findF (free.eraseIdx a) t).2)
def runR:Con→List (Nat × Pr)→Nat × Con
  | c,[]=>(0,c)
  | c,x::t=>if (readC x.1 x.2.2.2.2 c).1=0 then runR (readC x.1 x.2.2.2.2 c).2 t else ((readC x.1 x.2.2.2.2 c).1,c)
def ofF (l:List Pr):Con × Nat :=
  if (runR noneC (findF allK l).1).1=0 then (if rightC { (runR noneC (findF allK l).1).2 with other:=(findF allK l).2 } then ({ (runR noneC (findF allK l).1).2 with other:=(findF allK l).2 },0) else (noneC,12)) else (noneC,(runR noneC (findF allK l).1).1)
theorem five_ok {c:Con} {l:List (List UInt8)} (h:∀ a b,l≠[a,b,[],[],[]]):fiveC c l=(12,c):=by
  unfold fiveC
  split
  · exact absurd rfl (h _ _)
  · rfl
theorem five_other (c:Con) (o:List Pr) (l:List (List UInt8)):fiveC { c with other:=o } l=((fiveC c l).1,{ (fiveC c l).2 with other:=o }):=by
  by_cases h:∃ a b,l=[a,b,[],[],[]]
  · obtain⟨a,b,rfl⟩:=h
    rfl
  · have h2:∀ a b,l≠[a,b,[],[],[]]:=fun a b e=>h ⟨a,b,e⟩
    rw[five_ok h2,five_ok h2]
theorem five_groups (c:Con) (l:List (List UInt8)):(fiveC c l).2.groups=c.groups:=by
  by_cases h:∃ a b,l=[a,b,[],[],[]]
  · obtain⟨a,b,rfl⟩:=h
    rfl
  · rw[five_ok (fun a b e=>h ⟨a,b,e⟩)]
theorem set_other (n t:List UInt8) (c:Con) (o:List Pr):setC n t { c with other:=o }={ setC n t c with other:=o }:=by
  unfold setC
  split
  · rfl
  split
  · rfl
  split
  · rfl
  split
  · rfl
  split
  · rfl
  · rfl
theorem set_groups (n t:List UInt8) (c:Con):(setC n t c).groups=c.groups:=by
  unfold setC
  split
  · rfl
  split
  · rfl
  split
  · rfl
  split
  · rfl
  split
  · rfl
  · rfl
theorem read_other (i:Nat) (v:List UInt8) (c:Con) (o:List Pr):readC i v { c with other:=o }=((readC i v c).1,{ (readC i v c).2 with other:=o }):=by
  unfold readC
  by_cases h1:i=1
  · rw[if_pos h1,if_pos h1]
    cases manyL 59 v with
    | none=>rfl
    | some l=>exact five_other c o l
  rw[if_neg h1,if_neg h1]
  by_cases h6:i=6
  · rw[if_pos h6,if_pos h6]
    cases manyL 44 v with
    | none=>rfl
    | some l=>rfl
  rw[if_neg h6,if_neg h6]
  by_cases h3:i=3
  · rw[if_pos h3,if_pos h3]
    cases plain (v.drop 5) with
    | none=>rfl
    | some t =>
      by_cases hb:(Jd.bareL t).2=0
      · simp only[if_pos hb]
      · simp only[if_neg hb]
  rw[if_neg h3,if_neg h3]
  cases plain v with
  | none=>rfl
  | some t=>simp only[set_other]
theorem read_groups {i:Nat} (hi:i≠6) (v:List UInt8) (c:Con):(readC i v c).2.groups=c.groups:=by
  unfold readC
  by_cases h1:i=1
  · rw[if_pos h1]
    cases manyL 59 v with
    | none=>rfl
    | some l=>exact five_groups c l
  rw[if_neg h1,if_neg hi]
  by_cases h3:i=3
  · rw[if_pos h3]
    cases plain (v.drop 5) with
    | none=>rfl
    | some t =>
      by_cases hb:(Jd.bareL t).2=0
      · simp only[if_pos hb]
      · simp only[if_neg hb]
  rw[if_neg h3]
  cases plain v with
  | none=>rfl
  | some t=>exact set_groups _ _ _
theorem kcases {i:Nat} (h:i < 9):i=0∨i=1∨i=2∨i=3∨i=4∨i=5∨i=6∨i=7∨i=8:=by omega
theorem kname_inj:∀ {i j:Nat},i < 9→j < 9→kname i=kname j→i=j:=by
  have h:∀ i,i < 9→∀ j,j < 9→kname i=kname j→i=j:=by decide
  exact @fun i j hi hj e=>h i hi j hj e
theorem kname_mem:∀ {i:Nat},i < 9→kname i∈namesK:=by
  have h:∀ i,i < 9→kname i∈namesK:=by decide
  exact @fun i hi=>h i hi
theorem kname_of {n:List UInt8} (h:n∈namesK):∃ i,i < 9∧kname i=n:=by
  rcases kind_cases h with rfl | rfl | rfl | rfl | rfl | rfl | rfl | rfl | rfl
  · exact⟨0,by omega,rfl⟩
  · exact⟨1,by omega,rfl⟩
  · exact⟨2,by omega,rfl⟩
  · exact⟨3,by omega,rfl⟩
  · exact⟨4,by omega,rfl⟩
  · exact⟨5,by omega,rfl⟩
  · exact⟨7,by omega,rfl⟩
  · exact⟨8,by omega,rfl⟩
  · exact⟨6,by omega,rfl⟩
theorem has_iff {i:Nat} {p:Pr}:hasB i p=true↔p.1=[]∧p.2.2.1=[]∧p.2.1=kname i∧p.2.2.2.take (kstart i).length=kstart i:=by
  unfold hasB
  simp only[Bool.and_eq_true,decide_eq_true_eq,and_assoc]
theorem known_iff {p:Pr}:knownB p=true↔p.1=[]∧p.2.2.1=[]∧p.2.1∈namesK∧(p.2.1≠nIMPP∨p.2.2.2.take 5=xmppT):=by
  unfold knownB
  simp only[Bool.and_eq_true,Bool.or_eq_true,decide_eq_true_eq,and_assoc,List.contains_eq_mem]
theorem has_known {i:Nat} (hi:i < 9) {p:Pr} (h:hasB i p=true):knownB p=true:=by
  obtain⟨h1,h2,h3,h4⟩:=has_iff.1 h
  refine known_iff.2 ⟨h1,h2,by rw[h3];exact kname_mem hi,?_⟩
  by_cases e:i=3
  · subst e
    exact .inr h4
  · refine .inl ?_
    rw[h3]
    intro e2
    exact e (kname_inj (j:=3) hi (by omega) e2)
theorem known_has {p:Pr} (h:knownB p=true):∃ i,i < 9∧hasB i p=true:=by
  obtain⟨h1,h2,h3,h4⟩:=known_iff.1 h
  obtain⟨i,hi,e⟩:=kname_of h3
  refine⟨i,hi,has_iff.2 ⟨h1,h2,e.symm,?_⟩⟩
  by_cases e3:i=3
  · subst e3
    rcases h4 with h4 | h4
    · exact absurd e.symm h4
    · exact h4
  · unfold kstart
    rw[if_neg e3]
    rfl
theorem take_read {i:Nat} (hi:i < 9) {p:Pr} (h:hasB i p=true) {c:Con} (hg:i=6→c.groups=[]):takeC c p=readC i p.2.2.2 c:=by
  obtain⟨_,_,h3,h4⟩:=has_iff.1 h
  unfold takeC readC
  by_cases h1:i=1
  · subst h1
    rw[if_pos (show p.2.1=nN from h3),if_pos rfl]
    cases manyL 59 p.2.2.2 with
    | none=>rfl
    | some l =>
      by_cases h:∃ a b,l=[a,b,[],[],[]]
      · obtain⟨a,b,rfl⟩:=h
        rfl
      · simp only[five_ok (c:=c) (fun a b e=>h ⟨a,b,e⟩)]
        split
        · rename_i e;cases e
        · rename_i e;exact absurd ⟨_,_,Option.some.inj e⟩ h
        · rfl
  rw[if_neg (show p.2.1≠nN by rw[h3];exact fun e=>h1 (kname_inj (j:=1) hi (by omega) e)),if_neg h1]
  by_cases h6:i=6
  · rw[if_pos h6]
    have e6:p.2.1=nCAT:=by rw[h3,h6];rfl
    rw[if_pos e6]
    cases manyL 44 p.2.2.2 with
    | none=>rfl
    | some l=>simp only[hg h6,List.nil_append]
  rw[if_neg (show p.2.1≠nCAT by rw[h3];exact fun e=>h6 (kname_inj (j:=6) hi (by omega) e)),if_neg h6]
  by_cases h33:i=3
  · rw[if_pos h33]
    have e3:p.2.1=nIMPP:=by rw[h3,h33];rfl
    subst h33
    have e5:p.2.2.2=xmppT++p.2.2.2.drop 5:=by
      conv=>lhs;rw[← List.take_append_drop 5 p.2.2.2]
      rw[show p.2.2.2.take 5=xmppT from h4]
    have hp:plain p.2.2.2=(plain (p.2.2.2.drop 5)).map (xmppT++·):=by
      conv=>lhs;rw[e5]
      exact plain_run _ _ (by decide)
    rw[hp]
    cases plain (p.2.2.2.drop 5) with
    | none=>rfl
    | some t =>
      simp only[Option.map_some]
      rw[if_pos e3]
      rfl
  rw[if_neg h33]
  have e3:p.2.1≠nIMPP:=by rw[h3];exact fun e=>h33 (kname_inj (j:=3) hi (by omega) e)
  cases plain p.2.2.2 with
  | none=>rfl
  | some t =>
    show (if p.2.1=nIMPP then _ else (0,setC p.2.1 t c))=_
    rw[if_neg e3,h3]
theorem find_run:∀ (l:List Pr) (c:Con) (o:List Pr) (seen:List (List UInt8)) (free:List Nat),free.Nodup→(∀ i∈free,i < 9)→(∀ i,i < 9→(i∈free↔kname i ∉ seen))→(6∈free→c.groups=[]) →
    (runK ({ c with other:=o },seen) l).1=(runR c (findF free l).1).1∧((runR c (findF free l).1).1=0→(runK ({ c with other:=o },seen) l).2.1={ (runR c (findF free l).1).2 with other:=o++(findF free l).2 })
  | [],c,o,seen,free,_,_,_,_=>by
    refine⟨rfl,fun _=>?_⟩
    simp[findF,runR,runK]
  | p::t,c,o,seen,free,hd,h9,hs,h6=>by
    cases hf:free.findIdx? (fun i=>hasB i p) with
    | none =>
      have hk:knownS seen p=false:=by
        cases hk:knownS seen p with
        | false=>rfl
        | true =>
          unfold knownS at hk
          obtain⟨k1,k2⟩:=Bool.and_eq_true_iff.1 hk
          obtain⟨i,hi,k3⟩:=known_has k1
          have hn:=(has_iff.1 k3).2.2.1
          have hm:i∈free:=(hs i hi).2 (by
            rw[← hn]
            simpa using k2)
          have:=List.findIdx?_eq_none_iff.1 hf i hm
          rw[k3] at this
          cases this
      have h1:stepK ({ c with other:=o },seen) p=(0,({ c with other:=o++[p] },seen)):=by
        unfold stepK
        rw[if_neg (by rw[hk];decide)]
      rw[run_cons h1]
      have hff:findF free (p::t)=((findF free t).1,p::(findF free t).2):=by rw[findF,hf]
      rw[hff]
      have ih:=find_run t c (o++[p]) seen free hd h9 hs h6
      simp only[List.append_assoc,List.singleton_append] at ih
      exact ih
    | some a =>
      obtain⟨ha,hp,_⟩:=List.findIdx?_eq_some_iff_getElem.1 hf
      obtain⟨i,hi⟩:∃ i,free[a]=i:=⟨_,rfl⟩
      rw[hi] at hp
      have hm:i∈free:=by rw[← hi];exact List.getElem_mem ha
      have hi9:=h9 i hm
      have hn:=(has_iff.1 hp).2.2.1
      have hgd:free.getD a 0=i:=by rw[← hi,List.getD_eq_getElem?_getD,List.getElem?_eq_getElem ha];rfl
      have hk:knownS seen p=true:=by
        unfold knownS
        rw[has_known hi9 hp,hn]
        have:=(hs i hi9).1 hm
        simpa using this
      have htk:takeC { c with other:=o } p=((readC i p.2.2.2 c).1,{ (readC i p.2.2.2 c).2 with other:=o }):=by
        rw[take_read (c:={ c with other:=o }) hi9 hp (fun e=>h6 (e ▸ hm)),read_other]
      have hff:findF free (p::t)=((i,p)::(findF (free.eraseIdx a) t).1,(findF (free.eraseIdx a) t).2):=by rw[findF,hf];simp only[hgd]
      rw[hff]
      by_cases he:(readC i p.2.2.2 c).1=0
      · have h1:stepK ({ c with other:=o },seen) p=(0,({ (readC i p.2.2.2 c).2 with other:=o },seen++[p.2.1])):=by
          unfold stepK
          rw[if_pos hk,if_pos (by rw[htk];exact he)]
          simp only[htk]
        rw[run_cons h1]
        have hr:runR c ((i,p)::(findF (free.eraseIdx a) t).1)=runR (readC i p.2.2.2 c).2 (findF (free.eraseIdx a) t).1:=by rw[runR,if_pos he]
        rw[hr]
        have hmem:∀ j,j∈free.eraseIdx a↔j∈free∧j≠i:=fun j=>by
          rw[List.mem_eraseIdx_iff_getElem]
          constructor
          · rintro ⟨b,hb,hne,rfl⟩
            refine⟨List.getElem_mem hb,fun e=>hne ?_⟩
            rw[← hi] at e
            have hd2:=List.pairwise_iff_getElem.1 hd
            rcases Nat.lt_trichotomy b a with k | k | k
            · exact absurd e (hd2 b a hb ha k)
            · exact k
            · exact absurd e.symm (hd2 a b ha hb k)
          · rintro ⟨hj,hne⟩
            obtain⟨b,hb,rfl⟩:=List.getElem_of_mem hj
            refine⟨b,hb,fun e=>hne ?_,rfl⟩
            subst e
            exact hi
        refine find_run t _ o _ _ (hd.sublist (List.eraseIdx_sublist _ _)) (fun j hj=>h9 j ((hmem j).1 hj).1) (fun j hj=>?_) (fun hj=>?_)
        · rw[hmem,hs j hj,hn,List.mem_append,List.mem_singleton]
          constructor
          · rintro ⟨k1,k2⟩ (k3 | k3)
            · exact k1 k3
            · exact k2 (kname_inj hj hi9 k3)
          · intro k
            exact⟨fun k3=>k (.inl k3),fun k3=>k (.inr (by rw[k3]))⟩
        · obtain⟨k1,k2⟩:=(hmem 6).1 hj
          rw[read_groups (fun e=>k2 e.symm)]
          exact h6 k1
      · have h1:stepK ({ c with other:=o },seen) p=((readC i p.2.2.2 c).1,({ c with other:=o },seen)):=by
          unfold stepK
          rw[if_pos hk,if_neg (by rw[htk];exact he),htk]
        have hr:runR c ((i,p)::(findF (free.eraseIdx a) t).1)=((readC i p.2.2.2 c).1,c):=by rw[runR,if_neg he]
        rw[hr,runK,if_neg (by rw[h1];exact he),h1]
        exact⟨rfl,fun e=>absurd e he⟩
theorem of_way (l:List Pr):ofF l=ofL l:=by
  obtain⟨h1,h2⟩:=find_run l noneC [] [] allK (by decide) (by decide) (by decide) (fun _=>rfl)
  have e:({ noneC with other:=[] }:Con)=noneC:=rfl
  rw[e] at h1 h2
  unfold ofF ofL
  rw[h1]
  by_cases he:(runR noneC (findF allK l).1).1=0
  · rw[if_pos he,if_pos he,h2 he,List.nil_append]
  · rw[if_neg he,if_neg he]
abbrev Fs:=List Nat × List (Nat × Pr) × List Pr
def stepF (s:Fs) (p:Pr):Fs:=match s.1.findIdx? (fun i=>hasB i p) with
  | none=>(s.1,s.2.1,s.2.2++[p])
  | some a=>(s.1.eraseIdx a,s.2.1++[(s.1.getD a 0,p)],s.2.2)
def foundF (l:List Pr):Fs:=l.foldl stepF (allK,[],[])
theorem found_gen:∀ (l:List Pr) (s:Fs),(l.foldl stepF s).2=(s.2.1++(findF s.1 l).1,s.2.2++(findF s.1 l).2)
  | [],s=>by simp[findF]
  | p::t,s=>by
    rw[List.foldl_cons,found_gen t]
    cases hf:s.1.findIdx? (fun i=>hasB i p) with
    | none =>
      have e:stepF s p=(s.1,s.2.1,s.2.2++[p]):=by unfold stepF;rw[hf]
      rw[e,findF,hf]
      simp
    | some a =>
      have e:stepF s p=(s.1.eraseIdx a,s.2.1++[(s.1.getD a 0,p)],s.2.2):=by unfold stepF;rw[hf]
      rw[e,findF,hf]
      simp
theorem found_all (l:List Pr):(foundF l).2=findF allK l:=by
  have:=found_gen l (allK,[],[])
  simpa [foundF] using this
theorem found_take {l:List Pr} {k:Nat} {p:Pr} (h:l[k]?=some p):foundF (l.take (k+1))=stepF (foundF (l.take k)) p:=by
  unfold foundF
  rw[List.take_add_one,h,List.foldl_append]
  rfl
theorem found_len (l:List Pr):(foundF l).2.1.length+(foundF l).2.2.length=l.length:=by
  have:∀ (l:List Pr) (s:Fs),(l.foldl stepF s).2.1.length+(l.foldl stepF s).2.2.length=s.2.1.length+s.2.2.length+l.length:=by
    intro l
    induction l with
    | nil=>exact fun s=>rfl
    | cons p t ih =>
      intro s
      rw[List.foldl_cons,ih,List.length_cons]
      unfold stepF
      split
      · simp only[List.length_append,List.length_singleton];omega
      · simp only[List.length_append,List.length_singleton];omega
  have h:=this l (allK,[],[])
  simpa [foundF] using h
theorem found_mem (l:List Pr):∀ x∈(foundF l).2.1,x.1 < 9∧hasB x.1 x.2=true∧x.2∈l:=by
  have:∀ (l:List Pr) (s:Fs) (m:List Pr),(∀ i∈s.1,i < 9)→(∀ x∈s.2.1,x.1 < 9∧hasB x.1 x.2=true∧x.2∈m)→(∀ p∈l,p∈m)→∀ x∈(l.foldl stepF s).2.1,x.1 < 9∧hasB x.1 x.2=true∧x.2∈m:=by
    intro l
    induction l with
    | nil=>exact fun s m _ h _=>h
    | cons p t ih =>
      intro s m h9 h hm
      rw[List.foldl_cons]
      cases hf:s.1.findIdx? (fun i=>hasB i p) with
      | none =>
        have e:stepF s p=(s.1,s.2.1,s.2.2++[p]):=by unfold stepF;rw[hf]
        rw[e]
        exact ih _ m h9 h (fun q hq=>hm q (List.mem_cons_of_mem _ hq))
      | some a =>
        have e:stepF s p=(s.1.eraseIdx a,s.2.1++[(s.1.getD a 0,p)],s.2.2):=by unfold stepF;rw[hf]
        obtain⟨ha,hp,_⟩:=List.findIdx?_eq_some_iff_getElem.1 hf
        have hgd:s.1.getD a 0=s.1[a]:=by rw[List.getD_eq_getElem?_getD,List.getElem?_eq_getElem ha];rfl
        rw[e]
        refine ih _ m (fun i hi=>h9 i (List.mem_of_mem_eraseIdx hi)) (fun x hx=>?_) (fun q hq=>hm q (List.mem_cons_of_mem _ hq))
        rcases List.mem_append.1 hx with hx | hx
        · exact h x hx
        · rw[List.mem_singleton] at hx
          subst hx
          rw[hgd]
          exact⟨h9 _ (List.getElem_mem ha),hp,hm p List.mem_cons_self⟩
  exact this l (allK,[],[]) l (by decide) (fun x hx=>by cases hx) (fun p hp=>hp)
theorem run_snoc:∀ (l:List (Nat × Pr)) (c:Con) (x:Nat × Pr),(runR c l).1=0→runR c (l++[x])=if (readC x.1 x.2.2.2.2 (runR c l).2).1=0 then (0,(readC x.1 x.2.2.2.2 (runR c l).2).2) else ((readC x.1 x.2.2.2.2 (runR c l).2).1,(runR c l).2)
  | [],c,x,_=>by
    have e:runR c []=(0,c):=rfl
    have e2:runR c [x]=if (readC x.1 x.2.2.2.2 c).1=0 then (0,(readC x.1 x.2.2.2.2 c).2) else ((readC x.1 x.2.2.2.2 c).1,c):=rfl
    rw[e,List.nil_append,e2]
  | y::t,c,x,h=>by
    rw[runR] at h
    by_cases he:(readC y.1 y.2.2.2.2 c).1=0
    · rw[if_pos he] at h
      rw[List.cons_append,runR,if_pos he,run_snoc t _ x h]
      have e:runR c (y::t)=runR (readC y.1 y.2.2.2.2 c).2 t:=by rw[runR,if_pos he]
      rw[e]
    · rw[if_neg he] at h
      exact absurd h he
theorem run_stop:∀ (l m:List (Nat × Pr)) (c:Con),(runR c l).1≠0→(runR c (l++m)).1=(runR c l).1
  | [],_,_,h=>absurd rfl h
  | y::t,m,c,h=>by
    rw[runR] at h
    rw[List.cons_append,runR,runR]
    by_cases he:(readC y.1 y.2.2.2.2 c).1=0
    · rw[if_pos he] at h
      rw[if_pos he,if_pos he]
      exact run_stop t m _ h
    · rw[if_neg he,if_neg he]
theorem rising_uniq:∀ {a b:List (List UInt8)},risingB a=true→risingB b=true→(∀ g,g∈a↔g∈b)→a=b
  | [],[],_,_,_=>rfl
  | [],y::t,_,_,h=>by have:=(h y).2 List.mem_cons_self;cases this
  | x::s,[],_,_,h=>by have:=(h x).1 List.mem_cons_self;cases this
  | x::s,y::t,h1,h2,h=>by
    have hx:=(h x).1 List.mem_cons_self
    have hy:=(h y).2 List.mem_cons_self
    have e:x=y:=by
      rcases List.mem_cons.1 hx with hx | hx
      · exact hx
      rcases List.mem_cons.1 hy with hy | hy
      · exact hy.symm
      have k1:=rising_lt h2 x hx
      have k2:=rising_lt h1 y hy
      have:=Jd.lt_trans _ _ _ k1 k2
      rw[Jd.lt_irr] at this
      cases this
    subst e
    congr 1
    refine rising_uniq (rising_tail h1) (rising_tail h2) fun g=>?_
    have hg:=h g
    constructor
    · intro k
      rcases List.mem_cons.1 (hg.1 (List.mem_cons_of_mem _ k)) with k2 | k2
      · subst k2
        have:=rising_lt h1 _ k
        rw[Jd.lt_irr] at this
        cases this
      · exact k2
    · intro k
      rcases List.mem_cons.1 (hg.2 (List.mem_cons_of_mem _ k)) with k2 | k2
      · subst k2
        have:=rising_lt h2 _ k
        rw[Jd.lt_irr] at this
        cases this
      · exact k2
theorem groups_is {l m:List (List UInt8)} (h1:risingB m=true) (h2:∀ g,g∈m↔(g∈l∧g≠[])):m=groupsL l:=by
  obtain⟨k1,k2⟩:=groups_rising l
  exact rising_uniq h1 k1 fun g=>(h2 g).trans (k2 g).symm
end Go.Proofs.YtfbdnaclkfmiaaaGreatDoor.Ct
end
section
namespace Go.Proofs.YtfbdnaclkfmiaaaGreatDoor.Ct
open Go.Proofs.YtfbdnaclkfmiaaaGreatDoor Tx Vc
theorem lt_iff (x y:List UInt8):Jd.ltL x y=true↔x < y:=by
  unfold Jd.ltL
  rw[Go.Proofs.bytesLess_eq,decide_eq_true_eq]
theorem rising_pair:∀ {l:List (List UInt8)},l.Pairwise (fun x y=>Jd.ltL x y=true)→risingB l=true
  | [],_=>rfl
  | [_],_=>rfl
  | x::y::t,h=>by
    obtain⟨h1,h2⟩:=List.pairwise_cons.1 h
    show (Jd.ltL x y&&risingB (y::t))=true
    rw[h1 y List.mem_cons_self,rising_pair h2]
    rfl
theorem sorted_at {zs:List (List UInt8)}:(zs.mergeSort fun x y=>decide (x≤y)).Pairwise (fun x y=>x≤y):=by
  have tr:∀ a b c:List UInt8,decide (a≤b)=true→decide (b≤c)=true→decide (a≤c)=true:=fun a b c h1 h2=>by
    simp only[decide_eq_true_eq] at *
    exact List.le_trans h1 h2
  have tot:∀ a b:List UInt8,(decide (a≤b)||decide (b≤a))=true:=fun a b=>by
    simp only[Bool.or_eq_true,decide_eq_true_eq]
    exact List.le_total a b
  exact(List.pairwise_mergeSort tr tot zs).imp (fun h=>of_decide_eq_true h)
theorem compact_rising {s:List (List UInt8)} (h:s.Pairwise (fun x y=>x≤y)):(Lib.compact s).Pairwise (fun x y=>Jd.ltL x y=true)∧∀ x,x∈Lib.compact s↔x∈s:=by
  have hle:∀ i j,i≤j→j < s.length→s.toArray[i]!≤s.toArray[j]!:=fun i j hij hj=>by
    have hi:i < s.length:=by omega
    rw[getElem!_pos _ i (by simpa using hi),getElem!_pos _ j (by simpa using hj)]
    rcases Nat.lt_or_eq_of_le hij with h2 | h2
    · have:=List.pairwise_iff_getElem.1 h i j hi hj h2
      simpa using this
    · subst h2
      exact List.le_refl _
  constructor
  · unfold Lib.compact Lib.compactUpTo
    rw[List.pairwise_map]
    have hr:((List.range s.length).filter (Lib.keeps s.toArray)).Pairwise (fun i j=>i < j∧Lib.keeps s.toArray j=true∧j < s.length):=by
      refine List.Pairwise.imp_of_mem (R:=fun i j=>i < j) (fun {i j} hi hj hlt=>?_) (List.Pairwise.filter _ List.pairwise_lt_range)
      obtain⟨k1,k2⟩:=List.mem_filter.1 hj
      exact⟨hlt,k2,List.mem_range.1 k1⟩
    refine hr.imp (fun {i j} hij=>?_)
    obtain⟨hlt,hk,hj⟩:=hij
    rw[lt_iff]
    have h1:=hle i j (by omega) hj
    rcases List.le_iff_lt_or_eq.1 h1 with h2 | h2
    · exact h2
    · exfalso
      unfold Lib.keeps at hk
      rcases of_decide_eq_true hk with k | k
      · omega
      · apply k
        have a1:=hle i (j - 1) (by omega) (by omega)
        have a2:=hle (j - 1) j (by omega) hj
        rw[h2] at a1
        exact List.le_antisymm a1 a2
  · intro x
    unfold Lib.compact Lib.compactUpTo
    rw[List.mem_map]
    constructor
    · rintro ⟨i,hi,rfl⟩
      have:=List.mem_range.1 (List.mem_filter.1 hi).1
      rw[getElem!_pos _ i (by simpa using this)]
      simp
    · intro hx
      obtain⟨j,hj,rfl⟩:=List.getElem_of_mem hx
      have key:∀ j,j < s.length→∃ k,k < s.length∧Lib.keeps s.toArray k=true∧s.toArray[k]! = s.toArray[j]!:=by
        intro j
        induction j with
        | zero=>exact fun hj=>⟨0,hj,decide_eq_true (.inl rfl),rfl⟩
        | succ j ih =>
          intro hj
          by_cases hk:Lib.keeps s.toArray (j+1)=true
          · exact⟨j+1,hj,hk,rfl⟩
          · obtain⟨k,k1,k2,k3⟩:=ih (by omega)
            refine⟨k,k1,k2,k3.trans ?_⟩
            unfold Lib.keeps at hk
            have h2:=of_decide_eq_false (Bool.eq_false_iff.2 hk)
            have h3:¬ s.toArray[j+1]!≠s.toArray[j+1 - 1]!:=fun e=>h2 (.inr e)
            exact(Decidable.not_not.1 h3).symm
      obtain⟨k,k1,k2,k3⟩:=key j hj
      refine⟨k,List.mem_filter.2 ⟨List.mem_range.2 k1,k2⟩,k3.trans ?_⟩
      rw[getElem!_pos _ j (by simpa using hj)]
      simp
theorem groups_way (zs:List (List UInt8)):(Lib.compact (zs.mergeSort fun x y=>decide (x≤y))).filter (fun x=>decide (x≠[]))=groupsL zs:=by
  obtain⟨h1,h2⟩:=compact_rising (sorted_at (zs:=zs))
  refine groups_is (rising_pair (h1.filter _)) fun g=>?_
  rw[List.mem_filter,h2,List.mem_mergeSort,decide_eq_true_eq]
theorem filter_take {α:Type} {l:List α} {k:Nat} {x:α} (p:α→Bool) (h:l[k]?=some x):(l.take (k+1)).filter p=(l.take k).filter p++if p x then [x] else []:=by
  rw[List.take_add_one,h,List.filter_append]
  cases hp:p x<;>simp[hp]
end Go.Proofs.YtfbdnaclkfmiaaaGreatDoor.Ct
end
section
namespace Go.Proofs.YtfbdnaclkfmiaaaGreatDoor.Ct
open Go.Proofs.YtfbdnaclkfmiaaaGreatDoor Tx Vc
def putR (i:Nat) (xs:List (List UInt8)) (c:Con):Nat × Con :=
  if i=1 then fiveC c xs else if i=6 then (0,{ c with groups:=groupsL xs }) else if i=3 then ((Jd.bareL (xs.headD [])).2,{ c with jid:=(Jd.bareL (xs.headD [])).1 }) else (0,setC (kname i) (xs.headD []) c)
theorem all_snoc:∀ {a:List (List UInt8)} {ys:List (List UInt8)} (x:List UInt8),allP a=some ys→allP (a++[x])=(plain x).map (fun y=>ys++[y])
  | [],ys,x,h=>by
    obtain rfl:[]=ys:=Option.some.inj h
    rw[List.nil_append,allP]
    cases plain x<;>rfl
  | z::a,ys,x,h=>by
    rw[allP] at h
    rw[List.cons_append,allP]
    cases hz:plain z with
    | none=>rw[hz] at h;cases h
    | some y =>
      rw[hz] at h
      obtain⟨ys2,h2,rfl⟩:=Option.map_eq_some_iff.1 h
      simp only[all_snoc x h2]
      cases plain x<;>rfl
theorem all_take {parts ys:List (List UInt8)} {k:Nat} {x:List UInt8} (hx:parts[k]?=some x) (h:allP (parts.take k)=some ys):allP (parts.take (k+1))=(plain x).map (fun y=>ys++[y]):=by
  rw[List.take_add_one,hx]
  exact all_snoc x h
theorem all_bad:∀ {parts:List (List UInt8)} {k:Nat} {x:List UInt8},parts[k]?=some x→plain x=none→allP parts=none
  | [],k,x,h,_=>by simp at h
  | z::t,0,x,h,hp=>by
    obtain rfl:z=x:=by simpa using h
    rw[allP,hp]
  | z::t,k+1,x,h,hp=>by
    rw[allP]
    cases hz:plain z with
    | none=>rfl
    | some y=>simp only[all_bad (parts:=t) (k:=k) (by simpa using h) hp,Option.map_none]
theorem plainC_len:∀ (n:Nat) (l x:List UInt8),l.length≤n→plain l=some x→x.length≤l.length
  | n,[],x,_,h=>by
    obtain rfl:[]=x:=Option.some.inj h
    simp
  | 0,_::_,_,h,_=>by simp at h
  | n+1,c::t,x,hn,h=>by
    by_cases hc:c=92
    · subst hc
      cases t with
      | nil=>rw[plain_end] at h;cases h
      | cons d u =>
        cases hu:unb d with
        | none=>rw[plain_bad u hu] at h;cases h
        | some y =>
          rw[plain_esc u hu] at h
          cases hp:plain u with
          | none=>rw[hp] at h;cases h
          | some z =>
            rw[hp] at h
            obtain rfl:y::z=x:=Option.some.inj h
            have:=plainC_len n u z (by simp at hn;omega) hp
            simp;omega
    · rw[plain_on t hc] at h
      cases hp:plain t with
      | none=>rw[hp] at h;cases h
      | some z =>
        rw[hp] at h
        obtain rfl:c::z=x:=Option.some.inj h
        have:=plainC_len n t z (by simpa using hn) hp
        simpa using this
def partsK (i:Nat) (v:List UInt8):List (List UInt8):=if i=1 then split1 59 v else if i=6 then split1 44 v else [v.drop (kstart i).length]
theorem read_parts {i:Nat} {v:List UInt8} {c:Con} (h6:i=6→c.groups=[]):(allP (partsK i v)=none→readC i v c=(18,c))∧∀ xs,allP (partsK i v)=some xs→(readC i v c).1=(putR i xs c).1∧((readC i v c).1=0→(readC i v c).2=(putR i xs c).2):=by
  unfold readC partsK putR manyL
  by_cases h1:i=1
  · simp only[if_pos h1]
    constructor
    · intro h;rw[h]
    · intro xs h;rw[h];exact⟨rfl,fun _=>rfl⟩
  simp only[if_neg h1]
  by_cases hi6:i=6
  · simp only[if_pos hi6]
    constructor
    · intro h;rw[h]
    · intro xs h;rw[h,h6 hi6];exact⟨rfl,fun _=>rfl⟩
  simp only[if_neg hi6]
  by_cases h3:i=3
  · subst h3
    simp only[if_true]
    have e:v.drop (kstart 3).length=v.drop 5:=rfl
    rw[e]
    cases hp:plain (v.drop 5) with
    | none =>
      constructor
      · intro _;rfl
      · intro xs h;rw[allP,hp] at h;cases h
    | some t =>
      constructor
      · intro h;rw[allP,hp] at h;cases h
      · intro xs h
        rw[allP,hp] at h
        obtain rfl:[t]=xs:=Option.some.inj h
        show (ite ((Jd.bareL t).2=0) _ _:Nat × Con).1=(Jd.bareL t).2∧_
        by_cases hb:(Jd.bareL t).2=0
        · simp only[if_pos hb]
          exact⟨hb.symm,fun _=>rfl⟩
        · simp only[if_neg hb]
          exact⟨trivial,fun e=>absurd e hb⟩
  · simp only[if_neg h3]
    have e:v.drop (kstart i).length=v:=by unfold kstart;rw[if_neg h3];rfl
    rw[e]
    cases hp:plain v with
    | none =>
      constructor
      · intro _;rfl
      · intro xs h;rw[allP,hp] at h;cases h
    | some t =>
      constructor
      · intro h;rw[allP,hp] at h;cases h
      · intro xs h
        rw[allP,hp] at h
        obtain rfl:[t]=xs:=Option.some.inj h
        exact⟨rfl,fun _=>rfl⟩
theorem split_ne (sep:UInt8) (v:List UInt8):split1 sep v≠[]:=fun e=>by
  have:∀ (l cur:List UInt8) (b:Bool),spl sep b cur l≠[]:=by
    intro l
    induction l with
    | nil=>intro cur b h;simp[spl] at h
    | cons x l ih =>
      intro cur b h
      unfold spl at h
      split at h
      · cases h
      · exact ih _ _ h
  exact this v [] false e
theorem split_lens (sep:UInt8) (v:List UInt8):(split1 sep v).length≤v.length+1∧∀ x∈split1 sep v,x.length≤v.length:=by
  have:∀ (l cur:List UInt8) (b:Bool),(spl sep b cur l).length≤l.length+1∧∀ x∈spl sep b cur l,x.length≤cur.length+l.length:=by
    intro l
    induction l with
    | nil=>intro cur b;simp[spl]
    | cons x l ih =>
      intro cur b
      unfold spl
      split
      · obtain⟨h1,h2⟩:=ih [] (x==92&&!b)
        refine⟨by simp only[List.length_cons];omega,fun y hy=>?_⟩
        rcases List.mem_cons.1 hy with rfl | hy
        · simp only[List.length_cons];omega
        · have:=h2 y hy;simp only[List.length_nil,List.length_cons] at this ⊢;omega
      · obtain⟨h1,h2⟩:=ih (cur++[x]) (x==92&&!b)
        refine⟨by simp only[List.length_cons];omega,fun y hy=>?_⟩
        have:=h2 y hy
        simp only[List.length_append,List.length_cons,List.length_nil] at this ⊢
        omega
  have h:=this v [] false
  simpa [split1] using h
theorem trim_start {i:Nat} {v:List UInt8} (h:v.take (kstart i).length=kstart i):Lib.trimPrefix v (kstart i)=v.drop (kstart i).length:=by
  unfold Lib.trimPrefix Lib.hasPrefix
  rw[if_pos]
  rw[List.isPrefixOf_iff_prefix]
  refine⟨v.drop (kstart i).length,?_⟩
  have e:=List.take_append_drop (kstart i).length v
  rw[h] at e
  exact e
end Go.Proofs.YtfbdnaclkfmiaaaGreatDoor.Ct
end