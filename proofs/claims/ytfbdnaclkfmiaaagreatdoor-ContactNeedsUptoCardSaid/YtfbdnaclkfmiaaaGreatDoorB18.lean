import Derived.Test.YtfbdnaclkfmiaaaGreatDoorB14
import Derived.Test.YtfbdnaclkfmiaaaGreatDoorB01
import Derived.Test.YtfbdnaclkfmiaaaGreatDoorB07
import Derived.Test.YtfbdnaclkfmiaaaGreatDoorB13
import Derived.Test.YtfbdnaclkfmiaaaGreatDoorB15
import Derived.Test.YtfbdnaclkfmiaaaGreatDoorB12
import Derived.Test.YtfbdnaclkfmiaaaGreatDoorB03
section
namespace Go.Proofs.YtfbdnaclkfmiaaaGreatDoor.Tx
theorem linesA_conts:∀ (rs acc:List (List UInt8)) (x:List UInt8),(∀ r∈rs,cont r=true)→linesA (acc++[x]) rs=some (acc++[x++rs.flatMap List.tail])
  | [],acc,x,_=>by rw[linesA_nil];simp
  | r::rs,acc,x,h=>by
    rw[linesA_more _ (h r (by simp)) (by simp),addLast_snoc,linesA_conts rs acc _ (fun r hr=>h r (by simp[hr]))]
    simp
def AStand (R:List (List UInt8)) (cur done:List UInt8):Prop :=
  (∀ r∈R,clean r∧valid r=true)∧clean cur∧valid cur=true∧jn (R++[cur])=done∧∃ f t,R++[cur]=f::t∧cont f=false∧∀ r∈t,cont r=true
theorem AStand.start:AStand [] [] []:=⟨fun r h=>(by cases h),fun c h=>(by cases h),valid_some ch_nil,rfl,[],[],rfl,rfl,fun r h=>(by cases h)⟩
theorem AStand.cut {R:List (List UInt8)} {cur done:List UInt8} (h:AStand R cur done) {b:UInt8} (hb:b=32∨b=9):AStand (R++[cur]) [b] done:=by
  obtain⟨h1,h2,h3,h4,f,t,h5,h6,h7⟩:=h
  refine⟨fun r hr=>?_,?_,?_,?_,f,t++[[b]],by rw[h5];simp,h6,fun r hr=>?_⟩
  · rcases List.mem_append.1 hr with hr | hr
    · exact h1 r hr
    · rw[List.mem_singleton] at hr;subst hr;exact⟨h2,h3⟩
  · intro c hc
    rw[List.mem_singleton] at hc
    subst hc
    rcases hb with rfl | rfl<;>decide
  · rcases hb with rfl | rfl<;>decide +kernel
  · rw[jn_snoc (by simp),h4]
    simp
  · rcases List.mem_append.1 hr with hr | hr
    · exact h7 r hr
    · rw[List.mem_singleton] at hr
      subst hr
      rcases hb with rfl | rfl<;>rfl
theorem AStand.push {R:List (List UInt8)} {cur done e:List UInt8} (h:AStand R cur done) (he:clean e) (hv:valid e=true) (hc:cur≠[]∨cont e=false):AStand R (cur++e) (done++e):=by
  obtain⟨h1,h2,h3,h4,f,t,h5,h6,h7⟩:=h
  refine⟨h1,fun c hc=>?_,(valid_append h3 hv).1,?_,?_⟩
  · rcases List.mem_append.1 hc with hc | hc
    · exact h2 c hc
    · exact he c hc
  · cases R with
    | nil =>
      rw[List.nil_append] at h4
      rw[← h4]
      simp[jn]
    | cons a R =>
      have hct:cont cur=true:=by
        rw[List.cons_append] at h5
        obtain⟨_,rfl⟩:=List.cons.inj h5
        exact h7 cur (by simp)
      cases cur with
      | nil=>cases hct
      | cons c u =>
        rw[jn_snoc (by simp)] at h4 ⊢
        rw[← h4]
        simp
  · cases R with
    | nil =>
      rw[List.nil_append] at h5
      obtain⟨rfl,rfl⟩:=List.cons.inj h5
      refine⟨cur++e,[],rfl,?_,fun r h=>(by cases h)⟩
      cases cur with
      | nil=>exact hc.resolve_left (fun h=>h rfl)
      | cons c u=>exact h6
    | cons a R =>
      rw[List.cons_append] at h5
      obtain⟨rfl,rfl⟩:=List.cons.inj h5
      refine⟨a,R++[cur++e],by simp,h6,fun r hr=>?_⟩
      rcases List.mem_append.1 hr with hr | hr
      · exact h7 r (by simp[hr])
      · rw[List.mem_singleton] at hr
        subst hr
        have hct:=h7 cur (by simp)
        cases cur with
        | nil=>cases hct
        | cons c u=>exact hct
theorem AStand.done {R:List (List UInt8)} {cur done:List UInt8} (h:AStand R cur done):Tx.unfold (ends R++cur++[13,10])=some [done]∧valid (ends R++cur++[13,10])=true:=by
  obtain⟨h1,h2,h3,h4,f,t,h5,h6,h7⟩:=h
  have e:ends R++cur++[13,10]=ends (R++[cur]):=by rw[ends_append,ends_cons,ends_nil];simp
  have hall:∀ r∈R++[cur],clean r∧valid r=true:=fun r hr=>by
    rcases List.mem_append.1 hr with hr | hr
    · exact h1 r hr
    · rw[List.mem_singleton] at hr;subst hr;exact⟨h2,h3⟩
  rw[e]
  refine⟨?_,ends_valid _ (fun r hr=>(hall r hr).2)⟩
  unfold Tx.unfold
  rw[rowsA_ends _ (fun r hr=>(hall r hr).1),h5]
  show linesA [] (f::t)=_
  rw[linesA_new [] t h6,linesA_conts t [] f h7]
  rw[h5] at h4
  rw[← h4]
  rfl
theorem enc_line {c:Nat} (h1:sane c) (h2:okc c=true) (h3:32≤c):clean (enc c)∧valid (enc c)=true:=by
  refine⟨fun x hx=>?_,valid_some (ch_enc h1 h2)⟩
  rcases enc_cases h1 with ⟨a,e⟩ | ⟨a,b,e⟩ | ⟨a,b,e⟩ | ⟨a,b,e⟩
  all_goals
    rw[e] at hx
    have key:∀ k,k < 256→32≤k→x=UInt8.ofNat k→x≠10∧x≠13:=fun k hk hk2 hxk=>by
      subst hxk
      have:=toNat_of k hk
      exact⟨fun e=>by rw[e] at this;simp at this;omega,fun e=>by rw[e] at this;simp at this;omega⟩
    simp only[List.mem_cons,List.not_mem_nil,or_false] at hx
  · exact key c (by omega) h3 hx
  · rcases hx with hx | hx
    · exact key _ (by omega) (by omega) hx
    · exact key _ (by omega) (by omega) hx
  · rcases hx with hx | hx | hx
    · exact key _ (by omega) (by omega) hx
    · exact key _ (by omega) (by omega) hx
    · exact key _ (by omega) (by omega) hx
  · rcases hx with hx | hx | hx | hx
    · exact key _ (by omega) (by omega) hx
    · exact key _ (by omega) (by omega) hx
    · exact key _ (by omega) (by omega) hx
    · exact key _ (by omega) (by omega) hx
theorem line_chars {l:List UInt8} {most:Int} (h:line l most=true):∃ cs,ch l=some cs∧flat cs=l∧∀ c∈cs,sane c∧okc c=true∧32≤c:=by
  cases hc:ch l with
  | none=>rw[line_none hc] at h;cases h
  | some cs =>
    rw[line_some hc,Bool.and_eq_true,beq_iff_eq,low_def] at h
    refine⟨cs,rfl,ch_flat_back _ l cs (Nat.le_refl _) hc,fun c hm=>?_⟩
    obtain⟨h1,h2⟩:=ch_good_all _ l cs (Nat.le_refl _) hc c hm
    refine⟨h1,h2,?_⟩
    rcases Nat.lt_or_ge c 32 with h3 | h3
    · have:c∈cs.filter (fun c=>decide (c < 32)):=List.mem_filter.2 ⟨hm,decide_eq_true h3⟩
      rw[List.eq_nil_of_length_eq_zero h.1] at this
      cases this
    · exact h3
end Go.Proofs.YtfbdnaclkfmiaaaGreatDoor.Tx
end
section
namespace Go.Proofs.YtfbdnaclkfmiaaaGreatDoor.Ct
open Go.Proofs.YtfbdnaclkfmiaaaGreatDoor Tx Vc
structure Con where
  name:List UInt8
  family:List UInt8
  given:List UInt8
  nick:List UInt8
  jid:List UInt8
  email:List UInt8
  tel:List UInt8
  note:List UInt8
  uid:List UInt8
  groups:List (List UInt8)
  other:List Pr
def noneC:Con:=⟨[],[],[],[],[],[],[],[],[],[],[]⟩
def ins (x:List UInt8):List (List UInt8)→List (List UInt8)
  | []=>[x]
  | y::t=>if Jd.ltL y x then y::ins x t else if y=x then y::t else x::y::t
def groupsL (l:List (List UInt8)):List (List UInt8):=l.foldl (fun out x=>if x=[] then out else ins x out) []
def risingB:List (List UInt8)→Bool
  | []=>true
  | [_]=>true
  | x::y::t=>Jd.ltL x y&&risingB (y::t)
def rightG (l:List (List UInt8)):Bool:=decide (l.length≤8)&&l.all (fun g=>decide (g≠[])&&line g 100)&&risingB l
theorem rising_tail {x:List UInt8} {t:List (List UInt8)} (h:risingB (x::t)=true):risingB t=true:=by
  cases t with
  | nil=>rfl
  | cons y t=>exact(Bool.and_eq_true_iff.1 h).2
theorem rising_lt:∀ {t:List (List UInt8)} {x:List UInt8},risingB (x::t)=true→∀ y∈t,Jd.ltL x y=true
  | [],_,_,y,hy=>by cases hy
  | z::t,x,h,y,hy=>by
    obtain⟨h1,h2⟩:=Bool.and_eq_true_iff.1 h
    rcases List.mem_cons.1 hy with rfl | hy
    · exact h1
    · exact Jd.lt_trans _ _ _ h1 (rising_lt h2 y hy)
theorem ins_last:∀ {l:List (List UInt8)} {x:List UInt8},(∀ y∈l,Jd.ltL y x=true)→ins x l=l++[x]
  | [],_,_=>rfl
  | y::t,x,h=>by
    rw[ins,if_pos (h y List.mem_cons_self),ins_last (fun z hz=>h z (List.mem_cons_of_mem _ hz))]
    rfl
theorem ins_mem:∀ {l:List (List UInt8)} {x y:List UInt8},y∈ins x l↔y=x∨y∈l
  | [],x,y=>by simp[ins]
  | z::t,x,y=>by
    rw[ins]
    split
    · rw[List.mem_cons,ins_mem,List.mem_cons]
      constructor
      · rintro (h | h | h)
        · exact .inr (.inl h)
        · exact .inl h
        · exact .inr (.inr h)
      · rintro (h | h | h)
        · exact .inr (.inl h)
        · exact .inl h
        · exact .inr (.inr h)
    · split
      · rename_i _ e
        subst e
        simp
      · simp
theorem ins_rising:∀ {l:List (List UInt8)} {x:List UInt8},risingB l=true→risingB (ins x l)=true
  | [],_,_=>rfl
  | y::t,x,h=>by
    rw[ins]
    split
    · rename_i hlt
      have h1:=ins_rising (x:=x) (rising_tail h)
      cases hi:ins x t with
      | nil=>rfl
      | cons z r =>
        rw[hi] at h1
        have hz:z∈ins x t:=by rw[hi];exact List.mem_cons_self
        refine Bool.and_eq_true_iff.2 ⟨?_,h1⟩
        rcases ins_mem.1 hz with rfl | hz
        · exact hlt
        · exact rising_lt h z hz
    · split
      · exact h
      · rename_i h1 h2
        refine Bool.and_eq_true_iff.2 ⟨?_,h⟩
        rcases Jd.lt_tri y x with ⟨h3,_⟩ | ⟨_,h3,_⟩ | ⟨_,_,h3⟩
        · exact absurd h3 h1
        · exact h3
        · exact absurd h3 h2
theorem groups_all (l:List (List UInt8)):∀ out,risingB out=true→(∀ g∈out,g≠[])→risingB (l.foldl (fun out x=>if x=[] then out else ins x out) out)=true∧∀ g,g∈l.foldl (fun out x=>if x=[] then out else ins x out) out↔(g∈out∨(g∈l∧g≠[])):=by
  induction l with
  | nil=>exact fun out h1 h2=>⟨h1,fun g=>by simp⟩
  | cons x t ih =>
    intro out h1 h2
    rw[List.foldl_cons]
    by_cases hx:x=[]
    · rw[if_pos hx]
      obtain⟨h3,h4⟩:=ih out h1 h2
      refine⟨h3,fun g=>?_⟩
      rw[h4 g,List.mem_cons]
      constructor
      · rintro (h | ⟨h,h5⟩)
        · exact .inl h
        · exact .inr ⟨.inr h,h5⟩
      · rintro (h | ⟨h | h,h5⟩)
        · exact .inl h
        · exact absurd (h.trans hx) h5
        · exact .inr ⟨h,h5⟩
    · rw[if_neg hx]
      obtain⟨h3,h4⟩:=ih (ins x out) (ins_rising h1) (fun g hg=>by
        rcases ins_mem.1 hg with rfl | hg
        · exact hx
        · exact h2 g hg)
      refine⟨h3,fun g=>?_⟩
      rw[h4 g,ins_mem,List.mem_cons]
      constructor
      · rintro ((h | h) | ⟨h,h5⟩)
        · exact .inr ⟨.inl h,by rw[h];exact hx⟩
        · exact .inl h
        · exact .inr ⟨.inr h,h5⟩
      · rintro (h | ⟨h | h,h5⟩)
        · exact .inl (.inr h)
        · exact .inl (.inl h)
        · exact .inr ⟨h,h5⟩
theorem groups_rising (l:List (List UInt8)):risingB (groupsL l)=true∧∀ g,g∈groupsL l↔(g∈l∧g≠[]):=by
  obtain⟨h1,h2⟩:=groups_all l [] rfl (fun g hg=>by cases hg)
  refine⟨h1,fun g=>?_⟩
  have:=h2 g
  unfold groupsL
  rw[this]
  constructor
  · rintro (h | h)
    · cases h
    · exact h
  · exact .inr
theorem ins_len:∀ (l:List (List UInt8)) (x:List UInt8),(ins x l).length≤l.length+1
  | [],_=>Nat.le_refl _
  | y::t,x=>by
    rw[ins]
    have:=ins_len t x
    split
    · simp only[List.length_cons];omega
    · split
      · simp only[List.length_cons];omega
      · simp only[List.length_cons];omega
theorem groups_len (l:List (List UInt8)):(groupsL l).length≤l.length:=by
  have:∀ (l out:List (List UInt8)),(l.foldl (fun out x=>if x=[] then out else ins x out) out).length≤out.length+l.length:=by
    intro l
    induction l with
    | nil=>exact fun out=>by simp
    | cons x t ih =>
      intro out
      rw[List.foldl_cons,List.length_cons]
      split
      · have:=ih out;omega
      · have h1:=ih (ins x out)
        have h2:=ins_len out x
        omega
  have h:=this l []
  simpa [groupsL] using h
end Go.Proofs.YtfbdnaclkfmiaaaGreatDoor.Ct
end
section
namespace Go.Proofs.YtfbdnaclkfmiaaaGreatDoor.Ct
open Go.Proofs.YtfbdnaclkfmiaaaGreatDoor Tx Vc
def bareB (s:List UInt8):Bool:=decide (s=[])||decide (Jd.bareL s=(s,0))
def textsB (c:Con):Bool:=line c.name 100&&line c.family 100&&line c.given 100&&line c.nick 100&&line c.email 100&&line c.tel 100&&line c.uid 100
def noteB (s:List UInt8):Bool:=valid s&&decide ((runes s).length≤500)&&s.all (fun b=>b != 13)
def rightC (c:Con):Bool:=decide (c.name≠[])&&textsB c&&noteB c.note&&bareB c.jid&&rightG c.groups&&decide ((writeV [c.other]).2=0)
def nFN:List UInt8:=[70,78]
def nN:List UInt8:=[78]
def nNICK:List UInt8:=[78,73,67,75,78,65,77,69]
def nIMPP:List UInt8:=[73,77,80,80]
def nEMAIL:List UInt8:=[69,77,65,73,76]
def nTEL:List UInt8:=[84,69,76]
def nNOTE:List UInt8:=[78,79,84,69]
def nUID:List UInt8:=[85,73,68]
def nCAT:List UInt8:=[67,65,84,69,71,79,82,73,69,83]
def xmppT:List UInt8:=[120,109,112,112,58]
def namesK:List (List UInt8):=[nFN,nN,nNICK,nIMPP,nEMAIL,nTEL,nNOTE,nUID,nCAT]
def knownB (p:Pr):Bool:=decide (p.1=[])&&decide (p.2.2.1=[])&&namesK.contains p.2.1&&(decide (p.2.1≠nIMPP)||decide (p.2.2.2.take 5=xmppT))
def knownS (seen:List (List UInt8)) (p:Pr):Bool:=knownB p&&!seen.contains p.2.1
def allP:List (List UInt8)→Option (List (List UInt8))
  | []=>some []
  | x::t=>match plain x with
    | none=>none
    | some y=>(allP t).map (y::·)
def manyL (sep:UInt8) (s:List UInt8):Option (List (List UInt8)):=allP (split1 sep s)
def setC (n t:List UInt8) (c:Con):Con :=
  if n=nFN then { c with name:=t } else if n=nNICK then { c with nick:=t } else if n=nEMAIL then { c with email:=t } else if n=nTEL then { c with tel:=t } else if n=nNOTE then { c with note:=t } else { c with uid:=t }
def takeC (c:Con) (p:Pr):Nat × Con :=
  if p.2.1=nN then (match manyL 59 p.2.2.2 with
    | none=>(18,c)
    | some [a,b,[],[],[]]=>(0,{ c with family:=a,given:=b })
    | some _=>(12,c))
  else if p.2.1=nCAT then (match manyL 44 p.2.2.2 with
    | none=>(18,c)
    | some l=>(0,{ c with groups:=groupsL l }))
  else match plain p.2.2.2 with
    | none=>(18,c)
    | some t=>if p.2.1=nIMPP then (if (Jd.bareL (t.drop 5)).2=0 then (0,{ c with jid:=(Jd.bareL (t.drop 5)).1 }) else ((Jd.bareL (t.drop 5)).2,c)) else (0,setC p.2.1 t c)
abbrev Sk:=Con × List (List UInt8)
def stepK (s:Sk) (p:Pr):Nat × Sk :=
  if knownS s.2 p then (if (takeC s.1 p).1=0 then (0,((takeC s.1 p).2,s.2++[p.2.1])) else ((takeC s.1 p).1,s)) else (0,({ s.1 with other:=s.1.other++[p] },s.2))
def runK:Sk→List Pr→Nat × Sk
  | s,[]=>(0,s)
  | s,p::t=>if (stepK s p).1=0 then runK (stepK s p).2 t else ((stepK s p).1,s)
def ofL (l:List Pr):Con × Nat :=
  if (runK (noneC,[]) l).1=0 then (if rightC (runK (noneC,[]) l).2.1 then ((runK (noneC,[]) l).2.1,0) else (noneC,12)) else (noneC,(runK (noneC,[]) l).1)
theorem run_nil (s:Sk):runK s []=(0,s):=rfl
theorem run_cons {s s':Sk} {p:Pr} (h:stepK s p=(0,s')) (t:List Pr):runK s (p::t)=runK s' t:=by rw[runK,h,if_pos rfl]
theorem run_append:∀ (a b:List Pr) (s s':Sk),runK s a=(0,s')→runK s (a++b)=runK s' b
  | [],b,s,s',h=>by
    rw[run_nil] at h
    obtain rfl:s=s':=congrArg Prod.snd h
    rfl
  | p::a,b,s,s',h=>by
    rw[runK] at h
    by_cases he:(stepK s p).1=0
    · rw[if_pos he] at h
      rw[List.cons_append,run_cons (s':=(stepK s p).2) (Prod.ext he rfl)]
      exact run_append a b _ _ h
    · rw[if_neg he] at h
      exact absurd (congrArg Prod.fst h) he
theorem run_other:∀ (l:List Pr) (c:Con) (seen:List (List UInt8)),(∀ p∈l,knownS seen p=false)→runK (c,seen) l=(0,({ c with other:=c.other++l },seen))
  | [],c,seen,_=>by rw[run_nil,List.append_nil]
  | p::t,c,seen,h=>by
    have h1:stepK (c,seen) p=(0,({ c with other:=c.other++[p] },seen)):=by
      unfold stepK
      rw[if_neg (by rw[h p List.mem_cons_self];decide)]
    rw[run_cons h1,run_other t _ seen (fun q hq=>h q (List.mem_cons_of_mem _ hq))]
    simp only[List.append_assoc,List.singleton_append]
theorem run_known {c c':Con} {seen:List (List UInt8)} {p:Pr} (hk:knownS seen p=true) (ht:takeC c p=(0,c')):runK (c,seen) [p]=(0,(c',seen++[p.2.1])):=by
  have h1:stepK (c,seen) p=(0,(c',seen++[p.2.1])):=by
    unfold stepK
    rw[if_pos hk,if_pos (by rw[ht])]
    simp only[ht]
  rw[run_cons h1,run_nil]
theorem line_no13 {t:List UInt8} {n:Int} (h:line t n=true):(13:UInt8) ∉ t:=by
  obtain⟨cs,h1,h2,h3⟩:=line_chars h
  rw[← h2]
  clear h1 h2 h
  induction cs with
  | nil=>simp[flat]
  | cons c cs ih =>
    obtain⟨k1,k2,k3⟩:=h3 c List.mem_cons_self
    have e:flat (c::cs)=enc c++flat cs:=by rw[show c::cs=[c]++cs from rfl,flat_append,flat_one]
    rw[e]
    intro hx
    rcases List.mem_append.1 hx with hx | hx
    · exact((enc_line k1 k2 k3).1 13 hx).2 rfl
    · exact ih (fun d hd=>h3 d (List.mem_cons_of_mem _ hd)) hx
theorem right_parts {c:Con} (h:rightC c=true):c.name≠[]∧textsB c=true∧noteB c.note=true∧bareB c.jid=true∧rightG c.groups=true∧(writeV [c.other]).2=0:=by
  unfold rightC at h
  simp only[Bool.and_eq_true,decide_eq_true_eq] at h
  obtain⟨⟨⟨⟨⟨h1,h2⟩,h3⟩,h4⟩,h5⟩,h6⟩:=h
  exact⟨h1,h2,h3,h4,h5,h6⟩
end Go.Proofs.YtfbdnaclkfmiaaaGreatDoor.Ct
end
section
namespace Go.Proofs.YtfbdnaclkfmiaaaGreatDoor
open Go.RowKit Tx
def RRunes (B:Nat) (w:World) (l:List UInt8) (e:Ending) (w':World):Prop:=∃ v,e=.returned v∧Owned B w' v (runes l)∧Below B w w'
set_option maxHeartbeats 1000000 in
theorem rrunes_any (s:ByteArray) (w:World) (hs:s.size < 10000000000000) :
    Calls Tryz.prog 49 #[.string s] w (RRunes w.heap.size w s.data.toList):=by
  obtain⟨i0,hi,hz0,hz1,hz2⟩:=info_parts infoInt
  have hsz:=Lib.hid (Lib.size_eq s)
  have HV:=Lib.hid (rvalid_any s w hs)
  cases hch:ch s.data.toList with
  | none =>
    have hfin:RRunes w.heap.size w s.data.toList (.returned (.slice none 0 0)) w:=⟨_,rfl,by rw[runes_none hch];exact Owned.nil _ _,Below.refl _ _⟩
    rw[valid_none hch] at HV
    have HF:=Lib.hid hfin
    clear hch hfin
    go_enter Tryz.func49,Tryz.ntmps49
    go_wp2_with (go_at_call 48;refine HV.out.mono ?_;rintro e w' ⟨rfl,rfl⟩)
    go_ret
    exact HF.out
  | some all =>
    rw[valid_some hch] at HV
    have HCH:=Lib.hid hch
    clear hch
    go_enter Tryz.func49,Tryz.ntmps49
    go_wp2_with (go_at_call 48;refine HV.out.mono ?_;rintro e w' ⟨rfl,rfl⟩)
    go_loopw [3,4] (fun v at_ wr=>∃ (k:Nat) (x:List Nat),k≤s.size∧at_=.int .i64 k∧x.length≤k∧At s.data.toList k x∧Owned w.heap.size wr v x∧Below w.heap.size w wr) (fun _ at_ _=>s.size - (intOf at_).toNat)
    case atStart=>exact⟨0,[],Nat.zero_le _,rfl,Nat.le_refl _,At.start _,Owned.nil _ _,Below.refl _ _⟩
    case round =>
      obtain⟨k,x,hk,rfl,hxk,hat,hown,hb⟩:=hrel
      have hsw:=hb.size
      by_cases hlt:k < s.size
      · have hlt':k < s.data.toList.length:=by rw[← hsz.out];exact hlt
        have hle:=nx_le (drop_ne hlt')
        have hru:=nx_rune (s.data.toList.drop k)
        rw[List.length_drop,← hsz.out] at hle
        have HD:=Lib.hid (next_any s k wr hs hlt)
        obtain⟨c,n,hcn⟩:∃ c n,Hid (nx (s.data.toList.drop k)=(c,n)):=⟨_,_,Lib.hid rfl⟩
        have hD:Hid (∀ e w',Nexted wr (s.data.toList.drop k) e w'→e=.returned (.tuple #[.int .i64 c,.int .i64 n])∧wr=w'):=fun e w' ⟨h1,h2⟩=>⟨by rw[h1,hcn.out],h2⟩
        rw[hcn.out] at hle hru
        by_cases hn:n=0
        · exfalso
          have:=hat.bad hlt' (by rw[hcn.out];exact hn)
          rw[HCH.out] at this
          cases this
        · have hat':=hat.next hlt' (by rw[hcn.out];exact hn)
          rw[hcn.out] at hat'
          go_wp2_with (first | (go_at_call 100;refine HD.out.mono ?_;intro e w' hd;obtain⟨rfl,rfl⟩:=hD.out _ _ hd) | (at_builtin;refine wpList_append_own _ rfl _ _ 88 rfl w.heap.size 3 i0 (.int .i64 0) 1 8 Tryz.underlying88 hi hz0 hz1 hz2 rfl (by decide) _ _ _ rfl (World.ownsRow.alloc (show wr.ownsRow w.heap.size 3 1 _ x.length (ints x) from hown) _) ⟨wr.heap.size,0,none⟩ 1 1 [.int .i64 (c:Nat)] rfl rfl ?c1 ?c2 ?c3 ?c4 ?c5 ?_))
          case c1 =>
            intro j u hj
            match j,hj with
            | 0,hj=>simp at hj;subst hj;simp[Addr.add]
          case c2=>intro u hu;simp at hu;subst hu;rfl
          case c3=>unfold maxLen;omega
          case c4=>omega
          case c5=>simp;omega
          intro v' w1 hown' hgrow _
          have R:=pushed_of hown hsw hown' hgrow
          clear hown' hgrow
          go_wp2
          go_roundw
          case rel=>exact⟨k+n,x++[c],by omega,by go_num,by simp;omega,hat',R.1,hb.trans R.2⟩
          case measure=>simp[intOf];omega
      · have hke:k=s.data.toList.length:=by rw[← hsz.out];omega
        have hx:x=all:=by
          have:=At.stop (by rw[← hke];exact hat)
          rw[HCH.out] at this
          exact(Option.some.inj this).symm
        have hr:runes s.data.toList=x:=by rw[hx];exact runes_some HCH.out
        have hown2:=hown
        rw[← hr] at hown2
        clear hke hx hr
        go_wp2_with fail
        go_ret
        exact⟨_,rfl,hown2,hb⟩
end Go.Proofs.YtfbdnaclkfmiaaaGreatDoor
end
section
namespace Go.Proofs.YtfbdnaclkfmiaaaGreatDoor
open Go.RowKit Tx
theorem low_zero_iff (x:List Nat):(low x=0)↔∀ i,i < x.length→32≤x.getD i 0:=by
  rw[low_def]
  constructor
  · intro h i hi
    rcases Nat.lt_or_ge (x.getD i 0) 32 with hc | hc
    · exfalso
      have hm:x.getD i 0∈x.filter (fun c=>decide (c < 32)):=by
        rw[List.mem_filter]
        refine⟨?_,by simpa using hc⟩
        rw[List.getD,List.getElem?_eq_getElem hi]
        exact List.getElem_mem hi
      rw[List.eq_nil_of_length_eq_zero h] at hm
      cases hm
    · exact hc
  · intro h
    refine List.length_eq_zero_iff.2 (List.filter_eq_nil_iff.2 fun a ha=>?_)
    obtain⟨i,hi,rfl⟩:=List.getElem_of_mem ha
    have:=h i hi
    rw[List.getD,List.getElem?_eq_getElem hi] at this
    simpa using this
set_option maxHeartbeats 1000000 in
theorem rline_any (s:ByteArray) (most:Int) (w:World) (hs:s.size < 10000000000000) :
    Calls Tryz.prog 23 #[.string s,.int .i64 most] w fun e w'=>e=.returned (.bool (line s.data.toList most))∧Below w.heap.size w w':=by
  have HR:=Lib.hid (rrunes_any s w hs)
  have HV:=Lib.hid (fun W=>rvalid_any s W hs)
  obtain⟨x,hx⟩:∃ x,runes s.data.toList=x:=⟨_,rfl⟩
  have hrl:=runes_length s.data.toList
  rw[← Lib.size_eq,hx] at hrl
  have hR:Hid (∀ e w',RRunes w.heap.size w s.data.toList e w'→∃ v,e=.returned v∧Owned w.heap.size w' v x∧Below w.heap.size w w'):=fun e w' ⟨v,h1,h2,h3⟩=>⟨v,h1,by rw[← hx];exact h2,h3⟩
  obtain⟨b,hb⟩:∃ b,valid s.data.toList=b:=⟨_,rfl⟩
  obtain⟨r,hr⟩:∃ r,line s.data.toList most=r:=⟨_,rfl⟩
  have hlow:Hid (r=(b&&(low x==0)&&decide ((x.length:Int)≤most))):=by
    unfold Hid
    rw[← hr,← hb,← hx]
    cases h:ch s.data.toList with
    | none=>rw[line_none h,valid_none h];rfl
    | some y=>rw[line_some h,valid_some h,runes_some h];rfl
  rw[hb] at HV
  rw[hr]
  clear hx hb hr
  go_enter Tryz.func23,Tryz.ntmps23
  go_wp2_with (go_at_call 49;refine HR.out.mono ?_;intro e w1 hd;obtain⟨v,rfl,hown,hbw⟩:=hR.out _ _ hd)
  obtain⟨A,cap,hv,hcell⟩:=hown.reads
  subst hv
  go_wp2_with fail
  go_loop [6] (fun i=>∃ k:Nat,k≤x.length∧i=.int .i64 k∧Hid (∀ j,j < k→32≤x.getD j 0)) (fun i=>x.length - (intOf i).toNat)
  case atStart=>exact⟨0,Nat.zero_le _,rfl,fun j hj=>absurd hj (by omega)⟩
  case round =>
    obtain⟨k,hk,rfl,hall⟩:=hrel
    by_cases hlt:k < x.length
    · obtain⟨ad,rfl,hlb,hc⟩:=hcell (by omega)
      have c1:=hc k hlt
      obtain⟨p,hp⟩:∃ p,x.getD k 0=p:=⟨_,rfl⟩
      rw[hp] at c1
      have HP:=Lib.hid hp
      clear hp hc hcell
      by_cases hp32:(p:Int) < 32
      · have hr:Hid (r=false):=by
          unfold Hid
          rw[hlow.out]
          have:(low x==0)=false:=by
            cases h:low x==0 with
            | false=>rfl
            | true =>
              have:=(low_zero_iff x).1 (eq_of_beq h) k hlt
              rw[HP.out] at this
              omega
          rw[this];simp
        go_wp2_with fail
        go_ret
        exact⟨ret_bool hr.out.symm,hbw⟩
      · go_wp2_with fail
        go_round
        case rel =>
          refine⟨k+1,by omega,by go_num,fun j hj=>?_⟩
          rcases Nat.lt_or_ge j k with h | h
          · exact hall.out j h
          · rw[show j=k by omega,HP.out];omega
        case measure=>simp[intOf];omega
    · have hke:k=x.length:=by omega
      have hz:(low x==0)=true:=by
        rw[beq_iff_eq,low_zero_iff]
        rw[← hke];exact hall.out
      have hr:Hid (r=(b&&decide ((x.length:Int)≤most))):=by unfold Hid;rw[hlow.out,hz,Bool.and_true]
      clear hke hz hcell
      cases b with
      | false =>
        go_wp2_with (go_at_call 48;refine(HV.out _).mono ?_;rintro e w2 ⟨rfl,rfl⟩)
        go_ret
        exact⟨ret_bool (by rw[hr.out];rfl),hbw⟩
      | true =>
        go_wp2_with (go_at_call 48;refine(HV.out _).mono ?_;rintro e w2 ⟨rfl,rfl⟩)
        go_ret
        exact⟨ret_bool (by rw[hr.out];rfl),hbw⟩
end Go.Proofs.YtfbdnaclkfmiaaaGreatDoor
end
section
namespace Go.Proofs.YtfbdnaclkfmiaaaGreatDoor
open Go.RowKit Tx
theorem seen_valid:∀ l:List UInt8,(∀ c∈l,32≤c∧c < 127)→valid l=true
  | [],_=>valid_some ch_nil
  | c::l,h=>by
    have H:∀ k:Fin 256,32≤UInt8.ofNat k.val→UInt8.ofNat k.val < 127→valid [UInt8.ofNat k.val]=true:=by decide +kernel
    obtain⟨h1,h2⟩:=h c List.mem_cons_self
    have h3:=H ⟨c.toNat,c.toNat_lt⟩
    simp only[UInt8.ofNat_toNat] at h3
    exact(valid_append (a:=[c]) (h3 h1 h2) (seen_valid l fun d hd=>h d (List.mem_cons_of_mem _ hd))).1
theorem seen_chars:∀ l:List UInt8,(∀ c∈l,32≤c∧c < 127)→∃ x,ch l=some x∧x.length=l.length∧low x=0
  | [],_=>⟨[],ch_nil,rfl,low_nil⟩
  | c::l,h=>by
    have H:∀ k:Fin 256,32≤UInt8.ofNat k.val→UInt8.ofNat k.val < 127→ch [UInt8.ofNat k.val]=some [k.val]∧low [k.val]=0:=by decide +kernel
    obtain⟨h1,h2⟩:=h c List.mem_cons_self
    have h3:=H ⟨c.toNat,c.toNat_lt⟩
    simp only[UInt8.ofNat_toNat] at h3
    obtain⟨h4,h5⟩:=h3 h1 h2
    obtain⟨x,k1,k2,k3⟩:=seen_chars l fun d hd=>h d (List.mem_cons_of_mem _ hd)
    refine⟨c.toNat::x,?_,by rw[List.length_cons,List.length_cons,k2],?_⟩
    · have:=ch_app 1 [c] l [c.toNat] (Nat.le_refl _) h4
      rw[show c::l=[c]++l from rfl,this,k1]
      rfl
    · rw[low_def] at h5 k3 ⊢
      rw[show c.toNat::x=[c.toNat]++x from rfl,List.filter_append,List.length_append,h5,k3]
theorem seen_line {l:List UInt8} (h:∀ c∈l,32≤c∧c < 127) {n:Int} (hn:(l.length:Int)≤n):line l n=true:=by
  obtain⟨x,k1,k2,k3⟩:=seen_chars l h
  rw[line_some k1,k3,k2]
  simp[hn]
theorem seen_clean {l:List UInt8} (h:∀ c∈l,32≤c∧c < 127):clean l:=fun c hc=>by
  have h1:=(h c hc).1
  constructor<;>(intro e;subst e;revert h1;decide)
theorem flat_clean:∀ {cs:List Nat},(∀ c∈cs,sane c∧okc c=true∧32≤c)→clean (flat cs)
  | [],_=>fun c hc=>by rw[flat_nil] at hc;cases hc
  | c::t,h=>by
    obtain⟨h1,h2,h3⟩:=h c List.mem_cons_self
    have e:flat (c::t)=enc c++flat t:=by rw[show c::t=[c]++t from rfl,flat_append,flat_one]
    rw[e]
    intro x hx
    rcases List.mem_append.1 hx with hx | hx
    · exact(enc_line h1 h2 h3).1 x hx
    · exact flat_clean (fun d hd=>h d (List.mem_cons_of_mem _ hd)) x hx
theorem line_fine {l:List UInt8} {most:Int} (h:line l most=true):valid l=true∧clean l:=by
  obtain⟨cs,h1,h2,h3⟩:=line_chars h
  exact⟨valid_some h1,by rw[← h2];exact flat_clean h3⟩
theorem one_sign (s:ByteArray) (k:Nat) (hk:k < s.size):(s.extract k (k+1)).data.toList=[s[k]]:=by
  have h:k < s.data.toList.length:=by rw[← Lib.size_eq];exact hk
  rw[ByteArray.data_extract,Array.toList_extract,List.extract_eq_take_drop,List.drop_eq_getElem_cons h,Nat.add_sub_cancel_left]
  rfl
theorem seen_more {o:ByteArray} {s:ByteArray} {k:Nat} (hk:k < s.size) (ho:∀ c∈o.data.toList,(32:UInt8)≤c∧c < 127) (h1:(32:Int)≤s[k].toNat) (h2:(s[k].toNat:Int) < 127) :
    ∀ c∈(o++s.extract k (k+1)).data.toList,(32:UInt8)≤c∧c < 127:=by
  intro c hc
  rw[ByteArray.data_append,Array.toList_append,one_sign s k hk] at hc
  rcases List.mem_append.1 hc with hc | hc
  · exact ho c hc
  · rw[List.mem_singleton] at hc
    subst hc
    constructor
    · rw[UInt8.le_iff_toNat_le]
      show 32≤_
      omega
    · rw[UInt8.lt_iff_toNat_lt]
      show _ < 127
      omega
theorem more_size (o s:ByteArray) (k:Nat) (hk:k < s.size):(o++s.extract k (k+1)).size=o.size+1:=by
  rw[Lib.size_eq,ByteArray.data_append,Array.toList_append,one_sign s k hk,List.length_append,← Lib.size_eq]
  rfl
set_option maxHeartbeats 4000000 in
set_option maxRecDepth 100000 in
theorem playLineL_any (s:ByteArray) (most:Int) (w:World) (hs:s.size≤1000000000) :
    Calls Tryz.prog 20 #[.string s,.int .i64 most] w fun e w'=>(∃ v:ByteArray,e=.returned (.string v)∧valid v.data.toList=true∧clean v.data.toList∧v.size≤s.size∧(0≤most→line v.data.toList most=true))∧Below w.heap.size w w':=by
  have HL:=Lib.hid (rline_any s most w (by omega))
  obtain⟨b,hb⟩:∃ b,line s.data.toList most=b:=⟨_,rfl⟩
  have HB:=Lib.hid hb
  rw[hb] at HL
  clear hb
  go_enter Tryz.func20,Tryz.ntmps20
  go_wp2_with fail
  refine HL.out.mono ?_
  rintro e w1 ⟨rfl,b1⟩
  have B1:=Lib.hid b1
  clear b1
  cases b
  · have HM0:Hid (0≤most→(((⟨#[]⟩:ByteArray).size:Nat):Int)≤most):=fun h=>h
    have HS0:Hid (∀ c∈(⟨#[]⟩:ByteArray).data.toList,(32:UInt8)≤c∧c < 127):=fun c hc=>by cases hc
    go_wp2_with fail
    go_loopw [5,6] (fun ov iv wr=>∃ (k:Nat) (o:ByteArray),ov=.string o∧iv=.int .i64 k∧k≤s.size∧o.size≤k∧Hid (0≤most→(o.size:Int)≤most)∧Hid (∀ c∈o.data.toList,(32:UInt8)≤c∧c < 127)∧wr=w1) (fun _ iv _=>s.size - (intOf iv).toNat)
    case atStart=>exact⟨0,_,rfl,rfl,Nat.zero_le _,Nat.zero_le _,HM0,HS0,rfl⟩
    case round =>
      obtain⟨k,o,rfl,rfl,hk,ho,HM,HS,rfl⟩:=hrel
      have HLN:Hid (0≤most→line o.data.toList most=true):=fun h=>seen_line HS.out (by rw[← Lib.size_eq];exact HM.out h)
      by_cases hlt:k < s.size
      · by_cases hm:(o.size:Int) < most
        · go_wp2_with fail
          · rename_i h1 h2
            have hsz:=more_size o s k hlt
            have hnx:=Lib.hid (seen_more hlt HS.out h1 h2)
            have hmx:Hid (0≤most→(((o++s.extract k (k+1)).size:Nat):Int)≤most):=fun _=>by omega
            go_roundw
            case rel=>exact⟨k+1,_,rfl,by go_num,by omega,by omega,hmx,hnx,trivial⟩
            case measure=>simp[intOf];omega
          all_goals
            go_roundw
            case rel=>exact⟨k+1,_,rfl,by go_num,by omega,by omega,HM,HS,trivial⟩
            case measure=>simp[intOf];omega
        · go_wp2_with fail
          go_ret
          exact⟨⟨_,rfl,seen_valid _ HS.out,seen_clean HS.out,by omega,HLN.out⟩,B1.out⟩
      · go_wp2_with fail
        go_ret
        exact⟨⟨_,rfl,seen_valid _ HS.out,seen_clean HS.out,by omega,HLN.out⟩,B1.out⟩
  · obtain⟨h1,h2⟩:=line_fine HB.out
    have H1:=Lib.hid h1
    have H2:=Lib.hid h2
    clear h1 h2
    go_wp2_with fail
    go_ret
    exact⟨⟨_,rfl,H1.out,H2.out,Nat.le_refl _,fun _=>HB.out⟩,B1.out⟩
end Go.Proofs.YtfbdnaclkfmiaaaGreatDoor
end