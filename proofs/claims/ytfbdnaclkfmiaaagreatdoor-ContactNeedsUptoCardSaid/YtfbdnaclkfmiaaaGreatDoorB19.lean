import Derived.Test.YtfbdnaclkfmiaaaGreatDoorB18
import Derived.Test.YtfbdnaclkfmiaaaGreatDoorB07
section
namespace Go.Proofs.YtfbdnaclkfmiaaaGreatDoor.Ct
open Go.Proofs.YtfbdnaclkfmiaaaGreatDoor Tx Vc
theorem flat_cons1 (c:Nat) (cs:List Nat):flat (c::cs)=enc c++flat cs:=by rw[show c::cs=[c]++cs from rfl,flat_append,flat_one]
theorem line_valid {t:List UInt8} {n:Int} (h:line t n=true):valid t=true:=by
  obtain⟨cs,h1,_,_⟩:=line_chars h
  exact valid_some h1
theorem flat_len:∀ cs:List Nat,(flat cs).length≤4*cs.length
  | []=>by simp[flat]
  | c::cs=>by
    have h1:=flat_len cs
    have h2:=(enc_len (n:=c)).2
    rw[flat_cons1,List.length_append,List.length_cons]
    omega
theorem line_len {t:List UInt8} {n:Nat} (h:line t n=true):t.length≤4*n:=by
  obtain⟨cs,h1,h2,_⟩:=line_chars h
  rw[line_some h1] at h
  have h3:=of_decide_eq_true (Bool.and_eq_true_iff.1 h).2
  have h4:=flat_len cs
  rw[← h2]
  omega
theorem kind_cases {n:List UInt8} (h:n∈namesK):n=nFN∨n=nN∨n=nNICK∨n=nIMPP∨n=nEMAIL∨n=nTEL∨n=nNOTE∨n=nUID∨n=nCAT:=by
  simpa [namesK] using h
end Go.Proofs.YtfbdnaclkfmiaaaGreatDoor.Ct
end
section
namespace Go.Proofs.YtfbdnaclkfmiaaaGreatDoor.Ct
open Go.Proofs.YtfbdnaclkfmiaaaGreatDoor Tx Vc
theorem line_more {t:List UInt8} {n m:Int} (h:line t n=true) (hm:n≤m):line t m=true:=by
  obtain⟨cs,h1,_,_⟩:=line_chars h
  rw[line_some h1] at h ⊢
  obtain⟨h2,h3⟩:=Bool.and_eq_true_iff.1 h
  have h3:=of_decide_eq_true h3
  exact Bool.and_eq_true_iff.2 ⟨h2,decide_eq_true (by omega)⟩
theorem none_ok:(writeV [[]]).2=0:=by decide +kernel
theorem right_of {c:Con} (h1:c.name≠[]) (h2:textsB c=true) (h3:noteB c.note=true) (h4:bareB c.jid=true) (h5:rightG c.groups=true) (h6:(writeV [c.other]).2=0):rightC c=true:=by
  unfold rightC
  simp only[Bool.and_eq_true,decide_eq_true_eq]
  exact⟨⟨⟨⟨⟨h1,h2⟩,h3⟩,h4⟩,h5⟩,h6⟩
theorem not_right {c:Con} (h:c.name=[]∨textsB c=false∨noteB c.note=false∨bareB c.jid=false∨rightG c.groups=false∨(writeV [c.other]).2≠0):rightC c=false:=by
  cases hr:rightC c with
  | false=>rfl
  | true =>
    obtain⟨h1,h2,h3,h4,h5,h6⟩:=right_parts hr
    rcases h with h | h | h | h | h | h
    · exact absurd h h1
    · rw[h2] at h;cases h
    · rw[h3] at h;cases h
    · rw[h4] at h;cases h
    · rw[h5] at h;cases h
    · exact absurd h6 h
theorem texts_parts {c:Con} (h:textsB c=true):line c.name 100=true∧line c.family 100=true∧line c.given 100=true∧line c.nick 100=true∧line c.email 100=true∧line c.tel 100=true∧line c.uid 100=true:=by
  unfold textsB at h
  simp only[Bool.and_eq_true] at h
  obtain⟨⟨⟨⟨⟨⟨t1,t2⟩,t3⟩,t4⟩,t5⟩,t6⟩,t7⟩:=h
  exact⟨t1,t2,t3,t4,t5,t6,t7⟩
theorem no_text {c:Con} (h:line c.nick 100=false∨line c.tel 100=false∨line c.uid 100=false):textsB c=false:=by
  cases ht:textsB c with
  | false=>rfl
  | true =>
    obtain⟨_,_,_,h4,_,h6,h7⟩:=texts_parts ht
    rcases h with h | h | h
    · rw[h4] at h;cases h
    · rw[h6] at h;cases h
    · rw[h7] at h;cases h
def longL:List UInt8:=(List.replicate 101 [195,169]).flatten
theorem long_no:line longL 100=false:=by decide +kernel
def worse (k:Nat) (c:Con):Con:=match k with
  | 0=>{ c with name:=[] }
  | 1=>{ c with nick:=longL }
  | 2=>{ c with tel:=[97,10,98] }
  | 3=>{ c with note:=[97,13,98] }
  | 4=>{ c with jid:=[65,64,98] }
  | 5=>{ c with jid:=[97,64,98,47,99] }
  | 6=>{ c with groups:=[[98],[97]] }
  | 7=>{ c with groups:=[[]] }
  | 8=>{ c with other:=[([],[120],[],[])] }
  | _=>{ c with uid:=[255] }
theorem worse_no (k:Nat) (c:Con):rightC (worse k c)=false:=by
  unfold worse
  split
  · exact not_right (.inl rfl)
  · exact not_right (.inr (.inl (no_text (.inl long_no))))
  · exact not_right (.inr (.inl (no_text (.inr (.inl (show line [97,10,98] 100=false by decide +kernel))))))
  · exact not_right (.inr (.inr (.inl (show noteB [97,13,98]=false by decide +kernel))))
  · exact not_right (.inr (.inr (.inr (.inl (show bareB [65,64,98]=false by decide +kernel)))))
  · exact not_right (.inr (.inr (.inr (.inl (show bareB [97,64,98,47,99]=false by decide +kernel)))))
  · exact not_right (.inr (.inr (.inr (.inr (.inl (show rightG [[98],[97]]=false by decide +kernel))))))
  · exact not_right (.inr (.inr (.inr (.inr (.inl (show rightG [[]]=false by decide +kernel))))))
  · exact not_right (.inr (.inr (.inr (.inr (.inr (show (writeV [[([],[120],[],[])]]).2≠0 by decide +kernel))))))
  · exact not_right (.inr (.inl (no_text (.inr (.inr (show line [255] 100=false by decide +kernel))))))
theorem two_of {p q:Pr} {c1 c2:Con} (hp:knownB p=true) (hq:knownB q=true) (hne:q.2.1≠p.2.1) (h1:takeC noneC p=(0,c1)) (h2:takeC c1 q=(0,c2)) (hr:rightC c2=true):ofL [p,q]=(c2,0):=by
  have k1:knownS [] p=true:=by unfold knownS;rw[hp];rfl
  have k2:knownS ([]++[p.2.1]) q=true:=by
    unfold knownS
    rw[hq,List.nil_append]
    simp only[List.contains_eq_mem,List.mem_singleton]
    rw[decide_eq_false hne]
    rfl
  have hr2:runK (noneC,[]) ([p]++[q])=(0,(c2,[]++[p.2.1]++[q.2.1])):=by
    rw[run_append _ _ _ _ (run_known k1 h1),run_known k2 h2]
  unfold ofL
  rw[show [p,q]=[p]++[q] from rfl]
  simp only[hr2]
  rw[if_pos trivial,if_pos hr]
theorem groups_ok {l:List (List UInt8)} {n:Int} (hl:l.length≤8) (h:∀ g∈l,line g n=true) (hn:n≤100):rightG (groupsL l)=true:=by
  obtain⟨h1,h2⟩:=groups_rising l
  unfold rightG
  simp only[Bool.and_eq_true,decide_eq_true_eq,List.all_eq_true]
  exact⟨⟨Nat.le_trans (groups_len l) hl,fun g hg=>⟨((h2 g).1 hg).2,line_more (h g ((h2 g).1 hg).1) hn⟩⟩,h1⟩
def lettersL (n:Nat):List (List UInt8):=(List.range n).map fun i=>[UInt8.ofNat (97+i)]
end Go.Proofs.YtfbdnaclkfmiaaaGreatDoor.Ct
end
section
namespace Go.Proofs.YtfbdnaclkfmiaaaGreatDoor
open Rg Tx
namespace Jd
def nums (l:List UInt8):List Nat:=l.map (·.toNat)
def lowB (l:List UInt8):Bool:=l.all fun b=>decide (32≤b.toNat)&&decide (b.toNat < 128)
theorem flat_nums:∀ {l:List UInt8},(∀ b∈l,b.toNat < 128)→flat (nums l)=l
  | [],_=>flat_nil
  | b::l,h=>by
    have hb:=h b (List.mem_cons_self ..)
    have ih:=flat_nums (l:=l) (fun c hc=>h c (List.mem_cons_of_mem _ hc))
    unfold nums at ih ⊢
    rw[List.map_cons,flat_cons,ih,enc_sane (.inl (by omega))]
    unfold encB
    rw[if_pos hb]
    simp
theorem lowB_at {l:List UInt8} (h:lowB l=true):∀ b∈l,32≤b.toNat∧b.toNat < 128:=by
  intro b hb
  have:=List.all_eq_true.1 h b hb
  simpa using this
theorem low_ch {l:List UInt8} (h:lowB l=true):ch l=some (nums l):=by
  have h1:=lowB_at h
  have h2:=Pr.ch_fine (l:=nums l) (fun c hc=>by
    obtain⟨b,hb,rfl⟩:=List.mem_map.1 hc
    have:=h1 b hb
    exact⟨.inl (by omega),Pr.okc_of (by omega) (by omega)⟩)
  rw[flat_nums (fun b hb=>(h1 b hb).2)] at h2
  exact h2
theorem low_keep {k:Nat} {l r:List UInt8} (h:lowB l=true) (hm:Pr.mapL (k != 3) (nums l)=nums r) (hr:lowB r=true) (hw:(nums r).any (Pr.wrong k)=false) (hy:Pr.wayB (nums r)=true):Pr.prepL k l=(r,0):=by
  rw[Pr.prepL_ch (low_ch h),hm,Pr.prepC_kept hw hy,flat_nums (fun b hb=>(lowB_at hr b hb).2)]
def fitB (k:Nat) (b:UInt8):Bool:=decide (32≤b.toNat)&&decide (b.toNat < 128)&&(Pr.one (k != 3) b.toNat==[b.toNat])&&!(Pr.wrong k b.toNat)&&!(Pr.rl b.toNat)
theorem fit_at {k:Nat} {b:UInt8} (h:fitB k b=true):32≤b.toNat∧b.toNat < 128∧Pr.one (k != 3) b.toNat=[b.toNat]∧Pr.wrong k b.toNat=false∧Pr.rl b.toNat=false:=by
  unfold fitB at h
  simp only[Bool.and_eq_true,decide_eq_true_eq,beq_iff_eq,Bool.not_eq_true'] at h
  exact⟨h.1.1.1.1,h.1.1.1.2,h.1.1.2,h.1.2,h.2⟩
theorem fit_prep {k:Nat} {l:List UInt8} (h:∀ b∈l,fitB k b=true):Pr.prepL k l=(l,0):=by
  refine low_keep (r:=l) ?_ ?_ ?_ ?_ ?_
  · exact List.all_eq_true.2 fun b hb=>by have:=fit_at (h b hb);simp;omega
  · refine Pr.mapL_stays fun c hc=>?_
    obtain⟨b,hb,rfl⟩:=List.mem_map.1 hc
    exact(fit_at (h b hb)).2.2.1
  · exact List.all_eq_true.2 fun b hb=>by have:=fit_at (h b hb);simp;omega
  · refine List.any_eq_false.2 fun c hc=>?_
    obtain⟨b,hb,rfl⟩:=List.mem_map.1 hc
    rw[(fit_at (h b hb)).2.2.2.1]
    simp
  · have:(nums l).any Pr.rl=false:=List.any_eq_false.2 fun c hc=>by
      obtain⟨b,hb,rfl⟩:=List.mem_map.1 hc
      rw[(fit_at (h b hb)).2.2.2.2]
      simp
    unfold Pr.wayB
    rw[this]
    rfl
theorem fit_mem {k:Nat} {l m:List UInt8} (hm:m.all (fitB k)=true) (h:∀ b∈l,b∈m):∀ b∈l,fitB k b=true:=fun b hb=>List.all_eq_true.1 hm b (h b hb)
theorem parse_eq {s:List UInt8} {c d:List UInt8 × List UInt8 × Bool} (hc:cutB 47 s=c) (hd:halfL c.1=d):parseL s=three (domL d.2.1) (part d.2.2 1 d.1) (part c.2.2 3 c.2.1):=by
  subst hc
  subst hd
  rfl
theorem dom_eval {s h d:List UInt8} (h1:Pr.prepL 2 s=(h,0)) (h2:trimD h=d):domL s=pieced (sizedL 100 (d,0)):=by
  unfold domL hostL
  rw[h1]
  simp only
  rw[h2]
theorem node_a:part true 1 [97]=([97],0):=by
  show sizedL 64 (Pr.prepL 1 [97])=_
  rw[fit_prep (by decide)]
  decide
theorem node_A:part true 1 [65]=([97],0):=by
  show sizedL 64 (Pr.prepL 1 [65])=_
  rw[low_keep (l:=[65]) (r:=[97]) (by decide) (by decide) (by decide) (by decide) (by decide)]
  decide
def six:List UInt8:=[97,98,99,55,56,57]
structure Word (l:List UInt8):Prop where
  len:l.length≤21
  ne:∃ t,l=120::t
  mem:∀ b∈l,b∈120::six
theorem Word.fit {l:List UInt8} (h:Word l) (k:Nat) (hk:k=1∨k=2∨k=3):Pr.prepL k l=(l,0):=by
  refine fit_prep (fit_mem (m:=120::six) ?_ h.mem)
  rcases hk with rfl | rfl | rfl<;>decide
theorem Word.free {l:List UInt8} (h:Word l) {c:UInt8} (hc:c ∉ (120::six:List UInt8)):c ∉ l:=fun hm=>hc (h.mem c hm)
theorem Word.nn {l:List UInt8} (h:Word l):l≠[]:=by obtain⟨t,rfl⟩:=h.ne;simp
theorem Word.pieces {l:List UInt8} (h:Word l):(pcs 46 l).any badB=false:=by
  rw[pcs_none (h.free (by decide))]
  have hl:l.getLastD 0∈l:=by
    rw[List.getLastD_eq_getLast?]
    rcases List.eq_nil_or_concat l with rfl | ⟨t,x,rfl⟩
    · exact absurd rfl h.nn
    · simp
  have h45:(45:UInt8) ∉ l:=h.free (by decide)
  have h1:(l.getLastD 0==45)=false:=by
    cases e:(l.getLastD 0==45) with
    | false=>rfl
    | true=>rw[beq_iff_eq] at e;rw[e] at hl;exact absurd hl h45
  obtain⟨t,rfl⟩:=h.ne
  simp only[List.any_cons,List.any_nil,Bool.or_false]
  unfold badB
  rw[h1]
  rfl
theorem Word.dom {l:List UInt8} (h:Word l):domL l=(l,0):=dom_of (h.fit 2 (.inr (.inl rfl))) h.nn (by have:=h.len;omega) h.pieces
def tails:List (List UInt8):=[[],[47],[64],[47,64,32,47]]
theorem Word.res {l t:List UInt8} (h:Word l) (ht:t∈tails):Pr.prepL 3 (l++t)=(l++t,0)∧(l++t).length≤64∧l++t≠[]:=by
  refine⟨fit_prep (fit_mem (m:=47::64::32::120::six) (by decide) fun b hb=>?_),?_,fun e=>h.nn (List.append_eq_nil_iff.1 e).1⟩
  · rcases List.mem_append.1 hb with hb | hb
    · exact List.mem_cons_of_mem _ (List.mem_cons_of_mem _ (List.mem_cons_of_mem _ (h.mem b hb)))
    · exact(show ∀ t∈tails,∀ b∈t,b∈(47::64::32::120::six:List UInt8) by decide) t ht b hb
  · have:=h.len
    unfold tails at ht
    simp only[List.mem_cons,List.not_mem_nil,or_false] at ht
    rcases ht with rfl | rfl | rfl | rfl<;>simp<;>omega
theorem Word.right {l d r t:List UInt8} (hl:Word l) (hd:Word d) (hr:Word r) (ht:t∈tails):Right (l,d,r++t) :=
  ⟨hd.dom,hd.nn,.inr ⟨hl.fit 1 (.inl rfl),by have:=hl.len;show l.length≤64;omega⟩,.inr ⟨(hr.res ht).1,(hr.res ht).2.1⟩⟩
end Jd
end Go.Proofs.YtfbdnaclkfmiaaaGreatDoor
end
section
namespace Go.Proofs.YtfbdnaclkfmiaaaGreatDoor.Ct
open Go.Proofs.YtfbdnaclkfmiaaaGreatDoor Tx Vc
theorem dom_H:Jd.domL [72]=([104],0):=(Jd.dom_eval (Jd.low_keep (l:=[72]) (r:=[104]) (by decide) (by decide) (by decide) (by decide) (by decide)) (show Jd.trimD _=[104] by decide)).trans (by decide)
theorem dom_h:Jd.domL [104]=([104],0):=Jd.dom_of (Jd.fit_prep (by decide)) (by decide) (by decide) (by decide)
theorem bare_AH:Jd.bareL [65,64,72]=([97,64,104],0):=by
  have h:Jd.parseL [65,64,72]=(([97],[104],[]),0):=by
    rw[Jd.parse_eq (s:=[65,64,72]) (c:=([65,64,72],[],false)) (d:=([65],[72],true)) (by decide) (by decide)]
    simp only
    rw[dom_H,Jd.node_A]
    rfl
  rw[Jd.bare_ok h rfl]
  rfl
theorem bare_ah:Jd.bareL [97,64,104]=([97,64,104],0):=by
  have h:Jd.parseL [97,64,104]=(([97],[104],[]),0):=by
    rw[Jd.parse_eq (s:=[97,64,104]) (c:=([97,64,104],[],false)) (d:=([97],[104],true)) (by decide) (by decide)]
    simp only
    rw[dom_h,Jd.node_a]
    rfl
  rw[Jd.bare_ok h rfl]
  rfl
end Go.Proofs.YtfbdnaclkfmiaaaGreatDoor.Ct
end
section
namespace Go.Proofs.YtfbdnaclkfmiaaaGreatDoor.Ct
open Go.Proofs.YtfbdnaclkfmiaaaGreatDoor Tx Vc
def nearJ (s:List UInt8) (k:Nat):List UInt8:=if (Jd.bareL s).2=0 then (Jd.bareL s).1 else ([[97,64,104],[98,64,104],[99,64,104],[100,64,120,46,121],[104]]:List (List UInt8)).getD (k % 5) []
theorem node_one {b:UInt8} (h:Jd.fitB 1 b=true):Jd.part true 1 [b]=([b],0):=by
  show Jd.sizedL 64 (Pr.prepL 1 [b])=_
  rw[Jd.fit_prep (fun x hx=>by rw[List.mem_singleton] at hx;rw[hx];exact h)]
  simp[Jd.sizedL]
theorem dom_xy:Jd.domL [120,46,121]=([120,46,121],0):=Jd.dom_of (Jd.fit_prep (by decide)) (by decide) (by decide) (by decide)
theorem near_key (s:List UInt8) (k:Nat):Jd.bareL (nearJ s k)=(nearJ s k,0):=by
  unfold nearJ
  by_cases h:(Jd.bareL s).2=0
  · rw[if_pos h]
    unfold Jd.bareL at h
    by_cases hp:(Jd.parseL s).2=0
    · rw[if_pos hp] at h
      by_cases hr:(Jd.parseL s).1.2.2=[]
      · have hpe:Jd.parseL s=((Jd.parseL s).1,0):=Prod.ext rfl hp
        rw[Jd.bare_ok hpe hr]
        exact Jd.bare_back hpe hr
      · rw[if_neg hr] at h
        exact absurd h (by simp)
    · rw[if_neg hp] at h
      exact absurd h hp
  · rw[if_neg h]
    have hk:k % 5=0∨k % 5=1∨k % 5=2∨k % 5=3∨k % 5=4:=by omega
    have one:∀ b:UInt8,Jd.fitB 1 b=true→Jd.cutB 47 [b,64,104]=([b,64,104],[],false)→Jd.halfL [b,64,104]=([b],[104],true)→Jd.bareL [b,64,104]=([b,64,104],0):=fun b h1 h2 h3=>by
      have h:Jd.parseL [b,64,104]=(([b],[104],[]),0):=by
        rw[Jd.parse_eq (s:=[b,64,104]) (c:=([b,64,104],[],false)) (d:=([b],[104],true)) h2 h3]
        simp only
        rw[dom_h,node_one h1]
        rfl
      rw[Jd.bare_ok h rfl]
      rfl
    rcases hk with e | e | e | e | e
    · rw[e];exact bare_ah
    · rw[e];exact one 98 (by decide) (by decide) (by decide)
    · rw[e];exact one 99 (by decide) (by decide) (by decide)
    · rw[e]
      show Jd.bareL [100,64,120,46,121]=([100,64,120,46,121],0)
      have h:Jd.parseL [100,64,120,46,121]=(([100],[120,46,121],[]),0):=by
        rw[Jd.parse_eq (s:=[100,64,120,46,121]) (c:=([100,64,120,46,121],[],false)) (d:=([100],[120,46,121],true)) (by decide) (by decide)]
        simp only
        rw[dom_xy,node_one (by decide)]
        rfl
      rw[Jd.bare_ok h rfl]
      rfl
    · rw[e]
      show Jd.bareL [104]=([104],0)
      have h:Jd.parseL [104]=(([],[104],[]),0):=by
        rw[Jd.parse_eq (s:=[104]) (c:=([104],[],false)) (d:=([],[104],false)) (by decide) (by decide)]
        simp only
        rw[dom_h]
        rfl
      rw[Jd.bare_ok h rfl]
      rfl
theorem near_bare (s:List UInt8) (k:Nat):bareB (nearJ s k)=true:=by
  unfold bareB
  rw[near_key,decide_eq_true (rfl:(nearJ s k,0)=(nearJ s k,0)),Bool.or_true]
theorem note_line {t:List UInt8} (h:line t 200=true):noteB t=true:=by
  obtain⟨cs,h1,h2,h3⟩:=line_chars h
  unfold noteB
  rw[line_valid h,runes_some h1]
  rw[line_some h1] at h
  have hl:(cs.length:Int)≤200:=of_decide_eq_true (Bool.and_eq_true_iff.1 h).2
  have hb:t.all (fun b=>b != 13)=true:=List.all_eq_true.2 fun b hb=>by
    have h13:=line_no13 (t:=t) (n:=200) (by rw[line_some h1];exact h)
    have:b≠13:=fun e=>h13 (e ▸ hb)
    simpa using this
  rw[hb,decide_eq_true (show cs.length≤500 by omega)]
  rfl
structure Near (d:Con):Prop where
  name:line d.name 100=true
  some_:d.name≠[]
  family:line d.family 50=true
  given:line d.given 50=true
  nick:line d.nick 50=true
  jid:d.jid=[]∨∃ s k,d.jid=nearJ s k
  email:line d.email 50=true
  tel:line d.tel 50=true
  note:line d.note 200=true
  uid:line d.uid 50=true
  groups:∃ l,d.groups=groupsL l∧l.length≤4∧∀ g∈l,line g 30=true
  other:d.other=[]
theorem Near.right {d:Con} (h:Near d):rightC d=true:=by
  obtain⟨l,hg,hl,hx⟩:=h.groups
  refine right_of h.some_ ?_ (note_line h.note) ?_ ?_ (by rw[h.other];exact none_ok)
  · unfold textsB
    rw[h.name,line_more h.family (by decide),line_more h.given (by decide),line_more h.nick (by decide),line_more h.email (by decide),line_more h.tel (by decide),line_more h.uid (by decide)]
    rfl
  · rcases h.jid with e | ⟨s,k,e⟩
    · rw[e];rfl
    · rw[e];exact near_bare s k
  · rw[hg]
    exact groups_ok (by omega) hx (by decide)
end Go.Proofs.YtfbdnaclkfmiaaaGreatDoor.Ct
end