/-
  ContactNeeds, PROVED: for every input that can be read and is of the given bulk at most the law answers true, and its input reads as before; under the row's own condition, that the library's tables of UTF-8 and of letters hold what the program's text lays (the card ties that to the text).
-/
import Derived.Test.YtfbdnaclkfmiaaaGreatDoorB49
import Derived.Test.YtfbdnaclkfmiaaaGreatDoorB48
import Derived.Test.YtfbdnaclkfmiaaaGreatDoorB52
namespace Go.Proofs.YtfbdnaclkfmiaaaGreatDoor
open Go.ChangeShapes Go.WideShapes Go.ChangeAt Go.RowKit
open Go.ChangeMaps (open_string shut_string)
open Tx Vc Ct
set_option maxHeartbeats 8000000 in
set_option maxRecDepth 100000 in
theorem contactNeedsUpto_contract (H:Type) (enc:TypeId × Value→H) (W:World) (base:Nat) (args:Array Value) (ds gs:List (DataW H)) (before:List MemPlace) (vt:List TypeId)
    (hval0:∀ (j:Nat) t v,Tryz.f6.params[j]?=some t→args[j]?=some v→Value.okWide Tryz.prog W .any base t v)
    (hW:DataW.Whole enc Tryz.prog Tryz.f6.params.toList Rows.contactNeedsSpec.vars false W args.toList ds gs before) (hz0:(DataW.weightsEach Tryz.prog (Tryz.f6.params.toList++vt) (ds++gs)).all (·≤reachBytes)=true)
    (hup0:Rows.uptoSmall H (ds++gs)=true)
    (hL:laidMetH Tryz.prog Rows.contactNeedsUptoRow.laid W) (hSh:W.ShapedOpen Tryz.prog) :
    Calls Tryz.prog 6 args W fun e W'=>∃ v,e=.returned v∧Rows.contactNeedsSpec.post enc Tryz.prog Tryz.f6 false true false false W args v W':=by
  have hW':=hW
  have hval:=hval0
  have hz:=hz0
  have hup:=hup0
  obtain⟨p,q,hA0,hV,rfl,hfz,hnd⟩:=hW
  have hA:DataW.TrodAll enc Tryz.prog W 0 (fun _=>true) true Tryz.f6.params.toList args.toList ds p:=hA0
  rw[Tryz.params6] at hA hval hz
  obtain⟨v0,vs0,d0,ds0,p0,q0,hargs,rfl,rfl,h0,r0⟩:=trodAll_cons hA
  obtain⟨v1,vs1,d1,ds1,p1,q1,rfl,rfl,rfl,h1,r1⟩:=trodAll_cons r0
  obtain⟨rfl,rfl,rfl⟩:=trodAll_nil r1
  obtain rfl:args=#[v0,v1]:=by cases args;simp_all
  obtain⟨rfl,rfl⟩:=trodVars_none hV
  have hL':laidMet Tryz.prog laidList W:=by rw[MakeChecks.laidMetH_plain _ _ _ (by as_aux_lemma=>kernel_rfl)] at hL;exact hL
  have hO:OkwV W:=okwV_of hL' hSh
  have hbk:Rows.uptoBulkAll [d0,d1]≤1048576:=by
    have h:=of_decide_eq_true hup
    simpa only[List.append_nil] using h
  simp only[Rows.uptoBulkAll] at hbk
  obtain⟨c0,g0,o0,rfl,rg0,ro0,bt0',bg0',bs0',bc0',hs0'⟩:=contact_of_trod (hval 0 25 v0 rfl rfl) h0
  have bt0:∀ x∈[c0.name,c0.family,c0.given,c0.nick,c0.jid,c0.email,c0.tel,c0.note,c0.uid],x.length≤1048576:=fun x hx=>by have:=bt0' x hx;omega
  have bg0:c0.groups.length≤1048576:=by omega
  have bs0:∀ g∈c0.groups,g.length≤3145728:=fun g hg=>by have:=bs0' g hg;omega
  have bc0:costC c0.other≤5242880:=by omega
  have hs0:(c0.groups.map fun x=>3+x.length).sum≤3145728:=by omega
  obtain⟨a1,rfl,rfl,rfl,w1⟩:=open_int Tryz.underlying3 (hval 1 3 v1 rfl rfl) h1
  refine(contactNeeds_any c0 g0 o0 a1 W hO rg0 ro0 (by omega) (Nat.le_trans (heavyC_came bt0 hs0) (by decide)) (by omega)).mono fun e W' ⟨he,hb⟩=>?_
  subst he
  exact⟨_,rfl,law_post (by as_aux_lemma=>kernel_rfl) (by as_aux_lemma=>kernel_rfl) rfl rfl hW' hb⟩
theorem contactNeedsUpto_reads (os:Os) {H:Type} (enc:TypeId × Value→H):∃ places,DataW.whole enc Tryz.prog ((laidWorld os).forCall (fun _ _=>0) ⟨#[],#[.agg #[.string ⟨#[]⟩,.string ⟨#[]⟩,.string ⟨#[]⟩,.string ⟨#[]⟩,.string ⟨#[]⟩,.string ⟨#[]⟩,.string ⟨#[]⟩,.string ⟨#[]⟩,.string ⟨#[]⟩,.slice none 0 0,.slice none 0 0],.int .i64 0],[]⟩).memory Tryz.f6.params.toList Rows.contactNeedsSpec.vars false (#[.agg #[.string ⟨#[]⟩,.string ⟨#[]⟩,.string ⟨#[]⟩,.string ⟨#[]⟩,.string ⟨#[]⟩,.string ⟨#[]⟩,.string ⟨#[]⟩,.string ⟨#[]⟩,.string ⟨#[]⟩,.slice none 0 0,.slice none 0 0],.int .i64 0]:Array Value).toList 8=some ([.agg [.lit (.string []),.lit (.string []),.lit (.string []),.lit (.string []),.lit (.string []),.lit (.string []),.lit (.string []),.lit (.string []),.lit (.string []),.nil,.nil],.lit (.int .i64 0)],[],places):=by
  have hw:(DataW.whole enc Tryz.prog ((laidWorld os).forCall (fun _ _=>0) ⟨#[],#[.agg #[.string ⟨#[]⟩,.string ⟨#[]⟩,.string ⟨#[]⟩,.string ⟨#[]⟩,.string ⟨#[]⟩,.string ⟨#[]⟩,.string ⟨#[]⟩,.string ⟨#[]⟩,.string ⟨#[]⟩,.slice none 0 0,.slice none 0 0],.int .i64 0],[]⟩).memory Tryz.f6.params.toList Rows.contactNeedsSpec.vars false (#[.agg #[.string ⟨#[]⟩,.string ⟨#[]⟩,.string ⟨#[]⟩,.string ⟨#[]⟩,.string ⟨#[]⟩,.string ⟨#[]⟩,.string ⟨#[]⟩,.string ⟨#[]⟩,.string ⟨#[]⟩,.slice none 0 0,.slice none 0 0],.int .i64 0]:Array Value).toList 8).map (fun x=>(x.1,x.2.1))=some ([.agg [.lit (.string []),.lit (.string []),.lit (.string []),.lit (.string []),.lit (.string []),.lit (.string []),.lit (.string []),.lit (.string []),.lit (.string []),.nil,.nil],.lit (.int .i64 0)],[]):=by as_aux_lemma=>kernel_rfl
  obtain⟨⟨x1,x2,x3⟩,hx,hx1⟩:=Option.map_eq_some_iff.1 hw
  simp only[Prod.mk.injEq] at hx1
  obtain⟨rfl,rfl⟩:=hx1
  exact⟨x3,hx⟩
set_option maxRecDepth 100000 in
theorem contactNeedsUpto_lifted (os:Os) (started:os.Started) (H:Type) (enc:TypeId × Value→H) (F:Stop.Interp) :
    ReturnsInHanded {} Tryz.checked os 6 .any ((Rows.OpenSpec.upto Rows.contactNeedsSpec).preRow enc Tryz.prog Tryz.f6 Rows.contactNeedsUptoRow.domain false Rows.contactNeedsUptoRow.laid) (((Rows.OpenSpec.upto Rows.contactNeedsSpec).at F).post enc Tryz.prog Tryz.f6 false true false false):=by
  obtain⟨places,hx⟩:=contactNeedsUpto_reads os enc
  refine returnsInHanded_of_row (C:=Tryz.checked) (s:=Rows.OpenSpec.upto Rows.contactNeedsSpec) own started (by as_aux_lemma=>kernel_rfl) Tryz.func6
    (witness_row_atRef (enc:=enc) (C:=Tryz.checked) false (laidWorld os) #[.agg #[.string ⟨#[]⟩,.string ⟨#[]⟩,.string ⟨#[]⟩,.string ⟨#[]⟩,.string ⟨#[]⟩,.string ⟨#[]⟩,.string ⟨#[]⟩,.string ⟨#[]⟩,.string ⟨#[]⟩,.slice none 0 0,.slice none 0 0],.int .i64 0] rfl (by as_aux_lemma=>kernel_rfl) (by as_aux_lemma=>kernel_rfl) (by as_aux_lemma=>kernel_rfl)
      (OpenSpec.preRow_of_cond 8 hx (by as_aux_lemma=>kernel_rfl) (fun k hk=>by cases hk;kernel_rfl) (by as_aux_lemma=>kernel_rfl) (laid_met os _))) ?_
  intro W base args ds gs before hval hW _ hcond hz hL hSh _
  exact contactNeedsUpto_contract H enc W base args ds gs before _ hval hW hz (hcond _ rfl) hL hSh
set_option maxHeartbeats 0 in
theorem contactNeedsUpto_closed:joinedFacts Tryz.pinned.checked.prog 6 Tryz.f6 (Rows.OpenSpec.upto Rows.contactNeedsSpec).bare Rows.contactNeedsUptoRow=true:=by
  unfold joinedFacts
  simp only[Bool.and_eq_true]
  repeat' (refine And.intro ?_ ?_)
  all_goals (as_aux_lemma=>kernel_rfl)
theorem contactNeedsUpto_said:Rows.ContactNeedsUptoSaid :=
  OpenClaim.holds_of_cond 6 Tryz.f6 rfl rfl rfl rfl rfl rfl rfl ⟨rfl,rfl,rfl,rfl,rfl⟩ rfl rfl rfl rfl rfl (by as_aux_lemma=>kernel_rfl) Tryz.func6 contactNeedsUpto_closed
    (of_decide_eq_true (by as_aux_lemma=>kernel_rfl)) (by unfold Func.isWrapper;first | (rw[if_pos (by decide +kernel)];kernel_rfl) | (rw[if_neg (by decide +kernel)];exact⟨rfl,rfl⟩))
    (fun os started H enc _ F=>by rw[OpenClaim.pre_eq_preRow];exact contactNeedsUpto_lifted os started H enc F)
theorem contactNeedsUpto_plain (f:FuncId) (fn:Func) (hf : Tryz.pinned.checked.prog.funcNamed "cardex/cardexlaw12.ContactNeeds"=some f) (hfn : Tryz.pinned.checked.prog.funcs[f]?=some fn) :
    false=Tryz.pinned.checked.prog.looks []∧∀ (j:Nat) t,fn.params[j]?=some t→Tryz.pinned.checked.prog.wantsStandIn t=false:=by
  obtain rfl:f=6:=Option.some.inj ((show Tryz.prog.funcNamed "cardex/cardexlaw12.ContactNeeds"=some 6 by as_aux_lemma=>kernel_rfl).symm.trans hf) |>.symm
  obtain rfl:fn=Tryz.f6:=(Option.some.inj (Tryz.func6.symm.trans hfn)).symm
  refine⟨by as_aux_lemma=>kernel_rfl,fun j t ht=>?_⟩
  rw[Tryz.params6] at ht
  have hm:t∈[25,3]:=by simpa using Array.mem_of_getElem? ht
  have hall:([25,3].all fun u=>!Tryz.prog.wantsStandIn u)=true:=by as_aux_lemma=>kernel_rfl
  exact(show Tryz.prog.wantsStandIn t=false by simpa using List.all_eq_true.1 hall t hm)
theorem contactNeedsUpto_card:Rows.ContactNeedsUptoCardSaid :=
  Claim7.holds_tied_plain_at .later [] _ _ _ _ contactNeedsUpto_said (fun _ h=>by cases h) (by as_aux_lemma=>kernel_rfl) (fun _ h=>by cases h) contactNeedsUpto_row_tie rfl ⟨rfl,rfl⟩ (by as_aux_lemma=>kernel_rfl) rfl contactNeedsUpto_plain (by as_aux_lemma=>kernel_rfl)
end Go.Proofs.YtfbdnaclkfmiaaaGreatDoor