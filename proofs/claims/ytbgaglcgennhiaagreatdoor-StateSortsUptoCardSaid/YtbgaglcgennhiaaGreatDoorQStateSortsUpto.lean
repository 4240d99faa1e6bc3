/-
  StateSorts, PROVED: for every input that can be read and is of the given bulk at most the law answers true, and its input reads as before; under the row's own condition, that the library's tables of UTF-8 and of letters hold what the program's text lays (the card ties that to the text).
-/
import Derived.Test.YtbgaglcgennhiaaGreatDoorQ48
import Derived.Test.YtbgaglcgennhiaaGreatDoorQ51
namespace Go.Proofs.YtbgaglcgennhiaaGreatDoor
open Go.ChangeShapes Go.WideShapes Go.ChangeAt Go.RowKit
open Go.ChangeMaps (open_string shut_string)
open Tx Ct
set_option maxRecDepth 100000 in
theorem stateSortsUpto_contract (H:Type) (enc:TypeId × Value->H) (W:World) (base:Nat) (args:Array Value) (ds gs:List (DataW H)) (before:List MemPlace) (vt:List TypeId)
 (hval0:∀ (j:Nat) t v,Tryz.f4.params[j]?=some t->args[j]?=some v->Value.okWide Tryz.prog W .any base t v)
 (hW:DataW.Whole enc Tryz.prog Tryz.f4.params.toList Rows.stateSortsSpec.vars false W args.toList ds gs before) (hz0:(DataW.weightsEach Tryz.prog (Tryz.f4.params.toList++vt) (ds++gs)).all (·<=reachBytes)=true)
 (hup0:Rows.uptoSmall H (ds++gs)=true)
 (hL:laidMetH Tryz.prog Rows.stateSortsUptoRow.laid W) (hSh:W.ShapedOpen Tryz.prog):
 Calls Tryz.prog 4 args W fun e W'=>∃ v,e=.returned v/\Rows.stateSortsSpec.post enc Tryz.prog Tryz.f4 false true false false W args v W':=by
 have hW':=hW;have hval:=hval0;have hz:=hz0;have hup:=hup0;obtain⟨p,q,hA0,hV,rfl,hfz,hnd⟩:=hW;have hA:DataW.TrodAll enc Tryz.prog W 0 (fun _=>true) true Tryz.f4.params.toList args.toList ds p:=hA0;rw[Tryz.params4] at hA hval hz;obtain⟨v0,vs0,d0,ds0,p0,q0,hargs,rfl,rfl,h0,r0⟩:=trodAll_cons hA;obtain⟨v1,vs1,d1,ds1,p1,q1,rfl,rfl,rfl,h1,r1⟩:=trodAll_cons r0;obtain⟨rfl,rfl,rfl⟩:=trodAll_nil r1;obtain rfl:args=#[v0,v1]:=by cases args;simp_all
 obtain⟨rfl,rfl⟩:=trodVars_none hV;have hL':laidMet Tryz.prog iA W:=by rw[MakeChecks.laidMetH_plain _ _ _ (by as_aux_lemma=>kernel_rfl)] at hL;exact hL
 have hO:Okw W:=zh (nX hL') hSh;have hbk:Rows.uptoBulkAll [d0,d1]<=1048576:=by have h:=of_decide_eq_true hup;simpa only[List.append_nil] using h
 simp only[Rows.uptoBulkAll] at hbk;obtain⟨s0,a0,rfl,w0,b0'⟩:=ma (hval 0 24 v0 rfl rfl) h0;have b0:cK a0<=8388608:=by omega
 obtain⟨a1,rfl,rfl,rfl,w1⟩:=open_int Tryz.underlying3 (hval 1 3 v1 rfl rfl) h1;refine(lJ s0 a0 a1 W hO hO.tabs w0 (by omega)).mono fun e W' ⟨he,hb⟩=>?_
 subst he;exact⟨_,rfl,wS (by as_aux_lemma=>kernel_rfl) (by as_aux_lemma=>kernel_rfl) rfl rfl hW' hb⟩
theorem stateSortsUpto_reads (os:Os) {H:Type} (enc:TypeId × Value->H):∃ places,DataW.whole enc Tryz.prog ((ge os).forCall (fun _ _=>0) ⟨#[],#[.agg #[.slice none 0 0],.int .i64 0],[]⟩).memory Tryz.f4.params.toList Rows.stateSortsSpec.vars false (#[.agg #[.slice none 0 0],.int .i64 0]:Array Value).toList 8=some ([.agg [.nil],.lit (.int .i64 0)],[],places):=by
 have hw:(DataW.whole enc Tryz.prog ((ge os).forCall (fun _ _=>0) ⟨#[],#[.agg #[.slice none 0 0],.int .i64 0],[]⟩).memory Tryz.f4.params.toList Rows.stateSortsSpec.vars false (#[.agg #[.slice none 0 0],.int .i64 0]:Array Value).toList 8).map (fun x=>(x.1,x.2.1))=some ([.agg [.nil],.lit (.int .i64 0)],[]):=by as_aux_lemma=>kernel_rfl
 obtain⟨⟨x1,x2,x3⟩,hx,hx1⟩:=Option.map_eq_some_iff.1 hw;simp only[Prod.mk.injEq] at hx1;obtain⟨rfl,rfl⟩:=hx1;exact⟨x3,hx⟩
set_option maxRecDepth 100000 in
theorem stateSortsUpto_lifted (os:Os) (started:os.Started) (H:Type) (enc:TypeId × Value->H) (F:Stop.Interp):
 ReturnsInHanded {} Tryz.checked os 4 .any ((Rows.OpenSpec.upto Rows.stateSortsSpec).preRow enc Tryz.prog Tryz.f4 Rows.stateSortsUptoRow.domain false Rows.stateSortsUptoRow.laid) (((Rows.OpenSpec.upto Rows.stateSortsSpec).at F).post enc Tryz.prog Tryz.f4 false true false false):=by
 obtain⟨places,hx⟩:=stateSortsUpto_reads os enc;refine returnsInHanded_of_row (C:=Tryz.checked) (s:=Rows.OpenSpec.upto Rows.stateSortsSpec) own started (by as_aux_lemma=>kernel_rfl) Tryz.func4
  (witness_row_atRef (enc:=enc) (C:=Tryz.checked) false (ge os) #[.agg #[.slice none 0 0],.int .i64 0] rfl (by as_aux_lemma=>kernel_rfl) (by as_aux_lemma=>kernel_rfl) (by as_aux_lemma=>kernel_rfl)
   (OpenSpec.preRow_of_cond 8 hx (by as_aux_lemma=>kernel_rfl) (fun k hk=>by cases hk;kernel_rfl) (by as_aux_lemma=>kernel_rfl) (wR os _))) ?_
 intro W base args ds gs before hval hW _ hcond hz hL hSh _;exact stateSortsUpto_contract H enc W base args ds gs before _ hval hW hz (hcond _ rfl) hL hSh
set_option maxHeartbeats 0 in
theorem stateSortsUpto_closed:joinedFacts Tryz.pinned.checked.prog 4 Tryz.f4 (Rows.OpenSpec.upto Rows.stateSortsSpec).bare Rows.stateSortsUptoRow=true:=by
 unfold joinedFacts;simp only[Bool.and_eq_true]
 repeat' (refine And.intro ?_ ?_)
 all_goals (as_aux_lemma=>kernel_rfl)
theorem stateSortsUpto_said:Rows.StateSortsUptoSaid:=
 OpenClaim.holds_of_cond 4 Tryz.f4 rfl rfl rfl rfl rfl rfl rfl ⟨rfl,rfl,rfl,rfl,rfl⟩ rfl rfl rfl rfl rfl (by as_aux_lemma=>kernel_rfl) Tryz.func4 stateSortsUpto_closed
  (of_decide_eq_true (by as_aux_lemma=>kernel_rfl)) (by unfold Func.isWrapper;first|(rw[if_pos (by decide +kernel)];kernel_rfl)|(rw[if_neg (by decide +kernel)];exact⟨rfl,rfl⟩))
  (fun os started H enc _ F=>by rw[OpenClaim.pre_eq_preRow];exact stateSortsUpto_lifted os started H enc F)
theorem stateSortsUpto_plain (f:FuncId) (fn:Func) (hf : Tryz.pinned.checked.prog.funcNamed "cardex/cardexlaw16.StateSorts"=some f) (hfn : Tryz.pinned.checked.prog.funcs[f]?=some fn):
 false=Tryz.pinned.checked.prog.looks []/\∀ (j:Nat) t,fn.params[j]?=some t->Tryz.pinned.checked.prog.wantsStandIn t=false:=by
 obtain rfl:f=4:=Option.some.inj ((show Tryz.prog.funcNamed "cardex/cardexlaw16.StateSorts"=some 4 by as_aux_lemma=>kernel_rfl).symm.trans hf) |>.symm
 obtain rfl:fn=Tryz.f4:=(Option.some.inj (Tryz.func4.symm.trans hfn)).symm;refine⟨by as_aux_lemma=>kernel_rfl,fun j t ht=>?_⟩;rw[Tryz.params4] at ht;have hm:t∈[24,3]:=by simpa using Array.mem_of_getElem? ht
 have hall:([24,3].all fun u=>!Tryz.prog.wantsStandIn u)=true:=by as_aux_lemma=>kernel_rfl
 exact(show Tryz.prog.wantsStandIn t=false by simpa using List.all_eq_true.1 hall t hm)
theorem stateSortsUpto_card:Rows.StateSortsUptoCardSaid:=Claim7.holds_tied_plain_at .later [] _ _ _ _ stateSortsUpto_said (fun _ h=>by cases h) (by as_aux_lemma=>kernel_rfl) (fun _ h=>by cases h) stateSortsUpto_row_tie rfl ⟨rfl,rfl⟩ (by as_aux_lemma=>kernel_rfl) rfl stateSortsUpto_plain (by as_aux_lemma=>kernel_rfl)
end Go.Proofs.YtbgaglcgennhiaaGreatDoor
