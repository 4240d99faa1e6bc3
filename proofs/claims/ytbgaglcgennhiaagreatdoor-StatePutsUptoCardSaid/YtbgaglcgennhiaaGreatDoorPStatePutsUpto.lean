/-
  StatePuts, PROVED: for every input that can be read and is of the given bulk at most the law answers true, and its input reads as before; under the row's own condition, that the library's tables of UTF-8 and of letters hold what the program's text lays (the card ties that to the text).
-/
import Derived.Test.YtbgaglcgennhiaaGreatDoorP48
import Derived.Test.YtbgaglcgennhiaaGreatDoorP51
namespace Go.Proofs.YtbgaglcgennhiaaGreatDoor
open Go.ChangeShapes Go.WideShapes Go.ChangeAt Go.RowKit
open Go.ChangeMaps (open_string shut_string)
open Tx Ct
set_option maxRecDepth 100000 in
theorem statePutsUpto_contract (H:Type) (ai:TypeId × Value→H) (W:World) (base:Nat) (args:Array Value) (ds gs:List (DataW H)) (before:List MemPlace) (vt:List TypeId)
 (hval0:∀ (j:Nat) t v,Tryz.f6.params[j]?=some t→args[j]?=some v→Value.okWide Tryz.prog W .any base t v)
 (hW:DataW.Whole ai Tryz.prog Tryz.f6.params.toList Rows.statePutsSpec.vars false W args.toList ds gs before) (hz0:(DataW.weightsEach Tryz.prog (Tryz.f6.params.toList++vt) (ds++gs)).all (·≤reachBytes)=true)
 (hup0:Rows.uptoSmall H (ds++gs)=true)
 (hL:laidMetH Tryz.prog Rows.statePutsUptoRow.laid W) (hSh:W.ShapedOpen Tryz.prog) :
 Calls Tryz.prog 6 args W fun e W'=>∃ v,e=.returned v∧Rows.statePutsSpec.post ai Tryz.prog Tryz.f6 false true false false W args v W':=by
 have hW':=hW;have hval:=hval0;have hz:=hz0;have hup:=hup0
 obtain⟨p,q,hA0,hV,rfl,hfz,hnd⟩:=hW
 have hA:DataW.TrodAll ai Tryz.prog W 0 (fun _=>true) true Tryz.f6.params.toList args.toList ds p:=hA0;rw[Tryz.params6] at hA hval hz
 obtain⟨v0,vs0,d0,ds0,p0,q0,hargs,rfl,rfl,h0,r0⟩:=trodAll_cons hA
 obtain⟨v1,vs1,d1,ds1,p1,q1,rfl,rfl,rfl,h1,r1⟩:=trodAll_cons r0
 obtain⟨v2,vs2,d2,ds2,p2,q2,rfl,rfl,rfl,h2,r2⟩:=trodAll_cons r1
 obtain⟨rfl,rfl,rfl⟩:=trodAll_nil r2
 obtain rfl:args=#[v0,v1,v2]:=by cases args;simp_all
 obtain⟨rfl,rfl⟩:=trodVars_none hV
 have hL':laidMet Tryz.prog ga W:=by rw[MakeChecks.laidMetH_plain _ _ _ (by as_aux_lemma=>kernel_rfl)] at hL;exact hL
 have hO:Okw W:=uW (la hL') hSh;have hbk:Rows.uptoBulkAll [d0,d1,d2]≤1048576:=by
  have h:=of_decide_eq_true hup;simpa only[List.append_nil] using h
 simp only[Rows.uptoBulkAll] at hbk
 obtain⟨s0,a0,rfl,w0,b0'⟩:=jP (hval 0 24 v0 rfl rfl) h0
 have b0:bW a0≤8388608:=by omega
 obtain⟨a1,rfl,w1,b1'⟩:=l6 (hval 1 28 v1 rfl rfl) h1
 have b1:aY a1≤8388608:=by omega
 obtain⟨a2,rfl,rfl,rfl,w2⟩:=open_int Tryz.underlying3 (hval 2 3 v2 rfl rfl) h2
 refine(jS s0 a0 a1 a2 W hO hO.tabs w0 (by omega) w1 (by have:aY a1=5+a1.name.length+a1.pw.length+ax a1.pend+be a1.items:=rfl;omega) (by have:aY a1=5+a1.name.length+a1.pw.length+ax a1.pend+be a1.items:=rfl;omega) (by have:aY a1=5+a1.name.length+a1.pw.length+ax a1.pend+be a1.items:=rfl;omega)).mono fun e W' ⟨he,hb⟩=>?_
 subst he
 exact⟨_,rfl,tf (by as_aux_lemma=>kernel_rfl) (by as_aux_lemma=>kernel_rfl) rfl rfl hW' hb⟩
theorem statePutsUpto_reads (os:Os) {H:Type} (ai:TypeId × Value→H):∃ places,DataW.whole ai Tryz.prog ((eT os).forCall (fun _ _=>0) ⟨#[],#[.agg #[.slice none 0 0],.agg #[.string ⟨#[]⟩,.string ⟨#[]⟩,.slice none 0 0,.slice none 0 0],.int .i64 0],[]⟩).memory Tryz.f6.params.toList Rows.statePutsSpec.vars false (#[.agg #[.slice none 0 0],.agg #[.string ⟨#[]⟩,.string ⟨#[]⟩,.slice none 0 0,.slice none 0 0],.int .i64 0]:Array Value).toList 8=some ([.agg [.nil],.agg [.lit (.string []),.lit (.string []),.nil,.nil],.lit (.int .i64 0)],[],places):=by
 have hw:(DataW.whole ai Tryz.prog ((eT os).forCall (fun _ _=>0) ⟨#[],#[.agg #[.slice none 0 0],.agg #[.string ⟨#[]⟩,.string ⟨#[]⟩,.slice none 0 0,.slice none 0 0],.int .i64 0],[]⟩).memory Tryz.f6.params.toList Rows.statePutsSpec.vars false (#[.agg #[.slice none 0 0],.agg #[.string ⟨#[]⟩,.string ⟨#[]⟩,.slice none 0 0,.slice none 0 0],.int .i64 0]:Array Value).toList 8).map (fun x=>(x.1,x.2.1))=some ([.agg [.nil],.agg [.lit (.string []),.lit (.string []),.nil,.nil],.lit (.int .i64 0)],[]):=by as_aux_lemma=>kernel_rfl
 obtain⟨⟨x1,x2,x3⟩,hx,hx1⟩:=Option.map_eq_some_iff.1 hw
 simp only[Prod.mk.injEq] at hx1
 obtain⟨rfl,rfl⟩:=hx1
 exact⟨x3,hx⟩
set_option maxRecDepth 100000 in
theorem statePutsUpto_lifted (os:Os) (started:os.Started) (H:Type) (ai:TypeId × Value→H) (F:Stop.Interp) :
 ReturnsInHanded {} Tryz.checked os 6 .any ((Rows.OpenSpec.upto Rows.statePutsSpec).preRow ai Tryz.prog Tryz.f6 Rows.statePutsUptoRow.domain false Rows.statePutsUptoRow.laid) (((Rows.OpenSpec.upto Rows.statePutsSpec).at F).post ai Tryz.prog Tryz.f6 false true false false):=by
 obtain⟨places,hx⟩:=statePutsUpto_reads os ai
 refine returnsInHanded_of_row (C:=Tryz.checked) (s:=Rows.OpenSpec.upto Rows.statePutsSpec) own started (by as_aux_lemma=>kernel_rfl) Tryz.func6
  (witness_row_atRef (enc:=ai) (C:=Tryz.checked) false (eT os) #[.agg #[.slice none 0 0],.agg #[.string ⟨#[]⟩,.string ⟨#[]⟩,.slice none 0 0,.slice none 0 0],.int .i64 0] rfl (by as_aux_lemma=>kernel_rfl) (by as_aux_lemma=>kernel_rfl) (by as_aux_lemma=>kernel_rfl)
   (OpenSpec.preRow_of_cond 8 hx (by as_aux_lemma=>kernel_rfl) (fun k hk=>by cases hk;kernel_rfl) (by as_aux_lemma=>kernel_rfl) (ty os _))) ?_
 intro W base args ds gs before hval hW _ hcond hz hL hSh _;exact statePutsUpto_contract H ai W base args ds gs before _ hval hW hz (hcond _ rfl) hL hSh
set_option maxHeartbeats 0 in
theorem statePutsUpto_closed:joinedFacts Tryz.pinned.checked.prog 6 Tryz.f6 (Rows.OpenSpec.upto Rows.statePutsSpec).bare Rows.statePutsUptoRow=true:=by
 unfold joinedFacts;simp only[Bool.and_eq_true]
 repeat' (refine And.intro ?_ ?_)
 all_goals (as_aux_lemma=>kernel_rfl)
theorem statePutsUpto_said:Rows.StatePutsUptoSaid :=
 OpenClaim.holds_of_cond 6 Tryz.f6 rfl rfl rfl rfl rfl rfl rfl ⟨rfl,rfl,rfl,rfl,rfl⟩ rfl rfl rfl rfl rfl (by as_aux_lemma=>kernel_rfl) Tryz.func6 statePutsUpto_closed
  (of_decide_eq_true (by as_aux_lemma=>kernel_rfl)) (by unfold Func.isWrapper;first | (rw[if_pos (by decide +kernel)];kernel_rfl) | (rw[if_neg (by decide +kernel)];exact⟨rfl,rfl⟩))
  (fun os started H ai _ F=>by rw[OpenClaim.pre_eq_preRow];exact statePutsUpto_lifted os started H ai F)
theorem statePutsUpto_plain (f:FuncId) (fn:Func) (hf : Tryz.pinned.checked.prog.funcNamed "cardex/cardexlaw16.StatePuts"=some f) (hfn : Tryz.pinned.checked.prog.funcs[f]?=some fn) :
 false=Tryz.pinned.checked.prog.looks []∧∀ (j:Nat) t,fn.params[j]?=some t→Tryz.pinned.checked.prog.wantsStandIn t=false:=by
 obtain rfl:f=6:=Option.some.inj ((show Tryz.prog.funcNamed "cardex/cardexlaw16.StatePuts"=some 6 by as_aux_lemma=>kernel_rfl).symm.trans hf) |>.symm
 obtain rfl:fn=Tryz.f6:=(Option.some.inj (Tryz.func6.symm.trans hfn)).symm
 refine⟨by as_aux_lemma=>kernel_rfl,fun j t ht=>?_⟩
 rw[Tryz.params6] at ht;have hm:t∈[24,28,3]:=by simpa using Array.mem_of_getElem? ht
 have hall:([24,28,3].all fun u=>!Tryz.prog.wantsStandIn u)=true:=by as_aux_lemma=>kernel_rfl
 exact(show Tryz.prog.wantsStandIn t=false by simpa using List.all_eq_true.1 hall t hm)
theorem statePutsUpto_card:Rows.StatePutsUptoCardSaid :=
 Claim7.holds_tied_plain_at .later [] _ _ _ _ statePutsUpto_said (fun _ h=>by cases h) (by as_aux_lemma=>kernel_rfl) (fun _ h=>by cases h) statePutsUpto_row_tie rfl ⟨rfl,rfl⟩ (by as_aux_lemma=>kernel_rfl) rfl statePutsUpto_plain (by as_aux_lemma=>kernel_rfl)
end Go.Proofs.YtbgaglcgennhiaaGreatDoor
