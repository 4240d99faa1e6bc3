import Derived.Test.YtfbdnaclkfmiaaaGreatDoorCards
import Derived.Test.YtfbdnaclkfmiaaaGreatDoorTie
import Derived.Test.YtfbdnaclkfmiaaaGreatDoorB29
import Derived.Lib.LaidIn
import Derived.Lib.LaidTab
import Derived.Great.CaseRows
import Derived.Lib.LaidU8T
import Derived.PinnedBridge
import Derived.WalkKit
import Derived.ProofKit
import Derived.OpenShut
import Derived.Carry
import Derived.Deep.DeepHandedRow
import Derived.Deep.DeepWitnessRowRef
namespace Go.Proofs.YtfbdnaclkfmiaaaGreatDoor
open Go.ChangeShapes Go.WideShapes Go.ChangeAt Go.RowKit
theorem own:ownKnob Tryz.prog.godebug=none:=by kernel_rfl
theorem laidOutTypes:laidOutB Tryz.prog=true:=by kernel_rfl
theorem trodAll_stays {H:Type} {enc:TypeId × Value→H} {P:Program} (hl:laidOutB P=true) {W W':World} (hb:Below W.heap.size W W') (ts:List TypeId):∀ {vs:List Value} {ds:List (DataW H)} {ps:List MemPlace},
    (ts.all fun t=>P.readableRec t&&decide (t < P.types.size))=true→DataW.TrodAll enc P W 0 (fun _=>true) true ts vs ds ps→(∀ x∈ps,x.block < W.heap.size) →
    DataW.TrodAll enc P W' 0 (fun b=>decide (b < W.heap.size)) true ts vs ds ps:=by
  induction ts with
  | nil =>
    intro vs ds ps _ h _
    match vs,ds,h with
    | [],[],h=>exact h
    | [],_::_,h=>exact h.elim
    | _::_,[],h=>exact h.elim
    | _::_,_::_,h=>exact h.elim
  | cons t ts ih =>
    intro vs ds ps hk h hs
    match vs,ds,h with
    | [],[],h=>exact h.elim
    | [],_::_,h=>exact h.elim
    | _::_,[],h=>exact h.elim
    | v :: vs,d::ds,h =>
      obtain⟨p,q,h1,h2,e⟩:=h
      rw[List.all_cons,Bool.and_eq_true,Bool.and_eq_true] at hk
      exact⟨p,q,Below.trod hl hk.1.1 (of_decide_eq_true hk.1.2) h1 hb (fun x hx=>hs x (by rw[e];exact List.mem_append_left _ hx)),
        ih hk.2 h2 (fun x hx=>hs x (by rw[e];exact List.mem_append_right _ hx)),e⟩
theorem law_post {H:Type} {enc:TypeId × Value→H} {fn:Func} {spec:ChangeSpec} {W W':World} {args:Array Value} {ds:List (DataW H)} {before:List MemPlace}
    (hres:fn.resultTypes=#[4]) (hrd:(fn.params.toList.all fun t=>Tryz.prog.readableRec t&&decide (t < Tryz.prog.types.size))=true) (hvars:spec.vars=[])
    (hfn:spec.fn H (ds++[])={ results:=[.lit (.bool true)],args:=ds }) (hW:DataW.Whole enc Tryz.prog fn.params.toList spec.vars false W args.toList ds [] before) (hb:Below W.heap.size W W') :
    spec.post enc Tryz.prog fn false true false false W args (.bool true) W':=by
  have hW':=hW
  obtain⟨p,q,hA,_,he,_,_⟩:=hW
  refine⟨ds,[],before,[],p,[],hW',?_,?_,?_,hb.frame _,fun h=>by cases h⟩
  · rw[hfn,hres]
    exact trodAll_mk1 (shut_bool Tryz.underlying4 _)
  · rw[hfn]
    exact trodAll_stays laidOutTypes hb _ hrd hA (fun x hx=>hW'.lt x (by rw[he];exact List.mem_append_left _ hx))
  · rw[hfn,hvars]
    rfl
def flat:DataW Unit→List Value
  | .agg l=>l.filterMap fun
    | .lit (.int k n)=>some (Value.int k n)
    | _=>none
  | _=>[]
def flatS:DataW Unit→List Value
  | .slice l _=>l.flatMap flat
  | _=>[]
def partsS:DataW Unit→Nat
  | .slice l _=>l.length
  | _=>0
noncomputable def low:Nat:=(World.holding Tryz.prog default ⟨#[],#[],[]⟩).heap.size
noncomputable def laidWorld (os:Os):World :=
  let w0:=World.holding Tryz.prog os ⟨#[.cells (flatS Rows.laid_unicode_caseOrbit).toArray 267,.cells (Go.Lib.caseT.flatMap Go.Lib.cells5).toArray 282],#[],[]⟩
  let put (h:Array Obj) (g:Nat) (cs:Array Value):Array Obj:=h.modify g fun
    | .cells _ t frozen=>.cells cs t frozen
    | o=>o
  { w0 with heap:=put (put (put (put (put w0.heap 1 (Lib.firstTab.map fun z=>Value.int .u8 z).toArray) 2 ((List.range 16).flatMap fun i=>[Value.int .u8 (Lib.accLo i),Value.int .u8 (Lib.accHi i)]).toArray)
    3 (flat Rows.laid_unicode_asciiFold).toArray) 4 #[.slice (some ⟨low,0,none⟩) (partsS Rows.laid_unicode_caseOrbit) (partsS Rows.laid_unicode_caseOrbit)]) 5 #[.slice (some ⟨low+1,0,none⟩) Go.Lib.caseT.length Go.Lib.caseT.length] }
def laidList:List (String × DataW Unit):=[("unicode/utf8.acceptRanges",Rows.laid_unicode_utf8_acceptRanges),("unicode.asciiFold",Rows.laid_unicode_asciiFold),("unicode.caseOrbit",Rows.laid_unicode_caseOrbit),("unicode.CaseRanges",Rows.laid_unicode_CaseRanges),("unicode/utf8.first",Rows.laid_unicode_utf8_first)]
theorem cty:Go.Great.CTypes Tryz.prog 270 282 280 180 21:=⟨by kernel_rfl,by kernel_rfl,by kernel_rfl,by kernel_rfl,by kernel_rfl,by kernel_rfl,by kernel_rfl,by kernel_rfl,by kernel_rfl⟩
theorem caseRangesData:Rows.laid_unicode_CaseRanges=.slice (Go.Lib.caseT.map Go.Lib.rowData) []:=(show Rows.laid_unicode_CaseRanges=Go.Pinned.caseRanges from rfl).trans Go.Pinned.caseRanges_eq
set_option maxRecDepth 100000 in
theorem laid_met1 (os:Os) (args:Array Value):LaidIn Tryz.prog ((laidWorld os).forCall (fun _ _=>0) ⟨#[],args,[]⟩).memory [("unicode/utf8.acceptRanges",Rows.laid_unicode_utf8_acceptRanges),("unicode.asciiFold",Rows.laid_unicode_asciiFold),("unicode.caseOrbit",Rows.laid_unicode_caseOrbit)] [2,3,4,low] :=
  LaidIn.of_run _ 8 (by kernel_rfl) (by kernel_rfl) (by kernel_rfl) (by kernel_rfl)
theorem laid_met2 (os:Os) (args:Array Value):LaidIn Tryz.prog ((laidWorld os).forCall (fun _ _=>0) ⟨#[],args,[]⟩).memory [("unicode.CaseRanges",.slice (Go.Lib.caseT.map Go.Lib.rowData) [])] [5,low+1] :=
  Go.Great.laidIn_case cty (name:= "unicode.CaseRanges") (g:=5) (B:=low+1) (tg:=270) (tb:=282) Go.Lib.caseT (by kernel_rfl) (by kernel_rfl) (Nat.le_of_ble_eq_true (by kernel_rfl)) (by kernel_rfl) (by kernel_rfl) (by kernel_rfl) (Nat.ne_of_beq_eq_false (by kernel_rfl))
theorem laid_met3 (os:Os) (args:Array Value):LaidIn Tryz.prog ((laidWorld os).forCall (fun _ _=>0) ⟨#[],args,[]⟩).memory [("unicode/utf8.first",Rows.laid_unicode_utf8_first)] [1] :=
  LaidIn.of_run _ 8 (by kernel_rfl) (by kernel_rfl) (by kernel_rfl) (by kernel_rfl)
theorem laid_met (os:Os) (args:Array Value):laidMet Tryz.prog laidList ((laidWorld os).forCall (fun _ _=>0) ⟨#[],args,[]⟩).memory:=by
  have h:=(((laid_met1 os args).append (laid_met2 os args) (by kernel_rfl)).append (laid_met3 os args) (by kernel_rfl)).met
  rw[← caseRangesData] at h
  exact h
theorem acceptData_eq:Rows.laid_unicode_utf8_acceptRanges (H:=Unit)=Lib.acceptData:=by kernel_rfl
theorem tabs_of_laid {W:World} (hL:laidMet Tryz.prog laidList W):Lib.Utf8Tabs 1 2 W :=
  Go.Proofs.utf8Tabs_of_readsT (U8Types.of260 Tryz.lays260) ⟨by kernel_rfl,by kernel_rfl,by kernel_rfl,by kernel_rfl,by kernel_rfl,by kernel_rfl,by kernel_rfl⟩
    (by have:=Lib.laidMet.reads hL (n:= "unicode/utf8.first") (d:=Rows.laid_unicode_utf8_first) (by unfold laidList;simp);rwa [show Rows.laid_unicode_utf8_first=Go.Pinned.utf8First from rfl,Go.Pinned.utf8First_eq] at this)
    (by have:=Lib.laidMet.reads hL (n:= "unicode/utf8.acceptRanges") (d:=Rows.laid_unicode_utf8_acceptRanges) (by unfold laidList;simp);rwa [acceptData_eq] at this)
def foldT:List Int:=(List.range 128).map fun i=>(foldN i:Int)
theorem foldData_eq:Rows.laid_unicode_asciiFold (H:=Unit)=Go.Lib.tabData .u16 foldT:=by kernel_rfl
theorem folds_of_laid {W:World} (hL:laidMet Tryz.prog laidList W):Folds W:=by
  obtain⟨g,t,cs,fuel,p,hg,hty,hvar,hd⟩:=Lib.laidMet.reads hL (n:= "unicode.asciiFold") (d:=Rows.laid_unicode_asciiFold) (by unfold laidList;simp)
  obtain rfl : 3=g:=Option.some.inj ((show Tryz.prog.globalNamed "unicode.asciiFold"=some 3 by kernel_rfl).symm.trans hg)
  obtain rfl : 264=t:=Option.some.inj ((show (Tryz.prog.globals[3]?).map (·.type)=some 264 by kernel_rfl).symm.trans hty)
  rw[foldData_eq] at hd
  have hcs:=Go.Lib.cells_of_tab Tryz.underlying264 Tryz.underlying263 (by kernel_rfl) (by kernel_rfl) hd
  intro i hi
  have h:=World.var?_cell hg hvar i
  rw[← Array.getElem?_toList,hcs] at h
  simpa [foldT,hi] using h
theorem okwV_of {W:World} (hL:laidMet Tryz.prog laidList W) (hS:W.ShapedOpen Tryz.prog):OkwV W:=⟨tabs_of_laid hL,Tryz.laysM219.s1_3 W hS,folds_of_laid hL⟩
end Go.Proofs.YtfbdnaclkfmiaaaGreatDoor