import Derived.Test.YtbgaglcgennhiaaGreatDoorQ01
import Derived.Test.YtbgaglcgennhiaaGreatDoorCards
import Derived.Test.YtbgaglcgennhiaaGreatDoorTie
import Derived.Test.YtbgaglcgennhiaaGreatDoorQ00
import Derived.Lib.LaidIn
import Derived.Lib.LaidU8T
import Derived.PinnedBridge
import Derived.ProofKit
import Derived.OpenShut
import Derived.Carry
import Derived.Deep.DeepHandedRow
import Derived.Deep.DeepWitnessRowRef
namespace Go.Proofs.YtbgaglcgennhiaaGreatDoor
open Go.ChangeShapes Go.WideShapes Go.ChangeAt Go.RowKit
theorem own:ownKnob Tryz.prog.godebug=none:=by kernel_rfl
theorem ng:laidOutB Tryz.prog=true:=by kernel_rfl
theorem mb {H:Type} {enc:TypeId × Value->H} {P:Program} (hl:laidOutB P=true) {W W':World} (hb:Below W.heap.size W W') (ts:List TypeId):∀ {vs:List Value} {ds:List (DataW H)} {ps:List MemPlace},
 (ts.all fun t=>P.readableRec t&&decide (t<P.types.size))=true->DataW.TrodAll enc P W 0 (fun _=>true) true ts vs ds ps->(∀ x∈ps,x.block<W.heap.size) ->
 DataW.TrodAll enc P W' 0 (fun b=>decide (b<W.heap.size)) true ts vs ds ps:=by
 induction ts with
 | nil=>
   intro vs ds ps _ h _
   match vs,ds,h with
   |[],[],h=>exact h
   |[],_::_,h=>exact h.elim
   |_::_,[],h=>exact h.elim
   |_::_,_::_,h=>exact h.elim
 | cons t ts ih=>
   intro vs ds ps hk h hs
   match vs,ds,h with
   |[],[],h=>exact h.elim
   |[],_::_,h=>exact h.elim
   |_::_,[],h=>exact h.elim
   | v::vs,d::ds,h=>
     obtain⟨p,q,h1,h2,e⟩:=h;rw[List.all_cons,Bool.and_eq_true,Bool.and_eq_true] at hk;exact⟨p,q,Below.trod hl hk.1.1 (of_decide_eq_true hk.1.2) h1 hb (fun x hx=>hs x (by rw[e];exact List.mem_append_left _ hx)),
      ih hk.2 h2 (fun x hx=>hs x (by rw[e];exact List.mem_append_right _ hx)),e⟩
theorem wS {H:Type} {enc:TypeId × Value->H} {fn:Func} {spec:ChangeSpec} {W W':World} {args:Array Value} {ds:List (DataW H)} {before:List MemPlace}
 (hres:fn.resultTypes=#[4]) (hrd:(fn.params.toList.all fun t=>Tryz.prog.readableRec t&&decide (t<Tryz.prog.types.size))=true) (hvars:spec.vars=[])
 (hfn:spec.fn H (ds++[])={ results:=[.lit (.bool true)],args:=ds }) (hW:DataW.Whole enc Tryz.prog fn.params.toList spec.vars false W args.toList ds [] before) (hb:Below W.heap.size W W'):
 spec.post enc Tryz.prog fn false true false false W args (.bool true) W':=by
 have hW':=hW;obtain⟨p,q,hA,_,he,_,_⟩:=hW;refine⟨ds,[],before,[],p,[],hW',?_,?_,?_,hb.frame _,fun h=>by cases h⟩
 ·rw[hfn,hres];exact trodAll_mk1 (shut_bool Tryz.underlying4 _)
 ·rw[hfn];exact mb ng hb _ hrd hA (fun x hx=>hW'.lt x (by rw[he];exact List.mem_append_left _ hx))
 ·rw[hfn,hvars];rfl
noncomputable def ge (os:Os):World:=
 let w0:=World.holding Tryz.prog os ⟨#[],#[],[]⟩
 let put (h:Array Obj) (g:Nat) (cs:Array Value):Array Obj:=h.modify g fun
  |.cells _ t frozen=>.cells cs t frozen
  |o=>o
 { w0 with heap:=put (put w0.heap 1 (Lib.firstTab.map fun z=>Value.int .u8 z).toArray) 2 ((List.range 16).flatMap fun i=>[Value.int .u8 (Lib.accLo i),Value.int .u8 (Lib.accHi i)]).toArray }
def iA:List (String × DataW Unit):=[("unicode/utf8.acceptRanges",Rows.laid_unicode_utf8_acceptRanges),("unicode/utf8.first",Rows.laid_unicode_utf8_first)]
theorem wR (os:Os) (args:Array Value):laidMet Tryz.prog iA ((ge os).forCall (fun _ _=>0) ⟨#[],args,[]⟩).memory:=(LaidIn.of_run (l:=iA) [2,1] 8 (by kernel_rfl) (by kernel_rfl) (by kernel_rfl) (by kernel_rfl)).met
theorem lT:Rows.laid_unicode_utf8_acceptRanges (H:=Unit)=Lib.acceptData:=by kernel_rfl
theorem nX {W:World} (hL:laidMet Tryz.prog iA W):Lib.Utf8Tabs 1 2 W:=
 Go.Proofs.utf8Tabs_of_readsT (U8Types.of260 Tryz.lays260) ⟨by kernel_rfl,by kernel_rfl,by kernel_rfl,by kernel_rfl,by kernel_rfl,by kernel_rfl,by kernel_rfl⟩
  (by have:=Lib.laidMet.reads hL (n:= "unicode/utf8.first") (d:=Rows.laid_unicode_utf8_first) (.tail _ (.head _));rwa [show Rows.laid_unicode_utf8_first=Go.Pinned.utf8First from rfl,Go.Pinned.utf8First_eq] at this)
  (by have:=Lib.laidMet.reads hL (n:= "unicode/utf8.acceptRanges") (d:=Rows.laid_unicode_utf8_acceptRanges) (.head _);rwa [lT] at this)
end Go.Proofs.YtbgaglcgennhiaaGreatDoor
