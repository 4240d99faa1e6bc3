/-
  NARROWER THAN 'FOR EVERY INPUT', by the rows' own cells (each row's printed sentence says how): JidTells: laid · JidBack: laid · JidOrder: laid · JidBounds: laid · JidParts: laid.
  DERIVED. THE GIVEN ROWS OF THIS SEAT. 5 by the template 'for every input the law returns true; each argument reads behind the call as it read before'; 0 by the template 'total and deterministic' (their statements: YtjclfpeccdlaoaaGreatDoorTotals.lean).
  GIVEN WITH THE SEED: the statements are not yours to turn. If you find one false, say at which input.
  Laid BY PROGRAM, IN A SANDBOX (cutbox-rows.mjs): the forced cells as the released guide's own fill.sh prints them over the translation 0998ec7d6a05198d… (all of the seat's roots in one cut). By AI agents, Wed Nov 11 2026. No macro, syntax, notation, axiom, sorry.
-/
import Derived.Test.YtjclfpeccdlaoaaGreatDoorChecked
import GoSem.PinnedTables
import GoSem.Claim
import GoSem.ClaimJoined
import GoSem.ClaimMapViews
import Derived.JoinedTies
import Derived.KernelRfl
namespace Go.Proofs.YtjclfpeccdlaoaaGreatDoor
/- THE CELL 'sum', in the pinned program and in every row, IS THE sha256 OF THE DUMP (.gsa) THAT YtjclfpeccdlaoaaGreatDoorProg.lean LOADS. Nothing in Lean hashes anything: it is a label: what it is worth is what the hold of that sum in a sandbox is worth. -/
noncomputable def Tryz.pinned : Pinned := { name := "ytjclfpeccdlaoaagreatdoor", sum := "0998ec7d6a05198dd0948855e3cf805777a823a8ac35c6f571bb3de91d1387e8", checked := Tryz.checked }
namespace Rows
def none {H : Type} : Left H := { results := [], args := [] }

/- WHAT THE LISTED PACKAGE-LEVEL VARIABLES READ AS WHEN THE CALL BEGINS. Each datum BY PROGRAM (the guide's laid-datum.mjs) off the statement by which the dump's own 'gosem.cut.vars' lays the variable. In a bare row this is a premise. The card (YtjclfpeccdlaoaaGreatDoorCards.lean) ties it to the program's text. -/
def laid_unicode_utf8_acceptRanges {H : Type} : DataW H := .agg [.agg [.lit (.int .u8 128), .lit (.int .u8 191)], .agg [.lit (.int .u8 160), .lit (.int .u8 191)], .agg [.lit (.int .u8 128), .lit (.int .u8 159)], .agg [.lit (.int .u8 144), .lit (.int .u8 191)], .agg [.lit (.int .u8 128), .lit (.int .u8 143)], .agg [.lit (.int .u8 0), .lit (.int .u8 0)], .agg [.lit (.int .u8 0), .lit (.int .u8 0)], .agg [.lit (.int .u8 0), .lit (.int .u8 0)], .agg [.lit (.int .u8 0), .lit (.int .u8 0)], .agg [.lit (.int .u8 0), .lit (.int .u8 0)], .agg [.lit (.int .u8 0), .lit (.int .u8 0)], .agg [.lit (.int .u8 0), .lit (.int .u8 0)], .agg [.lit (.int .u8 0), .lit (.int .u8 0)], .agg [.lit (.int .u8 0), .lit (.int .u8 0)], .agg [.lit (.int .u8 0), .lit (.int .u8 0)], .agg [.lit (.int .u8 0), .lit (.int .u8 0)]]
/-- One of Go's own tables, pinned by name: the form's constant. -/
def laid_unicode_utf8_first : DataW Unit := Go.Pinned.utf8First

/-- 'cardexlaw07.JidTells': WHATEVER THE INPUT: true; the input reads as it did. -/
def jidTellsSpec : ChangeSpec := { name := "jidTells", fn := fun _ => fun
  | [d1, d2, d3] => { results := [.lit (.bool true)], args := [d1, d2, d3] }
  | _ => none }
def jidTellsRow : OpenClaim := { program := "ytjclfpeccdlaoaagreatdoor", sum := "0998ec7d6a05198dd0948855e3cf805777a823a8ac35c6f571bb3de91d1387e8", func := "cardex/cardexlaw07.JidTells", spec := "jidTells", inPlace := ["internal/bytealg.IndexByteString", "internal/bytealg.IndexString", "internal/bytealg.CountString", "internal/bytealg.abigen_runtime_cmpstring"], unfollowed := true, recurses := true, named := ["internal/bytealg.MaxLen", "unicode/utf8.first", "unicode/utf8.acceptRanges"], apart := false, laid := [("unicode/utf8.acceptRanges", laid_unicode_utf8_acceptRanges), ("unicode/utf8.first", laid_unicode_utf8_first)] }
def JidTellsSaid : Prop := jidTellsRow.holds Tryz.pinned (OpenSpec.ofChange jidTellsSpec)

/-- ITS FALSE NEIGHBOUR: 'it returns false'. Refute it at one input. -/
def jidTellsWrong : ChangeSpec := { name := "jidTells", fn := fun _ => fun
  | [d1, d2, d3] => { results := [.lit (.bool false)], args := [d1, d2, d3] }
  | _ => none }
def JidTellsWrongFalsely : Prop := jidTellsRow.holds Tryz.pinned (OpenSpec.ofChange jidTellsWrong)

/-- 'cardexlaw07.JidBack': WHATEVER THE INPUT: true; the input reads as it did. -/
def jidBackSpec : ChangeSpec := { name := "jidBack", fn := fun _ => fun
  | [d] => { results := [.lit (.bool true)], args := [d] }
  | _ => none }
def jidBackRow : OpenClaim := { program := "ytjclfpeccdlaoaagreatdoor", sum := "0998ec7d6a05198dd0948855e3cf805777a823a8ac35c6f571bb3de91d1387e8", func := "cardex/cardexlaw07.JidBack", spec := "jidBack", inPlace := ["internal/bytealg.IndexByteString", "internal/bytealg.IndexString", "internal/bytealg.CountString", "internal/bytealg.abigen_runtime_cmpstring"], unfollowed := true, recurses := true, named := ["internal/bytealg.MaxLen", "unicode/utf8.first", "unicode/utf8.acceptRanges"], apart := false, laid := [("unicode/utf8.acceptRanges", laid_unicode_utf8_acceptRanges), ("unicode/utf8.first", laid_unicode_utf8_first)] }
def JidBackSaid : Prop := jidBackRow.holds Tryz.pinned (OpenSpec.ofChange jidBackSpec)

/-- ITS FALSE NEIGHBOUR: 'it returns false'. Refute it at one input. -/
def jidBackWrong : ChangeSpec := { name := "jidBack", fn := fun _ => fun
  | [d] => { results := [.lit (.bool false)], args := [d] }
  | _ => none }
def JidBackWrongFalsely : Prop := jidBackRow.holds Tryz.pinned (OpenSpec.ofChange jidBackWrong)

/-- 'cardexlaw07.JidOrder': WHATEVER THE INPUT: true; the input reads as it did. -/
def jidOrderSpec : ChangeSpec := { name := "jidOrder", fn := fun _ => fun
  | [d1, d2, d3] => { results := [.lit (.bool true)], args := [d1, d2, d3] }
  | _ => none }
def jidOrderRow : OpenClaim := { program := "ytjclfpeccdlaoaagreatdoor", sum := "0998ec7d6a05198dd0948855e3cf805777a823a8ac35c6f571bb3de91d1387e8", func := "cardex/cardexlaw07.JidOrder", spec := "jidOrder", inPlace := ["internal/bytealg.IndexByteString", "internal/bytealg.IndexString", "internal/bytealg.CountString", "internal/bytealg.abigen_runtime_cmpstring"], unfollowed := true, recurses := true, named := ["internal/bytealg.MaxLen", "unicode/utf8.first", "unicode/utf8.acceptRanges"], apart := false, laid := [("unicode/utf8.acceptRanges", laid_unicode_utf8_acceptRanges), ("unicode/utf8.first", laid_unicode_utf8_first)] }
def JidOrderSaid : Prop := jidOrderRow.holds Tryz.pinned (OpenSpec.ofChange jidOrderSpec)

/-- ITS FALSE NEIGHBOUR: 'it returns false'. Refute it at one input. -/
def jidOrderWrong : ChangeSpec := { name := "jidOrder", fn := fun _ => fun
  | [d1, d2, d3] => { results := [.lit (.bool false)], args := [d1, d2, d3] }
  | _ => none }
def JidOrderWrongFalsely : Prop := jidOrderRow.holds Tryz.pinned (OpenSpec.ofChange jidOrderWrong)

/-- 'cardexlaw07.JidBounds': WHATEVER THE INPUT: true; the input reads as it did. -/
def jidBoundsSpec : ChangeSpec := { name := "jidBounds", fn := fun _ => fun
  | [d1, d2, d3, d4] => { results := [.lit (.bool true)], args := [d1, d2, d3, d4] }
  | _ => none }
def jidBoundsRow : OpenClaim := { program := "ytjclfpeccdlaoaagreatdoor", sum := "0998ec7d6a05198dd0948855e3cf805777a823a8ac35c6f571bb3de91d1387e8", func := "cardex/cardexlaw07.JidBounds", spec := "jidBounds", inPlace := ["internal/bytealg.IndexByteString", "internal/bytealg.IndexString", "internal/bytealg.CountString", "internal/bytealg.abigen_runtime_cmpstring"], unfollowed := true, recurses := true, named := ["internal/bytealg.MaxLen", "unicode/utf8.first", "unicode/utf8.acceptRanges"], apart := false, laid := [("unicode/utf8.acceptRanges", laid_unicode_utf8_acceptRanges), ("unicode/utf8.first", laid_unicode_utf8_first)] }
def JidBoundsSaid : Prop := jidBoundsRow.holds Tryz.pinned (OpenSpec.ofChange jidBoundsSpec)

/-- ITS FALSE NEIGHBOUR: 'it returns false'. Refute it at one input. -/
def jidBoundsWrong : ChangeSpec := { name := "jidBounds", fn := fun _ => fun
  | [d1, d2, d3, d4] => { results := [.lit (.bool false)], args := [d1, d2, d3, d4] }
  | _ => none }
def JidBoundsWrongFalsely : Prop := jidBoundsRow.holds Tryz.pinned (OpenSpec.ofChange jidBoundsWrong)

/-- 'cardexlaw07.JidParts': WHATEVER THE INPUT: true; the input reads as it did. -/
def jidPartsSpec : ChangeSpec := { name := "jidParts", fn := fun _ => fun
  | [d1, d2, d3, d4] => { results := [.lit (.bool true)], args := [d1, d2, d3, d4] }
  | _ => none }
def jidPartsRow : OpenClaim := { program := "ytjclfpeccdlaoaagreatdoor", sum := "0998ec7d6a05198dd0948855e3cf805777a823a8ac35c6f571bb3de91d1387e8", func := "cardex/cardexlaw07.JidParts", spec := "jidParts", inPlace := ["internal/bytealg.IndexByteString", "internal/bytealg.IndexString", "internal/bytealg.CountString", "internal/bytealg.abigen_runtime_cmpstring"], unfollowed := true, recurses := true, named := ["internal/bytealg.MaxLen", "unicode/utf8.first", "unicode/utf8.acceptRanges"], apart := false, laid := [("unicode/utf8.acceptRanges", laid_unicode_utf8_acceptRanges), ("unicode/utf8.first", laid_unicode_utf8_first)] }
def JidPartsSaid : Prop := jidPartsRow.holds Tryz.pinned (OpenSpec.ofChange jidPartsSpec)

/-- ITS FALSE NEIGHBOUR: 'it returns false'. Refute it at one input. -/
def jidPartsWrong : ChangeSpec := { name := "jidParts", fn := fun _ => fun
  | [d1, d2, d3, d4] => { results := [.lit (.bool false)], args := [d1, d2, d3, d4] }
  | _ => none }
def JidPartsWrongFalsely : Prop := jidPartsRow.holds Tryz.pinned (OpenSpec.ofChange jidPartsWrong)

/- THE SECOND FORM. 'bulk': how many values and letters a reading holds, each counted each time it is reached (what is shared counts as often as it is met; a slice's spare places count too). A statement '..UptoSaid' is the law's where the arguments, and the package variables that the reading takes, are together of bulk at most 1048576: NARROWER than '..Said'. Prove '..Said' where nothing that the law and all that it calls make is longer than what came in: it says more and counts as full. Else prove '..UptoSaid'. A law counts once. -/
mutual
def uptoBulk {H : Type} : DataW H → Nat
  | .lit (.string bytes) => bytes.length + 1
  | .lit _ => 1
  | .nil => 1
  | .ptr d => uptoBulk d + 1
  | .slice elems spare => uptoBulkAll elems + uptoBulkAll spare + 1
  | .agg parts => uptoBulkAll parts + 1
  | .iface _ d => uptoBulk d + 1
  | .map entries => uptoBulkEntries entries + 1
  | .held _ => 1
def uptoBulkAll {H : Type} : List (DataW H) → Nat
  | [] => 0
  | d :: r => uptoBulk d + uptoBulkAll r
def uptoBulkEntries {H : Type} : List (Lit × DataW H) → Nat
  | [] => 0
  | x :: r => uptoBulkEntry x + uptoBulkEntries r
def uptoBulkEntry {H : Type} : Lit × DataW H → Nat
  | (.string bytes, d) => bytes.length + uptoBulk d + 1
  | (_, d) => uptoBulk d + 1
 end
def uptoSmall : (H : Type) → List (DataW H) → Bool := fun _ ds => decide (uptoBulkAll ds ≤ 1048576)
def OpenSpec.upto (s : _root_.Go.ChangeSpec) : _root_.Go.OpenSpec := { _root_.Go.OpenSpec.ofChange s with cond := some uptoSmall }

/-- 'cardexlaw07.JidTells', WHERE WHAT IT READS IS OF BULK AT MOST 1048576: true; the input reads as it did. -/
def jidTellsUptoRow : OpenClaim := { program := "ytjclfpeccdlaoaagreatdoor", sum := "0998ec7d6a05198dd0948855e3cf805777a823a8ac35c6f571bb3de91d1387e8", func := "cardex/cardexlaw07.JidTells", spec := "jidTells", inPlace := ["internal/bytealg.IndexByteString", "internal/bytealg.IndexString", "internal/bytealg.CountString", "internal/bytealg.abigen_runtime_cmpstring"], unfollowed := true, recurses := true, named := ["internal/bytealg.MaxLen", "unicode/utf8.first", "unicode/utf8.acceptRanges"], apart := false, laid := [("unicode/utf8.acceptRanges", laid_unicode_utf8_acceptRanges), ("unicode/utf8.first", laid_unicode_utf8_first)], narrowed := true }
def JidTellsUptoSaid : Prop := jidTellsUptoRow.holds Tryz.pinned (OpenSpec.upto jidTellsSpec)

/-- 'cardexlaw07.JidBack', WHERE WHAT IT READS IS OF BULK AT MOST 1048576: true; the input reads as it did. -/
def jidBackUptoRow : OpenClaim := { program := "ytjclfpeccdlaoaagreatdoor", sum := "0998ec7d6a05198dd0948855e3cf805777a823a8ac35c6f571bb3de91d1387e8", func := "cardex/cardexlaw07.JidBack", spec := "jidBack", inPlace := ["internal/bytealg.IndexByteString", "internal/bytealg.IndexString", "internal/bytealg.CountString", "internal/bytealg.abigen_runtime_cmpstring"], unfollowed := true, recurses := true, named := ["internal/bytealg.MaxLen", "unicode/utf8.first", "unicode/utf8.acceptRanges"], apart := false, laid := [("unicode/utf8.acceptRanges", laid_unicode_utf8_acceptRanges), ("unicode/utf8.first", laid_unicode_utf8_first)], narrowed := true }
def JidBackUptoSaid : Prop := jidBackUptoRow.holds Tryz.pinned (OpenSpec.upto jidBackSpec)

/-- 'cardexlaw07.JidOrder', WHERE WHAT IT READS IS OF BULK AT MOST 1048576: true; the input reads as it did. -/
def jidOrderUptoRow : OpenClaim := { program := "ytjclfpeccdlaoaagreatdoor", sum := "0998ec7d6a05198dd0948855e3cf805777a823a8ac35c6f571bb3de91d1387e8", func := "cardex/cardexlaw07.JidOrder", spec := "jidOrder", inPlace := ["internal/bytealg.IndexByteString", "internal/bytealg.IndexString", "internal/bytealg.CountString", "internal/bytealg.abigen_runtime_cmpstring"], unfollowed := true, recurses := true, named := ["internal/bytealg.MaxLen", "unicode/utf8.first", "unicode/utf8.acceptRanges"], apart := false, laid := [("unicode/utf8.acceptRanges", laid_unicode_utf8_acceptRanges), ("unicode/utf8.first", laid_unicode_utf8_first)], narrowed := true }
def JidOrderUptoSaid : Prop := jidOrderUptoRow.holds Tryz.pinned (OpenSpec.upto jidOrderSpec)

/-- 'cardexlaw07.JidBounds', WHERE WHAT IT READS IS OF BULK AT MOST 1048576: true; the input reads as it did. -/
def jidBoundsUptoRow : OpenClaim := { program := "ytjclfpeccdlaoaagreatdoor", sum := "0998ec7d6a05198dd0948855e3cf805777a823a8ac35c6f571bb3de91d1387e8", func := "cardex/cardexlaw07.JidBounds", spec := "jidBounds", inPlace := ["internal/bytealg.IndexByteString", "internal/bytealg.IndexString", "internal/bytealg.CountString", "internal/bytealg.abigen_runtime_cmpstring"], unfollowed := true, recurses := true, named := ["internal/bytealg.MaxLen", "unicode/utf8.first", "unicode/utf8.acceptRanges"], apart := false, laid := [("unicode/utf8.acceptRanges", laid_unicode_utf8_acceptRanges), ("unicode/utf8.first", laid_unicode_utf8_first)], narrowed := true }
def JidBoundsUptoSaid : Prop := jidBoundsUptoRow.holds Tryz.pinned (OpenSpec.upto jidBoundsSpec)

/-- 'cardexlaw07.JidParts', WHERE WHAT IT READS IS OF BULK AT MOST 1048576: true; the input reads as it did. -/
def jidPartsUptoRow : OpenClaim := { program := "ytjclfpeccdlaoaagreatdoor", sum := "0998ec7d6a05198dd0948855e3cf805777a823a8ac35c6f571bb3de91d1387e8", func := "cardex/cardexlaw07.JidParts", spec := "jidParts", inPlace := ["internal/bytealg.IndexByteString", "internal/bytealg.IndexString", "internal/bytealg.CountString", "internal/bytealg.abigen_runtime_cmpstring"], unfollowed := true, recurses := true, named := ["internal/bytealg.MaxLen", "unicode/utf8.first", "unicode/utf8.acceptRanges"], apart := false, laid := [("unicode/utf8.acceptRanges", laid_unicode_utf8_acceptRanges), ("unicode/utf8.first", laid_unicode_utf8_first)], narrowed := true }
def JidPartsUptoSaid : Prop := jidPartsUptoRow.holds Tryz.pinned (OpenSpec.upto jidPartsSpec)

end Rows
end Go.Proofs.YtjclfpeccdlaoaaGreatDoor
