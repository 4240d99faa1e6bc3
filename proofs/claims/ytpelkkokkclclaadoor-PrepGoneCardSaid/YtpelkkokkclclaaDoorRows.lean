/-
  NARROWER THAN 'FOR EVERY INPUT', by the rows' own cells (each row's printed sentence says how): PrepTells: laid · PrepStays: laid · PrepEach: laid · PrepWays: laid · PrepGone: laid.
  DERIVED. THE GIVEN ROWS OF THIS SEAT. 5 by the template 'for every input the law returns true; each argument reads behind the call as it read before'; 0 by the template 'total and deterministic' (their statements: YtpelkkokkclclaaDoorTotals.lean).
  GIVEN WITH THE SEED: the statements are not yours to turn. If you find one false, say at which input.
  Laid BY PROGRAM, IN A SANDBOX (cutbox-rows.mjs): the forced cells as the released guide's own fill.sh prints them over the translation 3a3a866359f06fe7… (all of the seat's roots in one cut). By AI agents, Wed Nov 11 2026. No macro, syntax, notation, axiom, sorry.
-/
import Derived.Test.YtpelkkokkclclaaDoorChecked
import GoSem.PinnedTables
import GoSem.Claim
import GoSem.ClaimJoined
import GoSem.ClaimMapViews
import Derived.JoinedTies
import Derived.KernelRfl
namespace Go.Proofs.YtpelkkokkclclaaDoor
/- THE CELL 'sum', in the pinned program and in every row, IS THE sha256 OF THE DUMP (.gsa) THAT YtpelkkokkclclaaDoorProg.lean LOADS. Nothing in Lean hashes anything: it is a label: what it is worth is what the hold of that sum in a sandbox is worth. -/
noncomputable def Tryd.pinned : Pinned := { name := "ytpelkkokkclclaadoor", sum := "3a3a866359f06fe750708140459c2aee2fdc8e44eac082a26fdf983a91915198", checked := Tryd.checked }
namespace Rows
def none {H : Type} : Left H := { results := [], args := [] }

/- WHAT THE LISTED PACKAGE-LEVEL VARIABLES READ AS WHEN THE CALL BEGINS. Each datum BY PROGRAM (the guide's laid-datum.mjs) off the statement by which the dump's own 'gosem.cut.vars' lays the variable. In a bare row this is a premise. The card (YtpelkkokkclclaaDoorCards.lean) ties it to the program's text. -/
def laid_unicode_utf8_acceptRanges {H : Type} : DataW H := .agg [.agg [.lit (.int .u8 128), .lit (.int .u8 191)], .agg [.lit (.int .u8 160), .lit (.int .u8 191)], .agg [.lit (.int .u8 128), .lit (.int .u8 159)], .agg [.lit (.int .u8 144), .lit (.int .u8 191)], .agg [.lit (.int .u8 128), .lit (.int .u8 143)], .agg [.lit (.int .u8 0), .lit (.int .u8 0)], .agg [.lit (.int .u8 0), .lit (.int .u8 0)], .agg [.lit (.int .u8 0), .lit (.int .u8 0)], .agg [.lit (.int .u8 0), .lit (.int .u8 0)], .agg [.lit (.int .u8 0), .lit (.int .u8 0)], .agg [.lit (.int .u8 0), .lit (.int .u8 0)], .agg [.lit (.int .u8 0), .lit (.int .u8 0)], .agg [.lit (.int .u8 0), .lit (.int .u8 0)], .agg [.lit (.int .u8 0), .lit (.int .u8 0)], .agg [.lit (.int .u8 0), .lit (.int .u8 0)], .agg [.lit (.int .u8 0), .lit (.int .u8 0)]]
/-- One of Go's own tables, pinned by name: the form's constant. -/
def laid_unicode_utf8_first : DataW Unit := Go.Pinned.utf8First

/-- 'cardexlaw06.PrepTells': WHATEVER THE INPUT: true; the input reads as it did. -/
def prepTellsSpec : ChangeSpec := { name := "prepTells", fn := fun _ => fun
  | [d] => { results := [.lit (.bool true)], args := [d] }
  | _ => none }
def prepTellsRow : OpenClaim := { program := "ytpelkkokkclclaadoor", sum := "3a3a866359f06fe750708140459c2aee2fdc8e44eac082a26fdf983a91915198", func := "cardex/cardexlaw06.PrepTells", spec := "prepTells", unfollowed := true, recurses := true, named := ["unicode/utf8.first", "unicode/utf8.acceptRanges"], apart := false, laid := [("unicode/utf8.acceptRanges", laid_unicode_utf8_acceptRanges), ("unicode/utf8.first", laid_unicode_utf8_first)] }
def PrepTellsSaid : Prop := prepTellsRow.holds Tryd.pinned (OpenSpec.ofChange prepTellsSpec)

/-- ITS FALSE NEIGHBOUR: 'it returns false'. Refute it at one input. -/
def prepTellsWrong : ChangeSpec := { name := "prepTells", fn := fun _ => fun
  | [d] => { results := [.lit (.bool false)], args := [d] }
  | _ => none }
def PrepTellsWrongFalsely : Prop := prepTellsRow.holds Tryd.pinned (OpenSpec.ofChange prepTellsWrong)

/-- 'cardexlaw06.PrepStays': WHATEVER THE INPUT: true; the input reads as it did. -/
def prepStaysSpec : ChangeSpec := { name := "prepStays", fn := fun _ => fun
  | [d] => { results := [.lit (.bool true)], args := [d] }
  | _ => none }
def prepStaysRow : OpenClaim := { program := "ytpelkkokkclclaadoor", sum := "3a3a866359f06fe750708140459c2aee2fdc8e44eac082a26fdf983a91915198", func := "cardex/cardexlaw06.PrepStays", spec := "prepStays", unfollowed := true, recurses := true, named := ["unicode/utf8.first", "unicode/utf8.acceptRanges"], apart := false, laid := [("unicode/utf8.acceptRanges", laid_unicode_utf8_acceptRanges), ("unicode/utf8.first", laid_unicode_utf8_first)] }
def PrepStaysSaid : Prop := prepStaysRow.holds Tryd.pinned (OpenSpec.ofChange prepStaysSpec)

/-- ITS FALSE NEIGHBOUR: 'it returns false'. Refute it at one input. -/
def prepStaysWrong : ChangeSpec := { name := "prepStays", fn := fun _ => fun
  | [d] => { results := [.lit (.bool false)], args := [d] }
  | _ => none }
def PrepStaysWrongFalsely : Prop := prepStaysRow.holds Tryd.pinned (OpenSpec.ofChange prepStaysWrong)

/-- 'cardexlaw06.PrepEach': WHATEVER THE INPUT: true; the input reads as it did. -/
def prepEachSpec : ChangeSpec := { name := "prepEach", fn := fun _ => fun
  | [d] => { results := [.lit (.bool true)], args := [d] }
  | _ => none }
def prepEachRow : OpenClaim := { program := "ytpelkkokkclclaadoor", sum := "3a3a866359f06fe750708140459c2aee2fdc8e44eac082a26fdf983a91915198", func := "cardex/cardexlaw06.PrepEach", spec := "prepEach", unfollowed := true, recurses := true, named := ["unicode/utf8.first", "unicode/utf8.acceptRanges"], apart := false, laid := [("unicode/utf8.acceptRanges", laid_unicode_utf8_acceptRanges), ("unicode/utf8.first", laid_unicode_utf8_first)] }
def PrepEachSaid : Prop := prepEachRow.holds Tryd.pinned (OpenSpec.ofChange prepEachSpec)

/-- ITS FALSE NEIGHBOUR: 'it returns false'. Refute it at one input. -/
def prepEachWrong : ChangeSpec := { name := "prepEach", fn := fun _ => fun
  | [d] => { results := [.lit (.bool false)], args := [d] }
  | _ => none }
def PrepEachWrongFalsely : Prop := prepEachRow.holds Tryd.pinned (OpenSpec.ofChange prepEachWrong)

/-- 'cardexlaw06.PrepWays': WHATEVER THE INPUT: true; the input reads as it did. -/
def prepWaysSpec : ChangeSpec := { name := "prepWays", fn := fun _ => fun
  | [d1, d2, d3] => { results := [.lit (.bool true)], args := [d1, d2, d3] }
  | _ => none }
def prepWaysRow : OpenClaim := { program := "ytpelkkokkclclaadoor", sum := "3a3a866359f06fe750708140459c2aee2fdc8e44eac082a26fdf983a91915198", func := "cardex/cardexlaw06.PrepWays", spec := "prepWays", unfollowed := true, recurses := true, named := ["unicode/utf8.first", "unicode/utf8.acceptRanges"], apart := false, laid := [("unicode/utf8.acceptRanges", laid_unicode_utf8_acceptRanges), ("unicode/utf8.first", laid_unicode_utf8_first)] }
def PrepWaysSaid : Prop := prepWaysRow.holds Tryd.pinned (OpenSpec.ofChange prepWaysSpec)

/-- ITS FALSE NEIGHBOUR: 'it returns false'. Refute it at one input. -/
def prepWaysWrong : ChangeSpec := { name := "prepWays", fn := fun _ => fun
  | [d1, d2, d3] => { results := [.lit (.bool false)], args := [d1, d2, d3] }
  | _ => none }
def PrepWaysWrongFalsely : Prop := prepWaysRow.holds Tryd.pinned (OpenSpec.ofChange prepWaysWrong)

/-- 'cardexlaw06.PrepGone': WHATEVER THE INPUT: true; the input reads as it did. -/
def prepGoneSpec : ChangeSpec := { name := "prepGone", fn := fun _ => fun
  | [d1, d2, d3] => { results := [.lit (.bool true)], args := [d1, d2, d3] }
  | _ => none }
def prepGoneRow : OpenClaim := { program := "ytpelkkokkclclaadoor", sum := "3a3a866359f06fe750708140459c2aee2fdc8e44eac082a26fdf983a91915198", func := "cardex/cardexlaw06.PrepGone", spec := "prepGone", unfollowed := true, recurses := true, named := ["unicode/utf8.first", "unicode/utf8.acceptRanges"], apart := false, laid := [("unicode/utf8.acceptRanges", laid_unicode_utf8_acceptRanges), ("unicode/utf8.first", laid_unicode_utf8_first)] }
def PrepGoneSaid : Prop := prepGoneRow.holds Tryd.pinned (OpenSpec.ofChange prepGoneSpec)

/-- ITS FALSE NEIGHBOUR: 'it returns false'. Refute it at one input. -/
def prepGoneWrong : ChangeSpec := { name := "prepGone", fn := fun _ => fun
  | [d1, d2, d3] => { results := [.lit (.bool false)], args := [d1, d2, d3] }
  | _ => none }
def PrepGoneWrongFalsely : Prop := prepGoneRow.holds Tryd.pinned (OpenSpec.ofChange prepGoneWrong)

/- THE SECOND FORM. 'bulk': how many values and letters a reading holds, each counted each time it is reached (what is shared counts as often as it is met; a slice's spare places count too). A statement '..UptoSaid' is the law's where the arguments, and the package variables that the reading takes, are together of bulk at most 1048576: NARROWER than '..Said'. Prove '..Said' where nothing that the law and all that it calls make is longer than what came in: it says more and counts as full. Else prove '..UptoSaid'. A law counts once. -/
mutual
def uptoBulk {H : Type} : DataW H → Nat
  | .lit (.string bytes) => bytes.length + 1
  | .lit _ => 1
  | .nil => 1
  | .ptr d => uptoBulk d + 1
  | .slice elems spare => uptoBulkAll elems + uptoBulkAll spare + 1
  | .agg parts => uptoBulkAll parts + 1
  | .iface _ d => uptoBulk d + 1
  | .map entries => uptoBulkEntries entries + 1
  | .held _ => 1
def uptoBulkAll {H : Type} : List (DataW H) → Nat
  | [] => 0
  | d :: r => uptoBulk d + uptoBulkAll r
def uptoBulkEntries {H : Type} : List (Lit × DataW H) → Nat
  | [] => 0
  | x :: r => uptoBulkEntry x + uptoBulkEntries r
def uptoBulkEntry {H : Type} : Lit × DataW H → Nat
  | (.string bytes, d) => bytes.length + uptoBulk d + 1
  | (_, d) => uptoBulk d + 1
 end
def uptoSmall : (H : Type) → List (DataW H) → Bool := fun _ ds => decide (uptoBulkAll ds ≤ 1048576)
def OpenSpec.upto (s : _root_.Go.ChangeSpec) : _root_.Go.OpenSpec := { _root_.Go.OpenSpec.ofChange s with cond := some uptoSmall }

/-- 'cardexlaw06.PrepTells', WHERE WHAT IT READS IS OF BULK AT MOST 1048576: true; the input reads as it did. -/
def prepTellsUptoRow : OpenClaim := { program := "ytpelkkokkclclaadoor", sum := "3a3a866359f06fe750708140459c2aee2fdc8e44eac082a26fdf983a91915198", func := "cardex/cardexlaw06.PrepTells", spec := "prepTells", unfollowed := true, recurses := true, named := ["unicode/utf8.first", "unicode/utf8.acceptRanges"], apart := false, laid := [("unicode/utf8.acceptRanges", laid_unicode_utf8_acceptRanges), ("unicode/utf8.first", laid_unicode_utf8_first)], narrowed := true }
def PrepTellsUptoSaid : Prop := prepTellsUptoRow.holds Tryd.pinned (OpenSpec.upto prepTellsSpec)

/-- 'cardexlaw06.PrepStays', WHERE WHAT IT READS IS OF BULK AT MOST 1048576: true; the input reads as it did. -/
def prepStaysUptoRow : OpenClaim := { program := "ytpelkkokkclclaadoor", sum := "3a3a866359f06fe750708140459c2aee2fdc8e44eac082a26fdf983a91915198", func := "cardex/cardexlaw06.PrepStays", spec := "prepStays", unfollowed := true, recurses := true, named := ["unicode/utf8.first", "unicode/utf8.acceptRanges"], apart := false, laid := [("unicode/utf8.acceptRanges", laid_unicode_utf8_acceptRanges), ("unicode/utf8.first", laid_unicode_utf8_first)], narrowed := true }
def PrepStaysUptoSaid : Prop := prepStaysUptoRow.holds Tryd.pinned (OpenSpec.upto prepStaysSpec)

/-- 'cardexlaw06.PrepEach', WHERE WHAT IT READS IS OF BULK AT MOST 1048576: true; the input reads as it did. -/
def prepEachUptoRow : OpenClaim := { program := "ytpelkkokkclclaadoor", sum := "3a3a866359f06fe750708140459c2aee2fdc8e44eac082a26fdf983a91915198", func := "cardex/cardexlaw06.PrepEach", spec := "prepEach", unfollowed := true, recurses := true, named := ["unicode/utf8.first", "unicode/utf8.acceptRanges"], apart := false, laid := [("unicode/utf8.acceptRanges", laid_unicode_utf8_acceptRanges), ("unicode/utf8.first", laid_unicode_utf8_first)], narrowed := true }
def PrepEachUptoSaid : Prop := prepEachUptoRow.holds Tryd.pinned (OpenSpec.upto prepEachSpec)

/-- 'cardexlaw06.PrepWays', WHERE WHAT IT READS IS OF BULK AT MOST 1048576: true; the input reads as it did. -/
def prepWaysUptoRow : OpenClaim := { program := "ytpelkkokkclclaadoor", sum := "3a3a866359f06fe750708140459c2aee2fdc8e44eac082a26fdf983a91915198", func := "cardex/cardexlaw06.PrepWays", spec := "prepWays", unfollowed := true, recurses := true, named := ["unicode/utf8.first", "unicode/utf8.acceptRanges"], apart := false, laid := [("unicode/utf8.acceptRanges", laid_unicode_utf8_acceptRanges), ("unicode/utf8.first", laid_unicode_utf8_first)], narrowed := true }
def PrepWaysUptoSaid : Prop := prepWaysUptoRow.holds Tryd.pinned (OpenSpec.upto prepWaysSpec)

/-- 'cardexlaw06.PrepGone', WHERE WHAT IT READS IS OF BULK AT MOST 1048576: true; the input reads as it did. -/
def prepGoneUptoRow : OpenClaim := { program := "ytpelkkokkclclaadoor", sum := "3a3a866359f06fe750708140459c2aee2fdc8e44eac082a26fdf983a91915198", func := "cardex/cardexlaw06.PrepGone", spec := "prepGone", unfollowed := true, recurses := true, named := ["unicode/utf8.first", "unicode/utf8.acceptRanges"], apart := false, laid := [("unicode/utf8.acceptRanges", laid_unicode_utf8_acceptRanges), ("unicode/utf8.first", laid_unicode_utf8_first)], narrowed := true }
def PrepGoneUptoSaid : Prop := prepGoneUptoRow.holds Tryd.pinned (OpenSpec.upto prepGoneSpec)

end Rows
end Go.Proofs.YtpelkkokkclclaaDoor
