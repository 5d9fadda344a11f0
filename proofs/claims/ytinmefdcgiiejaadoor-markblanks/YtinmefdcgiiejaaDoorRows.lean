/-
  NARROWER THAN 'FOR EVERY INPUT', by the rows' own cells (each row's printed sentence says how): MarkLines: laid · MarkHeads: laid · MarkFences: laid · MarkItems: laid · MarkContent: laid · MarkBlanks: laid.
  DERIVED. THE GIVEN ROWS OF THIS SEAT. 6 by the template 'for every input the law returns true; each argument reads behind the call as it read before'; 0 by the template 'total and deterministic' (their statements: YtinmefdcgiiejaaDoorTotals.lean).
  GIVEN WITH THE SEED: the statements are not yours to turn. If you find one false, say at which input.
  Laid BY PROGRAM, IN A SANDBOX (cutbox-rows.mjs): the forced cells as the released guide's own fill.sh prints them over the translation 0a3669eac2e75d65… (all of the seat's roots in one cut). By AI agents, Wed Nov 11 2026. No macro, syntax, notation, axiom, sorry.
-/
import Derived.Test.YtinmefdcgiiejaaDoorChecked
import GoSem.PinnedTables
import GoSem.Claim
import GoSem.ClaimJoined
import GoSem.ClaimMapViews
import Derived.JoinedTies
import Derived.KernelRfl
namespace Go.Proofs.YtinmefdcgiiejaaDoor
/- THE CELL 'sum', in the pinned program and in every row, IS THE sha256 OF THE DUMP (.gsa) THAT YtinmefdcgiiejaaDoorProg.lean LOADS. Nothing in Lean hashes anything: it is a label: what it is worth is what the hold of that sum in a sandbox is worth. -/
noncomputable def Tryd.pinned : Pinned := { name := "ytinmefdcgiiejaadoor", sum := "0a3669eac2e75d655a27e10d78573246ee66a755548b7a9a5b5c01b60f98513a", checked := Tryd.checked }
namespace Rows
def none {H : Type} : Left H := { results := [], args := [] }

/- WHAT THE LISTED PACKAGE-LEVEL VARIABLES READ AS WHEN THE CALL BEGINS. Each datum BY PROGRAM (the guide's laid-datum.mjs) off the statement by which the dump's own 'gosem.cut.vars' lays the variable. In a bare row this is a premise. The card (YtinmefdcgiiejaaDoorCards.lean) ties it to the program's text. -/
def laid_unicode_utf8_acceptRanges {H : Type} : DataW H := .agg [.agg [.lit (.int .u8 128), .lit (.int .u8 191)], .agg [.lit (.int .u8 160), .lit (.int .u8 191)], .agg [.lit (.int .u8 128), .lit (.int .u8 159)], .agg [.lit (.int .u8 144), .lit (.int .u8 191)], .agg [.lit (.int .u8 128), .lit (.int .u8 143)], .agg [.lit (.int .u8 0), .lit (.int .u8 0)], .agg [.lit (.int .u8 0), .lit (.int .u8 0)], .agg [.lit (.int .u8 0), .lit (.int .u8 0)], .agg [.lit (.int .u8 0), .lit (.int .u8 0)], .agg [.lit (.int .u8 0), .lit (.int .u8 0)], .agg [.lit (.int .u8 0), .lit (.int .u8 0)], .agg [.lit (.int .u8 0), .lit (.int .u8 0)], .agg [.lit (.int .u8 0), .lit (.int .u8 0)], .agg [.lit (.int .u8 0), .lit (.int .u8 0)], .agg [.lit (.int .u8 0), .lit (.int .u8 0)], .agg [.lit (.int .u8 0), .lit (.int .u8 0)]]
/-- One of Go's own tables, pinned by name: the form's constant. -/
def laid_unicode_utf8_first : DataW Unit := Go.Pinned.utf8First

/-- 'stetlaw05.MarkLines': WHATEVER THE INPUT: true; the input reads as it did. -/
def markLinesSpec : ChangeSpec := { name := "markLines", fn := fun _ => fun
  | [d] => { results := [.lit (.bool true)], args := [d] }
  | _ => none }
def markLinesRow : OpenClaim := { program := "ytinmefdcgiiejaadoor", sum := "0a3669eac2e75d655a27e10d78573246ee66a755548b7a9a5b5c01b60f98513a", func := "stet/stetlaw05.MarkLines", spec := "markLines", inPlace := ["internal/bytealg.IndexByteString", "internal/bytealg.IndexString"], named := ["unicode/utf8.first", "unicode/utf8.acceptRanges", "internal/bytealg.MaxLen"], apart := false, laid := [("unicode/utf8.acceptRanges", laid_unicode_utf8_acceptRanges), ("unicode/utf8.first", laid_unicode_utf8_first)] }
def MarkLinesSaid : Prop := markLinesRow.holds Tryd.pinned (OpenSpec.ofChange markLinesSpec)

/-- ITS FALSE NEIGHBOUR: 'it returns false'. Refute it at one input. -/
def markLinesWrong : ChangeSpec := { name := "markLines", fn := fun _ => fun
  | [d] => { results := [.lit (.bool false)], args := [d] }
  | _ => none }
def MarkLinesWrongFalsely : Prop := markLinesRow.holds Tryd.pinned (OpenSpec.ofChange markLinesWrong)

/-- 'stetlaw05.MarkHeads': WHATEVER THE INPUT: true; the input reads as it did. -/
def markHeadsSpec : ChangeSpec := { name := "markHeads", fn := fun _ => fun
  | [d] => { results := [.lit (.bool true)], args := [d] }
  | _ => none }
def markHeadsRow : OpenClaim := { program := "ytinmefdcgiiejaadoor", sum := "0a3669eac2e75d655a27e10d78573246ee66a755548b7a9a5b5c01b60f98513a", func := "stet/stetlaw05.MarkHeads", spec := "markHeads", inPlace := ["internal/bytealg.IndexByteString", "internal/bytealg.IndexString"], named := ["unicode/utf8.first", "unicode/utf8.acceptRanges", "internal/bytealg.MaxLen"], apart := false, laid := [("unicode/utf8.acceptRanges", laid_unicode_utf8_acceptRanges), ("unicode/utf8.first", laid_unicode_utf8_first)] }
def MarkHeadsSaid : Prop := markHeadsRow.holds Tryd.pinned (OpenSpec.ofChange markHeadsSpec)

/-- ITS FALSE NEIGHBOUR: 'it returns false'. Refute it at one input. -/
def markHeadsWrong : ChangeSpec := { name := "markHeads", fn := fun _ => fun
  | [d] => { results := [.lit (.bool false)], args := [d] }
  | _ => none }
def MarkHeadsWrongFalsely : Prop := markHeadsRow.holds Tryd.pinned (OpenSpec.ofChange markHeadsWrong)

/-- 'stetlaw05.MarkFences': WHATEVER THE INPUT: true; the input reads as it did. -/
def markFencesSpec : ChangeSpec := { name := "markFences", fn := fun _ => fun
  | [d1, d2, d3] => { results := [.lit (.bool true)], args := [d1, d2, d3] }
  | _ => none }
def markFencesRow : OpenClaim := { program := "ytinmefdcgiiejaadoor", sum := "0a3669eac2e75d655a27e10d78573246ee66a755548b7a9a5b5c01b60f98513a", func := "stet/stetlaw05.MarkFences", spec := "markFences", inPlace := ["internal/bytealg.IndexByteString", "internal/bytealg.IndexString"], named := ["unicode/utf8.first", "unicode/utf8.acceptRanges", "internal/bytealg.MaxLen"], apart := false, laid := [("unicode/utf8.acceptRanges", laid_unicode_utf8_acceptRanges), ("unicode/utf8.first", laid_unicode_utf8_first)] }
def MarkFencesSaid : Prop := markFencesRow.holds Tryd.pinned (OpenSpec.ofChange markFencesSpec)

/-- ITS FALSE NEIGHBOUR: 'it returns false'. Refute it at one input. -/
def markFencesWrong : ChangeSpec := { name := "markFences", fn := fun _ => fun
  | [d1, d2, d3] => { results := [.lit (.bool false)], args := [d1, d2, d3] }
  | _ => none }
def MarkFencesWrongFalsely : Prop := markFencesRow.holds Tryd.pinned (OpenSpec.ofChange markFencesWrong)

/-- 'stetlaw05.MarkItems': WHATEVER THE INPUT: true; the input reads as it did. -/
def markItemsSpec : ChangeSpec := { name := "markItems", fn := fun _ => fun
  | [d] => { results := [.lit (.bool true)], args := [d] }
  | _ => none }
def markItemsRow : OpenClaim := { program := "ytinmefdcgiiejaadoor", sum := "0a3669eac2e75d655a27e10d78573246ee66a755548b7a9a5b5c01b60f98513a", func := "stet/stetlaw05.MarkItems", spec := "markItems", inPlace := ["internal/bytealg.IndexByteString", "internal/bytealg.IndexString"], named := ["unicode/utf8.first", "unicode/utf8.acceptRanges", "internal/bytealg.MaxLen"], apart := false, laid := [("unicode/utf8.acceptRanges", laid_unicode_utf8_acceptRanges), ("unicode/utf8.first", laid_unicode_utf8_first)] }
def MarkItemsSaid : Prop := markItemsRow.holds Tryd.pinned (OpenSpec.ofChange markItemsSpec)

/-- ITS FALSE NEIGHBOUR: 'it returns false'. Refute it at one input. -/
def markItemsWrong : ChangeSpec := { name := "markItems", fn := fun _ => fun
  | [d] => { results := [.lit (.bool false)], args := [d] }
  | _ => none }
def MarkItemsWrongFalsely : Prop := markItemsRow.holds Tryd.pinned (OpenSpec.ofChange markItemsWrong)

/-- 'stetlaw05.MarkContent': WHATEVER THE INPUT: true; the input reads as it did. -/
def markContentSpec : ChangeSpec := { name := "markContent", fn := fun _ => fun
  | [d] => { results := [.lit (.bool true)], args := [d] }
  | _ => none }
def markContentRow : OpenClaim := { program := "ytinmefdcgiiejaadoor", sum := "0a3669eac2e75d655a27e10d78573246ee66a755548b7a9a5b5c01b60f98513a", func := "stet/stetlaw05.MarkContent", spec := "markContent", inPlace := ["internal/bytealg.IndexByteString", "internal/bytealg.IndexString"], named := ["unicode/utf8.first", "unicode/utf8.acceptRanges", "internal/bytealg.MaxLen"], apart := false, laid := [("unicode/utf8.acceptRanges", laid_unicode_utf8_acceptRanges), ("unicode/utf8.first", laid_unicode_utf8_first)] }
def MarkContentSaid : Prop := markContentRow.holds Tryd.pinned (OpenSpec.ofChange markContentSpec)

/-- ITS FALSE NEIGHBOUR: 'it returns false'. Refute it at one input. -/
def markContentWrong : ChangeSpec := { name := "markContent", fn := fun _ => fun
  | [d] => { results := [.lit (.bool false)], args := [d] }
  | _ => none }
def MarkContentWrongFalsely : Prop := markContentRow.holds Tryd.pinned (OpenSpec.ofChange markContentWrong)

/-- 'stetlaw05.MarkBlanks': WHATEVER THE INPUT: true; the input reads as it did. -/
def markBlanksSpec : ChangeSpec := { name := "markBlanks", fn := fun _ => fun
  | [d1, d2, d3] => { results := [.lit (.bool true)], args := [d1, d2, d3] }
  | _ => none }
def markBlanksRow : OpenClaim := { program := "ytinmefdcgiiejaadoor", sum := "0a3669eac2e75d655a27e10d78573246ee66a755548b7a9a5b5c01b60f98513a", func := "stet/stetlaw05.MarkBlanks", spec := "markBlanks", inPlace := ["internal/bytealg.IndexByteString", "internal/bytealg.IndexString"], named := ["unicode/utf8.first", "unicode/utf8.acceptRanges", "internal/bytealg.MaxLen"], apart := false, laid := [("unicode/utf8.acceptRanges", laid_unicode_utf8_acceptRanges), ("unicode/utf8.first", laid_unicode_utf8_first)] }
def MarkBlanksSaid : Prop := markBlanksRow.holds Tryd.pinned (OpenSpec.ofChange markBlanksSpec)

/-- ITS FALSE NEIGHBOUR: 'it returns false'. Refute it at one input. -/
def markBlanksWrong : ChangeSpec := { name := "markBlanks", fn := fun _ => fun
  | [d1, d2, d3] => { results := [.lit (.bool false)], args := [d1, d2, d3] }
  | _ => none }
def MarkBlanksWrongFalsely : Prop := markBlanksRow.holds Tryd.pinned (OpenSpec.ofChange markBlanksWrong)

/- THE SECOND FORM. 'bulk': how many values and letters a reading holds, each counted each time it is reached (what is shared counts as often as it is met; a slice's spare places count too). A statement '..UptoSaid' is the law's where the arguments, and the package variables that the reading takes, are together of bulk at most 1048576: NARROWER than '..Said'. Prove '..Said' where nothing that the law and all that it calls make is longer than what came in: it says more and counts as full. Else prove '..UptoSaid'. A law counts once. -/
mutual
def uptoBulk {H : Type} : DataW H → Nat
  | .lit (.string bytes) => bytes.length + 1
  | .lit _ => 1
  | .nil => 1
  | .ptr d => uptoBulk d + 1
  | .slice elems spare => uptoBulkAll elems + uptoBulkAll spare + 1
  | .agg parts => uptoBulkAll parts + 1
  | .iface _ d => uptoBulk d + 1
  | .map entries => uptoBulkEntries entries + 1
  | .held _ => 1
def uptoBulkAll {H : Type} : List (DataW H) → Nat
  | [] => 0
  | d :: r => uptoBulk d + uptoBulkAll r
def uptoBulkEntries {H : Type} : List (Lit × DataW H) → Nat
  | [] => 0
  | x :: r => uptoBulkEntry x + uptoBulkEntries r
def uptoBulkEntry {H : Type} : Lit × DataW H → Nat
  | (.string bytes, d) => bytes.length + uptoBulk d + 1
  | (_, d) => uptoBulk d + 1
 end
def uptoSmall : (H : Type) → List (DataW H) → Bool := fun _ ds => decide (uptoBulkAll ds ≤ 1048576)
def OpenSpec.upto (s : _root_.Go.ChangeSpec) : _root_.Go.OpenSpec := { _root_.Go.OpenSpec.ofChange s with cond := some uptoSmall }

/-- 'stetlaw05.MarkLines', WHERE WHAT IT READS IS OF BULK AT MOST 1048576: true; the input reads as it did. -/
def markLinesUptoRow : OpenClaim := { program := "ytinmefdcgiiejaadoor", sum := "0a3669eac2e75d655a27e10d78573246ee66a755548b7a9a5b5c01b60f98513a", func := "stet/stetlaw05.MarkLines", spec := "markLines", inPlace := ["internal/bytealg.IndexByteString", "internal/bytealg.IndexString"], named := ["unicode/utf8.first", "unicode/utf8.acceptRanges", "internal/bytealg.MaxLen"], apart := false, laid := [("unicode/utf8.acceptRanges", laid_unicode_utf8_acceptRanges), ("unicode/utf8.first", laid_unicode_utf8_first)], narrowed := true }
def MarkLinesUptoSaid : Prop := markLinesUptoRow.holds Tryd.pinned (OpenSpec.upto markLinesSpec)

/-- 'stetlaw05.MarkHeads', WHERE WHAT IT READS IS OF BULK AT MOST 1048576: true; the input reads as it did. -/
def markHeadsUptoRow : OpenClaim := { program := "ytinmefdcgiiejaadoor", sum := "0a3669eac2e75d655a27e10d78573246ee66a755548b7a9a5b5c01b60f98513a", func := "stet/stetlaw05.MarkHeads", spec := "markHeads", inPlace := ["internal/bytealg.IndexByteString", "internal/bytealg.IndexString"], named := ["unicode/utf8.first", "unicode/utf8.acceptRanges", "internal/bytealg.MaxLen"], apart := false, laid := [("unicode/utf8.acceptRanges", laid_unicode_utf8_acceptRanges), ("unicode/utf8.first", laid_unicode_utf8_first)], narrowed := true }
def MarkHeadsUptoSaid : Prop := markHeadsUptoRow.holds Tryd.pinned (OpenSpec.upto markHeadsSpec)

/-- 'stetlaw05.MarkFences', WHERE WHAT IT READS IS OF BULK AT MOST 1048576: true; the input reads as it did. -/
def markFencesUptoRow : OpenClaim := { program := "ytinmefdcgiiejaadoor", sum := "0a3669eac2e75d655a27e10d78573246ee66a755548b7a9a5b5c01b60f98513a", func := "stet/stetlaw05.MarkFences", spec := "markFences", inPlace := ["internal/bytealg.IndexByteString", "internal/bytealg.IndexString"], named := ["unicode/utf8.first", "unicode/utf8.acceptRanges", "internal/bytealg.MaxLen"], apart := false, laid := [("unicode/utf8.acceptRanges", laid_unicode_utf8_acceptRanges), ("unicode/utf8.first", laid_unicode_utf8_first)], narrowed := true }
def MarkFencesUptoSaid : Prop := markFencesUptoRow.holds Tryd.pinned (OpenSpec.upto markFencesSpec)

/-- 'stetlaw05.MarkItems', WHERE WHAT IT READS IS OF BULK AT MOST 1048576: true; the input reads as it did. -/
def markItemsUptoRow : OpenClaim := { program := "ytinmefdcgiiejaadoor", sum := "0a3669eac2e75d655a27e10d78573246ee66a755548b7a9a5b5c01b60f98513a", func := "stet/stetlaw05.MarkItems", spec := "markItems", inPlace := ["internal/bytealg.IndexByteString", "internal/bytealg.IndexString"], named := ["unicode/utf8.first", "unicode/utf8.acceptRanges", "internal/bytealg.MaxLen"], apart := false, laid := [("unicode/utf8.acceptRanges", laid_unicode_utf8_acceptRanges), ("unicode/utf8.first", laid_unicode_utf8_first)], narrowed := true }
def MarkItemsUptoSaid : Prop := markItemsUptoRow.holds Tryd.pinned (OpenSpec.upto markItemsSpec)

/-- 'stetlaw05.MarkContent', WHERE WHAT IT READS IS OF BULK AT MOST 1048576: true; the input reads as it did. -/
def markContentUptoRow : OpenClaim := { program := "ytinmefdcgiiejaadoor", sum := "0a3669eac2e75d655a27e10d78573246ee66a755548b7a9a5b5c01b60f98513a", func := "stet/stetlaw05.MarkContent", spec := "markContent", inPlace := ["internal/bytealg.IndexByteString", "internal/bytealg.IndexString"], named := ["unicode/utf8.first", "unicode/utf8.acceptRanges", "internal/bytealg.MaxLen"], apart := false, laid := [("unicode/utf8.acceptRanges", laid_unicode_utf8_acceptRanges), ("unicode/utf8.first", laid_unicode_utf8_first)], narrowed := true }
def MarkContentUptoSaid : Prop := markContentUptoRow.holds Tryd.pinned (OpenSpec.upto markContentSpec)

/-- 'stetlaw05.MarkBlanks', WHERE WHAT IT READS IS OF BULK AT MOST 1048576: true; the input reads as it did. -/
def markBlanksUptoRow : OpenClaim := { program := "ytinmefdcgiiejaadoor", sum := "0a3669eac2e75d655a27e10d78573246ee66a755548b7a9a5b5c01b60f98513a", func := "stet/stetlaw05.MarkBlanks", spec := "markBlanks", inPlace := ["internal/bytealg.IndexByteString", "internal/bytealg.IndexString"], named := ["unicode/utf8.first", "unicode/utf8.acceptRanges", "internal/bytealg.MaxLen"], apart := false, laid := [("unicode/utf8.acceptRanges", laid_unicode_utf8_acceptRanges), ("unicode/utf8.first", laid_unicode_utf8_first)], narrowed := true }
def MarkBlanksUptoSaid : Prop := markBlanksUptoRow.holds Tryd.pinned (OpenSpec.upto markBlanksSpec)

end Rows
end Go.Proofs.YtinmefdcgiiejaaDoor
