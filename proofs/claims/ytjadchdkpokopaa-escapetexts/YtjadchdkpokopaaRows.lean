/-
  No cell of these rows narrows 'for every input' (looked for: loops, veiled, ifaces, maps, wideKeys, modest, calm, conditions, laid).
  DERIVED. THE GIVEN ROWS OF THIS SEAT. 6 by the template 'for every input the law returns true; each argument reads behind the call as it read before'; 0 by the template 'total and deterministic' (their statements: YtjadchdkpokopaaTotals.lean).
  GIVEN WITH THE SEED: the statements are not yours to turn. If you find one false, say at which input.
  Laid BY PROGRAM, IN A SANDBOX (cutbox-rows.mjs): the forced cells as the released guide's own fill.sh prints them over the translation 62f86a3fda87c94a… (all of the seat's roots in one cut). By AI agents, Wed Nov 11 2026. No macro, syntax, notation, axiom, sorry.
-/
import Derived.Test.YtjadchdkpokopaaChecked
import GoSem.Claim
import GoSem.ClaimJoined
import GoSem.ClaimMapViews
import Derived.JoinedTies
import Derived.KernelRfl
namespace Go.Proofs.Ytjadchdkpokopaa
/- THE CELL 'sum', in the pinned program and in every row, IS THE sha256 OF THE DUMP (.gsa) THAT YtjadchdkpokopaaProg.lean LOADS. Nothing in Lean hashes anything: it is a label: what it is worth is what the hold of that sum in a sandbox is worth. -/
noncomputable def Try.pinned : Pinned := { name := "ytjadchdkpokopaa", sum := "62f86a3fda87c94aa08508aeb085d82b11bd607d3b8638d82d982617f1b1d06e", checked := Try.checked }
namespace Rows
def none {H : Type} : Left H := { results := [], args := [] }

/-- 'stetlaw07.EscapeEntities': WHATEVER THE INPUT: true; the input reads as it did. -/
def escapeEntitiesSpec : ChangeSpec := { name := "escapeEntities", fn := fun _ => fun
  | [d1, d2] => { results := [.lit (.bool true)], args := [d1, d2] }
  | _ => none }
def escapeEntitiesRow : OpenClaim := { program := "ytjadchdkpokopaa", sum := "62f86a3fda87c94aa08508aeb085d82b11bd607d3b8638d82d982617f1b1d06e", func := "stet/stetlaw07.EscapeEntities", spec := "escapeEntities", inPlace := ["internal/bytealg.IndexByteString", "internal/abi.NoEscape", "internal/bytealg.MakeNoZero"], apart := false }
def EscapeEntitiesSaid : Prop := escapeEntitiesRow.holds Try.pinned (OpenSpec.ofChange escapeEntitiesSpec)

/-- ITS FALSE NEIGHBOUR: 'it returns false'. Refute it at one input. -/
def escapeEntitiesWrong : ChangeSpec := { name := "escapeEntities", fn := fun _ => fun
  | [d1, d2] => { results := [.lit (.bool false)], args := [d1, d2] }
  | _ => none }
def EscapeEntitiesWrongFalsely : Prop := escapeEntitiesRow.holds Try.pinned (OpenSpec.ofChange escapeEntitiesWrong)

/-- 'stetlaw07.EscapeTexts': WHATEVER THE INPUT: true; the input reads as it did. -/
def escapeTextsSpec : ChangeSpec := { name := "escapeTexts", fn := fun _ => fun
  | [d] => { results := [.lit (.bool true)], args := [d] }
  | _ => none }
def escapeTextsRow : OpenClaim := { program := "ytjadchdkpokopaa", sum := "62f86a3fda87c94aa08508aeb085d82b11bd607d3b8638d82d982617f1b1d06e", func := "stet/stetlaw07.EscapeTexts", spec := "escapeTexts", inPlace := ["internal/bytealg.IndexByteString", "internal/abi.NoEscape", "internal/bytealg.MakeNoZero"], apart := false }
def EscapeTextsSaid : Prop := escapeTextsRow.holds Try.pinned (OpenSpec.ofChange escapeTextsSpec)

/-- ITS FALSE NEIGHBOUR: 'it returns false'. Refute it at one input. -/
def escapeTextsWrong : ChangeSpec := { name := "escapeTexts", fn := fun _ => fun
  | [d] => { results := [.lit (.bool false)], args := [d] }
  | _ => none }
def EscapeTextsWrongFalsely : Prop := escapeTextsRow.holds Try.pinned (OpenSpec.ofChange escapeTextsWrong)

/-- 'stetlaw07.EscapeMarks': WHATEVER THE INPUT: true; the input reads as it did. -/
def escapeMarksSpec : ChangeSpec := { name := "escapeMarks", fn := fun _ => fun
  | [d] => { results := [.lit (.bool true)], args := [d] }
  | _ => none }
def escapeMarksRow : OpenClaim := { program := "ytjadchdkpokopaa", sum := "62f86a3fda87c94aa08508aeb085d82b11bd607d3b8638d82d982617f1b1d06e", func := "stet/stetlaw07.EscapeMarks", spec := "escapeMarks", inPlace := ["internal/bytealg.IndexByteString", "internal/abi.NoEscape", "internal/bytealg.MakeNoZero"], apart := false }
def EscapeMarksSaid : Prop := escapeMarksRow.holds Try.pinned (OpenSpec.ofChange escapeMarksSpec)

/-- ITS FALSE NEIGHBOUR: 'it returns false'. Refute it at one input. -/
def escapeMarksWrong : ChangeSpec := { name := "escapeMarks", fn := fun _ => fun
  | [d] => { results := [.lit (.bool false)], args := [d] }
  | _ => none }
def EscapeMarksWrongFalsely : Prop := escapeMarksRow.holds Try.pinned (OpenSpec.ofChange escapeMarksWrong)

/-- 'stetlaw07.EscapeHtml': WHATEVER THE INPUT: true; the input reads as it did. -/
def escapeHtmlSpec : ChangeSpec := { name := "escapeHtml", fn := fun _ => fun
  | [d] => { results := [.lit (.bool true)], args := [d] }
  | _ => none }
def escapeHtmlRow : OpenClaim := { program := "ytjadchdkpokopaa", sum := "62f86a3fda87c94aa08508aeb085d82b11bd607d3b8638d82d982617f1b1d06e", func := "stet/stetlaw07.EscapeHtml", spec := "escapeHtml", inPlace := ["internal/bytealg.IndexByteString", "internal/abi.NoEscape", "internal/bytealg.MakeNoZero"], apart := false }
def EscapeHtmlSaid : Prop := escapeHtmlRow.holds Try.pinned (OpenSpec.ofChange escapeHtmlSpec)

/-- ITS FALSE NEIGHBOUR: 'it returns false'. Refute it at one input. -/
def escapeHtmlWrong : ChangeSpec := { name := "escapeHtml", fn := fun _ => fun
  | [d] => { results := [.lit (.bool false)], args := [d] }
  | _ => none }
def EscapeHtmlWrongFalsely : Prop := escapeHtmlRow.holds Try.pinned (OpenSpec.ofChange escapeHtmlWrong)

/-- 'stetlaw07.EscapeAgain': WHATEVER THE INPUT: true; the input reads as it did. -/
def escapeAgainSpec : ChangeSpec := { name := "escapeAgain", fn := fun _ => fun
  | [d] => { results := [.lit (.bool true)], args := [d] }
  | _ => none }
def escapeAgainRow : OpenClaim := { program := "ytjadchdkpokopaa", sum := "62f86a3fda87c94aa08508aeb085d82b11bd607d3b8638d82d982617f1b1d06e", func := "stet/stetlaw07.EscapeAgain", spec := "escapeAgain", inPlace := ["internal/bytealg.IndexByteString", "internal/abi.NoEscape", "internal/bytealg.MakeNoZero"], apart := false }
def EscapeAgainSaid : Prop := escapeAgainRow.holds Try.pinned (OpenSpec.ofChange escapeAgainSpec)

/-- ITS FALSE NEIGHBOUR: 'it returns false'. Refute it at one input. -/
def escapeAgainWrong : ChangeSpec := { name := "escapeAgain", fn := fun _ => fun
  | [d] => { results := [.lit (.bool false)], args := [d] }
  | _ => none }
def EscapeAgainWrongFalsely : Prop := escapeAgainRow.holds Try.pinned (OpenSpec.ofChange escapeAgainWrong)

/-- 'stetlaw07.EscapeParts': WHATEVER THE INPUT: true; the input reads as it did. -/
def escapePartsSpec : ChangeSpec := { name := "escapeParts", fn := fun _ => fun
  | [d1, d2] => { results := [.lit (.bool true)], args := [d1, d2] }
  | _ => none }
def escapePartsRow : OpenClaim := { program := "ytjadchdkpokopaa", sum := "62f86a3fda87c94aa08508aeb085d82b11bd607d3b8638d82d982617f1b1d06e", func := "stet/stetlaw07.EscapeParts", spec := "escapeParts", inPlace := ["internal/bytealg.IndexByteString", "internal/abi.NoEscape", "internal/bytealg.MakeNoZero"], apart := false }
def EscapePartsSaid : Prop := escapePartsRow.holds Try.pinned (OpenSpec.ofChange escapePartsSpec)

/-- ITS FALSE NEIGHBOUR: 'it returns false'. Refute it at one input. -/
def escapePartsWrong : ChangeSpec := { name := "escapeParts", fn := fun _ => fun
  | [d1, d2] => { results := [.lit (.bool false)], args := [d1, d2] }
  | _ => none }
def EscapePartsWrongFalsely : Prop := escapePartsRow.holds Try.pinned (OpenSpec.ofChange escapePartsWrong)

/- THE SECOND FORM. 'bulk': how many values and letters a reading holds, each counted each time it is reached (what is shared counts as often as it is met; a slice's spare places count too). A statement '..UptoSaid' is the law's where the arguments, and the package variables that the reading takes, are together of bulk at most 1048576: NARROWER than '..Said'. Prove '..Said' where nothing that the law and all that it calls make is longer than what came in: it says more and counts as full. Else prove '..UptoSaid'. A law counts once. -/
mutual
def uptoBulk {H : Type} : DataW H → Nat
  | .lit (.string bytes) => bytes.length + 1
  | .lit _ => 1
  | .nil => 1
  | .ptr d => uptoBulk d + 1
  | .slice elems spare => uptoBulkAll elems + uptoBulkAll spare + 1
  | .agg parts => uptoBulkAll parts + 1
  | .iface _ d => uptoBulk d + 1
  | .map entries => uptoBulkEntries entries + 1
  | .held _ => 1
def uptoBulkAll {H : Type} : List (DataW H) → Nat
  | [] => 0
  | d :: r => uptoBulk d + uptoBulkAll r
def uptoBulkEntries {H : Type} : List (Lit × DataW H) → Nat
  | [] => 0
  | x :: r => uptoBulkEntry x + uptoBulkEntries r
def uptoBulkEntry {H : Type} : Lit × DataW H → Nat
  | (.string bytes, d) => bytes.length + uptoBulk d + 1
  | (_, d) => uptoBulk d + 1
 end
def uptoSmall : (H : Type) → List (DataW H) → Bool := fun _ ds => decide (uptoBulkAll ds ≤ 1048576)
def OpenSpec.upto (s : _root_.Go.ChangeSpec) : _root_.Go.OpenSpec := { _root_.Go.OpenSpec.ofChange s with cond := some uptoSmall }

/-- 'stetlaw07.EscapeEntities', WHERE WHAT IT READS IS OF BULK AT MOST 1048576: true; the input reads as it did. -/
def escapeEntitiesUptoRow : OpenClaim := { program := "ytjadchdkpokopaa", sum := "62f86a3fda87c94aa08508aeb085d82b11bd607d3b8638d82d982617f1b1d06e", func := "stet/stetlaw07.EscapeEntities", spec := "escapeEntities", inPlace := ["internal/bytealg.IndexByteString", "internal/abi.NoEscape", "internal/bytealg.MakeNoZero"], apart := false, narrowed := true }
def EscapeEntitiesUptoSaid : Prop := escapeEntitiesUptoRow.holds Try.pinned (OpenSpec.upto escapeEntitiesSpec)

/-- 'stetlaw07.EscapeTexts', WHERE WHAT IT READS IS OF BULK AT MOST 1048576: true; the input reads as it did. -/
def escapeTextsUptoRow : OpenClaim := { program := "ytjadchdkpokopaa", sum := "62f86a3fda87c94aa08508aeb085d82b11bd607d3b8638d82d982617f1b1d06e", func := "stet/stetlaw07.EscapeTexts", spec := "escapeTexts", inPlace := ["internal/bytealg.IndexByteString", "internal/abi.NoEscape", "internal/bytealg.MakeNoZero"], apart := false, narrowed := true }
def EscapeTextsUptoSaid : Prop := escapeTextsUptoRow.holds Try.pinned (OpenSpec.upto escapeTextsSpec)

/-- 'stetlaw07.EscapeMarks', WHERE WHAT IT READS IS OF BULK AT MOST 1048576: true; the input reads as it did. -/
def escapeMarksUptoRow : OpenClaim := { program := "ytjadchdkpokopaa", sum := "62f86a3fda87c94aa08508aeb085d82b11bd607d3b8638d82d982617f1b1d06e", func := "stet/stetlaw07.EscapeMarks", spec := "escapeMarks", inPlace := ["internal/bytealg.IndexByteString", "internal/abi.NoEscape", "internal/bytealg.MakeNoZero"], apart := false, narrowed := true }
def EscapeMarksUptoSaid : Prop := escapeMarksUptoRow.holds Try.pinned (OpenSpec.upto escapeMarksSpec)

/-- 'stetlaw07.EscapeHtml', WHERE WHAT IT READS IS OF BULK AT MOST 1048576: true; the input reads as it did. -/
def escapeHtmlUptoRow : OpenClaim := { program := "ytjadchdkpokopaa", sum := "62f86a3fda87c94aa08508aeb085d82b11bd607d3b8638d82d982617f1b1d06e", func := "stet/stetlaw07.EscapeHtml", spec := "escapeHtml", inPlace := ["internal/bytealg.IndexByteString", "internal/abi.NoEscape", "internal/bytealg.MakeNoZero"], apart := false, narrowed := true }
def EscapeHtmlUptoSaid : Prop := escapeHtmlUptoRow.holds Try.pinned (OpenSpec.upto escapeHtmlSpec)

/-- 'stetlaw07.EscapeAgain', WHERE WHAT IT READS IS OF BULK AT MOST 1048576: true; the input reads as it did. -/
def escapeAgainUptoRow : OpenClaim := { program := "ytjadchdkpokopaa", sum := "62f86a3fda87c94aa08508aeb085d82b11bd607d3b8638d82d982617f1b1d06e", func := "stet/stetlaw07.EscapeAgain", spec := "escapeAgain", inPlace := ["internal/bytealg.IndexByteString", "internal/abi.NoEscape", "internal/bytealg.MakeNoZero"], apart := false, narrowed := true }
def EscapeAgainUptoSaid : Prop := escapeAgainUptoRow.holds Try.pinned (OpenSpec.upto escapeAgainSpec)

/-- 'stetlaw07.EscapeParts', WHERE WHAT IT READS IS OF BULK AT MOST 1048576: true; the input reads as it did. -/
def escapePartsUptoRow : OpenClaim := { program := "ytjadchdkpokopaa", sum := "62f86a3fda87c94aa08508aeb085d82b11bd607d3b8638d82d982617f1b1d06e", func := "stet/stetlaw07.EscapeParts", spec := "escapeParts", inPlace := ["internal/bytealg.IndexByteString", "internal/abi.NoEscape", "internal/bytealg.MakeNoZero"], apart := false, narrowed := true }
def EscapePartsUptoSaid : Prop := escapePartsUptoRow.holds Try.pinned (OpenSpec.upto escapePartsSpec)

end Rows
end Go.Proofs.Ytjadchdkpokopaa
