/-
  No cell of these rows narrows 'for every input' (looked for: loops, veiled, ifaces, maps, wideKeys, modest, calm, conditions, laid).
  DERIVED. THE GIVEN ROWS OF THIS SEAT. 4 by the template 'for every input the law returns true; each argument reads behind the call as it read before'; 0 by the template 'total and deterministic' (their statements: YthlcjlikeipdlaaTotals.lean).
  GIVEN WITH THE SEED: the statements are not yours to turn. If you find one false, say at which input.
  Laid BY PROGRAM, IN A SANDBOX (cutbox-rows.mjs): the forced cells as the released guide's own fill.sh prints them over the translation bf5ea9390d632580… (all of the seat's roots in one cut). By AI agents, Wed Nov 11 2026. No macro, syntax, notation, axiom, sorry.
-/
import Derived.Test.YthlcjlikeipdlaaChecked
import GoSem.Claim
import GoSem.ClaimJoined
import GoSem.ClaimMapViews
import Derived.JoinedTies
import Derived.KernelRfl
namespace Go.Proofs.Ythlcjlikeipdlaa
/- THE CELL 'sum', in the pinned program and in every row, IS THE sha256 OF THE DUMP (.gsa) THAT YthlcjlikeipdlaaProg.lean LOADS. Nothing in Lean hashes anything: it is a label: what it is worth is what the hold of that sum in a sandbox is worth. -/
noncomputable def Try.pinned : Pinned := { name := "ythlcjlikeipdlaa", sum := "bf5ea9390d6325801a8d45a5bd6acdbd7def7fe67da9439498913b333cc8696e", checked := Try.checked }
namespace Rows
def none {H : Type} : Left H := { results := [], args := [] }

/-- 'stetlaw04.ColumnAnswers': WHATEVER THE INPUT: true; the input reads as it did. -/
def columnAnswersSpec : ChangeSpec := { name := "columnAnswers", fn := fun _ => fun
  | [d1, d2, d3] => { results := [.lit (.bool true)], args := [d1, d2, d3] }
  | _ => none }
def columnAnswersRow : OpenClaim := { program := "ythlcjlikeipdlaa", sum := "bf5ea9390d6325801a8d45a5bd6acdbd7def7fe67da9439498913b333cc8696e", func := "stet/stetlaw04.ColumnAnswers", spec := "columnAnswers", apart := false }
def ColumnAnswersSaid : Prop := columnAnswersRow.holds Try.pinned (OpenSpec.ofChange columnAnswersSpec)

/-- ITS FALSE NEIGHBOUR: 'it returns false'. Refute it at one input. -/
def columnAnswersWrong : ChangeSpec := { name := "columnAnswers", fn := fun _ => fun
  | [d1, d2, d3] => { results := [.lit (.bool false)], args := [d1, d2, d3] }
  | _ => none }
def ColumnAnswersWrongFalsely : Prop := columnAnswersRow.holds Try.pinned (OpenSpec.ofChange columnAnswersWrong)

/-- 'stetlaw04.ColumnDrops': WHATEVER THE INPUT: true; the input reads as it did. -/
def columnDropsSpec : ChangeSpec := { name := "columnDrops", fn := fun _ => fun
  | [d1, d2, d3] => { results := [.lit (.bool true)], args := [d1, d2, d3] }
  | _ => none }
def columnDropsRow : OpenClaim := { program := "ythlcjlikeipdlaa", sum := "bf5ea9390d6325801a8d45a5bd6acdbd7def7fe67da9439498913b333cc8696e", func := "stet/stetlaw04.ColumnDrops", spec := "columnDrops", apart := false }
def ColumnDropsSaid : Prop := columnDropsRow.holds Try.pinned (OpenSpec.ofChange columnDropsSpec)

/-- ITS FALSE NEIGHBOUR: 'it returns false'. Refute it at one input. -/
def columnDropsWrong : ChangeSpec := { name := "columnDrops", fn := fun _ => fun
  | [d1, d2, d3] => { results := [.lit (.bool false)], args := [d1, d2, d3] }
  | _ => none }
def ColumnDropsWrongFalsely : Prop := columnDropsRow.holds Try.pinned (OpenSpec.ofChange columnDropsWrong)

/-- 'stetlaw04.ColumnParts': WHATEVER THE INPUT: true; the input reads as it did. -/
def columnPartsSpec : ChangeSpec := { name := "columnParts", fn := fun _ => fun
  | [d1, d2, d3] => { results := [.lit (.bool true)], args := [d1, d2, d3] }
  | _ => none }
def columnPartsRow : OpenClaim := { program := "ythlcjlikeipdlaa", sum := "bf5ea9390d6325801a8d45a5bd6acdbd7def7fe67da9439498913b333cc8696e", func := "stet/stetlaw04.ColumnParts", spec := "columnParts", apart := false }
def ColumnPartsSaid : Prop := columnPartsRow.holds Try.pinned (OpenSpec.ofChange columnPartsSpec)

/-- ITS FALSE NEIGHBOUR: 'it returns false'. Refute it at one input. -/
def columnPartsWrong : ChangeSpec := { name := "columnParts", fn := fun _ => fun
  | [d1, d2, d3] => { results := [.lit (.bool false)], args := [d1, d2, d3] }
  | _ => none }
def ColumnPartsWrongFalsely : Prop := columnPartsRow.holds Try.pinned (OpenSpec.ofChange columnPartsWrong)

/-- 'stetlaw04.ColumnTabs': WHATEVER THE INPUT: true; the input reads as it did. -/
def columnTabsSpec : ChangeSpec := { name := "columnTabs", fn := fun _ => fun
  | [d1, d2] => { results := [.lit (.bool true)], args := [d1, d2] }
  | _ => none }
def columnTabsRow : OpenClaim := { program := "ythlcjlikeipdlaa", sum := "bf5ea9390d6325801a8d45a5bd6acdbd7def7fe67da9439498913b333cc8696e", func := "stet/stetlaw04.ColumnTabs", spec := "columnTabs", apart := false }
def ColumnTabsSaid : Prop := columnTabsRow.holds Try.pinned (OpenSpec.ofChange columnTabsSpec)

/-- ITS FALSE NEIGHBOUR: 'it returns false'. Refute it at one input. -/
def columnTabsWrong : ChangeSpec := { name := "columnTabs", fn := fun _ => fun
  | [d1, d2] => { results := [.lit (.bool false)], args := [d1, d2] }
  | _ => none }
def ColumnTabsWrongFalsely : Prop := columnTabsRow.holds Try.pinned (OpenSpec.ofChange columnTabsWrong)

/- THE SECOND FORM. 'bulk': how many values and letters a reading holds, each counted each time it is reached (what is shared counts as often as it is met; a slice's spare places count too). A statement '..UptoSaid' is the law's where the arguments, and the package variables that the reading takes, are together of bulk at most 1048576: NARROWER than '..Said'. Prove '..Said' where nothing that the law and all that it calls make is longer than what came in: it says more and counts as full. Else prove '..UptoSaid'. A law counts once. -/
mutual
def uptoBulk {H : Type} : DataW H → Nat
  | .lit (.string bytes) => bytes.length + 1
  | .lit _ => 1
  | .nil => 1
  | .ptr d => uptoBulk d + 1
  | .slice elems spare => uptoBulkAll elems + uptoBulkAll spare + 1
  | .agg parts => uptoBulkAll parts + 1
  | .iface _ d => uptoBulk d + 1
  | .map entries => uptoBulkEntries entries + 1
  | .held _ => 1
def uptoBulkAll {H : Type} : List (DataW H) → Nat
  | [] => 0
  | d :: r => uptoBulk d + uptoBulkAll r
def uptoBulkEntries {H : Type} : List (Lit × DataW H) → Nat
  | [] => 0
  | x :: r => uptoBulkEntry x + uptoBulkEntries r
def uptoBulkEntry {H : Type} : Lit × DataW H → Nat
  | (.string bytes, d) => bytes.length + uptoBulk d + 1
  | (_, d) => uptoBulk d + 1
 end
def uptoSmall : (H : Type) → List (DataW H) → Bool := fun _ ds => decide (uptoBulkAll ds ≤ 1048576)
def OpenSpec.upto (s : _root_.Go.ChangeSpec) : _root_.Go.OpenSpec := { _root_.Go.OpenSpec.ofChange s with cond := some uptoSmall }

/-- 'stetlaw04.ColumnAnswers', WHERE WHAT IT READS IS OF BULK AT MOST 1048576: true; the input reads as it did. -/
def columnAnswersUptoRow : OpenClaim := { program := "ythlcjlikeipdlaa", sum := "bf5ea9390d6325801a8d45a5bd6acdbd7def7fe67da9439498913b333cc8696e", func := "stet/stetlaw04.ColumnAnswers", spec := "columnAnswers", apart := false, narrowed := true }
def ColumnAnswersUptoSaid : Prop := columnAnswersUptoRow.holds Try.pinned (OpenSpec.upto columnAnswersSpec)

/-- 'stetlaw04.ColumnDrops', WHERE WHAT IT READS IS OF BULK AT MOST 1048576: true; the input reads as it did. -/
def columnDropsUptoRow : OpenClaim := { program := "ythlcjlikeipdlaa", sum := "bf5ea9390d6325801a8d45a5bd6acdbd7def7fe67da9439498913b333cc8696e", func := "stet/stetlaw04.ColumnDrops", spec := "columnDrops", apart := false, narrowed := true }
def ColumnDropsUptoSaid : Prop := columnDropsUptoRow.holds Try.pinned (OpenSpec.upto columnDropsSpec)

/-- 'stetlaw04.ColumnParts', WHERE WHAT IT READS IS OF BULK AT MOST 1048576: true; the input reads as it did. -/
def columnPartsUptoRow : OpenClaim := { program := "ythlcjlikeipdlaa", sum := "bf5ea9390d6325801a8d45a5bd6acdbd7def7fe67da9439498913b333cc8696e", func := "stet/stetlaw04.ColumnParts", spec := "columnParts", apart := false, narrowed := true }
def ColumnPartsUptoSaid : Prop := columnPartsUptoRow.holds Try.pinned (OpenSpec.upto columnPartsSpec)

/-- 'stetlaw04.ColumnTabs', WHERE WHAT IT READS IS OF BULK AT MOST 1048576: true; the input reads as it did. -/
def columnTabsUptoRow : OpenClaim := { program := "ythlcjlikeipdlaa", sum := "bf5ea9390d6325801a8d45a5bd6acdbd7def7fe67da9439498913b333cc8696e", func := "stet/stetlaw04.ColumnTabs", spec := "columnTabs", apart := false, narrowed := true }
def ColumnTabsUptoSaid : Prop := columnTabsUptoRow.holds Try.pinned (OpenSpec.upto columnTabsSpec)

end Rows
end Go.Proofs.Ythlcjlikeipdlaa
