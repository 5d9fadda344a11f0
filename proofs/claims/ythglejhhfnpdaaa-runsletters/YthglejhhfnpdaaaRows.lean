/-
  No cell of these rows narrows 'for every input' (looked for: loops, veiled, ifaces, maps, wideKeys, modest, calm, conditions, laid).
  DERIVED. THE GIVEN ROWS OF THIS SEAT. 4 by the template 'for every input the law returns true; each argument reads behind the call as it read before'; 0 by the template 'total and deterministic' (their statements: YthglejhhfnpdaaaTotals.lean).
  GIVEN WITH THE SEED: the statements are not yours to turn. If you find one false, say at which input.
  Laid BY PROGRAM, IN A SANDBOX (cutbox-rows.mjs): the forced cells as the released guide's own fill.sh prints them over the translation 7912dd5871335559… (all of the seat's roots in one cut). By AI agents, Wed Nov 11 2026. No macro, syntax, notation, axiom, sorry.
-/
import Derived.Test.YthglejhhfnpdaaaChecked
import GoSem.Claim
import GoSem.ClaimJoined
import GoSem.ClaimMapViews
import Derived.JoinedTies
import Derived.KernelRfl
namespace Go.Proofs.Ythglejhhfnpdaaa
/- THE CELL 'sum', in the pinned program and in every row, IS THE sha256 OF THE DUMP (.gsa) THAT YthglejhhfnpdaaaProg.lean LOADS. Nothing in Lean hashes anything: it is a label: what it is worth is what the hold of that sum in a sandbox is worth. -/
noncomputable def Try.pinned : Pinned := { name := "ythglejhhfnpdaaa", sum := "7912dd5871335559369a99432ae833e40ea2d9ff44c7c6ab8d4cd5bf9c20c61c", checked := Try.checked }
namespace Rows
def none {H : Type} : Left H := { results := [], args := [] }

/-- 'stetlaw11.RunsScans': WHATEVER THE INPUT: true; the input reads as it did. -/
def runsScansSpec : ChangeSpec := { name := "runsScans", fn := fun _ => fun
  | [d1, d2] => { results := [.lit (.bool true)], args := [d1, d2] }
  | _ => none }
def runsScansRow : OpenClaim := { program := "ythglejhhfnpdaaa", sum := "7912dd5871335559369a99432ae833e40ea2d9ff44c7c6ab8d4cd5bf9c20c61c", func := "stet/stetlaw11.RunsScans", spec := "runsScans", apart := false }
def RunsScansSaid : Prop := runsScansRow.holds Try.pinned (OpenSpec.ofChange runsScansSpec)

/-- ITS FALSE NEIGHBOUR: 'it returns false'. Refute it at one input. -/
def runsScansWrong : ChangeSpec := { name := "runsScans", fn := fun _ => fun
  | [d1, d2] => { results := [.lit (.bool false)], args := [d1, d2] }
  | _ => none }
def RunsScansWrongFalsely : Prop := runsScansRow.holds Try.pinned (OpenSpec.ofChange runsScansWrong)

/-- 'stetlaw11.RunsLetters': WHATEVER THE INPUT: true; the input reads as it did. -/
def runsLettersSpec : ChangeSpec := { name := "runsLetters", fn := fun _ => fun
  | [d1, d2, d3] => { results := [.lit (.bool true)], args := [d1, d2, d3] }
  | _ => none }
def runsLettersRow : OpenClaim := { program := "ythglejhhfnpdaaa", sum := "7912dd5871335559369a99432ae833e40ea2d9ff44c7c6ab8d4cd5bf9c20c61c", func := "stet/stetlaw11.RunsLetters", spec := "runsLetters", apart := false }
def RunsLettersSaid : Prop := runsLettersRow.holds Try.pinned (OpenSpec.ofChange runsLettersSpec)

/-- ITS FALSE NEIGHBOUR: 'it returns false'. Refute it at one input. -/
def runsLettersWrong : ChangeSpec := { name := "runsLetters", fn := fun _ => fun
  | [d1, d2, d3] => { results := [.lit (.bool false)], args := [d1, d2, d3] }
  | _ => none }
def RunsLettersWrongFalsely : Prop := runsLettersRow.holds Try.pinned (OpenSpec.ofChange runsLettersWrong)

/-- 'stetlaw11.RunsTurned': WHATEVER THE INPUT: true; the input reads as it did. -/
def runsTurnedSpec : ChangeSpec := { name := "runsTurned", fn := fun _ => fun
  | [d1, d2] => { results := [.lit (.bool true)], args := [d1, d2] }
  | _ => none }
def runsTurnedRow : OpenClaim := { program := "ythglejhhfnpdaaa", sum := "7912dd5871335559369a99432ae833e40ea2d9ff44c7c6ab8d4cd5bf9c20c61c", func := "stet/stetlaw11.RunsTurned", spec := "runsTurned", apart := false }
def RunsTurnedSaid : Prop := runsTurnedRow.holds Try.pinned (OpenSpec.ofChange runsTurnedSpec)

/-- ITS FALSE NEIGHBOUR: 'it returns false'. Refute it at one input. -/
def runsTurnedWrong : ChangeSpec := { name := "runsTurned", fn := fun _ => fun
  | [d1, d2] => { results := [.lit (.bool false)], args := [d1, d2] }
  | _ => none }
def RunsTurnedWrongFalsely : Prop := runsTurnedRow.holds Try.pinned (OpenSpec.ofChange runsTurnedWrong)

/-- 'stetlaw11.RunsWhole': WHATEVER THE INPUT: true; the input reads as it did. -/
def runsWholeSpec : ChangeSpec := { name := "runsWhole", fn := fun _ => fun
  | [d1, d2] => { results := [.lit (.bool true)], args := [d1, d2] }
  | _ => none }
def runsWholeRow : OpenClaim := { program := "ythglejhhfnpdaaa", sum := "7912dd5871335559369a99432ae833e40ea2d9ff44c7c6ab8d4cd5bf9c20c61c", func := "stet/stetlaw11.RunsWhole", spec := "runsWhole", apart := false }
def RunsWholeSaid : Prop := runsWholeRow.holds Try.pinned (OpenSpec.ofChange runsWholeSpec)

/-- ITS FALSE NEIGHBOUR: 'it returns false'. Refute it at one input. -/
def runsWholeWrong : ChangeSpec := { name := "runsWhole", fn := fun _ => fun
  | [d1, d2] => { results := [.lit (.bool false)], args := [d1, d2] }
  | _ => none }
def RunsWholeWrongFalsely : Prop := runsWholeRow.holds Try.pinned (OpenSpec.ofChange runsWholeWrong)

/- THE SECOND FORM. 'bulk': how many values and letters a reading holds, each counted each time it is reached (what is shared counts as often as it is met; a slice's spare places count too). A statement '..UptoSaid' is the law's where the arguments, and the package variables that the reading takes, are together of bulk at most 1048576: NARROWER than '..Said'. Prove '..Said' where nothing that the law and all that it calls make is longer than what came in: it says more and counts as full. Else prove '..UptoSaid'. A law counts once. -/
mutual
def uptoBulk {H : Type} : DataW H → Nat
  | .lit (.string bytes) => bytes.length + 1
  | .lit _ => 1
  | .nil => 1
  | .ptr d => uptoBulk d + 1
  | .slice elems spare => uptoBulkAll elems + uptoBulkAll spare + 1
  | .agg parts => uptoBulkAll parts + 1
  | .iface _ d => uptoBulk d + 1
  | .map entries => uptoBulkEntries entries + 1
  | .held _ => 1
def uptoBulkAll {H : Type} : List (DataW H) → Nat
  | [] => 0
  | d :: r => uptoBulk d + uptoBulkAll r
def uptoBulkEntries {H : Type} : List (Lit × DataW H) → Nat
  | [] => 0
  | x :: r => uptoBulkEntry x + uptoBulkEntries r
def uptoBulkEntry {H : Type} : Lit × DataW H → Nat
  | (.string bytes, d) => bytes.length + uptoBulk d + 1
  | (_, d) => uptoBulk d + 1
 end
def uptoSmall : (H : Type) → List (DataW H) → Bool := fun _ ds => decide (uptoBulkAll ds ≤ 1048576)
def OpenSpec.upto (s : _root_.Go.ChangeSpec) : _root_.Go.OpenSpec := { _root_.Go.OpenSpec.ofChange s with cond := some uptoSmall }

/-- 'stetlaw11.RunsScans', WHERE WHAT IT READS IS OF BULK AT MOST 1048576: true; the input reads as it did. -/
def runsScansUptoRow : OpenClaim := { program := "ythglejhhfnpdaaa", sum := "7912dd5871335559369a99432ae833e40ea2d9ff44c7c6ab8d4cd5bf9c20c61c", func := "stet/stetlaw11.RunsScans", spec := "runsScans", apart := false, narrowed := true }
def RunsScansUptoSaid : Prop := runsScansUptoRow.holds Try.pinned (OpenSpec.upto runsScansSpec)

/-- 'stetlaw11.RunsLetters', WHERE WHAT IT READS IS OF BULK AT MOST 1048576: true; the input reads as it did. -/
def runsLettersUptoRow : OpenClaim := { program := "ythglejhhfnpdaaa", sum := "7912dd5871335559369a99432ae833e40ea2d9ff44c7c6ab8d4cd5bf9c20c61c", func := "stet/stetlaw11.RunsLetters", spec := "runsLetters", apart := false, narrowed := true }
def RunsLettersUptoSaid : Prop := runsLettersUptoRow.holds Try.pinned (OpenSpec.upto runsLettersSpec)

/-- 'stetlaw11.RunsTurned', WHERE WHAT IT READS IS OF BULK AT MOST 1048576: true; the input reads as it did. -/
def runsTurnedUptoRow : OpenClaim := { program := "ythglejhhfnpdaaa", sum := "7912dd5871335559369a99432ae833e40ea2d9ff44c7c6ab8d4cd5bf9c20c61c", func := "stet/stetlaw11.RunsTurned", spec := "runsTurned", apart := false, narrowed := true }
def RunsTurnedUptoSaid : Prop := runsTurnedUptoRow.holds Try.pinned (OpenSpec.upto runsTurnedSpec)

/-- 'stetlaw11.RunsWhole', WHERE WHAT IT READS IS OF BULK AT MOST 1048576: true; the input reads as it did. -/
def runsWholeUptoRow : OpenClaim := { program := "ythglejhhfnpdaaa", sum := "7912dd5871335559369a99432ae833e40ea2d9ff44c7c6ab8d4cd5bf9c20c61c", func := "stet/stetlaw11.RunsWhole", spec := "runsWhole", apart := false, narrowed := true }
def RunsWholeUptoSaid : Prop := runsWholeUptoRow.holds Try.pinned (OpenSpec.upto runsWholeSpec)

end Rows
end Go.Proofs.Ythglejhhfnpdaaa
