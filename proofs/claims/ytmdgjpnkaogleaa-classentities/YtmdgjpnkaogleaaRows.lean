/-
  No cell of these rows narrows 'for every input' (looked for: loops, veiled, ifaces, maps, wideKeys, modest, calm, conditions, laid).
  DERIVED. THE GIVEN ROWS OF THIS SEAT. 5 by the template 'for every input the law returns true; each argument reads behind the call as it read before'; 0 by the template 'total and deterministic' (their statements: YtmdgjpnkaogleaaTotals.lean).
  GIVEN WITH THE SEED: the statements are not yours to turn. If you find one false, say at which input.
  Laid BY PROGRAM, IN A SANDBOX (cutbox-rows.mjs): the forced cells as the released guide's own fill.sh prints them over the translation 6bef766f36759722… (all of the seat's roots in one cut). By AI agents, Wed Nov 11 2026. No macro, syntax, notation, axiom, sorry.
-/
import Derived.Test.YtmdgjpnkaogleaaChecked
import GoSem.Claim
import GoSem.ClaimJoined
import GoSem.ClaimMapViews
import Derived.JoinedTies
import Derived.KernelRfl
namespace Go.Proofs.Ytmdgjpnkaogleaa
/- THE CELL 'sum', in the pinned program and in every row, IS THE sha256 OF THE DUMP (.gsa) THAT YtmdgjpnkaogleaaProg.lean LOADS. Nothing in Lean hashes anything: it is a label: what it is worth is what the hold of that sum in a sandbox is worth. -/
noncomputable def Try.pinned : Pinned := { name := "ytmdgjpnkaogleaa", sum := "6bef766f3675972247be42b75952a5736dc8ba8ad50908a3586a64f8d7e209fc", checked := Try.checked }
namespace Rows
def none {H : Type} : Left H := { results := [], args := [] }

/-- 'stetlaw03.ClassAnswers': WHATEVER THE INPUT: true; the input reads as it did. -/
def classAnswersSpec : ChangeSpec := { name := "classAnswers", fn := fun _ => fun
  | [d1, d2] => { results := [.lit (.bool true)], args := [d1, d2] }
  | _ => none }
def classAnswersRow : OpenClaim := { program := "ytmdgjpnkaogleaa", sum := "6bef766f3675972247be42b75952a5736dc8ba8ad50908a3586a64f8d7e209fc", func := "stet/stetlaw03.ClassAnswers", spec := "classAnswers", apart := false }
def ClassAnswersSaid : Prop := classAnswersRow.holds Try.pinned (OpenSpec.ofChange classAnswersSpec)

/-- ITS FALSE NEIGHBOUR: 'it returns false'. Refute it at one input. -/
def classAnswersWrong : ChangeSpec := { name := "classAnswers", fn := fun _ => fun
  | [d1, d2] => { results := [.lit (.bool false)], args := [d1, d2] }
  | _ => none }
def ClassAnswersWrongFalsely : Prop := classAnswersRow.holds Try.pinned (OpenSpec.ofChange classAnswersWrong)

/-- 'stetlaw03.ClassFolds': WHATEVER THE INPUT: true; the input reads as it did. -/
def classFoldsSpec : ChangeSpec := { name := "classFolds", fn := fun _ => fun
  | [d] => { results := [.lit (.bool true)], args := [d] }
  | _ => none }
def classFoldsRow : OpenClaim := { program := "ytmdgjpnkaogleaa", sum := "6bef766f3675972247be42b75952a5736dc8ba8ad50908a3586a64f8d7e209fc", func := "stet/stetlaw03.ClassFolds", spec := "classFolds", inPlace := ["internal/abi.NoEscape", "internal/bytealg.MakeNoZero"], unfollowed := true, recurses := true, apart := false }
def ClassFoldsSaid : Prop := classFoldsRow.holds Try.pinned (OpenSpec.ofChange classFoldsSpec)

/-- ITS FALSE NEIGHBOUR: 'it returns false'. Refute it at one input. -/
def classFoldsWrong : ChangeSpec := { name := "classFolds", fn := fun _ => fun
  | [d] => { results := [.lit (.bool false)], args := [d] }
  | _ => none }
def ClassFoldsWrongFalsely : Prop := classFoldsRow.holds Try.pinned (OpenSpec.ofChange classFoldsWrong)

/-- 'stetlaw03.ClassAgain': WHATEVER THE INPUT: true; the input reads as it did. -/
def classAgainSpec : ChangeSpec := { name := "classAgain", fn := fun _ => fun
  | [d1, d2] => { results := [.lit (.bool true)], args := [d1, d2] }
  | _ => none }
def classAgainRow : OpenClaim := { program := "ytmdgjpnkaogleaa", sum := "6bef766f3675972247be42b75952a5736dc8ba8ad50908a3586a64f8d7e209fc", func := "stet/stetlaw03.ClassAgain", spec := "classAgain", inPlace := ["internal/abi.NoEscape", "internal/bytealg.MakeNoZero"], unfollowed := true, recurses := true, apart := false }
def ClassAgainSaid : Prop := classAgainRow.holds Try.pinned (OpenSpec.ofChange classAgainSpec)

/-- ITS FALSE NEIGHBOUR: 'it returns false'. Refute it at one input. -/
def classAgainWrong : ChangeSpec := { name := "classAgain", fn := fun _ => fun
  | [d1, d2] => { results := [.lit (.bool false)], args := [d1, d2] }
  | _ => none }
def ClassAgainWrongFalsely : Prop := classAgainRow.holds Try.pinned (OpenSpec.ofChange classAgainWrong)

/-- 'stetlaw03.ClassEntities': WHATEVER THE INPUT: true; the input reads as it did. -/
def classEntitiesSpec : ChangeSpec := { name := "classEntities", fn := fun _ => fun
  | [d] => { results := [.lit (.bool true)], args := [d] }
  | _ => none }
def classEntitiesRow : OpenClaim := { program := "ytmdgjpnkaogleaa", sum := "6bef766f3675972247be42b75952a5736dc8ba8ad50908a3586a64f8d7e209fc", func := "stet/stetlaw03.ClassEntities", spec := "classEntities", apart := false }
def ClassEntitiesSaid : Prop := classEntitiesRow.holds Try.pinned (OpenSpec.ofChange classEntitiesSpec)

/-- ITS FALSE NEIGHBOUR: 'it returns false'. Refute it at one input. -/
def classEntitiesWrong : ChangeSpec := { name := "classEntities", fn := fun _ => fun
  | [d] => { results := [.lit (.bool false)], args := [d] }
  | _ => none }
def ClassEntitiesWrongFalsely : Prop := classEntitiesRow.holds Try.pinned (OpenSpec.ofChange classEntitiesWrong)

/-- 'stetlaw03.ClassParts': WHATEVER THE INPUT: true; the input reads as it did. -/
def classPartsSpec : ChangeSpec := { name := "classParts", fn := fun _ => fun
  | [d1, d2] => { results := [.lit (.bool true)], args := [d1, d2] }
  | _ => none }
def classPartsRow : OpenClaim := { program := "ytmdgjpnkaogleaa", sum := "6bef766f3675972247be42b75952a5736dc8ba8ad50908a3586a64f8d7e209fc", func := "stet/stetlaw03.ClassParts", spec := "classParts", inPlace := ["internal/abi.NoEscape", "internal/bytealg.MakeNoZero"], unfollowed := true, recurses := true, apart := false }
def ClassPartsSaid : Prop := classPartsRow.holds Try.pinned (OpenSpec.ofChange classPartsSpec)

/-- ITS FALSE NEIGHBOUR: 'it returns false'. Refute it at one input. -/
def classPartsWrong : ChangeSpec := { name := "classParts", fn := fun _ => fun
  | [d1, d2] => { results := [.lit (.bool false)], args := [d1, d2] }
  | _ => none }
def ClassPartsWrongFalsely : Prop := classPartsRow.holds Try.pinned (OpenSpec.ofChange classPartsWrong)

/- THE SECOND FORM. 'bulk': how many values and letters a reading holds, each counted each time it is reached (what is shared counts as often as it is met; a slice's spare places count too). A statement '..UptoSaid' is the law's where the arguments, and the package variables that the reading takes, are together of bulk at most 1048576: NARROWER than '..Said'. Prove '..Said' where nothing that the law and all that it calls make is longer than what came in: it says more and counts as full. Else prove '..UptoSaid'. A law counts once. -/
mutual
def uptoBulk {H : Type} : DataW H → Nat
  | .lit (.string bytes) => bytes.length + 1
  | .lit _ => 1
  | .nil => 1
  | .ptr d => uptoBulk d + 1
  | .slice elems spare => uptoBulkAll elems + uptoBulkAll spare + 1
  | .agg parts => uptoBulkAll parts + 1
  | .iface _ d => uptoBulk d + 1
  | .map entries => uptoBulkEntries entries + 1
  | .held _ => 1
def uptoBulkAll {H : Type} : List (DataW H) → Nat
  | [] => 0
  | d :: r => uptoBulk d + uptoBulkAll r
def uptoBulkEntries {H : Type} : List (Lit × DataW H) → Nat
  | [] => 0
  | x :: r => uptoBulkEntry x + uptoBulkEntries r
def uptoBulkEntry {H : Type} : Lit × DataW H → Nat
  | (.string bytes, d) => bytes.length + uptoBulk d + 1
  | (_, d) => uptoBulk d + 1
 end
def uptoSmall : (H : Type) → List (DataW H) → Bool := fun _ ds => decide (uptoBulkAll ds ≤ 1048576)
def OpenSpec.upto (s : _root_.Go.ChangeSpec) : _root_.Go.OpenSpec := { _root_.Go.OpenSpec.ofChange s with cond := some uptoSmall }

/-- 'stetlaw03.ClassAnswers', WHERE WHAT IT READS IS OF BULK AT MOST 1048576: true; the input reads as it did. -/
def classAnswersUptoRow : OpenClaim := { program := "ytmdgjpnkaogleaa", sum := "6bef766f3675972247be42b75952a5736dc8ba8ad50908a3586a64f8d7e209fc", func := "stet/stetlaw03.ClassAnswers", spec := "classAnswers", apart := false, narrowed := true }
def ClassAnswersUptoSaid : Prop := classAnswersUptoRow.holds Try.pinned (OpenSpec.upto classAnswersSpec)

/-- 'stetlaw03.ClassFolds', WHERE WHAT IT READS IS OF BULK AT MOST 1048576: true; the input reads as it did. -/
def classFoldsUptoRow : OpenClaim := { program := "ytmdgjpnkaogleaa", sum := "6bef766f3675972247be42b75952a5736dc8ba8ad50908a3586a64f8d7e209fc", func := "stet/stetlaw03.ClassFolds", spec := "classFolds", inPlace := ["internal/abi.NoEscape", "internal/bytealg.MakeNoZero"], unfollowed := true, recurses := true, apart := false, narrowed := true }
def ClassFoldsUptoSaid : Prop := classFoldsUptoRow.holds Try.pinned (OpenSpec.upto classFoldsSpec)

/-- 'stetlaw03.ClassAgain', WHERE WHAT IT READS IS OF BULK AT MOST 1048576: true; the input reads as it did. -/
def classAgainUptoRow : OpenClaim := { program := "ytmdgjpnkaogleaa", sum := "6bef766f3675972247be42b75952a5736dc8ba8ad50908a3586a64f8d7e209fc", func := "stet/stetlaw03.ClassAgain", spec := "classAgain", inPlace := ["internal/abi.NoEscape", "internal/bytealg.MakeNoZero"], unfollowed := true, recurses := true, apart := false, narrowed := true }
def ClassAgainUptoSaid : Prop := classAgainUptoRow.holds Try.pinned (OpenSpec.upto classAgainSpec)

/-- 'stetlaw03.ClassEntities', WHERE WHAT IT READS IS OF BULK AT MOST 1048576: true; the input reads as it did. -/
def classEntitiesUptoRow : OpenClaim := { program := "ytmdgjpnkaogleaa", sum := "6bef766f3675972247be42b75952a5736dc8ba8ad50908a3586a64f8d7e209fc", func := "stet/stetlaw03.ClassEntities", spec := "classEntities", apart := false, narrowed := true }
def ClassEntitiesUptoSaid : Prop := classEntitiesUptoRow.holds Try.pinned (OpenSpec.upto classEntitiesSpec)

/-- 'stetlaw03.ClassParts', WHERE WHAT IT READS IS OF BULK AT MOST 1048576: true; the input reads as it did. -/
def classPartsUptoRow : OpenClaim := { program := "ytmdgjpnkaogleaa", sum := "6bef766f3675972247be42b75952a5736dc8ba8ad50908a3586a64f8d7e209fc", func := "stet/stetlaw03.ClassParts", spec := "classParts", inPlace := ["internal/abi.NoEscape", "internal/bytealg.MakeNoZero"], unfollowed := true, recurses := true, apart := false, narrowed := true }
def ClassPartsUptoSaid : Prop := classPartsUptoRow.holds Try.pinned (OpenSpec.upto classPartsSpec)

end Rows
end Go.Proofs.Ytmdgjpnkaogleaa
