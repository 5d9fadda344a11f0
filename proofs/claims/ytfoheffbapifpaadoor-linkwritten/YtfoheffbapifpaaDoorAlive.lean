/-
  PROVED: stetlaw08.alive returns true; and a world in which the two tables of unicode/utf8 hold what the rows list. Conditions: none.
-/
import Derived.Test.YtfoheffbapifpaaDoorDefAny
import Derived.LaidMore
import Derived.Stop.Joined
import Derived.MakeChecks
import Derived.PinnedBridge
import Derived.Lib.LaidIn
import Derived.Lib.LaidU8
namespace Go.Proofs.YtfoheffbapifpaaDoor
open Go.ChangeShapes Go.WideShapes Go.ChangeAt Go.RowKit
set_option linter.unusedVariables false

theorem own : ownKnob Tryd.prog.godebug = none := by kernel_rfl
/-- What the rows list. -/
def laid2 : List (String × DataW Unit) := [("unicode/utf8.acceptRanges", Rows.laid_unicode_utf8_acceptRanges), ("unicode/utf8.first", Rows.laid_unicode_utf8_first)]
/-- A world that meets the condition: the settled one, the two variables' cells laid. -/
noncomputable def laidWorld (os : Os) : World :=
  let w0 := World.holding Tryd.prog os ⟨#[], #[], []⟩
  let put (h : Array Obj) (g : Nat) (cs : Array Value) : Array Obj := h.modify g fun
    | .cells _ t frozen => .cells cs t frozen
    | o => o
  let h1 := put w0.heap 1 (Lib.firstTab.map fun z => Value.int .u8 z).toArray
  let h2 := put h1 2 ((List.range 16).flatMap fun i => [Value.int .u8 (Lib.accLo i), Value.int .u8 (Lib.accHi i)]).toArray
  { w0 with heap := h2 }
theorem laid_in (os : Os) (args : Array Value) : LaidIn Tryd.prog ((laidWorld os).forCall (fun _ _ => 0) ⟨#[], args, []⟩).memory laid2 [1, 2] :=
  LaidIn.of_run [1, 2] 8 (by kernel_rfl) (by kernel_rfl) (by kernel_rfl) (by kernel_rfl)
theorem laid_met (os : Os) (args : Array Value) : laidMetH Tryd.prog laid2 ((laidWorld os).forCall (fun _ _ => 0) ⟨#[], args, []⟩).memory := by
  rw [MakeChecks.laidMetH_plain _ _ _ (by kernel_rfl)]
  exact (laid_in os args).met

theorem i64_bd {a : Int} (h : (Lit.int .i64 a).wf = true) : -9223372036854775808 ≤ a ∧ a ≤ 9223372036854775807 := by
  unfold Lit.wf at h
  rw [Bool.and_eq_true, decide_eq_true_iff, decide_eq_true_iff] at h
  exact h

theorem runes_all : ∀ (l : List UInt8), (∀ x ∈ l, x.toNat < 128) → runesL l = l.map fun x => (x.toNat : Int)
  | [], _ => runesL_nil
  | x :: l, h => by rw [runes_ascii x l (h x (List.mem_cons_self ..)), runes_all l (fun y hy => h y (List.mem_cons_of_mem _ hy))]; rfl
theorem foldB_foo : foldB [70, 111, 111] = [102, 111, 111] := by
  unfold foldB
  rw [runes_all _ (by decide)]
  decide +kernel
theorem al_def : defL [91, 70, 111, 111, 93, 58, 32, 60, 97, 32, 98, 62, 32, 39, 99, 39, 10, 120] = some ([102, 111, 111], [97, 32, 98], [99], 16, 17) := by
  have e : labP [91, 70, 111, 111, 93, 58, 32, 60, 97, 32, 98, 62, 32, 39, 99, 39, 10, 120] = ([70, 111, 111], 5) := by decide +kernel
  unfold defL
  rw [e]
  simp only []
  rw [foldB_foo]
  decide +kernel
theorem define_lit (w : World) : Calls Tryd.prog 14 #[.string { data := #[91, 70, 111, 111, 93, 58, 32, 60, 97, 32, 98, 62, 32, 39, 99, 39, 10, 120] }, .int .i64 0] w fun e w' => e = .returned (.tuple #[.agg #[.string { data := #[102, 111, 111] }, .string { data := #[97, 32, 98] }, .string { data := #[99] }, .int .i64 0, .int .i64 16], .int .i64 17]) ∧ Below w.heap.size w w' := by
  have h := define_any { data := #[91, 70, 111, 111, 93, 58, 32, 60, 97, 32, 98, 62, 32, 39, 99, 39, 10, 120] } 0 (by decide) w
  rw [show frm { data := #[91, 70, 111, 111, 93, 58, 32, 60, 97, 32, 98, 62, 32, 39, 99, 39, 10, 120] } 0 = [91, 70, 111, 111, 93, 58, 32, 60, 97, 32, 98, 62, 32, 39, 99, 39, 10, 120] from rfl, al_def] at h
  exact h
theorem label_lit (w : World) : Calls Tryd.prog 8 #[.string { data := #[91, 97, 93] }, .int .i64 0] w fun e w' => e = .returned (.tuple #[.string { data := #[97] }, .int .i64 3]) ∧ Below w.heap.size w w' := by
  have h := label_any { data := #[91, 97, 93] } 0 (by decide) w
  rw [show frm { data := #[91, 97, 93] } 0 = [91, 97, 93] from rfl, show labP [91, 97, 93] = ([97], 3) from by decide +kernel] at h
  exact h
set_option maxHeartbeats 4000000 in
theorem alive_any (w : World) : Calls Tryd.prog 7 #[] w fun e w' => e = .returned (.bool true) ∧ Below w.heap.size w w' := by
  go_enter Tryd.func7, Tryd.ntmps7
  go_wp2_with fail
  refine (define_lit _).mono ?_
  rintro e w1 ⟨rfl, hb1⟩
  have B1 := Lib.hid hb1
  have hz1 := hb1.size
  clear hb1
  go_wp2_with fail
  refine (label_lit _).mono ?_
  rintro e w2 ⟨rfl, hb2⟩
  have HG : Hid (Holds w2 w1.heap.size 27 #[.string { data := #[102, 111, 111] }, .string { data := #[97, 32, 98] }, .string { data := #[99] }, .int .i64 0, .int .i64 16]) := Holds.under (Holds.made w1 27 _) hb2 (by simp)
  have B2 : Hid (Below w.heap.size w w2) := chain (Nat.le_refl _) (B1.out.alloc hz1 _) hb2
  clear hb2
  have g0 : w2.cell? ⟨w1.heap.size, 0, none⟩ = _ := HG.out.at 0
  have g1 : w2.cell? ⟨w1.heap.size, 1, none⟩ = _ := HG.out.at 1
  have g2 : w2.cell? ⟨w1.heap.size, 2, none⟩ = _ := HG.out.at 2
  have g4 : w2.cell? ⟨w1.heap.size, 4, none⟩ = _ := HG.out.at 4
  go_wp2_with fail
  go_ret
  exact ⟨rfl, B2.out⟩
end Go.Proofs.YtfoheffbapifpaaDoor
