/-
  PROVED: contracts of class.within (does a number lie in one of the spans?). Conditions: the slice lies in one block of memory that holds the spans.
-/
import Derived.Test.YthglejhhfnpdaaaRows
import Derived.WalkKit
import Derived.IntWalk
import Derived.WalkSpells
import Derived.WalkLawsBesides
import Derived.Deep.QuietTactic
import Derived.BigQuiet
import Derived.WalkSmall
import Derived.Lib.Strings
import Derived.Lib.Hide
import Derived.Deep.RegionHeld3
import Derived.Lib.SmallJoins
import Derived.OwnWalk
import Derived.Shelf.SlSortCmp.QuietGrown
namespace Go.Proofs.Ythglejhhfnpdaaa
open Go.ChangeShapes Go.WideShapes Go.ChangeAt Go.RowKit Go.Sort
set_option linter.unusedVariables false

/-- A call that draws, and lays blocks of its own. -/
def Grows (v : Value) (w : World) (e : Ending) (w' : World) : Prop := e = .returned v ∧ ∃ q os, w' = grow (w.drewN q) os
theorem Grows.below {v : Value} {w w' : World} {e : Ending} (h : Grows v w e w') : e = .returned v ∧ Below w.heap.size w w' := by
  obtain ⟨he, q, os, rfl⟩ := h
  exact ⟨he, rfl, rfl, rfl, by rw [size_grow]; exact Nat.le_add_right _ _, fun i hi => heap_grow_old (w.drewN q) os hi⟩
theorem chain {B : Nat} {a b c : World} (hB : B ≤ a.heap.size) (h : Below B a b) (k : Below b.heap.size b c) : Below B a c := h.trans (k.mono (Nat.le_trans hB h.size))

abbrev Sp := Int × Int
/-- Does a number lie in a span? -/
def inSp (r : Int) (p : Sp) : Bool := decide (p.1 ≤ r) && decide (r ≤ p.2)
/-- Does a number lie in one of the spans? -/
def inSps (r : Int) (L : List Sp) : Bool := L.any (inSp r)

/-- What class.within's loop goes by. -/
def WRel (r : Int) (L : List Sp) (w : World) (i : Value) (wr : World) : Prop :=
  ∃ j : Nat, j ≤ L.length ∧ i = .int .i64 j ∧ inSps r (L.take j) = false ∧ ∃ os, wr = grow w os

theorem inSps_yes {r : Int} {L : List Sp} {j : Nat} (h : j < L.length) (hj : inSp r L[j] = true) : inSps r L = true := by
  unfold inSps; rw [List.any_eq_true]; exact ⟨_, List.getElem_mem h, hj⟩
theorem inSps_step {r : Int} {L : List Sp} {j : Nat} (h : j < L.length) (hn : inSps r (L.take j) = false) (hj : inSp r L[j] = false) : inSps r (L.take (j + 1)) = false := by
  unfold inSps at hn ⊢
  rw [List.take_succ_eq_append_getElem h, List.any_append, hn]
  simp [hj]

set_option maxHeartbeats 2000000 in
theorem within_any (r : Int) (L : List Sp) (hl : L.length ≤ 1000000) (b c : Nat) (w : World) (hc : ∀ j p, L[j]? = some p → w.cell? ⟨b, j * 2, none⟩ = some (.int .i64 p.1) ∧ w.cell? ⟨b, j * 2 + 1, none⟩ = some (.int .i64 p.2)) :
    Calls Try.prog 24 #[.int .i64 r, .slice (some ⟨b, 0, none⟩) L.length c] w (Grows (.bool (inSps r L)) w) := by
  have HC := Lib.hid hc
  clear hc
  go_enter Try.func24, Try.ntmps24
  go_wp2_with fail
  go_loopw [9] (fun i wr => WRel r L w i wr) (fun i _ => L.length - (intOf i).toNat)
  case atStart => exact ⟨0, Nat.zero_le _, rfl, by simp [inSps], #[], by simp⟩
  case round =>
    obtain ⟨j, hj, rfl, hn, os, rfl⟩ := hrel
    have HN := Lib.hid hn
    clear hn
    by_cases hlt : j < L.length
    · obtain ⟨c0, c1⟩ := HC.out j L[j] (List.getElem?_eq_getElem hlt)
      obtain ⟨y, hy⟩ : ∃ y, y = L[j] := ⟨_, rfl⟩
      rw [← hy] at c0 c1
      have HY := Lib.hid hy
      clear hy
      have d0 := cell_grown (World.block_lt_of_cell? _ _ c0) c0 0 os
      have d1 := cell_grown (World.block_lt_of_cell? _ _ c1) c1 0 os
      rw [World.drewN_zero] at d0 d1
      obtain ⟨y0, y1⟩ := y
      clear c0 c1
      have HG : Hid (∀ o, ∃ os', (grow w os).alloc o = grow w os') := fun o => ⟨_, by rw [alloc_eq_grow, grow_grow]⟩
      have HD : ∀ v, v = inSp r (y0, y1) → v = false → Hid (inSps r (L.take (j + 1)) = false) := fun v h1 h2 => inSps_step hlt HN.out (by rw [← HY.out, ← h1, h2])
      by_cases h1 : y0 ≤ r
      · by_cases h2 : r ≤ y1
        · have HV : Hid (inSps r L = true) := inSps_yes hlt (by rw [← HY.out]; simp [inSp, h1, h2])
          clear HD
          go_wp2_with fail
          go_ret
          obtain ⟨os', ho⟩ := HG.out _
          exact ⟨by rw [HV.out]; rfl, 0, os', by rw [World.drewN_zero]; exact ho⟩
        · have HV := HD false (by simp [inSp, h2]) rfl
          clear HD
          go_wp2_with fail
          go_roundw
          case rel =>
            obtain ⟨os', ho⟩ := HG.out _
            exact ⟨j + 1, by omega, by simp, HV.out, os', ho⟩
          case measure => simp [intOf]; omega
      · have HV := HD false (by simp [inSp, h1]) rfl
        clear HD
        go_wp2_with fail
        go_roundw
        case rel =>
          obtain ⟨os', ho⟩ := HG.out _
          exact ⟨j + 1, by omega, by simp, HV.out, os', ho⟩
        case measure => simp [intOf]; omega
    · have HV : Hid (inSps r L = false) := by
        have := HN.out
        rw [List.take_of_length_le (by omega)] at this
        exact this
      go_wp2_with fail
      go_ret
      exact ⟨by rw [HV.out]; rfl, 0, os, by rw [World.drewN_zero]⟩
end Go.Proofs.Ythglejhhfnpdaaa
