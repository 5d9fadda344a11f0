/-
  PROVED: contract of the law's own alive: it answers true. Conditions: none.
-/
import Derived.Test.YtldillhgpjmjpaaPairs
import Derived.Test.YtldillhgpjmjpaaLeft
namespace Go.Proofs.Ytldillhgpjmjpaa
open Go.ChangeShapes Go.WideShapes Go.ChangeAt Go.RowKit Go.Sort
set_option linter.unusedVariables false

/-- Cells in a new block. -/
theorem rdc_lit (w : World) (t : TypeId) (cs : Array Value) (xs : List Value) (h : cs.toList = xs) : Rdc (w.alloc (.cells cs t)) (w.heap.size + 1) (some ⟨w.heap.size, 0, none⟩) xs := by
  subst h
  intro j u hu
  refine ⟨w.heap.size, 0, rfl, by omega, ?_⟩
  rw [Nat.zero_add, (Holds.made w t cs).at j]
  simpa using hu
def al1 : List Rw := [⟨42, 2, true, false⟩, ⟨42, 1, false, true⟩]
theorem al1_pairs : pairsM al1 = [(0, 1, 1)] := by decide
theorem al1_left : leftM al1 = [1, 0] := by decide

set_option maxHeartbeats 2000000 in
theorem alive_any (w : World) : Calls Try.prog 8 #[] w fun e w' => e = .returned (.bool true) ∧ Below w.heap.size w w' := by
  obtain ⟨w1, hw1⟩ : ∃ w1, w1 = w.alloc (.cells #[.int .u8 42, .int .i64 2, .bool true, .bool false, .int .u8 42, .int .i64 1, .bool false, .bool true] 35) := ⟨_, rfl⟩
  have B1 : Hid (Below w.heap.size w w1) := by show Below _ _ _; rw [hw1]; exact (Below.refl _ w).alloc (Nat.le_refl _) _
  have HR1 : Hid (Rdc w1 w1.heap.size (some ⟨w.heap.size, 0, none⟩) (rcells al1)) := by
    show Rdc _ _ _ _
    rw [hw1]
    exact (rdc_lit w 35 _ _ rfl).here
  have hwf : ∀ r ∈ al1, (Lit.int .u8 r.m).wf = true := by intro r hr; simp [al1] at hr; rcases hr with rfl | rfl <;> rfl
  have HP := Lib.hid (pairs_any (some ⟨w.heap.size, 0, none⟩) 2 al1 (by decide) hwf w1 HR1.out)
  rw [al1_pairs] at HP
  have HP : Hid (Calls Try.prog 11 #[.slice (some ⟨w.heap.size, 0, none⟩) 2 2] w1 (OwnR w1 33 3 1 (bcells [(0, 1, 1)]))) := HP
  have HL : Hid (∀ W, Below w1.heap.size w1 W → Calls Try.prog 14 #[.slice (some ⟨w.heap.size, 0, none⟩) 2 2] W (OwnR W 3 1 2 (ints [1, 0]))) := fun W hb => by
    have := left_made (some ⟨w.heap.size, 0, none⟩) 2 al1 (by decide) hwf W (HR1.out.on hb)
    rw [al1_left] at this
    exact this
  clear hwf
  go_enter Try.func8, Try.ntmps8
  go_wp2_with fail
  rw [← hw1]
  clear hw1
  refine (HP.out).mono ?_
  rintro e w2 hO
  obtain ⟨A2, c2, rfl, hc2, _, hr2, hb2⟩ := hO.rd
  obtain ⟨b, o, rfl, hb, k0, k1, k2⟩ := hr2.pair (i := 0) rfl
  simp only [Nat.zero_mul, Nat.add_zero] at k0 k1 k2
  have HB2 := Lib.hid hb2
  have HL2 := HL.out w2 hb2
  have B2 := Lib.hid (chain (Nat.le_refl _) B1.out hb2)
  clear hO hr2 hb2 HP HL
  have HLh := Lib.hid HL2
  clear HL2
  go_wp2_with fail
  refine (HLh.out).mono ?_
  rintro e w3 hO
  obtain ⟨A3, c3, rfl, hc3, _, hr3, hb3⟩ := hO.rd
  have B3 := Lib.hid (chain (Nat.le_refl _) B2.out hb3)
  have HR3 := Lib.hid hr3
  clear hO hr3 hb3 HLh k0 k1 k2
  go_wp2_with fail
  obtain ⟨w4, hw4⟩ : ∃ w4, w4 = w3.alloc (.cells #[.int .i64 1, .int .i64 0] 3) := ⟨_, rfl⟩
  have hb4 : Below w3.heap.size w3 w4 := by rw [hw4]; exact (Below.refl _ _).alloc (Nat.le_refl _) _
  have HS := Lib.hid (ints_yes A3 (some ⟨w3.heap.size, 0, none⟩) c3 2 [1, 0] (by decide) w4.heap.size w4.heap.size w4 (HR3.out.on hb4) (by rw [hw4]; exact (rdc_lit w3 3 _ _ rfl).here))
  have HS : Hid (Calls Try.prog 13 #[.slice A3 2 c3, .slice (some ⟨w3.heap.size, 0, none⟩) 2 2] w4 fun e w' => e = .returned (.bool true) ∧ ∃ n, w' = w4.drewN n) := HS
  have B4 := Lib.hid (chain (Nat.le_refl _) B3.out hb4)
  rw [← hw4]
  clear hw4 hb4
  refine (HS.out).mono ?_
  rintro e w5 ⟨rfl, n, rfl⟩
  clear HS
  go_wp2_with fail
  go_ret
  exact ⟨rfl, below_drewN B4.out _⟩
end Go.Proofs.Ytldillhgpjmjpaa
