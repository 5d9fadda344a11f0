/-
  PROVED: contract of the document's own Offset: it answers the same as text.Offset ('offV'). Conditions: the text has at most 200000 bytes.
-/
import Derived.Test.YtinbdangpehkaaaOffset
import Derived.Test.YtinbdangpehkaaaRefAt
namespace Go.Proofs.Ytinbdangpehkaaa
open Go.ChangeShapes Go.WideShapes Go.ChangeAt Go.RowKit
set_option linter.unusedVariables false

/-- The offset has the place. -/
def IsAt (s : ByteArray) (ln col : Int) (i : Nat) : Prop := (placeL s i : Int) = ln ∧ (placeC s i : Int) = col
theorem placeL_pos (s : ByteArray) (i : Nat) : 1 ≤ placeL s i := by obtain ⟨k, g, _, _, _, h, _⟩ := place_is s i; omega
theorem placeC_pos (s : ByteArray) (i : Nat) : 1 ≤ placeC s i := by unfold placeC; omega
theorem off_first (s : ByteArray) (ln col : Int) (i : Nat) (hi : i ≤ s.size) (h : IsAt s ln col i) (hn : ∀ j, j < i → ¬ IsAt s ln col j) : offV s ln col = ((i : Int), 0) := by
  obtain ⟨e1, e2⟩ := h
  have p1 := placeL_pos s i
  have p2 := placeC_pos s i
  refine offV_some s ln col (by omega) (by omega) ?_
  obtain ⟨j, hj⟩ := back_there s i (ln.toNat - 1) (col.toNat - 1) hi (by omega) (by omega)
  obtain ⟨a1, a2, a3, a4⟩ := offOf_some s _ _ j hj
  have hij : j = i := by
    rcases Nat.lt_trichotomy j i with hlt | heq | hgt
    · exact absurd ⟨by omega, by omega⟩ (hn j hlt)
    · exact heq
    · exact absurd ⟨by omega, by omega⟩ (a4 i hgt)
  rw [hj, hij]
theorem off_never (s : ByteArray) (ln col : Int) (hn : ∀ j, j ≤ s.size → ¬ IsAt s ln col j) : offV s ln col = (0, 11) := by
  by_cases h : ln < 1 ∨ col < 1
  · exact offV_out s ln col h
  · refine offV_none s ln col (by omega) (by omega) ?_
    cases ho : offOf s (ln.toNat - 1) (col.toNat - 1) with
    | none => rfl
    | some j =>
      obtain ⟨a1, a2, a3, a4⟩ := offOf_some s _ _ j ho
      exact absurd ⟨by omega, by omega⟩ (hn j a1)

/-- What the loop of the document's Offset goes by. -/
def PRel (s : ByteArray) (ln col : Int) (w : World) (v : Value) (wr : World) : Prop :=
  ∃ i : Nat, i ≤ s.size + 1 ∧ v = .int .i64 i ∧ (∀ j, j < i → ¬ IsAt s ln col j) ∧ Holds wr w.heap.size 30 #[.int .i64 ln, .int .i64 col] ∧ Below w.heap.size w wr

set_option maxHeartbeats 1000000 in
theorem refOffset_any (s : ByteArray) (ln col : Int) (hs : s.size ≤ 200000) (w : World) :
    Calls Try.prog 20 #[.string s, .agg #[.int .i64 ln, .int .i64 col]] w fun e w' => e = .returned (.tuple #[.int .i64 (offV s ln col).1, .int .i64 (offV s ln col).2]) ∧ Below w.heap.size w w' := by
  go_enter Try.func20, Try.ntmps20
  go_wp2_with fail
  go_loopw [6] (fun v wr => PRel s ln col w v wr) (fun v _ => s.size + 1 - (intOf v).toNat)
  case atStart => exact ⟨0, Nat.zero_le _, rfl, fun j hj => absurd hj (Nat.not_lt_zero _), Holds.made w 30 _, (Below.refl _ _).alloc (Nat.le_refl _) _⟩
  case round =>
    obtain ⟨i, hi, rfl, hn, hR, hB⟩ := hrel
    have HN := Lib.hid hn
    have HR := Lib.hid hR
    have hrl := hR.lt
    have hz := hB.size
    clear hn hR
    by_cases hlt : i ≤ s.size
    · by_cases hat : IsAt s ln col i
      · have HV := Lib.hid (off_first s ln col i hlt hat HN.out)
        obtain ⟨rfl, rfl⟩ := hat
        go_wp2_with fail
        refine (refAt_in s i hlt hs _).mono ?_
        rintro e w1 ⟨rfl, hb1⟩
        have hR1 := HR.out.under hb1 hrl
        have m0 : w1.cell? ⟨w.heap.size, 0, none⟩ = some (.int .i64 (placeL s i)) := hR1.at 0
        have m1 : w1.cell? ⟨w.heap.size, 1, none⟩ = some (.int .i64 (placeC s i)) := hR1.at 1
        have hrl1 := hR1.lt
        clear hR1
        go_wp2_with fail
        go_ret2
        exact ⟨by rw [HV.out]; rfl, (hB.trans (hb1.mono hB.size)).alloc (Nat.le_trans hB.size hb1.size) _⟩
      · have HX : Hid (∀ j, j < i + 1 → ¬ IsAt s ln col j) := fun j hj => by
          by_cases hji : j = i
          · subst hji; exact hat
          · exact HN.out j (by omega)
        have HAT := Lib.hid hat
        clear hat
        go_wp2_with fail
        refine (refAt_in s i hlt hs _).mono ?_
        rintro e w1 ⟨rfl, hb1⟩
        have hR1 := HR.out.under hb1 hrl
        have m0 : w1.cell? ⟨w.heap.size, 0, none⟩ = some (.int .i64 ln) := hR1.at 0
        have m1 : w1.cell? ⟨w.heap.size, 1, none⟩ = some (.int .i64 col) := hR1.at 1
        have hrl1 := hR1.lt
        have HR1 := Lib.hid hR1
        clear hR1
        go_wp2_with fail
        · exact absurd ⟨by assumption, by assumption⟩ HAT.out
        all_goals
          go_roundw
          case rel => exact ⟨i + 1, by omega, by go_num, HX.out, HR1.out.under ((Below.refl w1.heap.size w1).alloc (Nat.le_refl _) _) hrl1, (hB.trans (hb1.mono hB.size)).alloc (Nat.le_trans hB.size hb1.size) _⟩
          case measure => simp [intOf]; omega
    · have HV := Lib.hid (off_never s ln col fun j hj => HN.out j (by omega))
      go_wp2_with fail
      go_ret2
      exact ⟨by rw [HV.out]; rfl, hB⟩
end Go.Proofs.Ytinbdangpehkaaa
