/-
  PROVED: contract of stetref00.SameLines where both slices hold the same lines: it answers true, and only reads. Conditions: the slices lie in memory that holds the lines.
-/
import Derived.Test.YtinbdangpehkaaaRefLines
namespace Go.Proofs.Ytinbdangpehkaaa
open Go.ChangeShapes Go.WideShapes Go.ChangeAt Go.RowKit
set_option linter.unusedVariables false

/-- Slice memory at A holds the lines L. -/
def Rd (w : World) (A : Option Addr) (L : List (Nat × Nat × Nat)) : Prop :=
  ∀ i l, L[i]? = some l → ∃ b o, A = some ⟨b, o, none⟩ ∧ w.cell? ⟨b, o + i * 3, none⟩ = some (.int .i64 l.1) ∧ w.cell? ⟨b, o + i * 3 + 1, none⟩ = some (.int .i64 l.2.1) ∧ w.cell? ⟨b, o + i * 3 + 2, none⟩ = some (.int .i64 l.2.2)

theorem drewN_drewN (w : World) (n m : Nat) : (w.drewN n).drewN m = w.drewN (n + m) := by
  simp [World.drewN, Nat.add_assoc]

theorem lcells_at : ∀ (L : List (Nat × Nat × Nat)) (i : Nat) (l : Nat × Nat × Nat), L[i]? = some l →
    (lcells L)[i * 3]? = some (.int .i64 l.1) ∧ (lcells L)[i * 3 + 1]? = some (.int .i64 l.2.1) ∧ (lcells L)[i * 3 + 2]? = some (.int .i64 l.2.2)
  | [], i, l, h => by simp at h
  | x :: L, 0, l, h => by
    simp at h
    subst h
    exact ⟨rfl, rfl, rfl⟩
  | x :: L, i + 1, l, h => by
    have h1 := lcells_at L i l (by simpa using h)
    have e : lcells (x :: L) = lcell x ++ lcells L := rfl
    have e3 : (lcell x).length = 3 := rfl
    refine ⟨?_, ?_, ?_⟩
    · rw [e, List.getElem?_append_right (by omega), e3, show (i + 1) * 3 - 3 = i * 3 from by omega]; exact h1.1
    · rw [e, List.getElem?_append_right (by omega), e3, show (i + 1) * 3 + 1 - 3 = i * 3 + 1 from by omega]; exact h1.2.1
    · rw [e, List.getElem?_append_right (by omega), e3, show (i + 1) * 3 + 2 - 3 = i * 3 + 2 from by omega]; exact h1.2.2
theorem lcells_len (L : List (Nat × Nat × Nat)) : (lcells L).length = L.length * 3 := by
  induction L with
  | nil => rfl
  | cons x L ih =>
    have e : lcells (x :: L) = lcell x ++ lcells L := rfl
    have e3 : (lcell x).length = 3 := rfl
    rw [e, List.length_append, ih, e3, List.length_cons]; omega

/-- What a slice that owns lines is: its form, its cells, its block. -/
theorem own_lines {w : World} {base : Nat} {v : Value} {L : List (Nat × Nat × Nat)} (h : w.ownsRow base 28 3 v L.length (lcells L)) :
    ∃ A c, v = .slice A L.length c ∧ L.length ≤ c ∧ Rd w A L ∧ (∀ b o k, A = some ⟨b, o, k⟩ → base ≤ b ∧ b < w.heap.size) := by
  rcases h.2 with ⟨rfl, h0⟩ | ⟨g, cap, cur, rfl, hb, hh, hc, hm, hz, ht⟩
  · have e : L = [] := List.eq_nil_of_length_eq_zero h0
    subst e
    exact ⟨none, 0, rfl, Nat.le_refl _, fun i l hi => by simp at hi, fun _ _ _ h => by cases h⟩
  · have hlt : g < w.heap.size := (Array.getElem?_eq_some_iff.1 hh).1
    refine ⟨some ⟨g, 0, none⟩, cap, rfl, hc, fun i l hi => ?_, fun b o k e => by cases e; exact ⟨hb, hlt⟩⟩
    have hil : i < L.length := (List.getElem?_eq_some_iff.1 hi).1
    have key : ∀ j, j < L.length * 3 → w.cell? ⟨g, 0 + j, none⟩ = (lcells L)[j]? := by
      intro j hj
      rw [← ht, List.getElem?_take_of_lt hj, Nat.zero_add, cell_of_row w g j cur 28 (0, 0) hh]
      simp
    have h3 := lcells_at L i l hi
    refine ⟨g, 0, rfl, ?_, ?_, ?_⟩
    · rw [key _ (by omega)]; exact h3.1
    · have := key (i * 3 + 1) (by omega)
      rw [← Nat.add_assoc] at this
      rw [this]; exact h3.2.1
    · have := key (i * 3 + 2) (by omega)
      rw [← Nat.add_assoc] at this
      rw [this]; exact h3.2.2
theorem Rd.below {w w' : World} {A : Option Addr} {L : List (Nat × Nat × Nat)} {B : Nat} (h : Rd w A L) (hb : Below B w w') (hA : ∀ b o k, A = some ⟨b, o, k⟩ → b < B) : Rd w' A L := by
  intro i l hi
  obtain ⟨b, o, e, h0, h1, h2⟩ := h i l hi
  have hlt := hA b o none e
  exact ⟨b, o, e, (hb.cell (p := ⟨b, o + i * 3, none⟩) hlt).trans h0, (hb.cell (p := ⟨b, o + i * 3 + 1, none⟩) hlt).trans h1, (hb.cell (p := ⟨b, o + i * 3 + 2, none⟩) hlt).trans h2⟩

set_option maxHeartbeats 1000000 in
theorem same_yes (A A' : Option Addr) (c c' : Nat) (L : List (Nat × Nat × Nat)) (hl : L.length ≤ 200000) (w : World) (h : Rd w A L) (h' : Rd w A' L) :
    Calls Try.prog 15 #[.slice A L.length c, .slice A' L.length c'] w fun e w' => e = .returned (.bool true) ∧ ∃ n, w' = w.drewN n := by
  go_enter Try.func15, Try.ntmps15
  go_wp2_with fail
  go_loopw [5] (fun v wr => ∃ i n : Nat, i ≤ L.length ∧ v = .int .i64 i ∧ wr = w.drewN n) (fun v _ => L.length - (intOf v).toNat)
  case atStart => exact ⟨0, 0, Nat.zero_le _, rfl, rfl⟩
  case round =>
    obtain ⟨i, n, hi, rfl, rfl⟩ := hrel
    by_cases hlt : i < L.length
    · obtain ⟨b, o, rfl, r0, r1, r2⟩ := h i L[i] (List.getElem?_eq_getElem hlt)
      obtain ⟨b', o', rfl, k0, k1, k2⟩ := h' i L[i] (List.getElem?_eq_getElem hlt)
      generalize L[i] = l at *
      obtain ⟨x, y, z⟩ := l
      simp only at r0 r1 r2 k0 k1 k2
      go_wp2_with fail
      go_quiet (fail)
      go_wp2_with fail
      go_roundw
      case rel => exact ⟨i + 1, n + nq, by omega, by go_num, rfl⟩
      case measure => simp [intOf]; omega
    · go_wp2_with fail
      go_ret
      exact ⟨rfl, n, rfl⟩
end Go.Proofs.Ytinbdangpehkaaa
