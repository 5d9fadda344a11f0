/-
  PROVED: contract of Small (the tree of "a"), and what is plain of that tree. Conditions: none.
-/
import Derived.Test.YtdfhgcknelgdmaaDoorShow
namespace Go.Proofs.YtdfhgcknelgdmaaDoor
open Go.ChangeShapes Go.WideShapes Go.ChangeAt Go.RowKit Go.Sort
set_option linter.unusedVariables false

/-- The tree of "a", with the paragraph's kid c. -/
def smallT (c : Int) : List Nd := [⟨1, 0, 1, 0, ⟨#[]⟩, ⟨#[]⟩, ⟨#[]⟩, false, [1], []⟩, ⟨5, 0, 1, 0, ⟨#[]⟩, ⟨#[]⟩, ⟨#[]⟩, false, [c], []⟩, ⟨10, 0, 1, 0, ⟨#[97]⟩, ⟨#[]⟩, ⟨#[]⟩, false, [], []⟩]
theorem small_par : parP (smallT 2) = [-1, 0, 1] := by decide +kernel
theorem small_bad : parP (smallT 1) = [] := by decide +kernel
theorem small_show : showL (smallT 2) false = [100, 111, 99, 10, 32, 112, 97, 114, 97, 10, 32, 32, 116, 101, 120, 116, 32, 116, 34, 97, 34, 10] := by decide +kernel
theorem small_bd (c : Int) : Bd (smallT c) := by
  refine ⟨by show 3 ≤ 10000; omega, fun n hn => ?_⟩
  simp [smallT] at hn
  rcases hn with rfl | rfl | rfl <;> exact ⟨Nat.le_of_ble_eq_true rfl, Nat.le_of_ble_eq_true rfl, Nat.le_of_ble_eq_true rfl, Nat.le_of_ble_eq_true rfl, Nat.le_of_ble_eq_true rfl⟩
theorem small_num (c : Int) : ∀ n ∈ smallT c, NumN n := by
  intro n hn
  simp [smallT] at hn
  have a0 : I64 0 := ⟨by decide, by decide⟩
  have a1 : I64 1 := ⟨by decide, by decide⟩
  rcases hn with rfl | rfl | rfl <;> exact ⟨a0, a1, a0⟩

def smallC (g : Nat) : Array Value := #[.int .i64 1, .int .i64 0, .int .i64 1, .int .i64 0, .string ⟨#[]⟩, .string ⟨#[]⟩, .string ⟨#[]⟩, .bool false, .slice (some ⟨g, 0, none⟩) 1 1, .slice none 0 0,
  .int .i64 5, .int .i64 0, .int .i64 1, .int .i64 0, .string ⟨#[]⟩, .string ⟨#[]⟩, .string ⟨#[]⟩, .bool false, .slice (some ⟨g + 1, 0, none⟩) 1 1, .slice none 0 0,
  .int .i64 10, .int .i64 0, .int .i64 1, .int .i64 0, .string ⟨#[97]⟩, .string ⟨#[]⟩, .string ⟨#[]⟩, .bool false, .slice none 0 0, .slice none 0 0]

/-- How that tree lies. -/
structure SmallM (w : World) (g : Nat) (c : Int) : Prop where
  k0 : Holds w g 3 #[.int .i64 1]
  k1 : Holds w (g + 1) 3 #[.int .i64 c]
  nd : Holds w (g + 1 + 1) 39 (smallC g)

theorem ints_one {w : World} {g : Nat} {c : Int} (h : Holds w g 3 #[.int .i64 c]) : Is w w.heap.size (some ⟨g, 0, none⟩) [c] := by
  intro i l hi
  cases i with
  | zero =>
    simp at hi
    subst hi
    exact ⟨g, 0, rfl, h.lt, h.at 0⟩
  | succ i => simp at hi
theorem ints_nil (w : World) (B : Nat) (A : Option Addr) : Is w B A [] := fun i l hi => by simp at hi
theorem pieces_nil (w : World) (B : Nat) (A : Option Addr) : Qs w B A [] := fun i l hi => by simp at hi

theorem SmallM.tr {w : World} {g : Nat} {c : Int} (h : SmallM w g c) : Tr w w.heap.size (some ⟨g + 1 + 1, 0, none⟩) (smallT c) := by
  intro i n hi
  have hl := h.nd.lt
  match i with
  | 0 =>
    simp [smallT] at hi
    subst hi
    exact ⟨g + 1 + 1, 0, _, _, rfl, hl, ⟨h.nd.at 0, h.nd.at 1, h.nd.at 2, h.nd.at 3, h.nd.at 4, h.nd.at 5, h.nd.at 6, h.nd.at 7, h.nd.at 8, h.nd.at 9⟩, some ⟨g, 0, none⟩, 1, none, 0, rfl, (fun h => by cases h), ints_one h.k0, rfl, fun _ => rfl, pieces_nil _ _ _⟩
  | 1 =>
    simp [smallT] at hi
    subst hi
    exact ⟨g + 1 + 1, 0, _, _, rfl, hl, ⟨h.nd.at 10, h.nd.at 11, h.nd.at 12, h.nd.at 13, h.nd.at 14, h.nd.at 15, h.nd.at 16, h.nd.at 17, h.nd.at 18, h.nd.at 19⟩, some ⟨g + 1, 0, none⟩, 1, none, 0, rfl, (fun h => by cases h), ints_one h.k1, rfl, fun _ => rfl, pieces_nil _ _ _⟩
  | 2 =>
    simp [smallT] at hi
    subst hi
    exact ⟨g + 1 + 1, 0, _, _, rfl, hl, ⟨h.nd.at 20, h.nd.at 21, h.nd.at 22, h.nd.at 23, h.nd.at 24, h.nd.at 25, h.nd.at 26, h.nd.at 27, h.nd.at 28, h.nd.at 29⟩, none, 0, none, 0, rfl, fun _ => rfl, ints_nil _ _ _, rfl, fun _ => rfl, pieces_nil _ _ _⟩
  | i + 3 => simp [smallT] at hi
theorem SmallM.under {w w' : World} {g B : Nat} {c : Int} (h : SmallM w g c) (hb : Below B w w') (hB : g + 1 + 1 < B) : SmallM w' g c := ⟨h.k0.under hb (by omega), h.k1.under hb (by omega), h.nd.under hb hB⟩

set_option maxRecDepth 100000 in
set_option maxHeartbeats 2000000 in
theorem small_any (w : World) : Calls Tryd.prog 21 #[] w fun e w' => e = .returned (.agg #[.slice (some ⟨w.heap.size + 1 + 1 + 1, 0, none⟩) 3 3]) ∧ SmallM w' (w.heap.size + 1) 2 ∧ Below w.heap.size w w' := by
  go_enter Tryd.func21, Tryd.ntmps21
  go_wp2_with fail
  have hA : Below w.heap.size w (w.alloc (.cells #[.slice (some ⟨w.heap.size + 1 + 1 + 1, 0, none⟩) 3 3] 24)) := (Below.refl _ _).alloc (Nat.le_refl _) _
  refine bodyPost_ret (v := .agg #[.slice (some ⟨w.heap.size + 1 + 1 + 1, 0, none⟩) 3 3]) (by simp [results, Tryd.results21, go_sem]) rfl ⟨rfl, ⟨?_, ?_, ?_⟩, ?_⟩
  · have h1 := ((Holds.made (w.alloc (.cells #[.slice (some ⟨w.heap.size + 1 + 1 + 1, 0, none⟩) 3 3] 24)) 3 #[.int .i64 1]).under ((Below.refl _ _).alloc (Nat.le_refl _) (.cells #[.int .i64 2] 3)) (by simp)).under ((Below.refl _ _).alloc (Nat.le_refl _) (.cells (smallC (w.heap.size + 1)) 39)) (by simp <;> omega)
    simp only [World.size_alloc] at h1
    exact h1
  · have h1 := (Holds.made ((w.alloc (.cells #[.slice (some ⟨w.heap.size + 1 + 1 + 1, 0, none⟩) 3 3] 24)).alloc (.cells #[.int .i64 1] 3)) 3 #[.int .i64 2]).under ((Below.refl _ _).alloc (Nat.le_refl _) (.cells (smallC (w.heap.size + 1)) 39)) (by simp)
    simp only [World.size_alloc] at h1
    exact h1
  · have h1 := Holds.made (((w.alloc (.cells #[.slice (some ⟨w.heap.size + 1 + 1 + 1, 0, none⟩) 3 3] 24)).alloc (.cells #[.int .i64 1] 3)).alloc (.cells #[.int .i64 2] 3)) 39 (smallC (w.heap.size + 1))
    simp only [World.size_alloc] at h1
    exact h1
  · exact (((hA.alloc (by simp) _).alloc (by simp <;> omega) _).alloc (by simp <;> omega) _)
end Go.Proofs.YtdfhgcknelgdmaaDoor
