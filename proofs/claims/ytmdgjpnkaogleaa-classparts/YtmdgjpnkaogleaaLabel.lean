/-
  PROVED: contracts of class.Fold at the labels that the laws name, and bounds on folded labels. Conditions: the text has at most 2000000 bytes.
-/
import Derived.Test.YtmdgjpnkaogleaaFold
namespace Go.Proofs.Ytmdgjpnkaogleaa
open Go.ChangeShapes Go.WideShapes Go.ChangeAt Go.RowKit Go.Sort
set_option linter.unusedVariables false

theorem runes_all : ∀ (l : List UInt8), (∀ x ∈ l, x.toNat < 128) → runesL l = l.map fun x => (x.toNat : Int)
  | [], _ => runesL_nil
  | x :: l, h => by rw [runes_ascii x l (h x (List.mem_cons_self ..)), runes_all l (fun y hy => h y (List.mem_cons_of_mem _ hy))]; rfl
theorem foldB_ascii (l : List UInt8) (h : ∀ x ∈ l, x.toNat < 128) : foldB l = encL (foldG false false (l.map fun x => (x.toNat : Int))) := by unfold foldB; rw [runes_all l h]
theorem foldB_foo : foldB [32, 70, 111, 111, 9, 10, 66, 65, 82, 32] = [102, 111, 111, 32, 98, 97, 114] := by
  rw [foldB_ascii _ (by decide)]
  decide +kernel
theorem foldB_a : foldB [65] = [97] := by
  rw [foldB_ascii _ (by decide)]
  decide +kernel
theorem foldB_ab : foldB [65, 32, 66] = [97, 32, 98] := by
  rw [foldB_ascii _ (by decide)]
  decide +kernel
theorem runes_len : ∀ (n : Nat) (l : List UInt8), l.length ≤ n → (runesL l).length ≤ l.length
  | n, [], _ => by rw [runesL_nil]; exact Nat.le_refl _
  | 0, x :: l, h => by simp at h
  | n + 1, x :: l, h => by
    have h1 := decL_bd (x :: l)
    have h2 := runes_len n ((x :: l).drop (Lib.decodeL (x :: l)).2) (by rw [List.length_drop]; omega)
    have h3 := h1.2.1 (by simp)
    rw [runesL_go _ (by simp), List.length_cons]
    rw [List.length_drop] at h2
    omega
theorem foldG_len : ∀ (rs : List Int) (g ne : Bool), (encL (foldG g ne rs)).length ≤ 5 * rs.length
  | [], g, ne => by rw [foldG]; simp [encL]
  | r :: rs, g, ne => by
    cases h : isBlank r with
    | true => rw [foldG_blank _ _ _ _ h, List.length_cons]; have := foldG_len rs true ne; omega
    | false =>
      rw [foldG_no _ _ _ _ h, encL_append, encL_append, List.length_append, List.length_append, List.length_cons]
      have h1 := foldG_len rs false true
      have h2 := encL_fold_len r
      have h3 : (encL (if g = true ∧ ne = true then [32] else [])).length ≤ 1 := by split <;> decide
      omega
theorem foldB_len (l : List UInt8) : (foldB l).length ≤ 5 * l.length := by
  have h1 := foldG_len (runesL l) false false
  have h2 := runes_len _ l (Nat.le_refl _)
  unfold foldB
  omega
theorem encL_len : ∀ (l : List Int), (encL l).length ≤ 4 * l.length
  | [] => by simp [encL]
  | r :: l => by
    have h1 := encL_len l
    have h2 := enc_len r
    rw [encL_cons, List.length_append, List.length_cons]
    omega
theorem cleanB_len (l : List UInt8) : (cleanB l).length ≤ 4 * l.length := by
  have h1 := encL_len ((runesL l).map c0)
  have h2 := runes_len _ l (Nat.le_refl _)
  rw [List.length_map] at h1
  unfold cleanB
  omega
/-- class.Fold of the bytes l. -/
theorem fold_list (l : List UInt8) (hs : l.length ≤ 2000000) (r : List UInt8) (hr : foldB l = r) (w : World) : Calls Try.prog 14 #[.string ⟨l.toArray⟩] w fun e w' => e = .returned (.string ⟨r.toArray⟩) ∧ Below w.heap.size w w' := by
  subst hr
  have h := fold_any ⟨l.toArray⟩ (by show l.toArray.size ≤ 2000000; simpa using hs) w
  simpa using h
theorem fold_text (s : ByteArray) (hs : s.size ≤ 2000000) (r : List UInt8) (hr : foldB s.data.toList = r) (w : World) : Calls Try.prog 14 #[.string s] w fun e w' => e = .returned (.string ⟨r.toArray⟩) ∧ Below w.heap.size w w' := by
  subst hr
  exact fold_any s hs w
theorem app_list (a b : ByteArray) : (a ++ b).data.toList = a.data.toList ++ b.data.toList := by simp
theorem app_size (a b : ByteArray) : (a ++ b).size = a.size + b.size := by simp
theorem len_list (a : ByteArray) : a.data.toList.length = a.size := by rw [Array.length_toList]; rfl
end Go.Proofs.Ytmdgjpnkaogleaa
