/-
  PROVED: plain facts on what stands within a text: more around it, and capital letters, make no difference to the ends of HTML blocks. No program in it. Conditions: none.
-/
import Derived.Test.YtdnnjakggopdoaaDoorEnds
import Derived.Test.YtdnnjakggopdoaaDoorRaw
namespace Go.Proofs.YtdnnjakggopdoaaDoor
set_option linter.unusedVariables false

theorem has_infix (l q : List UInt8) : Lib.contains l q = true ↔ q <:+: l := by
  unfold Lib.contains
  rw [decide_eq_true_iff]
  constructor
  · intro h
    have h1 := (index_at q l h).1
    unfold Lib.occAt at h1
    exact (List.isPrefixOf_iff_prefix.1 h1).isInfix.trans (List.drop_suffix _ _).isInfix
  · rintro ⟨a, b, rfl⟩
    refine Int.not_lt.1 fun hneg => ?_
    have hge := Lib.index_ge (a ++ q ++ b) q
    have : ¬ ∃ i, i ≤ (a ++ q ++ b).length ∧ Lib.occAt (a ++ q ++ b) q i = true := by
      rintro ⟨i, hi, ho⟩
      have key : ∀ (m : List UInt8) (i : Nat), i ≤ m.length → Lib.occAt m q i = true → 0 ≤ Lib.index m q := by
        intro m
        induction m with
        | nil =>
          intro i hi ho
          unfold Lib.occAt at ho
          rw [List.drop_nil] at ho
          unfold Lib.index
          cases q with
          | nil => simp
          | cons c q => simp [List.isPrefixOf] at ho
        | cons x m ih =>
          intro i hi ho
          unfold Lib.index
          by_cases hp : q.isPrefixOf (x :: m) = true
          · rw [if_pos hp]; exact Int.le_refl _
          · rw [if_neg hp]
            cases i with
            | zero => exact absurd ho hp
            | succ i =>
              have h := ih i (by simpa using hi) ho
              rw [if_neg (by simp; omega)]
              omega
      have := key _ i hi ho
      omega
    exact this ⟨a.length, by simp, by
      unfold Lib.occAt
      rw [List.append_assoc, List.drop_left' rfl]
      exact List.isPrefixOf_iff_prefix.2 (List.prefix_append _ _)⟩
theorem has_more (a l b q : List UInt8) (h : Lib.contains l q = true) : Lib.contains (a ++ l ++ b) q = true := by
  rw [has_infix] at h ⊢
  exact h.trans ⟨a, b, rfl⟩
theorem ends_more (a l b : List UInt8) (k : Int) (h : endsL l k = true) : endsL (a ++ l ++ b) k = true := by
  unfold endsL at h ⊢
  split at h
  · rename_i h1
    rw [if_pos h1]
    unfold endV isVe at h ⊢
    rw [List.map_append, List.map_append]
    simp only [Bool.or_eq_true] at h ⊢
    rcases h with ((h | h) | h) | h
    · exact .inl (.inl (.inl (has_more _ _ _ _ h)))
    · exact .inl (.inl (.inr (has_more _ _ _ _ h)))
    · exact .inl (.inr (has_more _ _ _ _ h))
    · exact .inr (has_more _ _ _ _ h)
  · rename_i h1
    rw [if_neg h1]
    split at h
    · cases h
    · rename_i h2
      rw [if_neg h2]
      exact has_more _ _ _ _ h
theorem pre_map (f : UInt8 → UInt8) (m : List UInt8) : ∀ (q : List UInt8), (∀ c ∈ q, ∀ x, (c == f x) = (c == x)) → q.isPrefixOf (m.map f) = q.isPrefixOf m := by
  induction m with
  | nil => intro q _; rfl
  | cons x m ih =>
    intro q h
    cases q with
    | nil => rfl
    | cons c q =>
      rw [List.map_cons, List.isPrefixOf, List.isPrefixOf, h c (List.mem_cons_self ..) x, ih q (fun d hd => h d (List.mem_cons_of_mem _ hd))]
theorem index_map (f : UInt8 → UInt8) (q : List UInt8) (h : ∀ c ∈ q, ∀ x, (c == f x) = (c == x)) : ∀ m : List UInt8, Lib.index (m.map f) q = Lib.index m q
  | [] => rfl
  | x :: m => by
    rw [List.map_cons, Lib.index, Lib.index, ← List.map_cons, pre_map f (x :: m) q h, index_map f q h m]
theorem up_fix (c : UInt8) (hc : c = 45 ∨ c = 62 ∨ c = 63 ∨ c = 93) (x : UInt8) : (c == upb x) = (c == x) := by
  have key : ∀ n : Fin 256, ((45 : UInt8) == upb (UInt8.ofNat n.val)) = ((45 : UInt8) == UInt8.ofNat n.val) ∧ ((62 : UInt8) == upb (UInt8.ofNat n.val)) = ((62 : UInt8) == UInt8.ofNat n.val) ∧ ((63 : UInt8) == upb (UInt8.ofNat n.val)) = ((63 : UInt8) == UInt8.ofNat n.val) ∧ ((93 : UInt8) == upb (UInt8.ofNat n.val)) = ((93 : UInt8) == UInt8.ofNat n.val) := by decide +kernel
  have h := key ⟨x.toNat, x.toNat_lt⟩
  rw [UInt8.ofNat_toNat] at h
  rcases hc with rfl | rfl | rfl | rfl
  · exact h.1
  · exact h.2.1
  · exact h.2.2.1
  · exact h.2.2.2
theorem oend_in (i : Nat) (c : UInt8) (h : c ∈ oend i) : c = 45 ∨ c = 62 ∨ c = 63 ∨ c = 93 := by
  unfold oend at h
  split at h <;> simp at h <;> rcases h with rfl | h <;> simp_all
theorem ends_up (l : List UInt8) (k : Int) : endsL (l.map upb) k = endsL l k := by
  unfold endsL
  split
  · unfold endV isVe
    rw [low_up_all]
  · split
    · rfl
    · unfold Lib.contains
      rw [index_map upb _ (fun c hc x => up_fix c (oend_in _ c hc) x)]
theorem ends_out (l : List UInt8) (k : Int) (h : ¬ (1 ≤ k ∧ k ≤ 5)) : endsL l k = false := by
  unfold endsL
  rw [if_neg (by omega), if_pos (by omega)]
end Go.Proofs.YtdnnjakggopdoaaDoor
