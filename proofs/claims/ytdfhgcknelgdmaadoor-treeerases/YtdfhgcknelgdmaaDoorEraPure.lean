/-
  PROVED: a right tree stays right without places, and is told the same without spans. Conditions: the tree is right; no program is named.
-/
import Derived.Test.YtdfhgcknelgdmaaDoorRightPure
import Derived.Test.YtdfhgcknelgdmaaDoorErase
import Derived.Test.YtdfhgcknelgdmaaDoorShowPure
namespace Go.Proofs.YtdfhgcknelgdmaaDoor
set_option linter.unusedVariables false

theorem wk_map (f : Nd → Nd) (hf : ∀ n, (f n).ks = n.ks) (T : List Nd) : ∀ (d : Nat) (p : Int) (P : List Int), wk (T.map f) tt d p P = wk T tt d p P
  | 0, _, _ => rfl
  | d + 1, p, P => by
    have e : wk (T.map f) tt d = wk T tt d := funext fun p => funext fun P => wk_map f hf T d p P
    rw [wk, wk, List.getElem?_map]
    cases T[P.length]? with
    | none => rfl
    | some n => simp [tt, hf, e]
theorem gone_era (T : List Nd) : gone (T.map era) = gone T := by
  unfold gone
  rw [List.length_map]
  exact wk_map era (fun _ => rfl) T _ _ _
theorem fit_era {n : Nd} (h : fitB n = true) : fitB (era n) = true := by
  unfold fitB fitV at h ⊢
  simp only [Bool.and_eq_true] at h ⊢
  obtain ⟨_, _, h3, h4, h5, h6, h7, _, h9⟩ := h
  exact ⟨rfl, rfl, h3, h4, h5, h6, h7, rfl, h9⟩
theorem in_era {q n : Nd} (h : inB q n = true) : inB (era q) (era n) = true := by
  unfold inB at h ⊢
  simp only [Bool.and_eq_true] at h ⊢
  exact ⟨rfl, rfl, h.2.2⟩
theorem par_era {T : List Nd} (h : parP T ≠ []) : parP (T.map era) = parP T := by
  obtain ⟨hg, hl, hd, _⟩ := parP_right h
  refine parP_of (by rw [gone_era]; exact hg) (by rw [List.length_map]; exact hl) ?_ ?_
  · cases T with
    | nil => exact hd
    | cons a T => exact hd
  · refine allB_of _ _ _ 0 fun i n hn => ?_
    rw [Nat.zero_add]
    rw [List.getElem?_map] at hn
    cases hm : T[i]? with
    | none => rw [hm] at hn; cases hn
    | some m =>
      rw [hm] at hn
      obtain rfl := Option.some.inj hn
      obtain ⟨f1, _, _, f4⟩ := right_node h hm
      unfold lkB
      rw [fit_era f1, Bool.true_and]
      by_cases hi : 0 < i
      · rw [if_pos hi]
        obtain ⟨j, q, hp, _, hq, hin, _⟩ := f4 hi
        rw [show (parP T).getD i 0 = (j : Int) by simp [List.getD, hp], Int.toNat_natCast, List.getElem?_map, hq]
        exact in_era hin
      · rw [if_neg hi]
theorem showF_era (P : List Int) : ∀ (T : List Nd) (i : Nat), showF P false i (T.map era) = showF P false i T
  | [], _ => rfl
  | n :: T, i => by
    rw [List.map_cons, showF, showF, showF_era P T (i + 1)]
    rfl
theorem show_era {T : List Nd} (h : parP T ≠ []) : showL (T.map era) false = showL T false := by
  unfold showL
  rw [par_era h, showF_era]
end Go.Proofs.YtdfhgcknelgdmaaDoor
