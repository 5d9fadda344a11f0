/-
  PROVED: the document's Right and the program's Parents tell the same trees. Conditions: none.
-/
import Derived.Test.YtdfhgcknelgdmaaDoorRefWalk
import Derived.Test.YtdfhgcknelgdmaaDoorRightPure
namespace Go.Proofs.YtdfhgcknelgdmaaDoor
set_option linter.unusedVariables false

theorem rg_par (T : List Nd) : rgB T = decide (0 < (parP T).length) := by
  rw [Bool.eq_iff_iff]
  constructor
  · intro h
    unfold rgB at h
    simp only [Bool.and_eq_true, decide_eq_true_eq] at h
    obtain ⟨h0, h1, h2⟩ := h
    cases hw : wk T (ckB T) T.length (-1) [] with
    | none => rw [hw] at h2; simp [outW] at h2
    | some P =>
      rw [hw] at h2
      have hl : P.length = T.length := by simp [outW] at h2; omega
      obtain ⟨hg, hok⟩ := wk_ck T (ckB T) T.length (-1) [] P hw
      have hg' : gone T = some P := hg
      have hall : allB T P 0 T = true := by
        refine allB_of T P T 0 fun i n hn => ?_
        rw [Nat.zero_add]
        have hi := (List.getElem?_eq_some_iff.1 hn).1
        obtain ⟨n', p, e1, e2, e3⟩ := hok i (by simp) (by omega)
        rw [hn] at e1
        obtain rfl := Option.some.inj e1
        unfold ckB at e3
        simp only [Bool.and_eq_true] at e3
        unfold lkB
        rw [e3.1.2.2, Bool.true_and]
        by_cases hi0 : 0 < i
        · rw [if_pos hi0]
          obtain ⟨j, q, _, _, hPj, hTj, _⟩ := (gone_facts hg').2.1 i hi0 (by omega)
          have hp : p = (j : Int) := Option.some.inj (e2.symm.trans hPj)
          have e4 := e3.2
          rw [hp, if_pos (by omega), Int.toNat_natCast, hTj] at e4
          rw [show P.getD i 0 = (j : Int) by simp [List.getD, hPj], Int.toNat_natCast, hTj]
          exact e4
        · rw [if_neg hi0]
      rw [parP_of hg' hl h1 hall, decide_eq_true_eq]
      omega
  · intro h
    have hr : parP T ≠ [] := by
      intro e
      rw [e] at h
      simp at h
    obtain ⟨hg, hl, h1, hall⟩ := parP_right hr
    have hok : okF T (ckB T) 0 (parP T) := by
      intro i _ hi
      have hn : T[i]? = some T[i] := List.getElem?_eq_getElem (by omega)
      obtain ⟨f1, f2, f3, f4⟩ := right_node hr hn
      refine ⟨T[i], (parP T)[i], hn, List.getElem?_eq_getElem hi, ?_⟩
      unfold ckB
      rw [f1, decide_eq_true f2, decide_eq_true f3, Bool.true_and, Bool.true_and, Bool.true_and]
      rcases Nat.eq_zero_or_pos i with rfl | hi0
      · have e := (gone_facts hg).2.2
        rw [List.getElem?_eq_getElem hi] at e
        rw [Option.some.inj e, if_neg (by omega)]
      · obtain ⟨j, q, hPj, _, hTj, hin, _⟩ := f4 hi0
        rw [List.getElem?_eq_getElem hi] at hPj
        rw [Option.some.inj hPj, if_pos (by omega), Int.toNat_natCast, hTj]
        exact hin
    have hw := wk_tt T (ckB T) T.length (-1) [] (parP T) hg hok
    unfold rgB
    rw [hw, h1, outW, hl]
    have : 0 < T.length := by rw [← hl]; exact List.length_pos_iff.2 hr
    simp [this]
end Go.Proofs.YtdfhgcknelgdmaaDoor
