/-
  PROVED: plain facts: a text whose plain marks all have a backslash ahead is scanned to its end, and told as it is, as a destination between marks and as a title. No program in it. Conditions: a destination has no byte 10.
-/
import Derived.Test.YtfoheffbapifpaaDoorLawPure
import Derived.Test.YtfoheffbapifpaaDoorSteps
namespace Go.Proofs.YtfoheffbapifpaaDoor
open Go.RowKit
set_option linter.unusedVariables false

theorem run_marks (e : UInt8) (o : List UInt8) (h92 : stp e o 92 = false) (he : stp e o e = true) : ∀ (d r : List UInt8), (∀ c ∈ d, pl c = false → stp e o c = false) → runG (stp e o) false (marksL d ++ e :: r) = (marksL d).length
  | [], r, _ => by rw [marksL_nil, List.nil_append, run_stop _ _ _ he]; rfl
  | c :: d, r, h => by
    have ih := run_marks e o h92 he d r (fun x hx => h x (List.mem_cons_of_mem _ hx))
    rw [marksL_cons]
    cases hp : pl c with
    | true =>
      rw [show m1 c = [92, c] by unfold m1; rw [if_pos hp]]
      show runG (stp e o) false (92 :: c :: (marksL d ++ e :: r)) = _
      rw [run_go _ _ _ h92]
      have hs : stepL (92 :: c :: (marksL d ++ e :: r)) = 2 := by simp [stepL, escd, hp]
      rw [hs]
      show 2 + runG (stp e o) false (marksL d ++ e :: r) = _
      rw [ih, List.length_append]
      rfl
    | false =>
      rw [show m1 c = [c] by unfold m1; rw [if_neg (by rw [hp]; simp)]]
      show runG (stp e o) false (c :: (marksL d ++ e :: r)) = _
      rw [run_go _ _ _ (h c (List.mem_cons_self ..) hp)]
      have hc : c ≠ 92 := fun h => by rw [h] at hp; exact absurd hp (by decide)
      have hs : stepL (c :: (marksL d ++ e :: r)) = 1 := by
        unfold stepL
        cases marksL d ++ e :: r with
        | nil => simp [escd]
        | cons y l => simp [escd, hc]
      rw [hs]
      show 1 + runG (stp e o) false (marksL d ++ e :: r) = _
      rw [ih, List.length_append]
      rfl
theorem told_marks (c e : UInt8) (o : List UInt8) (h92 : stp e o 92 = false) (he : stp e o e = true) (d : List UInt8) (h : ∀ x ∈ d, pl x = false → stp e o x = false) : toldP (encO c e o (c :: (marksL d ++ [e]))) = (d, (marksL d).length + 2) := by
  simp only [encO]
  rw [if_pos trivial, enc_yes e o _ _ (run_marks e o h92 he d [] h) (by rw [List.getElem?_append_right (Nat.le_refl _)]; simp), List.take_left]
  simp only [toldP]
  rw [marks_back]
theorem dest_marks (d : List UInt8) (h : ∀ x ∈ d, x ≠ 10) : destP (60 :: (marksL d ++ [62])) = (d, (marksL d).length + 2) := by
  have hh : ((60 : UInt8) :: (marksL d ++ [62])).head? = some 60 := rfl
  unfold destP
  rw [if_pos hh]
  have k := told_marks 60 62 [60, 10] (by decide) (by decide) d (fun x hx hp => by
    have h1 : x ≠ 62 := fun e => by rw [e] at hp; exact absurd hp (by decide)
    have h2 : x ≠ 60 := fun e => by rw [e] at hp; exact absurd hp (by decide)
    simp [stp, h1, h2, h x hx])
  simpa [encO] using k
theorem title_quo (d : List UInt8) : titleP (34 :: (marksL d ++ [34])) = (d, (marksL d).length + 2) := by
  have k := told_marks 34 34 [] (by decide) (by decide) d (fun x hx hp => by
    have h1 : x ≠ 34 := fun e => by rw [e] at hp; exact absurd hp (by decide)
    simp [stp, h1])
  simpa [encO, titleP] using k
theorem title_par (d : List UInt8) : titleP (40 :: (marksL d ++ [41])) = (d, (marksL d).length + 2) := by
  have k := told_marks 40 41 [40] (by decide) (by decide) d (fun x hx hp => by
    have h1 : x ≠ 41 := fun e => by rw [e] at hp; exact absurd hp (by decide)
    have h2 : x ≠ 40 := fun e => by rw [e] at hp; exact absurd hp (by decide)
    simp [stp, h1, h2])
  simpa [encO, titleP] using k
end Go.Proofs.YtfoheffbapifpaaDoor
