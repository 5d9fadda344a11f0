/-
  PROVED: contract of stetlaw07.alive: it answers true; and facts on the memory behind calls. Conditions: none.
-/
import Derived.Test.YtjadchdkpokopaaLawPure
import Derived.Test.YtjadchdkpokopaaUrl
namespace Go.Proofs.Ytjadchdkpokopaa
open Go.ChangeShapes Go.WideShapes Go.ChangeAt Go.RowKit Go.Sort
set_option linter.unusedVariables false

theorem al_ent (w : World) : Calls Try.prog 10 #[.string { data := #[38, 35, 120, 52, 49, 59] }, .int .i64 0] w fun e w' => e = .returned (.tuple #[.string { data := #[65] }, .int .i64 6]) ∧ Below w.heap.size w w' := by
  have h := ent_in { data := #[38, 35, 120, 52, 49, 59] } 0 (by decide) (by decide) w
  rw [show (lst { data := #[38, 35, 120, 52, 49, 59] }).drop 0 = [38, 35, 120, 52, 49, 59] from rfl, alive_ent] at h
  unfold EntPost entB entN at h
  simp only [alive_chr] at h
  exact h
theorem al_plain (w : World) : Calls Try.prog 12 #[.string { data := #[92, 42, 97, 38, 97, 109, 112, 59, 38, 99, 111, 112, 121] }] w fun e w' => e = .returned (.string { data := #[42, 97, 38, 38, 99, 111, 112, 121] }) ∧ Below w.heap.size w w' := by
  have h := plain_text { data := #[92, 42, 97, 38, 97, 109, 112, 59, 38, 99, 111, 112, 121] } (by decide) w
  rw [show lst { data := #[92, 42, 97, 38, 97, 109, 112, 59, 38, 99, 111, 112, 121] } = [92, 42, 97, 38, 97, 109, 112, 59, 38, 99, 111, 112, 121] from rfl, alive_plain] at h
  exact h
theorem al_url (w : World) : Calls Try.prog 16 #[.string { data := #[97, 32, 98, 37, 50, 48, 37] }] w fun e w' => e = .returned (.string { data := #[97, 37, 50, 48, 98, 37, 50, 48, 37, 50, 53] }) ∧ Below w.heap.size w w' := by
  have h := url_text { data := #[97, 32, 98, 37, 50, 48, 37] } (by decide) w
  rw [show lst { data := #[97, 32, 98, 37, 50, 48, 37] } = [97, 32, 98, 37, 50, 48, 37] from rfl, alive_url] at h
  exact h
theorem al_html (w : World) : Calls Try.prog 14 #[.string { data := #[60, 34] }] w fun e w' => e = .returned (.string { data := #[38, 108, 116, 59, 38, 113, 117, 111, 116, 59] }) ∧ Below w.heap.size w w' := by
  have h := html_text { data := #[60, 34] } (by decide) w
  rw [show lst { data := #[60, 34] } = [60, 34] from rfl, alive_html] at h
  exact h
set_option maxHeartbeats 2000000 in
theorem alive_any (w : World) : Calls Try.prog 9 #[] w fun e w' => e = .returned (.bool true) ∧ Below w.heap.size w w' := by
  go_enter Try.func9, Try.ntmps9
  go_wp2_with fail
  refine (al_ent _).mono ?_
  rintro e w1 ⟨rfl, hb⟩
  have B1 := Lib.hid hb
  clear hb
  go_wp2_with fail
  refine (al_plain _).mono ?_
  rintro e w2 ⟨rfl, hb⟩
  have B2 := Lib.hid (chain (Nat.le_refl _) B1.out hb)
  clear hb B1
  go_wp2_with fail
  refine (al_url _).mono ?_
  rintro e w3 ⟨rfl, hb⟩
  have B3 := Lib.hid (chain (Nat.le_refl _) B2.out hb)
  clear hb B2
  go_wp2_with fail
  refine (al_html _).mono ?_
  rintro e w4 ⟨rfl, hb⟩
  have B4 := Lib.hid (chain (Nat.le_refl _) B3.out hb)
  clear hb B3
  go_wp2_with fail
  go_ret
  exact ⟨rfl, B4.out⟩
end Go.Proofs.Ytjadchdkpokopaa
