/-
  PROVED: the model's pairs of two rows of one mark. Conditions: as each says.
-/
import Derived.Test.YtldillhgpjmjpaaInvPure
namespace Go.Proofs.Ytldillhgpjmjpaa
set_option linter.unusedVariables false

def twoL (n m : Int) : List Rw := [⟨95, n, true, false⟩, ⟨95, m, false, true⟩]
theorem num_nat (a : Nat) (h1 : 1 ≤ a) (h2 : a ≤ 2000) (mk : Int) (o c : Bool) : num ⟨mk, (a : Int), o, c⟩ = a := by
  unfold num
  rw [if_pos (by simp; omega)]
  simp
theorem two_run (a b : Nat) (h1 : 1 ≤ a) (h2 : a ≤ 2000) (h3 : 1 ≤ b) (h4 : b ≤ 2000) :
    (runM (twoL a b) 2).2.2 = [(0, 1, min a b)] ∧ (runM (twoL a b) 2).2.1 0 = a - min a b ∧ (runM (twoL a b) 2).2.1 1 = b - min a b := by
  obtain ⟨lf, hlf⟩ : ∃ lf : Nat → Nat, lf = fun i => num (rw (twoL a b) i) := ⟨_, rfl⟩
  have l0 : lf 0 = a := by rw [hlf]; exact num_nat a h1 h2 _ _ _
  have l1 : lf 1 = b := by rw [hlf]; exact num_nat b h3 h4 _ _ _
  have s1 : runM (twoL a b) 1 = ([0], lf, []) := by
    show stepM (twoL a b) 0 ([], fun i => num (rw (twoL a b) i), []) = _
    rw [← hlf]
    unfold stepM
    have e1 : clsM (twoL a b) 0 ([], lf, []) = ([], lf, []) := rfl
    rw [e1]
    have e2 : (rw (twoL a b) 0).o = true := rfl
    simp only [e2, true_and]
    rw [if_pos (by rw [l0]; omega)]
    rfl
  have hF : FF (twoL a b) 1 0 = true := by
    unfold FF fit
    have e1 : (rw (twoL a b) 1).m = 95 := rfl
    have e2 : (rw (twoL a b) 0).m = 95 := rfl
    have e3 : (rw (twoL a b) 1).o = false := rfl
    have e4 : (rw (twoL a b) 0).c = false := rfl
    rw [e1, e2, e3, e4]
    simp
  have hd : [0].dropWhile (fun o => !FF (twoL a b) 1 o) = 0 :: [] := by simp [List.dropWhile, hF]
  obtain ⟨q, hq⟩ : ∃ q, q = min (lf 0) (lf 1) := ⟨_, rfl⟩
  have e1 : clsM (twoL a b) 1 ([0], lf, []) = closeM (FF (twoL a b) 1) 1 2 [0] lf := rfl
  have e2 := closeM_some (F := FF (twoL a b) 1) (c := 1) (st := [0]) (lf := lf) (by rw [l1]; omega) hd 1 q hq
  have e3 : closeM (FF (twoL a b) 1) 1 1 (if lf 0 - q = 0 then [] else [0]) (upd (upd lf 0 (lf 0 - q)) 1 (lf 1 - q)) = ((if lf 0 - q = 0 then [] else [0]), upd (upd lf 0 (lf 0 - q)) 1 (lf 1 - q), []) := by
    by_cases hz : lf 0 - q = 0
    · rw [if_pos hz]
      exact closeM_none rfl 1
    · exact closeM_done (by rw [upd_same]; omega) 1
  rw [e3] at e2
  have s2 : runM (twoL a b) 2 = stepM (twoL a b) 1 ([0], lf, []) := by show stepM (twoL a b) 1 (runM (twoL a b) 1) = _; rw [s1]
  rw [s2]
  unfold stepM
  rw [e1, e2]
  have hqa : q = min a b := by rw [hq, l0, l1]
  refine ⟨by rw [hqa]; rfl, ?_, ?_⟩
  · show upd (upd lf 0 (lf 0 - q)) 1 (lf 1 - q) 0 = _
    rw [upd_other _ _ _ _ (by omega), upd_same, l0, hqa]
  · show upd (upd lf 0 (lf 0 - q)) 1 (lf 1 - q) 1 = _
    rw [upd_same, l1, hqa]
theorem two_pairs (a b : Nat) (h1 : 1 ≤ a) (h2 : a ≤ 2000) (h3 : 1 ≤ b) (h4 : b ≤ 2000) : pairsM (twoL a b) = expB (0, 1, min a b) := by
  show expand (runM (twoL a b) 2).2.2 = _
  rw [(two_run a b h1 h2 h3 h4).1]
  simp [expand]
theorem two_left (a b : Nat) (h1 : 1 ≤ a) (h2 : a ≤ 2000) (h3 : 1 ≤ b) (h4 : b ≤ 2000) : leftM (twoL a b) = [a - min a b, b - min a b] := by
  have h := two_run a b h1 h2 h3 h4
  show (List.range 2).map (runM (twoL a b) 2).2.1 = _
  rw [show List.range 2 = [0, 1] from rfl]
  simp [h.2.1, h.2.2]
theorem expN_length : ∀ n, (expN n).length = (n + 1) / 2
  | 0 => rfl
  | 1 => rfl
  | n + 2 => by rw [expN, List.length_cons, expN_length n]; omega
theorem expN_at : ∀ (n i : Nat), i < (n + 1) / 2 → (expN n)[i]? = some (if i + 1 = (n + 1) / 2 ∧ n % 2 = 1 then 1 else 2)
  | 0, i, h => by omega
  | 1, i, h => by
    have : i = 0 := by omega
    subst this
    rfl
  | n + 2, 0, h => by
    rw [expN]
    rw [if_neg (by omega)]
    rfl
  | n + 2, i + 1, h => by
    rw [expN, List.getElem?_cons_succ, expN_at n i (by omega)]
    by_cases hq : i + 1 = (n + 1) / 2 ∧ n % 2 = 1
    · rw [if_pos hq, if_pos (by omega)]
    · rw [if_neg hq, if_neg (by omega)]
end Go.Proofs.Ytldillhgpjmjpaa
