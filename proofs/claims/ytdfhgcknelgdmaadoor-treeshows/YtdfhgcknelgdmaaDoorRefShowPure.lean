/-
  PROVED: plain facts on decimal digits from the last one on ('digR'), on the chain of parents ('remK'), and on the parts of a node's line. Conditions: as each says; no program is named.
-/
import Derived.Test.YtdfhgcknelgdmaaDoorShowPure
namespace Go.Proofs.YtdfhgcknelgdmaaDoor
set_option linter.unusedVariables false

/-- The digits, the last one ahead. -/
def digR (u : Nat) : List UInt8 := (Lib.decDigits u).reverse
theorem digR_small {u : Nat} (h : u < 10) : digR u = [UInt8.ofNat (48 + u)] := by unfold digR; rw [Lib.decDigits, dif_pos h]; rfl
theorem digR_big {u : Nat} (h : ¬ u < 10) : digR u = UInt8.ofNat (48 + u % 10) :: digR (u / 10) := by unfold digR; rw [Lib.decDigits, dif_neg h, List.reverse_append]; rfl
theorem digR_any (u : Nat) : digR u = UInt8.ofNat (48 + u % 10) :: (if u / 10 = 0 then [] else digR (u / 10)) := by
  by_cases h : u < 10
  · rw [digR_small h, if_pos (by omega), Nat.mod_eq_of_lt h]
  · rw [digR_big h, if_neg (by omega)]
theorem itoa_rev (v : Int) : Lib.itoa v = (digR v.natAbs ++ (if v < 0 then [45] else [])).reverse := by
  unfold Lib.itoa digR
  by_cases h : v < 0
  · rw [if_pos h, if_pos h]; simp
  · rw [if_neg h, if_neg h, show v.toNat = v.natAbs by omega]; simp

/-- How many blanks are still to be told, at a node of the chain. -/
def remK (P : List Int) (k : Int) : Nat := if k < 0 then 0 else depA P k.toNat + 1
theorem rem_start {P : List Int} (h0 : P[0]? = some (-1)) (hp : ∀ (j : Nat), 0 < j → j < P.length → ∃ q : Nat, P[j]? = some (q : Int) ∧ q < j) {i : Nat} {k : Int} (hk : P[i]? = some k) : remK P k = depA P i := by
  rcases Nat.eq_zero_or_pos i with rfl | hi
  · rw [h0] at hk
    obtain rfl := Option.some.inj hk
    rfl
  · obtain ⟨q, hq, hlt⟩ := hp i hi (List.getElem?_eq_some_iff.1 hk).1
    rw [hq] at hk
    obtain rfl := Option.some.inj hk
    rw [depA_succ P i q hi hq hlt]
    unfold remK
    rw [if_neg (by omega), Int.toNat_natCast]
theorem rem_step {P : List Int} (h0 : P[0]? = some (-1)) (hp : ∀ (j : Nat), 0 < j → j < P.length → ∃ q : Nat, P[j]? = some (q : Int) ∧ q < j) {j : Nat} {k : Int} (hk : P[j]? = some k) : remK P (j : Int) = remK P k + 1 := by
  rw [rem_start h0 hp hk]
  unfold remK
  rw [if_neg (by omega), Int.toNat_natCast]
theorem rem_neg {P : List Int} {k : Int} (h : k < 0) : remK P k = 0 := by unfold remK; rw [if_pos h]

/-- What the document's own line is: the first half. -/
def headL (n : Nd) (b : Bool) : List UInt8 := nameL n.k ++ ((if b = true then 32 :: (Lib.itoa n.f ++ (45 :: Lib.itoa n.t)) else []) ++ ((if n.l = 0 then [] else 32 :: 35 :: Lib.itoa n.l) ++ (if n.g = true then [32, 116, 105, 103, 104, 116] else [])))
def quoP (a : UInt8) (x : List UInt8) : List UInt8 := if x = [] then [] else 32 :: a :: (34 :: (quoB x ++ [34]))
theorem dec_ne (u : Nat) : Lib.decDigits u ≠ [] := by
  rw [Lib.decDigits]
  split
  · simp
  · simp
theorem itoa_ne (v : Int) : Lib.itoa v ≠ [] := by
  unfold Lib.itoa
  split
  · simp
  · exact dec_ne _
theorem told_quo (a : UInt8) (x : List UInt8) : toldL [a] (quoL x) = quoP a x := by
  unfold toldL quoL quoP
  by_cases h : x = []
  · rw [if_pos h, if_pos rfl, if_pos h]
  · rw [if_neg h, if_neg (by simp), if_neg h]; rfl
theorem line_parts (n : Nd) (b : Bool) : lineL n b = headL n b ++ (quoP 116 (lst n.x) ++ (quoP 108 (lst n.u) ++ (quoP 104 (lst n.h) ++ [10]))) := by
  have e1 : toldL [] (spanL n b) = (if b = true then 32 :: (Lib.itoa n.f ++ (45 :: Lib.itoa n.t)) else []) := by
    unfold toldL spanL
    cases b with
    | true => simp
    | false => simp
  have e2 : toldL [35] (levL n) = (if n.l = 0 then [] else 32 :: 35 :: Lib.itoa n.l) := by
    unfold toldL levL
    by_cases h : n.l = 0
    · rw [if_pos h, if_pos rfl, if_pos h]
    · rw [if_neg h, if_neg (itoa_ne _), if_neg h]; rfl
  have e3 : toldL [] (tigL n) = (if n.g = true then [32, 116, 105, 103, 104, 116] else []) := by
    unfold toldL tigL
    cases n.g with
    | true => rfl
    | false => rfl
  unfold lineL headL
  rw [e1, e2, e3, told_quo, told_quo, told_quo]
  simp only [List.append_assoc]
end Go.Proofs.YtdfhgcknelgdmaaDoor
