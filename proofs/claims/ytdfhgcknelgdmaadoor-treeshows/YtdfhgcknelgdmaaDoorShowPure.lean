/-
  PROVED: plain facts on how a tree is told: a text between quotes ('quoL'), a node's line ('lineL'), how deep a node stands ('depL'), all of it ('showL'). Conditions: none; no program is named.
-/
import Derived.Test.YtdfhgcknelgdmaaDoorFitPure
import Derived.Lib.ItoaNum
import Derived.Lib.Strings
import Derived.Lib.IndexBytes
namespace Go.Proofs.YtdfhgcknelgdmaaDoor
set_option linter.unusedVariables false

abbrev lst (s : ByteArray) : List UInt8 := s.data.toList
theorem lst_size (s : ByteArray) : (lst s).length = s.size := (Lib.size_eq s).symm
theorem lst_mk (l : List UInt8) : lst ⟨l.toArray⟩ = l := by simp [lst]
theorem lst_at (s : ByteArray) (k : Nat) (h : k < s.size) : (lst s).drop k = (s[k]'h) :: (lst s).drop (k + 1) := by
  rw [List.drop_eq_getElem_cons (by rw [lst_size]; exact h)]
  congr 1

def hexD (k : Nat) : UInt8 := if k < 10 then UInt8.ofNat (48 + k) else UInt8.ofNat (87 + k)
/-- Is a byte told by its digits? -/
def oddB (c : UInt8) : Bool := decide (c.toNat < 32) || (decide (c.toNat = 34) || (decide (c.toNat = 92) || decide (126 < c.toNat)))
def escL (c : UInt8) : List UInt8 := if oddB c = true then [92, hexD (c.toNat / 16), hexD (c.toNat % 16)] else [c]
theorem escL_len (c : UInt8) : (escL c).length ≤ 3 := by unfold escL; split <;> simp
def quoB (l : List UInt8) : List UInt8 := l.flatMap escL
theorem quoB_cons (c : UInt8) (l : List UInt8) : quoB (c :: l) = escL c ++ quoB l := rfl
theorem quoB_len : ∀ l : List UInt8, (quoB l).length ≤ 3 * l.length
  | [] => by simp [quoB]
  | c :: l => by rw [quoB_cons, List.length_append, List.length_cons]; have := escL_len c; have := quoB_len l; omega
/-- A text between quotes; nothing of an empty one. -/
def quoL (l : List UInt8) : List UInt8 := if l = [] then [] else 34 :: (quoB l ++ [34])
theorem quoL_len (l : List UInt8) : (quoL l).length ≤ 3 * l.length + 2 := by
  unfold quoL
  split
  · simp
  · have := quoB_len l; simp; omega

def nameL (k : Int) : List UInt8 :=
  ([[], [100, 111, 99], [113, 117, 111, 116, 101], [108, 105, 115, 116], [105, 116, 101, 109], [112, 97, 114, 97], [104, 101, 97, 100], [114, 117, 108, 101], [99, 111, 100, 101], [104, 116, 109, 108], [116, 101, 120, 116], [115, 111, 102, 116], [104, 97, 114, 100], [115, 112, 97, 110], [101, 109], [115, 116, 114, 111, 110, 103], [108, 105, 110, 107], [105, 109, 97, 103, 101], [114, 97, 119]] : List (List UInt8)).getD k.toNat []
/-- A thing that a line may tell. -/
def toldL (a x : List UInt8) : List UInt8 := if x = [] then [] else 32 :: (a ++ x)
def spanL (n : Nd) (b : Bool) : List UInt8 := if b = true then Lib.itoa n.f ++ (45 :: Lib.itoa n.t) else []
def levL (n : Nd) : List UInt8 := if n.l = 0 then [] else Lib.itoa n.l
def tigL (n : Nd) : List UInt8 := if n.g = true then [116, 105, 103, 104, 116] else []
def lineL (n : Nd) (b : Bool) : List UInt8 :=
  nameL n.k ++ (toldL [] (spanL n b) ++ (toldL [35] (levL n) ++ (toldL [] (tigL n) ++ (toldL [116] (quoL (lst n.x)) ++ (toldL [108] (quoL (lst n.u)) ++ (toldL [104] (quoL (lst n.h)) ++ [10]))))))
/-- How many nodes a node is within. -/
def depL (P : List Int) : Nat → List Nat
  | 0 => []
  | i + 1 => depL P i ++ [if i = 0 then 0 else (depL P i).getD (P.getD i 0).toNat 0 + 1]
def depA (P : List Int) (i : Nat) : Nat := (depL P (i + 1)).getD i 0
def showF (P : List Int) (b : Bool) : Nat → List Nd → List UInt8
  | _, [] => []
  | i, n :: T => List.replicate (depA P i) 32 ++ (lineL n b ++ showF P b (i + 1) T)
def showL (T : List Nd) (b : Bool) : List UInt8 := showF (parP T) b 0 T

theorem depL_len (P : List Int) : ∀ i, (depL P i).length = i
  | 0 => rfl
  | i + 1 => by rw [depL, List.length_append, depL_len P i]; rfl
theorem depL_at (P : List Int) : ∀ (m i : Nat), i < m → (depL P m).getD i 0 = depA P i
  | 0, i, h => by omega
  | m + 1, i, h => by
    rcases Nat.lt_or_ge i m with q | q
    · rw [depL, ← depL_at P m i q]
      simp only [List.getD]
      rw [List.getElem?_append_left (by rw [depL_len]; exact q)]
    · obtain rfl : i = m := by omega
      rfl
theorem depA_zero (P : List Int) : depA P 0 = 0 := rfl
theorem depA_succ (P : List Int) (i j : Nat) (hi : 0 < i) (hP : P[i]? = some (j : Int)) (hj : j < i) : depA P i = depA P j + 1 := by
  have e : depA P i = (depL P (i + 1)).getD i 0 := rfl
  rw [e, depL]
  have hl := depL_len P i
  simp only [List.getD]
  rw [List.getElem?_append_right (by omega), hl, Nat.sub_self]
  simp only [List.getElem?_cons_zero, Option.getD_some]
  rw [if_neg (by omega)]
  have := depL_at P i j hj
  simp only [List.getD] at this
  rw [hP, Option.getD_some, Int.toNat_natCast, this]
theorem depA_le (P : List Int) (hP : ∀ (j : Nat) (p : Int), P[j]? = some p → -1 ≤ p ∧ p < j) : ∀ i, depA P i ≤ i
  | 0 => Nat.le_refl _
  | i + 1 => by
    have e : depA P (i + 1) = (depL P (i + 2)).getD (i + 1) 0 := rfl
    rw [e, depL]
    have hl := depL_len P (i + 1)
    simp only [List.getD]
    rw [List.getElem?_append_right (by omega), hl, Nat.sub_self]
    simp only [List.getElem?_cons_zero, Option.getD_some]
    rw [if_neg (by omega)]
    cases hp : P[i + 1]? with
    | none =>
      simp only [Option.getD_none]
      have h0 := depL_at P (i + 1) 0 (by omega)
      simp only [List.getD] at h0
      rw [show (0 : Int).toNat = 0 from rfl, h0, depA_zero]
      omega
    | some p =>
      simp only [Option.getD_some]
      obtain ⟨h1, h2⟩ := hP (i + 1) p hp
      rcases Nat.lt_or_ge p.toNat (i + 1) with q | q
      · have h0 := depL_at P (i + 1) p.toNat q
        simp only [List.getD] at h0
        rw [h0]
        have := depA_le P hP p.toNat
        omega
      · omega
end Go.Proofs.YtdfhgcknelgdmaaDoor
