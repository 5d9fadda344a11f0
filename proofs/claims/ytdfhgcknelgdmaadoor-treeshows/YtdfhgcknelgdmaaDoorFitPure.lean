/-
  PROVED: plain facts on what a node of a kind may have, and which kids. Conditions: none; no program is named.
-/
import Derived.Test.YtdfhgcknelgdmaaDoorTreePure
namespace Go.Proofs.YtdfhgcknelgdmaaDoor
set_option linter.unusedVariables false

/-- May nodes of a kind have kids of another? -/
def hoB (p k : Int) : Bool :=
  if p = 1 ∨ p = 2 ∨ p = 4 then decide (2 ≤ k) && decide (k ≤ 9) && decide (k ≠ 4)
  else if p = 3 then decide (k = 4)
  else if p = 5 ∨ p = 6 ∨ p = 14 ∨ p = 15 ∨ p = 16 ∨ p = 17 then decide (10 ≤ k) && decide (k ≤ 18)
  else false
def lvB (k l : Int) : Bool :=
  if k = 6 then decide (1 ≤ l) && decide (l ≤ 6)
  else if k = 3 then decide (-1 ≤ l) && decide (l ≤ 999999999)
  else if k = 8 then decide (l = 0) || decide (3 ≤ l)
  else if k = 16 then decide (1 ≤ l) && decide (l ≤ 3)
  else if k = 17 then decide (1 ≤ l) && decide (l ≤ 2)
  else decide (l = 0)
def isE (s : ByteArray) : Bool := s.toList.isEmpty
def sgB (s : ByteArray) (b : Bool) : Bool :=
  if s.toList = [45] ∨ s.toList = [43] ∨ s.toList = [42] then b
  else if s.toList = [46] ∨ s.toList = [41] then !b else false
def txB (k l : Int) (x : ByteArray) : Bool :=
  if k = 3 then sgB x (decide (l = -1))
  else if k = 10 then !isE x
  else if k = 8 ∨ k = 9 ∨ k = 13 ∨ k = 18 then true
  else isE x
def lnB (k : Int) (u : ByteArray) : Bool := if k = 8 ∨ k = 16 ∨ k = 17 then true else isE u
def tiB (k : Int) (h : ByteArray) : Bool := isE h || (decide (k = 16) || decide (k = 17))
def tgB (k : Int) (g : Bool) : Bool := !g || (decide (k = 3) || decide (k = 6))
/-- What a node has, whatever stands around it (K kids, P pieces). -/
def fitV (k f t l : Int) (x u h : ByteArray) (g : Bool) (K P : Nat) : Bool :=
  decide (0 ≤ f) && (decide (f ≤ t) && (lvB k l && (txB k l x && (lnB k u && (tiB k h && (tgB k g && (decide (P = 0) && (decide (k ≠ 3) || decide (0 < K)))))))))
def fitB (n : Nd) : Bool := fitV n.k n.f n.t n.l n.x n.u n.h n.g n.ks.length n.ps.length
def inB (p n : Nd) : Bool := decide (p.f ≤ n.f) && (decide (n.t ≤ p.t) && hoB p.k n.k)

theorem hoB_kind {p k : Int} (h : hoB p k = true) : 2 ≤ k ∧ k ≤ 18 := by
  unfold hoB at h
  split at h
  · simp at h; omega
  · split at h
    · simp at h; omega
    · split at h
      · simp at h; omega
      · cases h

/-- A node with its parent's number: the look of the document's walk. -/
def ckB (T : List Nd) (n : Nd) (p : Int) : Bool :=
  (decide (1 ≤ n.k) && (decide (n.k ≤ 18) && fitB n)) &&
  (if 0 ≤ p then (match T[p.toNat]? with | some q => inB q n | none => false) else true)
/-- The program's look: a node, its number, its parents. -/
def lkB (T : List Nd) (P : List Int) (i : Nat) (n : Nd) : Bool :=
  fitB n && (if 0 < i then (match T[(P.getD i 0).toNat]? with | some q => inB q n | none => false) else true)

/-- Are the parents found right? -/
def allB (T : List Nd) (P : List Int) (i : Nat) : List Nd → Bool
  | [] => true
  | n :: R => lkB T P i n && allB T P (i + 1) R

def headK (T : List Nd) : Int := match T with | [] => 0 | n :: _ => n.k

/-- Of a right tree each node's parent; none of another one. -/
def parP (T : List Nd) : List Int := match gone T with
  | none => []
  | some P => if P.length = T.length then (if headK T = 1 then (if allB T P 0 T = true then P else []) else []) else []
end Go.Proofs.YtdfhgcknelgdmaaDoor
