/-
  PROVED: trees that are made wrong: small ones, their numbers a machine's, and not right ('WrongT'); contracts of CopyTree, Right and Show at such a one. Conditions: as each says.
-/
import Derived.Test.YtdfhgcknelgdmaaDoorWrongPure
import Derived.Test.YtdfhgcknelgdmaaDoorWeigh
import Derived.Test.YtdfhgcknelgdmaaDoorShow
import Derived.Test.YtdfhgcknelgdmaaDoorPut
namespace Go.Proofs.YtdfhgcknelgdmaaDoor
open Go.ChangeShapes Go.WideShapes Go.ChangeAt Go.RowKit Go.Sort
set_option linter.unusedVariables false

structure WrongT (T : List Nd) : Prop where
  bd : Bd T
  num : ∀ n ∈ T, NumN n
  par : parP T = []
/-- The bounds of a tree whose weight is small. -/
def Tiny (T : List Nd) : Prop := T.length ≤ 4000 ∧ ∀ n ∈ T, n.x.size ≤ 4000 ∧ n.u.size ≤ 4000 ∧ n.h.size ≤ 4000 ∧ n.ks.length ≤ 4000 ∧ n.ps.length ≤ 4000
theorem wgt_tiny {m : Nat} {T : List Nd} (h : wgt m 0 T ≤ m) (hm : m ≤ 4000) : Tiny T := by
  obtain ⟨_, h2, h3⟩ := wgt_small m T 0 h
  refine ⟨by omega, fun n hn => ?_⟩
  have := h3 n hn
  unfold wN at this
  omega
theorem wrong_set {T : List Nd} {i : Nat} {n' : Nd} (hT : Tiny T) (hN : ∀ n ∈ T, NumN n) (hb : n'.x.size ≤ 10000 ∧ n'.u.size ≤ 10000 ∧ n'.h.size ≤ 10000 ∧ n'.ks.length ≤ 10000 ∧ n'.ps.length ≤ 10000) (hn : NumN n') (hp : parP (T.set i n') = []) : WrongT (T.set i n') := by
  obtain ⟨h1, h2⟩ := hT
  refine ⟨⟨by simp; omega, fun m hm => ?_⟩, fun m hm => ?_, hp⟩
  · rcases List.mem_or_eq_of_mem_set hm with hm | rfl
    · have := h2 m hm; omega
    · exact hb
  · rcases List.mem_or_eq_of_mem_set hm with hm | rfl
    · exact hN m hm
    · exact hn
theorem wrong0 {T : List Nd} {i : Nat} {n : Nd} (hT : Tiny T) (hN : ∀ n ∈ T, NumN n) (hn : T[i]? = some n) : WrongT (T.set i { n with ks := n.ks ++ [(T.length : Int)] }) := by
  have hi := (List.getElem?_eq_some_iff.1 hn).1
  have h2 := hT.2 n (List.mem_of_getElem? hn)
  refine wrong_set hT hN (by simp; omega) (hN n (List.mem_of_getElem? hn)) (wrong_far (i := i) (List.getElem?_set_self hi) ?_)
  simp
theorem wrong1 {T : List Nd} {i : Nat} {n : Nd} {k : Int} (hT : Tiny T) (hN : ∀ n ∈ T, NumN n) (hn : T[i]? = some n) (hk : n.ks[0]? = some k) : WrongT (T.set i { n with ks := n.ks ++ [k] }) := by
  have hi := (List.getElem?_eq_some_iff.1 hn).1
  have h2 := hT.2 n (List.mem_of_getElem? hn)
  obtain ⟨l, hl⟩ : ∃ l, n.ks = k :: l := by
    cases h : n.ks with
    | nil => rw [h] at hk; cases hk
    | cons a l => rw [h] at hk; simp at hk; exact ⟨l, by rw [hk]⟩
  refine wrong_set hT hN (by simp; omega) (hN n (List.mem_of_getElem? hn)) (wrong_twice (i := i) (k := k) (l := l) (List.getElem?_set_self hi) ?_)
  show n.ks ++ [k] = _
  rw [hl]; rfl
theorem wrong2 {T : List Nd} {i : Nat} {n : Nd} (hT : Tiny T) (hN : ∀ n ∈ T, NumN n) (hn : T[i]? = some n) : WrongT (T.set i { n with k := 19 }) := by
  have hi := (List.getElem?_eq_some_iff.1 hn).1
  have h2 := hT.2 n (List.mem_of_getElem? hn)
  exact wrong_set hT hN (by show n.x.size ≤ 10000 ∧ n.u.size ≤ 10000 ∧ n.h.size ≤ 10000 ∧ n.ks.length ≤ 10000 ∧ n.ps.length ≤ 10000; omega) (hN n (List.mem_of_getElem? hn)) (wrong_fit (i := i) (List.getElem?_set_self hi) (Or.inr (Or.inr (by show (18 : Int) < 19; decide))))
theorem wrong3 {T : List Nd} {i : Nat} {n : Nd} {z : Int} (hT : Tiny T) (hN : ∀ n ∈ T, NumN n) (hn : T[i]? = some n) (hz : I64 z) (hw : z < 0 ∨ n.t < z) : WrongT (T.set i { n with f := z }) := by
  have hi := (List.getElem?_eq_some_iff.1 hn).1
  have h2 := hT.2 n (List.mem_of_getElem? hn)
  have h3 := hN n (List.mem_of_getElem? hn)
  refine wrong_set hT hN (by show n.x.size ≤ 10000 ∧ n.u.size ≤ 10000 ∧ n.h.size ≤ 10000 ∧ n.ks.length ≤ 10000 ∧ n.ps.length ≤ 10000; omega) ⟨hz, h3.2⟩ (wrong_fit (i := i) (List.getElem?_set_self hi) (Or.inl ?_))
  unfold fitB fitV
  rcases hw with h | h
  · rw [decide_eq_false (show ¬ (0 : Int) ≤ z by omega)]; rfl
  · simp only []
    rw [decide_eq_false (show ¬ z ≤ n.t by omega), Bool.false_and, Bool.and_false]
theorem wrong4 {T : List Nd} {i : Nat} {n : Nd} (hT : Tiny T) (hN : ∀ n ∈ T, NumN n) (hn : T[i]? = some n) : WrongT (T.set i { n with ps := [(0, 0)] }) := by
  have hi := (List.getElem?_eq_some_iff.1 hn).1
  have h2 := hT.2 n (List.mem_of_getElem? hn)
  refine wrong_set hT hN (by show n.x.size ≤ 10000 ∧ n.u.size ≤ 10000 ∧ n.h.size ≤ 10000 ∧ n.ks.length ≤ 10000 ∧ 1 ≤ 10000; omega) (hN n (List.mem_of_getElem? hn)) (wrong_fit (i := i) (List.getElem?_set_self hi) (Or.inl ?_))
  unfold fitB fitV
  simp
theorem wrong5 {T : List Nd} (hT : Tiny T) (hN : ∀ n ∈ T, NumN n) (hr : parP T ≠ []) {x : Nd} (hb : x.x.size ≤ 10000 ∧ x.u.size ≤ 10000 ∧ x.h.size ≤ 10000 ∧ x.ks.length ≤ 10000 ∧ x.ps.length ≤ 10000) (hx : NumN x) : WrongT (T ++ [x]) := by
  refine ⟨⟨by have := hT.1; simp; omega, fun m hm => ?_⟩, fun m hm => ?_, wrong_more hr x⟩
  · rcases List.mem_append.1 hm with hm | hm
    · have := hT.2 m hm; omega
    · obtain rfl := List.mem_singleton.1 hm; exact hb
  · rcases List.mem_append.1 hm with hm | hm
    · exact hN m hm
    · obtain rfl := List.mem_singleton.1 hm; exact hx

theorem wrong_copy {T : List Nd} (h : WrongT T) (A : Option Addr) (c l : Nat) (hl : l = T.length) (w : World) (hT : Tr w w.heap.size A T) : Calls Tryd.prog 10 #[.agg #[.slice A l c]] w (CopT w T) := by
  rw [hl]; exact copyTree_any A c T h.bd w hT
theorem wrong_right {T : List Nd} (h : WrongT T) (A : Option Addr) (c l : Nat) (hl : l = T.length) (w : World) (hT : Tr w w.heap.size A T) : Calls Tryd.prog 11 #[.agg #[.slice A l c]] w fun e w' => e = .returned (.bool false) ∧ Below w.heap.size w w' := by
  rw [hl]
  have := right_any A c T h.bd w hT
  rw [h.par] at this
  exact this
theorem wrong_show {T : List Nd} (h : WrongT T) (A : Option Addr) (c : Nat) (w : World) (hT : Tr w w.heap.size A T) (hg : Glob w) : Calls Tryd.prog 17 #[.agg #[.slice A T.length c], .bool true] w fun e w' => e = .returned (.tuple #[.string { data := #[] }, .int .i64 30]) ∧ Below w.heap.size w w' := by
  refine (show_any A c T h.bd h.num true w hT hg).mono fun e w' hh => ?_
  obtain ⟨h1, h2⟩ := hh
  rw [if_pos h.par, if_pos h.par] at h1
  exact ⟨h1, h2⟩
end Go.Proofs.YtdfhgcknelgdmaaDoor
