/-
  PROVED: plain facts that the laws of layer 5 ask for: a fence's own marks close it if nothing stands behind; an item's bounds; a heading's content is the content of a heading of itself; blanks behind a line make no difference. No program in it. Conditions: as each says.
-/
import Derived.Test.YtinmefdcgiiejaaDoorRefFence
import Derived.Test.YtinmefdcgiiejaaDoorItems
namespace Go.Proofs.YtinmefdcgiiejaaDoor
set_option linter.unusedVariables false

theorem trimB_empty (l : List UInt8) : trimB l = [] ↔ l.all isB = true := by
  constructor
  · intro h
    unfold trimB at h
    rw [trim_comm] at h
    have h2 := (trimR_empty isB _).1 h
    have h3 := drop_firm isB l
    rw [← drop_all]
    cases hd : l.dropWhile isB with
    | nil => rfl
    | cons x m =>
      rw [hd] at h2 h3
      have := h3 x rfl
      rw [List.all_cons, this] at h2
      cases h2
  · intro h
    unfold trimB
    rw [(trimR_empty isB l).2 h]
    rfl
theorem fence_facts (l : List UInt8) (h : 0 < (fenceL l).2.1) : ((fenceL l).1 = 96 ∨ (fenceL l).1 = 126) ∧ 3 ≤ (fenceL l).2.1 ∧ (fenceL l).2.1 ≤ l.length ∧ closesL l (fenceL l).1 ((fenceL l).2.1 : Int) = (fenceL l).2.2.isEmpty := by
  cases l with
  | nil => exact absurd h (by decide)
  | cons x m =>
    unfold fenceL at h ⊢
    simp only [] at h ⊢
    by_cases hf : isFence (x :: m) x
    · rw [if_pos hf] at h ⊢
      simp only [] at h ⊢
      obtain ⟨h1, h2, h3⟩ := hf
      refine ⟨h1, h2, cnt_le _ _, ?_⟩
      have he := trimB_empty ((x :: m).drop (cnt (x :: m) x))
      unfold closesL aloneL
      cases hb : ((x :: m).drop (cnt (x :: m) x)).all isB with
      | true =>
        rw [he.2 hb]
        simp
        omega
      | false =>
        have hne : trimB ((x :: m).drop (cnt (x :: m) x)) ≠ [] := fun hc => by rw [he.1 hc] at hb; cases hb
        cases hc : trimB ((x :: m).drop (cnt (x :: m) x)) with
        | nil => exact (hne hc).elim
        | cons y c => simp; omega
    · rw [if_neg hf] at h
      exact absurd h (by decide)

theorem up_has (p : UInt8 → Bool) : ∀ (l : List UInt8) (j : Nat), j < (l.takeWhile p).length → ∃ x, l[j]? = some x ∧ p x = true
  | [], j, h => by simp at h
  | a :: l, j, h => by
    rw [List.takeWhile_cons] at h
    split at h
    · rename_i ha
      cases j with
      | zero => exact ⟨a, rfl, ha⟩
      | succ j =>
        obtain ⟨x, h1, h2⟩ := up_has p l j (by simpa using h)
        exact ⟨x, by simpa using h1, h2⟩
    · simp at h
theorem val_lt (l : List UInt8) : ∀ j, j ≤ digs l → val l j < 10 ^ j
  | 0, _ => by simp [val]
  | j + 1, h => by
    have ih := val_lt l j (by omega)
    have hd : digs l ≤ upL isD l 0 := Nat.min_le_right _ _
    unfold upL at hd
    rw [List.drop_zero, Nat.zero_add] at hd
    obtain ⟨x, h1, h2⟩ := up_has isD l j (by omega)
    have h3 := (isD_iff x).1 h2
    rw [val_step l j x h1, Nat.pow_succ]
    omega
theorem item_facts (l : List UInt8) : (itemL l).2.2 = 0 ∨ ((itemL l).2.2 ≤ l.length ∧ (itemL l).2.2 ≤ 10 ∧ -1 ≤ (itemL l).2.1 ∧ (itemL l).2.1 < 1000000000) := by
  unfold itemL
  split
  · rename_i h
    right
    cases l with
    | nil => cases h.1
    | cons x m => exact ⟨by simp, by simp, by simp, by simp⟩
  · split
    · rename_i h
      right
      have h1 := h.1
      have h2 := h.2.1
      have h3 : digs l < l.length := by
        by_cases hc : digs l < l.length
        · exact hc
        · have := h.2.2.1
          rw [List.drop_of_length_le (by omega)] at this
          cases this
      have hv := val_lt l (digs l) (Nat.le_refl _)
      have hp : 10 ^ digs l ≤ 10 ^ 9 := Nat.pow_le_pow_right (by omega) h2
      simp only []
      omega
    · exact .inl rfl

/-! A heading's content. -/
theorem cont_last (b : List UInt8) (x : UInt8) (h : (contL (trimR isB b)).getLast? = some x) : isB x = false := by
  unfold contL at h
  split at h
  · exact trimR_last isB _ x h
  · exact trimR_last isB _ x h
theorem pre_head (a b : List UInt8) (h : a <+: b) (x : UInt8) (hx : a.head? = some x) : b.head? = some x := by
  obtain ⟨c, rfl⟩ := h
  cases a with
  | nil => cases hx
  | cons y a => exact hx
theorem trimR_pre (p : UInt8 → Bool) (l : List UInt8) : trimR p l <+: l := by
  rw [trimR_take p l]
  exact List.take_prefix _ _
theorem cont_pre (l : List UInt8) : contL l <+: l := by
  unfold contL
  split
  · exact List.prefix_refl _
  · exact (trimR_pre _ _).trans (trimR_pre _ _)
theorem cont_head (l : List UInt8) (x : UInt8) (h : (contL (trimR isB (behL l))).head? = some x) : isB x = false :=
  drop_firm isB (l.drop (cnt l 35)) x (pre_head _ _ ((cont_pre _).trans (trimR_pre _ _)) x h)
theorem head_facts (l : List UInt8) (h : (headL l).1 ≠ 0) : (headL l).1 ≤ 6 ∧ (headL l).1 ≤ (headL l).2.1 ∧ (headL l).2.1 ≤ (headL l).2.2 ∧ (headL l).2.2 ≤ l.length ∧ (l.take (headL l).2.2).drop (headL l).2.1 = contL (trimR isB (behL l)) := by
  unfold headL at h ⊢
  by_cases hh : isHead l
  · rw [if_pos hh] at h ⊢
    simp only [] at h ⊢
    have hn := cnt_le l 35
    have hd : l.drop (upL isB l (cnt l 35)) = behL l := drop_upL isB l _
    have hfl : upL isB l (cnt l 35) = l.length - (behL l).length := upL_len isB l _ hn
    have hb := upL_bd isB l (cnt l 35) hn
    rw [hfl] at hd hb
    have hcp := (cont_pre (trimR isB (behL l))).trans (trimR_pre isB (behL l))
    have hcl := hcp.length_le
    have hle : (behL l).length ≤ l.length := by
      have := congrArg List.length hd
      rw [List.length_drop] at this
      omega
    refine ⟨hh.2.1, hb.1, by omega, by omega, ?_⟩
    rw [← List.take_drop, hd]
    exact (List.prefix_iff_eq_take.1 hcp).symm
  · rw [if_neg hh] at h
    exact absurd rfl h
theorem head_zero (l : List UInt8) (h : (headL l).1 = 0) : (headL l).2.1 = 0 ∧ (headL l).2.2 = 0 := by
  unfold headL at h ⊢
  by_cases hh : isHead l
  · rw [if_pos hh] at h
    have := hh.1
    simp only [] at h
    omega
  · rw [if_neg hh]
    exact ⟨rfl, rfl⟩
/-- The heading that is made of a content. -/
theorem head_made (c : List UInt8) (h1 : ∀ x, c.head? = some x → isB x = false) (h2 : ∀ x, c.getLast? = some x → isB x = false) (hc : c ≠ []) : headL ([35, 32] ++ c ++ [32, 35]) = (1, 2, 2 + c.length) := by
  have e0 : [35, 32] ++ c ++ [32, 35] = (35 : UInt8) :: 32 :: (c ++ [32, 35]) := by simp
  rw [e0]
  have en : cnt ((35 : UInt8) :: 32 :: (c ++ [32, 35])) 35 = 1 := rfl
  have eb : behL ((35 : UInt8) :: 32 :: (c ++ [32, 35])) = c ++ [32, 35] := by
    unfold behL
    rw [en]
    show ((32 : UInt8) :: (c ++ [32, 35])).dropWhile isB = _
    rw [List.dropWhile_cons, if_pos (by rfl)]
    cases c with
    | nil => exact (hc rfl).elim
    | cons y c =>
      rw [List.cons_append, List.dropWhile_cons, if_neg]
      rw [h1 y rfl]
      decide
  have hh : isHead ((35 : UInt8) :: 32 :: (c ++ [32, 35])) := by
    unfold isHead
    rw [en]
    exact ⟨by decide, by decide, rfl⟩
  unfold headL
  rw [if_pos hh, en, eb]
  have et : trimR isB (c ++ [32, 35]) = c ++ [32, 35] := trimR_same isB _ (fun x hx => by
    rw [List.getLast?_append] at hx
    simp at hx
    subst hx
    rfl)
  have ek : trimR (· == 35) (c ++ [32, 35]) = c ++ [32] := by
    have : c ++ [32, 35] = (c ++ [32]) ++ [(35 : UInt8)] := by simp
    rw [this, trimR_snoc, if_pos (by rfl), trimR_snoc, if_neg (by decide)]
  have ec : contL (c ++ [32, 35]) = c := by
    unfold contL
    rw [ek]
    have hf : firm (c ++ [32]) = false := by unfold firm; simp; rfl
    rw [if_neg (by rw [hf]; decide), trimR_snoc, if_pos (by rfl), trimR_same isB c h2]
  rw [et, ec]
  simp
theorem head_bare : headL ([35, 32] ++ [] ++ [32, 35]) = (1, 3, 3) := by decide

/-! Blanks behind a line. -/
abbrev tailB : List UInt8 := [32, 9, 32]
theorem takeWhile_app (p : UInt8 → Bool) (m : List UInt8) (hm : m.takeWhile p = []) : ∀ l : List UInt8, (l ++ m).takeWhile p = l.takeWhile p
  | [] => hm
  | x :: l => by
    rw [List.cons_append, List.takeWhile_cons, List.takeWhile_cons, takeWhile_app p m hm l]
theorem cnt_app (l : List UInt8) (c : UInt8) (h : c ≠ 32) : cnt (l ++ tailB) c = cnt l c := by
  unfold cnt
  rw [takeWhile_app _ _ (by rw [List.takeWhile_cons, if_neg]; simp; exact fun e => h e.symm) l]
theorem all_app (l : List UInt8) : (l ++ tailB).all isB = l.all isB := by rw [List.all_append]; simp [isB]
theorem alone_app (l : List UInt8) (c : UInt8) (h : c ≠ 32) : aloneL (l ++ tailB) c = aloneL l c := by
  unfold aloneL
  rw [cnt_app l c h, List.drop_append_of_le_length (cnt_le l c), all_app]
theorem under_app (l : List UInt8) : underL (l ++ tailB) = underL l := by
  unfold underL
  rw [alone_app l 61 (by decide), alone_app l 45 (by decide)]
theorem closes_app (l : List UInt8) (c : UInt8) (n : Int) (h : c ≠ 32) : closesL (l ++ tailB) c n = closesL l c n := by
  unfold closesL
  rw [alone_app l c h]
theorem beg_app (l cs : List UInt8) (h : l ≠ []) : begL (l ++ tailB) cs = begL l cs := by
  cases l with
  | nil => exact (h rfl).elim
  | cons x l => rfl
theorem ends_app (l : List UInt8) : endsL (l ++ tailB) = endsL l := by
  cases l with
  | nil => rfl
  | cons x l => rfl
theorem rule_app (l : List UInt8) (h : l ≠ []) : ruleL (l ++ tailB) = ruleL l := by
  cases l with
  | nil => exact (h rfl).elim
  | cons x l =>
    unfold ruleL
    rw [List.cons_append]
    simp only []
    by_cases hx : x = 42 ∨ x = 45 ∨ x = 95
    · have e1 : (x :: (l ++ tailB)).all (fun b => b == x || isB b) = (x :: l).all (fun b => b == x || isB b) := by
        rw [← List.cons_append, List.all_append]
        simp [isB]
      have e2 : (x :: (l ++ tailB)).count x = (x :: l).count x := by
        rw [← List.cons_append, List.count_append]
        rcases hx with rfl | rfl | rfl <;> simp
      rw [e1, e2]
    · have e : (x == 42 || x == 45 || x == 95) = false := by
        simp at hx ⊢
        exact ⟨⟨hx.1, hx.2.1⟩, hx.2.2⟩
      rw [e]
      rfl
theorem trimB_app (l : List UInt8) : trimB (l ++ tailB) = trimB l := by
  unfold trimB
  rw [trimR_all isB tailB l (by rfl)]
theorem fence_app (l : List UInt8) (h : l ≠ []) : fenceL (l ++ tailB) = fenceL l := by
  cases l with
  | nil => exact (h rfl).elim
  | cons x l =>
    unfold fenceL
    rw [List.cons_append]
    simp only []
    by_cases hx : x = 96 ∨ x = 126
    · have hc : cnt (x :: (l ++ tailB)) x = cnt (x :: l) x := by
        rw [← List.cons_append]
        exact cnt_app (x :: l) x (by rcases hx with rfl | rfl <;> decide)
      have ht : trimB ((x :: (l ++ tailB)).drop (cnt (x :: l) x)) = trimB ((x :: l).drop (cnt (x :: l) x)) := by
        rw [← List.cons_append, List.drop_append_of_le_length (cnt_le _ _), trimB_app]
      have hi : isFence (x :: (l ++ tailB)) x ↔ isFence (x :: l) x := by
        unfold isFence
        rw [hc, ht]
      by_cases hf : isFence (x :: l) x
      · rw [if_pos hf, if_pos (hi.2 hf), hc, ht]
      · rw [if_neg hf, if_neg (fun hh => hf (hi.1 hh))]
    · rw [if_neg (fun hf => hx hf.1), if_neg (fun hf => hx hf.1)]
theorem head_app (l : List UInt8) : (headL (l ++ tailB)).1 = (headL l).1 ∧ (headL (l ++ tailB)).2.2 - (headL (l ++ tailB)).2.1 = (headL l).2.2 - (headL l).2.1 ∧ (headL (l ++ tailB)).2.1 ≤ (headL (l ++ tailB)).2.2 ∧ (headL l).2.1 ≤ (headL l).2.2 := by
  have hc : cnt (l ++ tailB) 35 = cnt l 35 := cnt_app l 35 (by decide)
  have hdr : (l ++ tailB).drop (cnt l 35) = l.drop (cnt l 35) ++ tailB := List.drop_append_of_le_length (cnt_le l 35)
  have hi : isHead (l ++ tailB) ↔ isHead l := by
    unfold isHead
    rw [hc, hdr, ends_app]
  have ht : trimR isB (behL (l ++ tailB)) = trimR isB (behL l) := by
    unfold behL
    rw [hc, hdr, ← trim_comm, ← trim_comm, trimR_all isB tailB _ (by rfl)]
  unfold headL
  by_cases hh : isHead l
  · rw [if_pos hh, if_pos (hi.2 hh), hc, ht]
    exact ⟨rfl, (Nat.add_sub_cancel_left _ _).trans (Nat.add_sub_cancel_left _ _).symm, Nat.le_add_right _ _, Nat.le_add_right _ _⟩
  · rw [if_neg hh, if_neg (fun h => hh (hi.1 h))]
    decide
theorem item_app (l : List UInt8) (h : l ≠ []) : itemL (l ++ tailB) = itemL l := by
  have hl : 0 < l.length := by cases l with
    | nil => exact (h rfl).elim
    | cons x l => simp
  have hu : upL isD (l ++ tailB) 0 = upL isD l 0 := by
    unfold upL
    rw [List.drop_zero, List.drop_zero, takeWhile_app isD tailB (by rfl) l]
  have hd : digs (l ++ tailB) = digs l := by unfold digs; rw [hu]
  have hdl := digs_le l
  have hv : val (l ++ tailB) (digs l) = val l (digs l) := by
    unfold val
    rw [List.take_append_of_le_length hdl]
  have h1 : endsL ((l ++ tailB).drop 1) = endsL (l.drop 1) := by rw [List.drop_append_of_le_length (by omega), ends_app]
  have h2 : (l ++ tailB).headD 0 = l.headD 0 := by cases l with
    | nil => exact (h rfl).elim
    | cons x l => rfl
  unfold itemL
  rw [beg_app l _ h, h1, h2]
  split
  · rfl
  · by_cases hc : digs l < l.length
    · have hdr : (l ++ tailB).drop (digs l) = l.drop (digs l) ++ tailB := List.drop_append_of_le_length hdl
      have hne : l.drop (digs l) ≠ [] := fun e => by
        have := congrArg List.length e
        rw [List.length_drop] at this
        simp at this
        omega
      have hdr1 : (l ++ tailB).drop (digs l + 1) = l.drop (digs l + 1) ++ tailB := List.drop_append_of_le_length (by omega)
      have hi : isItem (l ++ tailB) ↔ isItem l := by
        unfold isItem
        rw [hd, hdr, beg_app _ _ hne, hdr1, ends_app]
      have hh : (l.drop (digs l) ++ tailB).headD 0 = (l.drop (digs l)).headD 0 := by
        cases e : l.drop (digs l) with
        | nil => exact (hne e).elim
        | cons x m => rfl
      rw [hd, hv, hdr, hh]
      simp only [hi]
    · have e : digs l = l.length := by omega
      have n1 : ¬ isItem l := fun hi => by
        have := hi.2.2.1
        rw [e, List.drop_length] at this
        cases this
      have n2 : ¬ isItem (l ++ tailB) := fun hi => by
        have := hi.2.2.1
        rw [hd, e, List.drop_left' rfl] at this
        revert this
        decide
      rw [if_neg n1, if_neg n2]
end Go.Proofs.YtinmefdcgiiejaaDoor
