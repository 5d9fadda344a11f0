/-
  PROVED: plain facts on tags over lists of bytes: rows of bytes of a kind, a tag's name, its attributes, what an open or closing tag is; no program in it. Conditions: none.
-/
import Derived.Lib.Strings
import Derived.Lib.Index
import Derived.Lib.IndexLaws
import Derived.Lib.IndexBytes
import Derived.Lib.Bytealg
namespace Go.Proofs.YtdnnjakggopdoaaDoor
set_option linter.unusedVariables false

/-- A blank of HTML. -/
def isS (b : UInt8) : Bool := b == 32 || b == 9 || b == 10
def isL (b : UInt8) : Bool := (decide (97 ≤ b.toNat) && decide (b.toNat ≤ 122)) || (decide (65 ≤ b.toNat) && decide (b.toNat ≤ 90))
def isD (b : UInt8) : Bool := decide (48 ≤ b.toNat) && decide (b.toNat ≤ 57)
def isW (b : UInt8) : Bool := isL b || isD b
def isN (b : UInt8) : Bool := isW b || b == 45
def isF (b : UInt8) : Bool := isL b || b == 95 || b == 58
def isA (b : UInt8) : Bool := isW b || [95, 46, 58, 45].contains b
def isV (b : UInt8) : Bool := !isS b && ![34, 39, 61, 60, 62, 96].contains b

/-- Where the bytes of a kind end that go on at i. -/
def upL (p : UInt8 → Bool) (l : List UInt8) (i : Nat) : Nat := i + ((l.drop i).takeWhile p).length
theorem upL_step (p : UInt8 → Bool) (l : List UInt8) (j : Nat) (x : UInt8) (h : l[j]? = some x) (hp : p x = true) : upL p l (j + 1) = upL p l j := by
  obtain ⟨hj, rfl⟩ := List.getElem?_eq_some_iff.1 h
  unfold upL
  rw [List.drop_eq_getElem_cons hj, List.takeWhile_cons, if_pos hp, List.length_cons]
  omega
theorem upL_stop (p : UInt8 → Bool) (l : List UInt8) (j : Nat) (h : ∀ x, l[j]? = some x → p x = false) : upL p l j = j := by
  unfold upL
  by_cases hj : j < l.length
  · rw [List.drop_eq_getElem_cons hj, List.takeWhile_cons, if_neg (by rw [h _ (List.getElem?_eq_getElem hj)]; decide)]
    rfl
  · rw [List.drop_of_length_le (by omega)]
    rfl
theorem upL_bd (p : UInt8 → Bool) (l : List UInt8) (j : Nat) (h : j ≤ l.length) : j ≤ upL p l j ∧ upL p l j ≤ l.length := by
  unfold upL
  have := (List.takeWhile_sublist p (l := l.drop j)).length_le
  rw [List.length_drop] at this
  omega
theorem upL_ge (p : UInt8 → Bool) (l : List UInt8) (j : Nat) : j ≤ upL p l j := Nat.le_add_right _ _
theorem upL_zero (p : UInt8 → Bool) (l : List UInt8) (j : Nat) : upL p (l.drop j) 0 = upL p l j - j := by
  unfold upL
  rw [List.drop_zero]
  omega
/-- What a row is: all of a kind up to there, and then none. -/
theorem upL_in (p : UInt8 → Bool) (l : List UInt8) (j i : Nat) (h1 : j ≤ i) (h2 : i < upL p l j) : ∃ x, l[i]? = some x ∧ p x = true := by
  unfold upL at h2
  have hi : i - j < ((l.drop j).takeWhile p).length := by omega
  have hm := List.getElem_mem hi
  have hp : p ((l.drop j).takeWhile p)[i - j] = true := by
    have := List.all_takeWhile (l := l.drop j) (p := p)
    rw [List.all_eq_true] at this
    exact this _ hm
  refine ⟨_, ?_, hp⟩
  have hpre : (l.drop j).takeWhile p <+: l.drop j := List.takeWhile_prefix p
  have h3 := hpre.getElem hi
  have h4 : i - j < (l.drop j).length := Nat.lt_of_lt_of_le hi hpre.length_le
  rw [h3, List.getElem_drop]
  rw [List.getElem?_eq_getElem (by rw [List.length_drop] at h4; omega)]
  congr 2
  omega
theorem upL_end (p : UInt8 → Bool) (l : List UInt8) (j : Nat) (x : UInt8) (h : l[upL p l j]? = some x) : p x = false := by
  unfold upL at h
  generalize hm : l.drop j = m at h
  have hx : m[(m.takeWhile p).length]? = some x := by
    rw [← hm, List.getElem?_drop, hm]
    exact h
  clear h hm
  induction m with
  | nil => simp at hx
  | cons a m ih =>
    rw [List.takeWhile_cons] at hx
    cases ha : p a with
    | true =>
      rw [ha] at hx
      simp only [↓reduceIte, List.length_cons, List.getElem?_cons_succ] at hx
      exact ih hx
    | false =>
      rw [ha] at hx
      simp at hx
      subst hx
      exact ha
theorem upL_is (p : UInt8 → Bool) (l : List UInt8) (j k : Nat) (h1 : j ≤ k) (h2 : ∀ i, j ≤ i → i < k → ∃ x, l[i]? = some x ∧ p x = true) (h3 : ∀ x, l[k]? = some x → p x = false) : upL p l j = k := by
  induction hn : k - j generalizing j with
  | zero =>
    obtain rfl : j = k := by omega
    exact upL_stop p l j h3
  | succ n ih =>
    obtain ⟨x, hx, hp⟩ := h2 j (Nat.le_refl _) (by omega)
    rw [← upL_step p l j x hx hp]
    exact ih (j + 1) (by omega) (fun i h4 h5 => h2 i (by omega) h5) (by omega)
theorem upL_again (p q : UInt8 → Bool) (hpq : ∀ x, p x = true → q x = true) (l : List UInt8) (j : Nat) : upL q l (upL p l j) = upL q l j := by
  refine (upL_is q l j _ ?_ ?_ ?_).symm
  · exact Nat.le_trans (upL_ge p l j) (upL_ge q l _)
  · intro i h1 h2
    by_cases h : i < upL p l j
    · obtain ⟨x, hx, hp⟩ := upL_in p l j i h1 h
      exact ⟨x, hx, hpq x hp⟩
    · exact upL_in q l _ i (by omega) h2
  · intro x hx
    exact upL_end q l _ x hx
theorem upL_pos (p : UInt8 → Bool) (l : List UInt8) (j : Nat) : upL p l j = j ↔ ∀ x, l[j]? = some x → p x = false := by
  constructor
  · intro h x hx
    exact upL_end p l j x (by rw [h]; exact hx)
  · exact upL_stop p l j

theorem L_N (x : UInt8) (h : isL x = true) : isN x = true := by unfold isN isW; rw [h]; rfl
theorem F_A (x : UInt8) (h : isF x = true) : isA x = true := by
  unfold isF at h
  unfold isA isW
  cases hl : isL x with
  | true => rfl
  | false =>
    rw [hl, Bool.false_or, Bool.or_eq_true, beq_iff_eq, beq_iff_eq] at h
    rcases h with rfl | rfl <;> rfl

/-- Behind a tag's name. -/
def nameL (l : List UInt8) (i : Nat) : Option Nat := if upL isL l i = i then none else some (upL isN l (upL isL l i))
/-- Behind the next of a byte. -/
def quoL (l : List UInt8) (i : Nat) (c : UInt8) : Option Nat := if Lib.indexByte (l.drop i) c < 0 then none else some (i + (Lib.indexByte (l.drop i) c).toNat + 1)
/-- Behind a value. -/
def valL (l : List UInt8) (i : Nat) : Option Nat :=
  if l[i]? = some 39 then quoL l (i + 1) 39 else if l[i]? = some 34 then quoL l (i + 1) 34 else if upL isV l i = i then none else some (upL isV l i)
/-- Behind an attribute's value, if it has one. -/
def valueL (l : List UInt8) (k : Nat) : Option Nat := if l[upL isS l k]? = some 61 then valL l (upL isS l (upL isS l k + 1)) else some k
/-- Does an attribute begin here? -/
def isAtt (l : List UInt8) (i : Nat) : Bool := decide (upL isS l i ≠ i ∧ upL isF l (upL isS l i) ≠ upL isS l i)
/-- Behind an attribute. -/
def attE (l : List UInt8) (i : Nat) : Option Nat := valueL l (upL isA l (upL isF l (upL isS l i)))
/-- Behind all attributes. -/
def attsF : Nat → List UInt8 → Nat → Option Nat
  | 0, _, i => some i
  | n + 1, l, i => if isAtt l i then (match attE l i with
    | none => none
    | some k => attsF n l k) else some i
def attsL (l : List UInt8) (i : Nat) : Option Nat := attsF (l.length + 1 - i) l i
/-- Past a byte, if it stands here. -/
def past (l : List UInt8) (c : UInt8) (i : Nat) : Nat := if l[i]? = some c then i + 1 else i
/-- Past a byte that must stand here. -/
def needL (l : List UInt8) (c : UInt8) (i : Nat) : Option Nat := if l[i]? = some c then some (i + 1) else none
def tailL (l : List UInt8) (k : Nat) : Option Nat := needL l 62 (past l 47 (upL isS l k))
def openO (l : List UInt8) (i : Nat) : Option Nat := match nameL l i with
  | none => none
  | some k => match attsL l k with
    | none => none
    | some j => tailL l j
def closeO (l : List UInt8) (i : Nat) : Option Nat := match nameL l i with
  | none => none
  | some k => needL l 62 (upL isS l k)
def tagO (l : List UInt8) : Option Nat := if l[0]? = some 60 then (if l[1]? = some 47 then closeO l 2 else openO l 1) else none
/-- How many bytes a tag has. -/
def openL (l : List UInt8) : Nat := (tagO l).getD 0

theorem idx_bd (l : List UInt8) (c : UInt8) (h : 0 ≤ Lib.indexByte l c) : (Lib.indexByte l c).toNat < l.length ∧ l[(Lib.indexByte l c).toNat]? = some c ∧ ∀ k, k < (Lib.indexByte l c).toNat → l[k]? ≠ some c := by
  have h1 := Lib.indexByte_some (l := l) (c := c) (o := (Lib.indexByte l c).toNat) (by omega)
  exact ⟨(List.getElem?_eq_some_iff.1 h1.1).1, h1.1, h1.2⟩
theorem quo_bd (l : List UInt8) (i : Nat) (c : UInt8) (k : Nat) (h : quoL l i c = some k) : i < k ∧ k ≤ l.length := by
  unfold quoL at h
  split at h
  · cases h
  · cases h
    have := idx_bd (l.drop i) c (by omega)
    rw [List.length_drop] at this
    omega
theorem val_bd (l : List UInt8) (i : Nat) (k : Nat) (h : valL l i = some k) : i < k ∧ k ≤ l.length := by
  unfold valL at h
  split at h
  · have := quo_bd l _ _ _ h; omega
  · split at h
    · have := quo_bd l _ _ _ h; omega
    · split at h
      · cases h
      · rename_i hne
        cases h
        have h1 := upL_ge isV l i
        have h2 : i < l.length := by
          refine Nat.lt_of_not_le fun hge => hne (upL_stop _ _ _ fun x hx => ?_)
          rw [List.getElem?_eq_none hge] at hx
          cases hx
        have h3 := upL_bd isV l i (by omega)
        omega
theorem value_bd (l : List UInt8) (i : Nat) (hi : i ≤ l.length) (k : Nat) (h : valueL l i = some k) : i ≤ k ∧ k ≤ l.length := by
  unfold valueL at h
  split at h
  · rename_i h61
    have h0 := (List.getElem?_eq_some_iff.1 h61).1
    have h1 := val_bd l _ k h
    have h2 := upL_ge isS l i
    have h3 := upL_ge isS l (upL isS l i + 1)
    omega
  · cases h
    omega
theorem att_bd (l : List UInt8) (i : Nat) (hi : i ≤ l.length) (ha : isAtt l i = true) (k : Nat) (h : attE l i = some k) : i < k ∧ k ≤ l.length := by
  unfold isAtt at ha
  rw [decide_eq_true_iff] at ha
  have h1 := upL_bd isS l i hi
  have h2 := upL_bd isF l _ h1.2
  have h3 := upL_bd isA l _ h2.2
  have h4 := value_bd l _ h3.2 k h
  omega
theorem attsF_more (l : List UInt8) : ∀ (n m i : Nat), i ≤ l.length → l.length < n + i → l.length < m + i → attsF n l i = attsF m l i
  | 0, m, i, hi, h1, h2 => by omega
  | n + 1, 0, i, hi, h1, h2 => by omega
  | n + 1, m + 1, i, hi, h1, h2 => by
    unfold attsF
    cases ha : isAtt l i with
    | false => rfl
    | true =>
      simp only [↓reduceIte]
      cases he : attE l i with
      | none => rfl
      | some k =>
        have := att_bd l i hi ha k he
        exact attsF_more l n m k this.2 (by omega) (by omega)
theorem atts_stop (l : List UInt8) (i : Nat) (hi : i ≤ l.length) (ha : isAtt l i = false) : attsL l i = some i := by
  unfold attsL
  rw [show l.length + 1 - i = (l.length - i) + 1 from by omega, attsF, ha]
  rfl
theorem atts_bad (l : List UInt8) (i : Nat) (hi : i ≤ l.length) (ha : isAtt l i = true) (he : attE l i = none) : attsL l i = none := by
  unfold attsL
  rw [show l.length + 1 - i = (l.length - i) + 1 from by omega, attsF, ha, he]
  rfl
theorem atts_step (l : List UInt8) (i : Nat) (hi : i ≤ l.length) (ha : isAtt l i = true) (k : Nat) (he : attE l i = some k) : attsL l i = attsL l k := by
  have hb := att_bd l i hi ha k he
  unfold attsL
  rw [show l.length + 1 - i = (l.length - i) + 1 from by omega, attsF, ha, he]
  exact attsF_more l _ _ k hb.2 (by omega) (by omega)
theorem atts_bd (l : List UInt8) (i : Nat) (hi : i ≤ l.length) (k : Nat) (h : attsL l i = some k) : i ≤ k ∧ k ≤ l.length ∧ isAtt l k = false := by
  induction hn : l.length - i using Nat.strongRecOn generalizing i with
  | ind n ih =>
    cases ha : isAtt l i with
    | false =>
      rw [atts_stop l i hi ha] at h
      cases h
      exact ⟨Nat.le_refl _, hi, ha⟩
    | true =>
      cases he : attE l i with
      | none => rw [atts_bad l i hi ha he] at h; cases h
      | some j =>
        have hb := att_bd l i hi ha j he
        rw [atts_step l i hi ha j he] at h
        have := ih (l.length - j) (by omega) j hb.2 h rfl
        exact ⟨by omega, this.2⟩
theorem name_bd (l : List UInt8) (i : Nat) (k : Nat) (h : nameL l i = some k) : i < k ∧ k ≤ l.length := by
  unfold nameL at h
  split at h
  · cases h
  · rename_i hne
    cases h
    have h1 := upL_ge isL l i
    have h2 : i < l.length := by
      refine Nat.lt_of_not_le fun hge => hne (upL_stop _ _ _ fun x hx => ?_)
      rw [List.getElem?_eq_none hge] at hx
      cases hx
    have h3 := upL_bd isL l i (by omega)
    have h4 := upL_bd isN l _ h3.2
    omega
theorem need_bd (l : List UInt8) (c : UInt8) (i k : Nat) (h : needL l c i = some k) : k = i + 1 ∧ k ≤ l.length := by
  unfold needL at h
  split at h
  · rename_i hc
    cases h
    exact ⟨rfl, (List.getElem?_eq_some_iff.1 hc).1⟩
  · cases h
theorem past_bd (l : List UInt8) (c : UInt8) (i : Nat) (hi : i ≤ l.length) : i ≤ past l c i ∧ past l c i ≤ l.length := by
  unfold past
  split
  · rename_i hc
    have := (List.getElem?_eq_some_iff.1 hc).1
    omega
  · omega
end Go.Proofs.YtdnnjakggopdoaaDoor
