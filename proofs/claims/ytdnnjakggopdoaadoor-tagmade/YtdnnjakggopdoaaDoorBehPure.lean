/-
  PROVED: plain facts on HTML at a text's beginning: it stands between "<" and ">", and what stands behind it makes no difference. No program in it. Conditions: none.
-/
import Derived.Test.YtdnnjakggopdoaaDoorRefRaw
import Derived.Test.YtdnnjakggopdoaaDoorKind
namespace Go.Proofs.YtdnnjakggopdoaaDoor
set_option linter.unusedVariables false

/-- The first n bytes of both are the same ones. -/
def Agr (n : Nat) (l m : List UInt8) : Prop := ∀ i, i < n → l[i]? = m[i]?
theorem agr_cut (l m : List UInt8) (n : Nat) (h : n ≤ l.length) : Agr n l (l.take n ++ m) := fun i hi => by
  rw [List.getElem?_append_left (by rw [List.length_take]; omega), List.getElem?_take, if_pos hi]
theorem Agr.le {n k : Nat} {l m : List UInt8} (h : Agr n l m) (hk : k ≤ n) : Agr k l m := fun i hi => h i (by omega)
theorem agr_up (p : UInt8 → Bool) (l m : List UInt8) (i n : Nat) (h : Agr n l m) (hn : n ≤ l.length) (hk : upL p l i < n) : upL p m i = upL p l i := by
  have hi := upL_ge p l i
  refine upL_is p m i _ hi (fun j h1 h2 => ?_) (fun x hx => ?_)
  · obtain ⟨x, hx, hp⟩ := upL_in p l i j h1 h2
    exact ⟨x, by rw [← h j (by omega)]; exact hx, hp⟩
  · rw [← h _ hk] at hx
    exact upL_end p l i x hx
theorem agr_at {l m : List UInt8} {n i : Nat} {c : UInt8} (h : Agr n l m) (hi : i < n) : (l[i]? = some c) ↔ (m[i]? = some c) := by rw [h i hi]
theorem quo_parts {l : List UInt8} {i k : Nat} {c : UInt8} (h : quoL l i c = some k) : ∃ j, k = j + 1 ∧ i ≤ j ∧ l[j]? = some c ∧ ∀ t, i ≤ t → t < j → l[t]? ≠ some c := by
  unfold quoL at h
  split at h
  · cases h
  · rename_i hn
    obtain ⟨i1, i2, i3⟩ := idx_bd (l.drop i) c (by omega)
    refine ⟨i + (Lib.indexByte (l.drop i) c).toNat, ?_, by omega, ?_, fun t h1 h2 => ?_⟩
    · exact (Option.some.inj h).symm
    · rw [List.getElem?_drop] at i2; exact i2
    · have := i3 (t - i) (by omega)
      rw [List.getElem?_drop, Nat.add_sub_cancel' h1] at this
      exact this
theorem agr_quo (l m : List UInt8) (i n k : Nat) (c : UInt8) (h : Agr n l m) (hk : k ≤ n) (hq : quoL l i c = some k) : quoL m i c = some k := by
  obtain ⟨j, rfl, h1, h2, h3⟩ := quo_parts hq
  exact quo_is m i j c h1 (fun t h4 h5 => by rw [← h t (by omega)]; exact h3 t h4 h5) (by rw [← h j (by omega)]; exact h2)
theorem agr_val (l m : List UInt8) (i n k : Nat) (h : Agr n l m) (hn : n ≤ l.length) (hk : k < n) (hv : valL l i = some k) : valL m i = some k := by
  have hb := val_bd l i k hv
  have hi := h i (by omega)
  unfold valL at hv ⊢
  rw [← hi]
  split
  · rename_i h1
    rw [if_pos h1] at hv
    exact agr_quo l m _ n k _ h (by omega) hv
  · rename_i h1
    rw [if_neg h1] at hv
    split
    · rename_i h2
      rw [if_pos h2] at hv
      exact agr_quo l m _ n k _ h (by omega) hv
    · rename_i h2
      rw [if_neg h2] at hv
      split at hv
      · cases hv
      · rename_i h3
        have e := Option.some.inj hv
        rw [agr_up isV l m i n h hn (by omega), if_neg h3]
        exact hv
theorem agr_value (l m : List UInt8) (i n k : Nat) (h : Agr n l m) (hn : n ≤ l.length) (hi : i ≤ l.length) (hk : upL isS l k < n) (hv : valueL l i = some k) : valueL m i = some k := by
  have hb := value_bd l i hi k hv
  have hkk := upL_ge isS l k
  unfold valueL at hv ⊢
  split at hv
  · rename_i h61
    have h1 := (List.getElem?_eq_some_iff.1 h61).1
    have hb2 := val_bd l _ k hv
    have hb3 := upL_ge isS l (upL isS l i + 1)
    rw [agr_up isS l m i n h hn (by omega), ← h _ (by omega), if_pos h61, agr_up isS l m _ n h hn (by omega)]
    exact agr_val l m _ n k h hn (by omega) hv
  · rename_i h61
    obtain rfl := Option.some.inj hv
    rw [agr_up isS l m i n h hn hk, ← h _ hk, if_neg h61]
theorem agr_isAtt (l m : List UInt8) (i n : Nat) (h : Agr n l m) (hn : n ≤ l.length) (ha : isAtt l i = false) (hk : upL isS l i < n) : isAtt m i = false := by
  unfold isAtt at ha ⊢
  rw [decide_eq_false_iff_not] at ha ⊢
  rw [agr_up isS l m i n h hn hk]
  rintro ⟨h1, h2⟩
  apply ha
  refine ⟨h1, fun h3 => h2 ?_⟩
  rw [agr_up isF l m _ n h hn (by omega)]
  exact h3
theorem agr_att (l m : List UInt8) (i n k : Nat) (h : Agr n l m) (hn : n ≤ l.length) (hi : i ≤ l.length) (ha : isAtt l i = true) (he : attE l i = some k) (hk : upL isS l k < n) : isAtt m i = true ∧ attE m i = some k := by
  unfold attE at he
  have hkk := upL_ge isS l k
  have b1 := upL_bd isS l i hi
  have b2 := upL_bd isF l _ b1.2
  have b3 := upL_bd isA l _ b2.2
  have b4 := value_bd l _ b3.2 k he
  have e1 := agr_up isS l m i n h hn (by omega)
  have e2 := agr_up isF l m _ n h hn (show upL isF l (upL isS l i) < n by omega)
  have e3 := agr_up isA l m _ n h hn (show upL isA l (upL isF l (upL isS l i)) < n by omega)
  unfold isAtt at ha ⊢
  unfold attE
  rw [e1, e2, e3]
  exact ⟨ha, agr_value l m _ n k h hn b3.2 hk he⟩
theorem agr_atts (l m : List UInt8) (n : Nat) (h : Agr n l m) (hn : n ≤ l.length) (hm : n ≤ m.length) (k : Nat) (hk : upL isS l k < n) : ∀ (d i : Nat), l.length - i ≤ d → i ≤ l.length → attsL l i = some k → attsL m i = some k := by
  intro d
  induction d with
  | zero =>
    intro i hd hi hs
    have hb := atts_bd l i hi k hs
    have hkk := upL_ge isS l k
    omega
  | succ d ih =>
    intro i hd hi hs
    have hb := atts_bd l i hi k hs
    have hkk := upL_ge isS l k
    cases ha : isAtt l i with
    | false =>
      rw [atts_stop l i hi ha] at hs
      obtain rfl := Option.some.inj hs
      exact atts_stop m i (by omega) (agr_isAtt l m i n h hn ha hk)
    | true =>
      cases he : attE l i with
      | none => rw [atts_bad l i hi ha he] at hs; cases hs
      | some j =>
        have hj := att_bd l i hi ha j he
        rw [atts_step l i hi ha j he] at hs
        have hbj := atts_bd l j hj.2 k hs
        have hjs : upL isS l j < n := by
          by_cases hjk : j = k
          · rw [hjk]; exact hk
          · -- an attribute follows at j: its blanks end ahead of k
            cases haj : isAtt l j with
            | false =>
              rw [atts_stop l j hj.2 haj] at hs
              exact absurd (Option.some.inj hs) hjk
            | true =>
              cases hej : attE l j with
              | none => rw [atts_bad l j hj.2 haj hej] at hs; cases hs
              | some t =>
                have ht := att_bd l j hj.2 haj t hej
                rw [atts_step l j hj.2 haj t hej] at hs
                have hbt := atts_bd l t ht.2 k hs
                have c1 := upL_bd isS l j hj.2
                have c2 := upL_bd isF l _ c1.2
                have c3 := upL_bd isA l _ c2.2
                have c4 := value_bd l _ c3.2 t (by unfold attE at hej; exact hej)
                omega
        obtain ⟨a1, a2⟩ := agr_att l m i n j h hn hi ha he hjs
        rw [atts_step m i (by omega) a1 j a2]
        exact ih j (by omega) hj.2 hs
theorem agr_name (l m : List UInt8) (i n k : Nat) (h : Agr n l m) (hn : n ≤ l.length) (hk : k < n) (hv : nameL l i = some k) : nameL m i = some k := by
  unfold nameL at hv ⊢
  split at hv
  · cases hv
  · rename_i h1
    have e := Option.some.inj hv
    have g := upL_ge isN l (upL isL l i)
    rw [agr_up isL l m i n h hn (by omega), if_neg h1, agr_up isN l m _ n h hn (by omega), e]
theorem need_at {l : List UInt8} {c : UInt8} {i k : Nat} (h : needL l c i = some k) : k = i + 1 ∧ l[i]? = some c := by
  unfold needL at h
  split at h
  · rename_i hc
    exact ⟨(Option.some.inj h).symm, hc⟩
  · cases h
theorem agr_need (l m : List UInt8) (i n k : Nat) (c : UInt8) (h : Agr n l m) (hk : k ≤ n) (hv : needL l c i = some k) : needL m c i = some k := by
  obtain ⟨rfl, hc⟩ := need_at hv
  unfold needL
  rw [← h i (by omega), if_pos hc]
theorem past_ge (l : List UInt8) (c : UInt8) (i : Nat) : i ≤ past l c i := by unfold past; split <;> omega
theorem agr_open (l m : List UInt8) (n : Nat) (h : Agr n l m) (hn : n ≤ l.length) (hm : n ≤ m.length) (ho : openO l 1 = some n) : openO m 1 = some n := by
  unfold openO at ho ⊢
  cases hnm : nameL l 1 with
  | none => rw [hnm] at ho; cases ho
  | some a =>
    rw [hnm] at ho
    simp only at ho
    have ba := name_bd l 1 a hnm
    cases hat : attsL l a with
    | none => rw [hat] at ho; cases ho
    | some k =>
      rw [hat] at ho
      simp only at ho
      unfold tailL at ho
      have bk := atts_bd l a ba.2 k hat
      have bn := need_at ho
      have g1 := upL_ge isS l k
      have g2 := past_ge l 47 (upL isS l k)
      rw [agr_name l m 1 n a h hn (by omega) hnm]
      simp only
      rw [agr_atts l m n h hn hm k (by omega) _ a (Nat.le_refl _) ba.2 hat]
      simp only
      unfold tailL
      rw [agr_up isS l m k n h hn (by omega)]
      have ep : past m 47 (upL isS l k) = past l 47 (upL isS l k) := by unfold past; rw [← h _ (by omega)]
      rw [ep]
      exact agr_need l m _ n n _ h (Nat.le_refl _) ho
theorem agr_close (l m : List UInt8) (n : Nat) (h : Agr n l m) (hn : n ≤ l.length) (ho : closeO l 2 = some n) : closeO m 2 = some n := by
  unfold closeO at ho ⊢
  cases hnm : nameL l 2 with
  | none => rw [hnm] at ho; cases ho
  | some a =>
    rw [hnm] at ho
    simp only at ho
    have bn := need_at ho
    have g1 := upL_ge isS l a
    rw [agr_name l m 2 n a h hn (by omega) hnm]
    simp only
    rw [agr_up isS l m a n h hn (by omega)]
    exact agr_need l m _ n n _ h (Nat.le_refl _) ho
/-- What an open or closing tag is made of: "<", at least one byte, ">". -/
theorem tag_parts (l : List UInt8) (n : Nat) (h : tagO l = some n) : 3 ≤ n ∧ n ≤ l.length ∧ l[0]? = some 60 ∧ l[n - 1]? = some 62 ∧ ∃ c, l[1]? = some c ∧ (c = 47 ∨ isL c = true) := by
  unfold tagO at h
  split at h
  · rename_i h60
    split at h
    · rename_i h47
      unfold closeO at h
      cases hnm : nameL l 2 with
      | none => rw [hnm] at h; cases h
      | some a =>
        rw [hnm] at h
        simp only at h
        have bn := need_at h
        have bb := need_bd _ _ _ _ h
        have ba := name_bd l 2 a hnm
        have g1 := upL_ge isS l a
        exact ⟨by omega, bb.2, h60, by rw [bn.1, Nat.add_sub_cancel]; exact bn.2, 47, h47, .inl rfl⟩
    · unfold openO at h
      cases hnm : nameL l 1 with
      | none => rw [hnm] at h; cases h
      | some a =>
        rw [hnm] at h
        simp only at h
        have ba := name_bd l 1 a hnm
        cases hat : attsL l a with
        | none => rw [hat] at h; cases h
        | some k =>
          rw [hat] at h
          simp only at h
          unfold tailL at h
          have bk := atts_bd l a ba.2 k hat
          have bn := need_at h
          have bb := need_bd _ _ _ _ h
          have g1 := upL_ge isS l k
          have g2 := past_ge l 47 (upL isS l k)
          have hl : ∃ c, l[1]? = some c ∧ isL c = true := by
            unfold nameL at hnm
            split at hnm
            · cases hnm
            · rename_i hne
              have := upL_ge isL l 1
              exact upL_in isL l 1 1 (Nat.le_refl _) (by omega)
          obtain ⟨c, hc, hcl⟩ := hl
          exact ⟨by omega, bb.2, h60, by rw [bn.1, Nat.add_sub_cancel]; exact bn.2, c, hc, .inr hcl⟩
  · cases h
theorem agr_tag (l m : List UInt8) (n : Nat) (h : Agr n l m) (hn : n ≤ l.length) (hm : n ≤ m.length) (ho : tagO l = some n) : tagO m = some n := by
  have hp := tag_parts l n ho
  unfold tagO at ho ⊢
  rw [← h 0 (by omega), ← h 1 (by omega)]
  split
  · rename_i h60
    rw [if_pos h60] at ho
    split
    · rename_i h47
      rw [if_pos h47] at ho
      exact agr_close l m n h hn ho
    · rename_i h47
      rw [if_neg h47] at ho
      exact agr_open l m n h hn hm ho
  · rename_i h60
    rw [if_neg h60] at ho
    cases ho
end Go.Proofs.YtdnnjakggopdoaaDoor
