/-
  PROVED: plain facts on the columns of a text (how wide a byte is, where blanks end, what is dropped), no program in it. Conditions: none.
-/
import Derived.Lib.Strings
import Derived.Laws.RangeAny
namespace Go.Proofs.Ythlcjlikeipdlaa
set_option linter.unusedVariables false

/-- The byte at a place (0 beyond the end). -/
def bt (s : ByteArray) (p : Nat) : Nat := (s.get! p).toNat
theorem bt_at (s : ByteArray) (p : Nat) (h : p < s.size) : bt s p = (s[p]'h).toNat := by
  have := get_at s p h
  rw [Nat.add_zero] at this
  unfold bt
  rw [this]
theorem bt_lt (s : ByteArray) (p : Nat) : bt s p < 256 := (s.get! p).toNat_lt
/-- How many columns a byte has at a column. -/
def wd (b a : Nat) : Nat := if b = 9 then 4 - a % 4 else 1
theorem wd_bd (b a : Nat) : 1 ≤ wd b a ∧ wd b a ≤ 4 := by unfold wd; split <;> omega
/-- A column that counts. -/
def bnd (c : Int) : Nat := if c < 0 then 0 else if 1073741824 < c then 1073741824 else c.toNat
theorem bnd_le (c : Int) : bnd c ≤ 1073741824 := by unfold bnd; repeat' split
                                                    all_goals omega
theorem bnd_nat (c : Nat) (h : c ≤ 1073741824) : bnd (c : Int) = c := by unfold bnd; rw [if_neg (by omega), if_neg (by omega)]; omega
abbrev blk (s : ByteArray) (p : Nat) : Prop := p < s.size ∧ (bt s p = 32 ∨ bt s p = 9)

/-- The column behind a text that goes on at p, at column a. -/
def wid (s : ByteArray) (p a : Nat) : Nat := if p < s.size then wid s (p + 1) (a + wd (bt s p) a) else a
termination_by s.size - p
theorem wid_in (s : ByteArray) (p a : Nat) (h : p < s.size) : wid s p a = wid s (p + 1) (a + wd (bt s p) a) := by
  conv => lhs; rw [wid, if_pos h]
theorem wid_out (s : ByteArray) (p a : Nat) (h : s.size ≤ p) : wid s p a = a := by rw [wid, if_neg (by omega)]
/-- Where the blanks end that go on at p. -/
def ind (s : ByteArray) (p : Nat) : Nat := if blk s p then ind s (p + 1) else p
termination_by s.size - p
theorem ind_in (s : ByteArray) (p : Nat) (h : blk s p) : ind s p = ind s (p + 1) := by
  conv => lhs; rw [ind, if_pos h]
theorem ind_out (s : ByteArray) (p : Nat) (h : ¬ blk s p) : ind s p = p := by rw [ind, if_neg h]
/-- The column behind the blanks that go on at p, at column a. -/
def col (s : ByteArray) (p a : Nat) : Nat := if blk s p then col s (p + 1) (a + wd (bt s p) a) else a
termination_by s.size - p
theorem col_in (s : ByteArray) (p a : Nat) (h : blk s p) : col s p a = col s (p + 1) (a + wd (bt s p) a) := by
  conv => lhs; rw [col, if_pos h]
theorem col_out (s : ByteArray) (p a : Nat) (h : ¬ blk s p) : col s p a = a := by rw [col, if_neg h]

theorem wid_bd (s : ByteArray) : ∀ (k p a : Nat), s.size - p = k → a + k ≤ wid s p a ∧ wid s p a ≤ a + 4 * k
  | 0, p, a, h => by rw [wid_out s p a (by omega)]; omega
  | k + 1, p, a, h => by
    rw [wid_in s p a (by omega)]
    have h1 := wid_bd s k (p + 1) (a + wd (bt s p) a) (by omega)
    have h2 := wd_bd (bt s p) a
    omega
theorem ind_bd (s : ByteArray) : ∀ (k p : Nat), s.size - p = k → p ≤ ind s p ∧ (p ≤ s.size → ind s p ≤ s.size)
  | 0, p, h => by rw [ind_out s p (by intro hc; have := hc.1; omega)]; omega
  | k + 1, p, h => by
    by_cases hb : blk s p
    · rw [ind_in s p hb]
      have := ind_bd s k (p + 1) (by omega)
      have := hb.1
      omega
    · rw [ind_out s p hb]; omega
theorem ind_le (s : ByteArray) (p : Nat) (h : p ≤ s.size) : ind s p ≤ s.size := (ind_bd s _ p rfl).2 h
theorem col_bd (s : ByteArray) : ∀ (k p a : Nat), s.size - p = k → a ≤ col s p a ∧ col s p a ≤ a + 4 * k
  | 0, p, a, h => by rw [col_out s p a (by intro hc; have := hc.1; omega)]; omega
  | k + 1, p, a, h => by
    by_cases hb : blk s p
    · rw [col_in s p a hb]
      have h1 := col_bd s k (p + 1) (a + wd (bt s p) a) (by omega)
      have h2 := wd_bd (bt s p) a
      omega
    · rw [col_out s p a hb]; omega

theorem bt_head (s : ByteArray) (n p : Nat) (h : p < n) (hn : n ≤ s.size) : bt (s.extract 0 n) p = bt s p := by
  have hz : (s.extract 0 n).size = n := by simp; omega
  rw [bt_at _ p (by omega), bt_at s p (by omega)]
  simp [ByteArray.getElem_extract]
theorem bt_tail (s : ByteArray) (k p : Nat) : bt (s.extract k s.size) p = bt s (k + p) := by
  have hz : (s.extract k s.size).size = s.size - k := by simp
  by_cases h : k + p < s.size
  · rw [bt_at _ p (by omega), bt_at s (k + p) h]
    simp [ByteArray.getElem_extract]
  · unfold bt
    simp only [ByteArray.get!]
    rw [getElem!_neg _ _ (by intro hc; have : p < (s.extract k s.size).size := hc; omega), getElem!_neg _ _ (by intro hc; have : k + p < s.size := hc; omega)]

/-- The width of the blanks alone is the blanks' width. -/
theorem wid_ind (s : ByteArray) (n : Nat) (hn : n ≤ s.size) : ∀ (k p a : Nat), n - p = k → p ≤ n → ind s p = n → wid (s.extract 0 n) p a = col s p a
  | 0, p, a, h, hp, hi => by
    have hz : (s.extract 0 n).size = n := by simp; omega
    have e : p = n := by omega
    rw [wid_out _ p a (by omega)]
    by_cases hb : blk s p
    · exfalso
      rw [ind_in s p hb] at hi
      have := (ind_bd s _ (p + 1) rfl).1
      omega
    · rw [col_out s p a hb]
  | k + 1, p, a, h, hp, hi => by
    have hz : (s.extract 0 n).size = n := by simp; omega
    by_cases hb : blk s p
    · rw [wid_in _ p a (by omega), col_in s p a hb, bt_head s n p (by omega) hn]
      exact wid_ind s n hn k (p + 1) _ (by omega) (by omega) (by rw [← ind_in s p hb]; exact hi)
    · exfalso
      rw [ind_out s p hb] at hi
      omega
theorem blk_tail (s : ByteArray) (k p : Nat) : blk (s.extract k s.size) p ↔ blk s (k + p) := by
  have hz : (s.extract k s.size).size = s.size - k := by simp
  unfold blk
  rw [bt_tail, hz]
  omega
theorem col_tail (s : ByteArray) (k : Nat) : ∀ (m p a : Nat), s.size - (k + p) = m → col (s.extract k s.size) p a = col s (k + p) a
  | 0, p, a, h => by
    have : ¬ blk s (k + p) := by intro hc; have := hc.1; omega
    rw [col_out _ _ a this, col_out _ _ a (fun hc => this ((blk_tail s k p).mp hc))]
  | m + 1, p, a, h => by
    by_cases hb : blk s (k + p)
    · rw [col_in _ _ a hb, col_in _ p a ((blk_tail s k p).mpr hb), bt_tail]
      exact col_tail s k m (p + 1) _ (by omega)
    · rw [col_out _ _ a hb, col_out _ _ a (fun hc => hb ((blk_tail s k p).mp hc))]

/-- What is dropped of a text that goes on at p, at column a: n columns. -/
def drp (s : ByteArray) (p a n : Nat) : Nat × Nat × Nat :=
  if 0 < n ∧ blk s p then (if n < wd (bt s p) a then (p, a + n, wd (bt s p) a - n) else drp s (p + 1) (a + wd (bt s p) a) (n - wd (bt s p) a)) else (p, a, 0)
termination_by s.size - p
theorem drp_out (s : ByteArray) (p a n : Nat) (h : ¬ (0 < n ∧ blk s p)) : drp s p a n = (p, a, 0) := by rw [drp, if_neg h]
theorem drp_part (s : ByteArray) (p a n : Nat) (h : 0 < n ∧ blk s p) (hw : n < wd (bt s p) a) : drp s p a n = (p, a + n, wd (bt s p) a - n) := by rw [drp, if_pos h, if_pos hw]
theorem drp_in (s : ByteArray) (p a n : Nat) (h : 0 < n ∧ blk s p) (hw : ¬ n < wd (bt s p) a) : drp s p a n = drp s (p + 1) (a + wd (bt s p) a) (n - wd (bt s p) a) := by
  conv => lhs; rw [drp, if_pos h, if_neg hw]
/-- The same where l columns of a tab are left that stands at g. -/
def drh (s : ByteArray) (g a l r : Nat) : Nat × Nat × Nat :=
  if l = 0 then drp s g a r else if r < l then (g, a + r, l - r) else drp s (g + 1) (a + l) (r - l)
theorem drh_end (s : ByteArray) (g a l : Nat) : drh s g a l 0 = (g, a, l) := by
  unfold drh
  by_cases h : l = 0
  · subst h; rw [if_pos rfl, drp_out s g a 0 (by omega)]
  · rw [if_neg h, if_pos (by omega)]; rfl
theorem drh_stop (s : ByteArray) (g a r : Nat) (h : ¬ blk s g) : drh s g a 0 r = (g, a, 0) := by
  unfold drh; rw [if_pos rfl, drp_out s g a r (fun hc => h hc.2)]
theorem drh_take (s : ByteArray) (g a r : Nat) (h : blk s g) (hr : 0 < r) : drh s g a 0 r = drh s g a (wd (bt s g) a) r := by
  have := wd_bd (bt s g) a
  unfold drh
  rw [if_pos rfl, if_neg (by omega)]
  by_cases hw : r < wd (bt s g) a
  · rw [if_pos hw, drp_part s g a r ⟨hr, h⟩ hw]
  · rw [if_neg hw, drp_in s g a r ⟨hr, h⟩ hw]
theorem drh_last (s : ByteArray) (g a r : Nat) (hr : 0 < r) : drh s g a 1 r = drh s (g + 1) (a + 1) 0 (r - 1) := by
  unfold drh; rw [if_neg (by omega), if_neg (by omega), if_pos rfl]
theorem drh_step (s : ByteArray) (g a l r : Nat) (hl : 1 < l) (hr : 0 < r) : drh s g a l r = drh s g (a + 1) (l - 1) (r - 1) := by
  unfold drh
  rw [if_neg (show ¬ l = 0 from by omega), if_neg (show ¬ l - 1 = 0 from by omega)]
  by_cases h : r < l
  · rw [if_pos h, if_pos (by omega)]
    simp only [Prod.mk.injEq, true_and]; omega
  · rw [if_neg h, if_neg (by omega), show a + 1 + (l - 1) = a + l from by omega, show r - 1 - (l - 1) = r - l from by omega]

/-- What is dropped and what is left are the whole indent. -/
theorem drp_facts (s : ByteArray) : ∀ (k p a n : Nat), s.size - p = k → p ≤ s.size →
    p ≤ (drp s p a n).1 ∧ (drp s p a n).1 ≤ ind s p ∧ (drp s p a n).2.2 ≤ 3 ∧ (drp s p a n).2.1 = min (a + n) (col s p a) ∧
    (0 < (drp s p a n).2.2 → (drp s p a n).1 < s.size ∧ bt s (drp s p a n).1 = 9 ∧ col s ((drp s p a n).1 + 1) ((drp s p a n).2.1 + (drp s p a n).2.2) = col s p a) ∧
    ((drp s p a n).2.2 = 0 → col s (drp s p a n).1 (drp s p a n).2.1 = col s p a) := by
  intro k
  induction k with
  | zero =>
    intro p a n h hp
    have hb : ¬ blk s p := by intro hc; have := hc.1; omega
    rw [drp_out s p a n (fun hc => hb hc.2), ind_out s p hb, col_out s p a hb]
    exact ⟨Nat.le_refl _, Nat.le_refl _, by simp, by simp, by simp, fun _ => rfl⟩
  | succ k ih =>
    intro p a n h hp
    by_cases hb : blk s p
    · have hc := (col_bd s _ (p + 1) (a + wd (bt s p) a) rfl).1
      have hi := (ind_bd s _ (p + 1) rfl).1
      have hw := wd_bd (bt s p) a
      rw [ind_in s p hb, col_in s p a hb]
      by_cases hn : 0 < n
      · by_cases hlt : n < wd (bt s p) a
        · rw [drp_part s p a n ⟨hn, hb⟩ hlt]
          have h9 : bt s p = 9 := by
            unfold wd at hlt
            split at hlt
            · assumption
            · omega
          refine ⟨Nat.le_refl _, by simp only []; omega, by simp only []; omega, by simp only []; omega, fun _ => ⟨hb.1, h9, ?_⟩, fun hz => ?_⟩
          · simp only []
            rw [show a + n + (wd (bt s p) a - n) = a + wd (bt s p) a from by omega]
          · simp only [] at hz; omega
        · rw [drp_in s p a n ⟨hn, hb⟩ hlt]
          obtain ⟨h1, h2, h3, h4, h5, h6⟩ := ih (p + 1) (a + wd (bt s p) a) (n - wd (bt s p) a) (by omega) hb.1
          refine ⟨by omega, h2, h3, by rw [h4]; omega, h5, h6⟩
      · rw [drp_out s p a n (fun hc => hn hc.1)]
        refine ⟨Nat.le_refl _, by simp only []; omega, by simp, by simp only []; omega, by simp, fun _ => ?_⟩
        simp only []
        rw [col_in s p a hb]
    · rw [drp_out s p a n (fun hc => hb hc.2), ind_out s p hb, col_out s p a hb]
      exact ⟨Nat.le_refl _, Nat.le_refl _, by simp, by simp only []; omega, by simp, fun _ => rfl⟩

theorem app_size (a b : ByteArray) : (a ++ b).size = a.size + b.size := by simp
theorem bt_left (a b : ByteArray) (p : Nat) (h : p < a.size) : bt (a ++ b) p = bt a p := by
  rw [bt_at _ p (by rw [app_size]; omega), bt_at a p h]
  rw [ByteArray.getElem_append_left h]
theorem bt_right (a b : ByteArray) (p : Nat) (h : p < b.size) : bt (a ++ b) (a.size + p) = bt b p := by
  rw [bt_at _ _ (by rw [app_size]; omega), bt_at b p h]
  rw [ByteArray.getElem_append_right (by omega)]
  simp
theorem wid_right (a b : ByteArray) : ∀ (k p c : Nat), b.size - p = k → wid (a ++ b) (a.size + p) c = wid b p c
  | 0, p, c, h => by rw [wid_out _ _ c (by rw [app_size]; omega), wid_out _ _ c (by omega)]
  | k + 1, p, c, h => by
    rw [wid_in _ _ c (by rw [app_size]; omega), wid_in b p c (by omega), bt_right a b p (by omega)]
    exact wid_right a b k (p + 1) _ (by omega)
/-- The columns of a text are those of its parts. -/
theorem wid_app (a b : ByteArray) : ∀ (k p c : Nat), a.size - p = k → p ≤ a.size → wid (a ++ b) p c = wid b 0 (wid a p c)
  | 0, p, c, h, hp => by
    have e : p = a.size + 0 := by omega
    rw [wid_out a p c (by omega), e]
    exact wid_right a b _ 0 c rfl
  | k + 1, p, c, h, hp => by
    rw [wid_in _ _ c (by rw [app_size]; omega), wid_in a p c (by omega), bt_left a b p (by omega)]
    exact wid_app a b k (p + 1) _ (by omega) (by omega)
end Go.Proofs.Ythlcjlikeipdlaa
