/-
  PROVED: plain facts on what a line's beginning may be a mark of (rows of one byte, blanks at the ends, a heading's content, a fence, an item), over lists of bytes; no program in it. Conditions: none.
-/
import Derived.Lib.Strings
import Derived.Lib.SlTrimSet
import Derived.Lib.IndexBytes
import Derived.Lib.Bytealg
namespace Go.Proofs.YtinmefdcgiiejaaDoor
set_option linter.unusedVariables false

/-- A blank. -/
def isB (b : UInt8) : Bool := b == 32 || b == 9
/-- How many of a byte stand at the beginning. -/
def cnt (l : List UInt8) (c : UInt8) : Nat := (l.takeWhile (· == c)).length
/-- Without the last bytes of a kind. -/
def trimR (p : UInt8 → Bool) (l : List UInt8) : List UInt8 := (l.reverse.dropWhile p).reverse
/-- Where the bytes of a kind end that go on at i. -/
def upL (p : UInt8 → Bool) (l : List UInt8) (i : Nat) : Nat := i + ((l.drop i).takeWhile p).length
/-- Where the bytes of a kind begin that end at hi, not ahead of lo. -/
def dnL (p : UInt8 → Bool) (l : List UInt8) (lo hi : Nat) : Nat := lo + (trimR p ((l.take hi).drop lo)).length

theorem trimR_nil (p : UInt8 → Bool) : trimR p [] = [] := rfl
theorem trimR_snoc (p : UInt8 → Bool) (l : List UInt8) (x : UInt8) : trimR p (l ++ [x]) = if p x then trimR p l else l ++ [x] := by
  unfold trimR
  rw [List.reverse_append, List.reverse_singleton, List.singleton_append, List.dropWhile_cons]
  split <;> simp
theorem trimR_all (p : UInt8 → Bool) : ∀ (m l : List UInt8), m.all p = true → trimR p (l ++ m) = trimR p l
  | [], l, _ => by rw [List.append_nil]
  | x :: m, l, h => by
    rw [List.all_cons, Bool.and_eq_true] at h
    have e : l ++ x :: m = (l ++ [x]) ++ m := by simp
    rw [e, trimR_all p m (l ++ [x]) h.2, trimR_snoc, if_pos h.1]
theorem trimR_take (p : UInt8 → Bool) (l : List UInt8) : trimR p l = l.take (trimR p l).length := by
  have h : l.reverse.dropWhile p <:+ l.reverse := List.dropWhile_suffix p
  have h2 : trimR p l <+: l := by
    unfold trimR
    rw [← List.reverse_suffix, List.reverse_reverse]
    exact h
  exact List.prefix_iff_eq_take.1 h2
theorem trimR_le (p : UInt8 → Bool) (l : List UInt8) : (trimR p l).length ≤ l.length := by
  have h := congrArg List.length (trimR_take p l)
  rw [List.length_take] at h
  omega
/-- The last byte that is kept is of another kind. -/
theorem trimR_last (p : UInt8 → Bool) (l : List UInt8) (x : UInt8) (h : (trimR p l).getLast? = some x) : p x = false := by
  unfold trimR at h
  rw [List.getLast?_reverse] at h
  generalize l.reverse = m at h
  induction m with
  | nil => simp at h
  | cons a m ih =>
    rw [List.dropWhile_cons] at h
    split at h
    · exact ih h
    · rename_i hn
      simp at h
      subst h
      simpa using hn
theorem trimR_same (p : UInt8 → Bool) (l : List UInt8) (h : ∀ x, l.getLast? = some x → p x = false) : trimR p l = l := by
  rcases List.eq_nil_or_concat l with rfl | ⟨m, x, rfl⟩
  · rfl
  · rw [List.concat_eq_append] at h ⊢
    rw [trimR_snoc, if_neg]
    rw [h x (by simp)]
    decide
theorem trimR_again (p : UInt8 → Bool) (l : List UInt8) : trimR p (trimR p l) = trimR p l := trimR_same p _ fun x hx => trimR_last p l x hx
theorem dropWhile_all (p : UInt8 → Bool) : ∀ m : List UInt8, m.dropWhile p = [] → m.all p = true
  | [], _ => rfl
  | x :: m, h => by
    rw [List.dropWhile_cons] at h
    split at h
    · rename_i hx
      rw [List.all_cons, hx, dropWhile_all p m h]
      rfl
    · simp at h
theorem trimR_empty (p : UInt8 → Bool) (l : List UInt8) : trimR p l = [] ↔ l.all p = true := by
  constructor
  · intro h
    unfold trimR at h
    have h2 : l.reverse.dropWhile p = [] := by simpa using h
    have h3 := dropWhile_all p _ h2
    rw [List.all_eq_true] at h3 ⊢
    exact fun x hx => h3 x (by simpa using hx)
  · intro h
    have := trimR_all p l [] h
    rwa [List.nil_append, trimR_nil] at this

theorem upL_step (p : UInt8 → Bool) (l : List UInt8) (j : Nat) (x : UInt8) (h : l[j]? = some x) (hp : p x = true) : upL p l (j + 1) = upL p l j := by
  obtain ⟨hj, rfl⟩ := List.getElem?_eq_some_iff.1 h
  unfold upL
  rw [List.drop_eq_getElem_cons hj, List.takeWhile_cons, if_pos hp, List.length_cons]
  omega
theorem upL_stop (p : UInt8 → Bool) (l : List UInt8) (j : Nat) (h : ∀ x, l[j]? = some x → p x = false) : upL p l j = j := by
  unfold upL
  by_cases hj : j < l.length
  · rw [List.drop_eq_getElem_cons hj, List.takeWhile_cons, if_neg (by rw [h _ (List.getElem?_eq_getElem hj)]; decide)]
    rfl
  · rw [List.drop_of_length_le (by omega)]
    rfl
theorem upL_bd (p : UInt8 → Bool) (l : List UInt8) (j : Nat) (h : j ≤ l.length) : j ≤ upL p l j ∧ upL p l j ≤ l.length := by
  unfold upL
  have := (List.takeWhile_sublist p (l := l.drop j)).length_le
  rw [List.length_drop] at this
  omega
theorem drop_upL (p : UInt8 → Bool) (l : List UInt8) (j : Nat) : l.drop (upL p l j) = (l.drop j).dropWhile p := by
  unfold upL
  rw [← List.drop_drop]
  generalize l.drop j = m
  have h := List.takeWhile_append_dropWhile (p := p) (l := m)
  have h2 : (m.takeWhile p ++ m.dropWhile p).drop (m.takeWhile p).length = m.dropWhile p := List.drop_left' rfl
  rwa [h] at h2
theorem cnt_up (l : List UInt8) (c : UInt8) : cnt l c = upL (· == c) l 0 := by simp [cnt, upL]
theorem cnt_le (l : List UInt8) (c : UInt8) : cnt l c ≤ l.length := by rw [cnt_up]; exact (upL_bd _ l 0 (Nat.zero_le _)).2
theorem upL_len (p : UInt8 → Bool) (l : List UInt8) (j : Nat) (h : j ≤ l.length) : upL p l j = l.length - ((l.drop j).dropWhile p).length := by
  have h1 := congrArg List.length (drop_upL p l j)
  have h2 := upL_bd p l j h
  rw [List.length_drop] at h1
  omega

theorem take_snoc (l : List UInt8) (j lo : Nat) (x : UInt8) (h : l[j]? = some x) (hl : lo ≤ j) : (l.take (j + 1)).drop lo = (l.take j).drop lo ++ [x] := by
  obtain ⟨hj, rfl⟩ := List.getElem?_eq_some_iff.1 h
  rw [List.take_succ_eq_append_getElem hj, List.drop_append_of_le_length (by rw [List.length_take]; omega)]
theorem dnL_step (p : UInt8 → Bool) (l : List UInt8) (lo j : Nat) (x : UInt8) (hl : lo ≤ j) (h : l[j]? = some x) (hp : p x = true) : dnL p l lo j = dnL p l lo (j + 1) := by
  unfold dnL
  rw [take_snoc l j lo x h hl, trimR_snoc, if_pos hp]
theorem dnL_stop (p : UInt8 → Bool) (l : List UInt8) (lo j : Nat) (x : UInt8) (hl : lo ≤ j) (h : l[j]? = some x) (hp : p x = false) : dnL p l lo (j + 1) = j + 1 := by
  unfold dnL
  obtain ⟨hj, _⟩ := List.getElem?_eq_some_iff.1 h
  rw [take_snoc l j lo x h hl, trimR_snoc, if_neg (by rw [hp]; decide), List.length_append, List.length_drop, List.length_take, List.length_singleton]
  omega
theorem dnL_end (p : UInt8 → Bool) (l : List UInt8) (lo : Nat) : dnL p l lo lo = lo := by
  unfold dnL
  rw [List.drop_of_length_le (by rw [List.length_take]; omega)]
  rfl
theorem dnL_bd (p : UInt8 → Bool) (l : List UInt8) (lo hi : Nat) (h : lo ≤ hi) (h2 : hi ≤ l.length) : lo ≤ dnL p l lo hi ∧ dnL p l lo hi ≤ hi := by
  unfold dnL
  have := trimR_le p ((l.take hi).drop lo)
  rw [List.length_drop, List.length_take] at this
  omega
theorem take_dnL (p : UInt8 → Bool) (l : List UInt8) (lo hi : Nat) (h : lo ≤ hi) (h2 : hi ≤ l.length) : (l.take (dnL p l lo hi)).drop lo = trimR p ((l.take hi).drop lo) := by
  have hb := dnL_bd p l lo hi h h2
  rw [trimR_take p ((l.take hi).drop lo), List.take_drop]
  unfold dnL at hb ⊢
  rw [List.take_take, Nat.min_eq_left hb.2]

/-! The seven answers. -/
def ruleL : List UInt8 → Bool
  | [] => false
  | x :: l => (x == 42 || x == 45 || x == 95) && (x :: l).all (fun b => b == x || isB b) && decide (3 ≤ (x :: l).count x)
def aloneL (l : List UInt8) (c : UInt8) : Nat := if (l.drop (cnt l c)).all isB then cnt l c else 0
def underL (l : List UInt8) : Nat := if 0 < aloneL l 61 then 1 else if 0 < aloneL l 45 then 2 else 0
def closesL (l : List UInt8) (c : UInt8) (n : Int) : Bool := decide (1 ≤ n) && decide (n ≤ (aloneL l c : Int))
/-- Is a text's first byte one of these? -/
def begL (l cs : List UInt8) : Bool := match l with
  | [] => false
  | x :: _ => cs.contains x
def quoteL (l : List UInt8) : Bool := begL l [62]
/-- Is there nothing, or a blank? -/
def endsL : List UInt8 → Bool
  | [] => true
  | x :: _ => isB x
/-- Is a text's last byte none of the blanks? -/
def firm (l : List UInt8) : Bool := match l.getLast? with
  | none => false
  | some x => !isB x
def contL (l : List UInt8) : List UInt8 := if firm (trimR (· == 35) l) then l else trimR isB (trimR (· == 35) l)
def isHead (l : List UInt8) : Prop := 1 ≤ cnt l 35 ∧ cnt l 35 ≤ 6 ∧ endsL (l.drop (cnt l 35)) = true
instance (l : List UInt8) : Decidable (isHead l) := by unfold isHead; infer_instance
/-- What stands behind a heading's marks and the blanks. -/
def behL (l : List UInt8) : List UInt8 := (l.drop (cnt l 35)).dropWhile isB
def headL (l : List UInt8) : Nat × Nat × Nat := if isHead l then (cnt l 35, l.length - (behL l).length, l.length - (behL l).length + (contL (trimR isB (behL l))).length) else (0, 0, 0)
/-- Without blanks at the ends. -/
def trimB (l : List UInt8) : List UInt8 := (trimR isB l).dropWhile isB
def isFence (l : List UInt8) (x : UInt8) : Prop := (x = 96 ∨ x = 126) ∧ 3 ≤ cnt l x ∧ ¬ (x = 96 ∧ 96 ∈ trimB (l.drop (cnt l x)))
instance (l : List UInt8) (x : UInt8) : Decidable (isFence l x) := by unfold isFence; infer_instance
def fenceL (l : List UInt8) : UInt8 × Nat × List UInt8 := match l with
  | [] => (0, 0, [])
  | x :: m => if isFence (x :: m) x then (x, cnt (x :: m) x, trimB ((x :: m).drop (cnt (x :: m) x))) else (0, 0, [])
def isD (b : UInt8) : Bool := decide (48 ≤ b.toNat) && decide (b.toNat ≤ 57)
/-- How many digits, ten at most. -/
def digs (l : List UInt8) : Nat := min 10 (upL isD l 0)
/-- The number of the first k digits. -/
def val (l : List UInt8) (k : Nat) : Nat := (l.take k).foldl (fun v b => v * 10 + (b.toNat - 48)) 0
def isItem (l : List UInt8) : Prop := 1 ≤ digs l ∧ digs l ≤ 9 ∧ begL (l.drop (digs l)) [46, 41] = true ∧ endsL (l.drop (digs l + 1)) = true
instance (l : List UInt8) : Decidable (isItem l) := by unfold isItem; infer_instance
def itemL (l : List UInt8) : UInt8 × Int × Nat :=
  if begL l [45, 43, 42] = true ∧ endsL (l.drop 1) = true then (l.headD 0, -1, 1)
  else if isItem l then ((l.drop (digs l)).headD 0, val l (digs l), digs l + 1) else (0, 0, 0)

/-! The document's own heading. -/
def refHeadL (l : List UInt8) : Nat × Nat × Nat :=
  if isHead l then
    let f := upL isB l (cnt l 35)
    let t := dnL isB l f l.length
    let k := dnL (· == 35) l f t
    if k < t ∧ firm ((l.take k).drop f) = false then (cnt l 35, f, dnL isB l f k) else (cnt l 35, f, t)
  else (0, 0, 0)
theorem refHead_eq (l : List UInt8) : refHeadL l = headL l := by
  unfold refHeadL headL
  by_cases hh : isHead l
  · rw [if_pos hh, if_pos hh]
    have hn := cnt_le l 35
    have hf := upL_bd isB l (cnt l 35) hn
    have hd : l.drop (upL isB l (cnt l 35)) = behL l := drop_upL isB l _
    have hfl : upL isB l (cnt l 35) = l.length - (behL l).length := upL_len isB l _ hn
    simp only []
    rw [← hfl]
    generalize upL isB l (cnt l 35) = f at *
    have ht := dnL_bd isB l f l.length hf.2 (Nat.le_refl _)
    have hT := take_dnL isB l f l.length hf.2 (Nat.le_refl _)
    rw [List.take_length, hd] at hT
    have htl : dnL isB l f l.length = f + (trimR isB (behL l)).length := by unfold dnL; rw [List.take_length, hd]
    generalize dnL isB l f l.length = t at *
    have hk := dnL_bd (· == 35) l f t ht.1 ht.2
    have hK := take_dnL (· == 35) l f t ht.1 ht.2
    have hkl : dnL (· == 35) l f t = f + (trimR (· == 35) (trimR isB (behL l))).length := by
      have := congrArg List.length hK
      rw [hT, List.length_drop, List.length_take] at this
      omega
    rw [hT] at hK
    generalize dnL (· == 35) l f t = k at *
    have hz : dnL isB l f k = f + (trimR isB (trimR (· == 35) (trimR isB (behL l)))).length := by unfold dnL; rw [hK]
    rw [hz, hK]
    unfold contL
    generalize behL l = b at *
    by_cases hfm : firm (trimR (· == 35) (trimR isB b)) = true
    · rw [if_neg (by rw [hfm]; simp), if_pos hfm, ← htl]
    · rw [if_neg hfm]
      by_cases hkt : k < t
      · rw [if_pos ⟨hkt, by simpa using hfm⟩]
      · rw [if_neg (by omega)]
        have e : trimR (· == 35) (trimR isB b) = trimR isB b := by
          rw [trimR_take (· == 35) (trimR isB b)]
          exact List.take_of_length_le (by omega)
        rw [e, trimR_again, htl]
  · rw [if_neg hh, if_neg hh]
end Go.Proofs.YtinmefdcgiiejaaDoor
