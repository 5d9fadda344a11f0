/-
  PROVED: plain facts on labels, destinations, titles and definitions over lists of bytes: what each call answers ('labP', 'destP', 'titleP', 'defL'), how a scan in which a backslash takes a plain mark with it goes on, and that looking no farther than 1000 bytes tells the same label. No program in it. Conditions: none.
-/
import Derived.Test.YtfoheffbapifpaaDoorEscPure
import Derived.Test.YtfoheffbapifpaaDoorFoldAlg
namespace Go.Proofs.YtfoheffbapifpaaDoor
open Go.RowKit
set_option linter.unusedVariables false

/-! ### scans -/
/-- How many bytes stand together at a text's beginning. -/
def stepL (l : List UInt8) : Nat := if escd l = true then 2 else 1
theorem stepL_bd (l : List UInt8) : 1 ≤ stepL l ∧ stepL l ≤ 2 := by unfold stepL; split <;> omega
theorem stepL_len (x : UInt8) (l : List UInt8) : stepL (x :: l) ≤ l.length + 1 := by
  unfold stepL
  cases l with
  | nil => simp [escd]
  | cons y l => split <;> simp
/-- How many bytes stand ahead of the first one that p stops at; the flag: the next byte is taken already. -/
def runG (p : UInt8 → Bool) : Bool → List UInt8 → Nat
  | _, [] => 0
  | true, _ :: l => runG p false l + 1
  | false, x :: l => if p x = true then 0 else runG p (escd (x :: l)) l + 1
theorem run_nil (p : UInt8 → Bool) (k : Bool) : runG p k [] = 0 := by cases k <;> rfl
theorem run_stop (p : UInt8 → Bool) (x : UInt8) (l : List UInt8) (h : p x = true) : runG p false (x :: l) = 0 := by rw [runG, if_pos h]
theorem run_go (p : UInt8 → Bool) (x : UInt8) (l : List UInt8) (h : p x = false) : runG p false (x :: l) = stepL (x :: l) + runG p false ((x :: l).drop (stepL (x :: l))) := by
  rw [runG, if_neg (by rw [h]; simp)]
  cases l with
  | nil => simp [stepL, escd, runG]
  | cons y l =>
    unfold stepL
    cases he : escd (x :: y :: l) with
    | true => rw [runG]; simp; omega
    | false => simp; omega
theorem run_le (p : UInt8 → Bool) : ∀ (l : List UInt8) (k : Bool), runG p k l ≤ l.length
  | [], k => by rw [run_nil]; exact Nat.le_refl _
  | x :: l, true => by rw [runG, List.length_cons]; have := run_le p l false; omega
  | x :: l, false => by
    rw [runG, List.length_cons]
    split
    · omega
    · have := run_le p l (escd (x :: l)); omega
theorem escd_take (x : UInt8) (l : List UInt8) (n : Nat) : escd (x :: l.take (n + 1)) = escd (x :: l) := by
  cases l with
  | nil => rfl
  | cons y l => rfl
theorem run_take (p : UInt8 → Bool) : ∀ (l : List UInt8) (k : Bool) (n : Nat), runG p k l < n → runG p k (l.take n) = runG p k l
  | [], k, n, h => by simp
  | x :: l, k, 0, h => by omega
  | x :: l, true, n + 1, h => by
    rw [runG] at h
    rw [List.take_succ_cons, runG, runG, run_take p l false n (by omega)]
  | x :: l, false, n + 1, h => by
    rw [runG] at h
    rw [List.take_succ_cons, runG, runG]
    by_cases hp : p x = true
    · rw [if_pos hp, if_pos hp]
    · rw [if_neg hp] at h
      rw [if_neg hp, if_neg hp]
      cases n with
      | zero => omega
      | succ n => rw [escd_take, run_take p l _ (n + 1) (by omega)]
theorem run_back (p : UInt8 → Bool) : ∀ (l : List UInt8) (k : Bool) (n : Nat), runG p k (l.take n) < (l.take n).length → runG p k l = runG p k (l.take n)
  | [], k, n, h => by simp
  | x :: l, k, 0, h => by simp at h
  | x :: l, true, n + 1, h => by
    rw [List.take_succ_cons, runG, List.length_cons] at h
    rw [List.take_succ_cons, runG, runG, run_back p l false n (by omega)]
  | x :: l, false, n + 1, h => by
    rw [List.take_succ_cons, runG, List.length_cons] at h
    rw [List.take_succ_cons, runG, runG]
    by_cases hp : p x = true
    · rw [if_pos hp, if_pos hp]
    · rw [if_neg hp] at h
      rw [if_neg hp, if_neg hp]
      cases n with
      | zero => simp at h
      | succ n =>
        rw [escd_take] at h
        rw [escd_take, run_back p l _ (n + 1) (by omega)]

/-- Where a part between two marks stops: at its end, or at one of some others. -/
def stp (e : UInt8) (o : List UInt8) (c : UInt8) : Bool := c == e || o.contains c
/-- What stands ahead of the end, if none of the others does. -/
def encG (e : UInt8) (o : List UInt8) (b : List UInt8) : Option (List UInt8) := if b[runG (stp e o) false b]? = some e then some (b.take (runG (stp e o) false b)) else none
def encO (c e : UInt8) (o : List UInt8) : List UInt8 → Option (List UInt8)
  | [] => none
  | x :: b => if x = c then encG e o b else none
theorem encG_len (e : UInt8) (o b t : List UInt8) (h : encG e o b = some t) : t = b.take t.length ∧ b[t.length]? = some e ∧ t.length < b.length ∧ t.length = runG (stp e o) false b := by
  unfold encG at h
  split at h
  · rename_i h1
    cases h
    have hl := (List.getElem?_eq_some_iff.1 h1).1
    have e1 : (b.take (runG (stp e o) false b)).length = runG (stp e o) false b := by rw [List.length_take]; omega
    rw [e1]
    exact ⟨rfl, h1, hl, rfl⟩
  · cases h
theorem enc_yes (e : UInt8) (o b : List UInt8) (k : Nat) (h : runG (stp e o) false b = k) (he : b[k]? = some e) : encG e o b = some (b.take k) := by unfold encG; rw [h, if_pos he]
theorem enc_no (e : UInt8) (o b : List UInt8) (k : Nat) (h : runG (stp e o) false b = k) (he : b[k]? ≠ some e) : encG e o b = none := by unfold encG; rw [h, if_neg he]
theorem enc_take (e : UInt8) (o b : List UInt8) (n : Nat) : encG e o (b.take n) = (encG e o b).bind fun t => if t.length < n then some t else none := by
  have key : (b.take n)[runG (stp e o) false (b.take n)]? = some e → runG (stp e o) false b = runG (stp e o) false (b.take n) ∧ runG (stp e o) false b < n ∧ b[runG (stp e o) false b]? = some e := by
    intro h
    have hl := (List.getElem?_eq_some_iff.1 h).1
    have hr := run_back (stp e o) b false n hl
    rw [List.length_take] at hl
    refine ⟨hr, by omega, ?_⟩
    rw [hr]
    rw [List.getElem?_take] at h
    split at h
    · exact h
    · cases h
  cases hb : encG e o b with
  | none =>
    rw [Option.bind_none]
    unfold encG at hb ⊢
    split at hb
    · cases hb
    · rename_i h
      rw [if_neg (fun h' => h (key h').2.2)]
  | some t =>
    obtain ⟨h1, h2, h3, h4⟩ := encG_len e o b t hb
    rw [Option.bind_some]
    by_cases hn : t.length < n
    · rw [if_pos hn]
      have hr := run_take (stp e o) b false n (by omega)
      refine (enc_yes e o (b.take n) t.length (by rw [hr, h4]) (by rw [List.getElem?_take, if_pos hn]; exact h2)).trans ?_
      rw [List.take_take, Nat.min_eq_left (by omega), ← h1]
    · rw [if_neg hn]
      unfold encG
      rw [if_neg (fun h' => by have := (key h').2.1; omega)]

/-! ### labels -/
def isBl (c : UInt8) : Bool := c == 32 || c == 9 || c == 10
def isTB (c : UInt8) : Bool := c == 32 || c == 9
def someL (t : List UInt8) : Bool := t.any fun c => !isBl c
def okLab (t : List UInt8) : Bool := someL t && decide (t.length ≤ 999)
def labelL : List UInt8 → Option (List UInt8)
  | [] => none
  | x :: b => if x = 91 then (encG 93 [91] b).bind fun t => if okLab t = true then some t else none else none
def labP (l : List UInt8) : List UInt8 × Nat := match labelL l with
  | some t => (t, t.length + 2)
  | none => ([], 0)
/-- The label told by the first 1001 bytes alone. -/
theorem label_take (l : List UInt8) : labelL l = (encO 91 93 [91] (l.take 1001)).bind fun t => if someL t = true then some t else none := by
  cases l with
  | nil => rfl
  | cons x b =>
    rw [List.take_succ_cons]
    simp only [labelL, encO]
    by_cases hx : x = 91
    · rw [if_pos hx, if_pos hx, enc_take]
      cases encG 93 [91] b with
      | none => rfl
      | some t =>
        rw [Option.bind_some, Option.bind_some]
        unfold okLab
        by_cases h1 : t.length < 1000
        · rw [if_pos h1, Option.bind_some, decide_eq_true (by omega : t.length ≤ 999), Bool.and_true]
        · rw [if_neg h1, Option.bind_none, decide_eq_false (by omega : ¬ t.length ≤ 999), Bool.and_false, if_neg (by simp)]
    · rw [if_neg hx, if_neg hx, Option.bind_none]

/-! ### destinations and titles -/
def toldP : Option (List UInt8) → List UInt8 × Nat
  | some t => (plG 0 t, t.length + 2)
  | none => ([], 0)
/-- The bytes of a destination without marks around it, o parentheses open; none: one is open at the end, or too many are. -/
def bareG : Bool → Nat → List UInt8 → Option Nat
  | _, o, [] => if o = 0 then some 0 else none
  | true, o, _ :: l => (bareG false o l).map (· + 1)
  | false, o, x :: l =>
    if x.toNat ≤ 32 ∨ x = 127 then (if o = 0 then some 0 else none)
    else if x = 40 then (if o = 32 then none else (bareG (escd (x :: l)) (o + 1) l).map (· + 1))
    else if x = 41 then (if o = 0 then some 0 else (bareG (escd (x :: l)) (o - 1) l).map (· + 1))
    else (bareG (escd (x :: l)) o l).map (· + 1)
def bareL (l : List UInt8) : Nat := (bareG false 0 l).getD 0
theorem bare_nil (k : Bool) (o : Nat) : bareG k o [] = if o = 0 then some 0 else none := by cases k <;> rfl
theorem bare_stop (o : Nat) (x : UInt8) (l : List UInt8) (h : x.toNat ≤ 32 ∨ x = 127) : bareG false o (x :: l) = if o = 0 then some 0 else none := by rw [bareG, if_pos h]
theorem bare_step (o : Nat) (x : UInt8) (l : List UInt8) : (bareG (escd (x :: l)) o l).map (· + 1) = (bareG false o ((x :: l).drop (stepL (x :: l)))).map (stepL (x :: l) + ·) := by
  unfold stepL
  cases l with
  | nil => simp [escd, bare_nil, Option.map_if, Nat.add_comm]
  | cons y l =>
    cases he : escd (x :: y :: l) with
    | true =>
      rw [bareG]
      simp only [if_true, List.drop_succ_cons, List.drop_zero, Option.map_map]
      congr 1
      funext n
      simp only [Function.comp]
      omega
    | false =>
      simp only [Bool.false_eq_true, if_false, List.drop_succ_cons, List.drop_zero]
      congr 1
      funext n
      omega
theorem bare_open (o : Nat) (l : List UInt8) (ho : o ≠ 32) : bareG false o (40 :: l) = (bareG false (o + 1) (((40 : UInt8) :: l).drop (stepL (40 :: l)))).map (stepL (40 :: l) + ·) := by
  rw [bareG, if_neg (by decide), if_pos rfl, if_neg ho, bare_step]
theorem bare_many (l : List UInt8) : bareG false 32 (40 :: l) = none := by
  rw [bareG, if_neg (by decide), if_pos rfl, if_pos rfl]
theorem bare_shut (o : Nat) (l : List UInt8) (ho : o ≠ 0) : bareG false o (41 :: l) = (bareG false (o - 1) (((41 : UInt8) :: l).drop (stepL (41 :: l)))).map (stepL (41 :: l) + ·) := by
  rw [bareG, if_neg (by decide), if_neg (by decide), if_pos rfl, if_neg ho, bare_step]
theorem bare_end (l : List UInt8) : bareG false 0 (41 :: l) = some 0 := by
  rw [bareG, if_neg (by decide), if_neg (by decide), if_pos rfl, if_pos rfl]
theorem bare_more (o : Nat) (x : UInt8) (l : List UInt8) (h1 : ¬ (x.toNat ≤ 32 ∨ x = 127)) (h2 : x ≠ 40) (h3 : x ≠ 41) : bareG false o (x :: l) = (bareG false o ((x :: l).drop (stepL (x :: l)))).map (stepL (x :: l) + ·) := by
  rw [bareG, if_neg h1, if_neg h2, if_neg h3, bare_step]
theorem bare_le : ∀ (l : List UInt8) (k : Bool) (o n : Nat), bareG k o l = some n → n ≤ l.length
  | [], k, o, n, h => by
    rw [bare_nil] at h
    split at h
    · cases h; exact Nat.zero_le _
    · cases h
  | x :: l, true, o, n, h => by
    rw [bareG] at h
    obtain ⟨m, hm, rfl⟩ := Option.map_eq_some_iff.1 h
    have := bare_le l _ _ _ hm
    rw [List.length_cons]; omega
  | x :: l, false, o, n, h => by
    rw [List.length_cons]
    rw [bareG] at h
    have key : ∀ k' o', (bareG k' o' l).map (· + 1) = some n → n ≤ l.length + 1 := fun k' o' h => by
      obtain ⟨m, hm, rfl⟩ := Option.map_eq_some_iff.1 h
      have := bare_le l _ _ _ hm
      omega
    split at h
    · split at h
      · cases h; omega
      · cases h
    · split at h
      · split at h
        · cases h
        · exact key _ _ h
      · split at h
        · split at h
          · cases h; omega
          · exact key _ _ h
        · exact key _ _ h
theorem bareL_le (l : List UInt8) : bareL l ≤ l.length := by
  unfold bareL
  cases h : bareG false 0 l with
  | none => exact Nat.zero_le _
  | some n => exact bare_le l _ _ _ h
def destP (l : List UInt8) : List UInt8 × Nat := if l.head? = some 60 then toldP (encG 62 [60, 10] (l.drop 1)) else (plG 0 (l.take (bareL l)), bareL l)
def titleP : List UInt8 → List UInt8 × Nat
  | [] => ([], 0)
  | x :: b => if x = 34 then toldP (encG 34 [] b) else if x = 39 then toldP (encG 39 [] b) else if x = 40 then toldP (encG 41 [40] b) else ([], 0)

/-! ### definitions -/
/-- The blanks at a text's beginning, if at most one of them is a line's end. -/
def gapL (l : List UInt8) : Option Nat := if (l.takeWhile isBl).count 10 ≤ 1 then some (l.takeWhile isBl).length else none
/-- Behind the blanks of a line, and its end. -/
def restL (l : List UInt8) : Option Nat := match l.dropWhile isTB with
  | [] => some l.length
  | c :: r => if c = 10 then some (l.length - r.length) else none
/-- The title behind a destination, where it ends, and where its line ends. -/
def titB (l : List UInt8) : Option (List UInt8 × Nat) := match gapL l with
  | none => none
  | some g => if g = 0 ∨ (titleP (l.drop g)).2 = 0 then none else some ((titleP (l.drop g)).1, g + (titleP (l.drop g)).2)
def titE (l : List UInt8) : Option (List UInt8 × Nat × Nat) := (titB l).bind fun q => (restL (l.drop q.2)).map fun n => (q.1, q.2, q.2 + n)
def finL (lab dest : List UInt8) (to : Nat) (l : List UInt8) : Option (List UInt8 × List UInt8 × List UInt8 × Nat × Nat) := match titE l with
  | some q => some (lab, dest, q.1, to + q.2.1, to + q.2.2)
  | none => (restL l).map fun n => (lab, dest, [], to, to + n)
def defL (l : List UInt8) : Option (List UInt8 × List UInt8 × List UInt8 × Nat × Nat) :=
  if (labP l).2 = 0 ∨ (l.drop (labP l).2).head? ≠ some 58 then none else
  match gapL (l.drop ((labP l).2 + 1)) with
  | none => none
  | some g => if (destP (l.drop ((labP l).2 + 1 + g))).2 = 0 then none else finL (foldB (labP l).1) (destP (l.drop ((labP l).2 + 1 + g))).1 ((labP l).2 + 1 + g + (destP (l.drop ((labP l).2 + 1 + g))).2) (l.drop ((labP l).2 + 1 + g + (destP (l.drop ((labP l).2 + 1 + g))).2))
end Go.Proofs.YtfoheffbapifpaaDoor
