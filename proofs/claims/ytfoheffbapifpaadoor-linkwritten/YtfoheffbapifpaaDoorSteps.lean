/-
  PROVED: contracts of link.from, link.step, link.told, the document's own step and blank, and of the library's calls as layer 8 makes them: the text from a place on, how many bytes stand together, what a part tells. Conditions: the text has at most 1000000 bytes.
-/
import Derived.Test.YtfoheffbapifpaaDoorPlain
import Derived.Test.YtfoheffbapifpaaDoorLinkPure
namespace Go.Proofs.YtfoheffbapifpaaDoor
open Go.ChangeShapes Go.WideShapes Go.ChangeAt Go.RowKit Go.Sort
set_option linter.unusedVariables false

theorem eqU (a b : UInt8) (h : a = b) : ((a.toNat : Int) == (b.toNat : Int)) = true := by rw [h]; simp
theorem neU (a b : UInt8) (h : a ≠ b) : ((a.toNat : Int) == (b.toNat : Int)) = false := by
  rw [beq_eq_false_iff_ne]
  exact fun e => h (UInt8.toNat_inj.1 (by exact_mod_cast e))
theorem nq_u8 (a b : UInt8) (h : a = b) : ((a.toNat : Int) != (b.toNat : Int)) = false := by rw [h]; simp
theorem nn_u8 (a b : UInt8) (h : a ≠ b) : ((a.toNat : Int) != (b.toNat : Int)) = true := by rw [bne, neU a b h]; rfl

/-- The bytes from a place on; none, if there is no such place. -/
def frm (s : ByteArray) (a : Int) : List UInt8 := if 0 ≤ a ∧ a ≤ s.size then (lst s).drop a.toNat else []
theorem frm_in (s : ByteArray) (p : Nat) (h : p ≤ s.size) : frm s p = (lst s).drop p := by unfold frm; rw [if_pos (by omega)]; rfl
theorem frm_out (s : ByteArray) (a : Int) (h : a < 0 ∨ (s.size : Int) ≤ a) : frm s a = [] := by
  unfold frm
  split
  · exact lst_out s _ (by omega)
  · rfl

theorem from_in (s : ByteArray) (p : Nat) (hp : p ≤ s.size) (hs : s.size ≤ 1000000) (w : World) : Calls Tryd.prog 19 #[.string s, .int .i64 p] w fun e w' => e = .returned (.string (s.extract p s.size)) ∧ w' = w := by
  go_enter Tryd.func19, Tryd.ntmps19
  go_wp2_with fail
  go_ret
  exact ⟨rfl, rfl⟩
theorem from_out (s : ByteArray) (a : Int) (h : a < 0 ∨ (s.size : Int) < a) (hs : s.size ≤ 1000000) (w : World) : Calls Tryd.prog 19 #[.string s, .int .i64 a] w fun e w' => e = .returned (.string { data := #[] }) ∧ w' = w := by
  by_cases h0 : a < 0
  · go_enter Tryd.func19, Tryd.ntmps19
    go_wp2_with fail
    go_ret
    exact ⟨rfl, rfl⟩
  · have h1 : (s.size : Int) < a := by omega
    clear h
    go_enter Tryd.func19, Tryd.ntmps19
    go_wp2_with fail
    go_ret
    exact ⟨rfl, rfl⟩
theorem from_any (s : ByteArray) (a : Int) (hs : s.size ≤ 1000000) : ∃ T : ByteArray, lst T = frm s a ∧ T.size ≤ s.size ∧ ∀ W, Calls Tryd.prog 19 #[.string s, .int .i64 a] W fun e w' => e = .returned (.string T) ∧ w' = W := by
  by_cases h : 0 ≤ a ∧ a ≤ s.size
  · obtain ⟨p, rfl⟩ : ∃ p : Nat, a = p := ⟨a.toNat, by omega⟩
    refine ⟨s.extract p s.size, ?_, by simp, fun W => from_in s p (by omega) hs W⟩
    rw [frm_in s p (by omega), lst_from]
  · exact ⟨{ data := #[] }, (frm_out s a (by omega)).symm, Nat.zero_le _, fun W => from_out s a (by omega) hs W⟩

theorem grows_refl (v : Value) (w : World) : Grows v w (.returned v) w := ⟨rfl, 0, #[], by simp; rfl⟩
set_option maxHeartbeats 2000000 in
theorem step_any (s : ByteArray) (p : Nat) (hp : p < s.size) (hs : s.size ≤ 1000000) (w : World) : Calls Tryd.prog 47 #[.string s, .int .i64 p] w (Grows (.int .i64 (stepL ((lst s).drop p))) w) := by
  have hn := (s[p]'hp).toNat_lt
  by_cases h92 : (s[p]'hp) = 92
  · have c0 : (((s[p]'hp).toNat : Int) == 92) = true := by rw [h92]; decide
    by_cases hp1 : p + 1 < s.size
    · have hP := fun W => plain_any ((s[p + 1]'hp1).toNat : Int) (by omega) (by have := (s[p + 1]'hp1).toNat_lt; omega) W
      have he : stepL ((lst s).drop p) = if pl (s[p + 1]'hp1) = true then 2 else 1 := by
        rw [lst_at s p hp, lst_at s (p + 1) hp1, h92]
        simp [stepL, escd]
      cases hpl : pl (s[p + 1]'hp1) with
      | true =>
        have HP : Hid (∀ W, Calls Tryd.prog 45 #[.int .u8 (s[p + 1]'hp1).toNat] W (Grows (.bool true) W)) := fun W => by
          have := hP W
          rw [show inSps ((s[p + 1]'hp1).toNat : Int) plainL = true from hpl] at this
          exact this
        rw [hpl, if_pos rfl] at he
        rw [he]
        clear hP he hpl h92
        go_enter Tryd.func47, Tryd.ntmps47
        go_wp2_with fail
        refine (HP.out _).mono ?_
        rintro e w' ⟨rfl, hG⟩
        have HG := Lib.hid hG
        clear hG HP
        go_wp2_with fail
        go_ret
        exact ⟨rfl, HG.out⟩
      | false =>
        have HP : Hid (∀ W, Calls Tryd.prog 45 #[.int .u8 (s[p + 1]'hp1).toNat] W (Grows (.bool false) W)) := fun W => by
          have := hP W
          rw [show inSps ((s[p + 1]'hp1).toNat : Int) plainL = false from hpl] at this
          exact this
        rw [hpl, if_neg (by simp)] at he
        rw [he]
        clear hP he hpl h92
        go_enter Tryd.func47, Tryd.ntmps47
        go_wp2_with fail
        refine (HP.out _).mono ?_
        rintro e w' ⟨rfl, hG⟩
        have HG := Lib.hid hG
        clear hG HP
        go_wp2_with fail
        go_ret
        exact ⟨rfl, HG.out⟩
    · have he : stepL ((lst s).drop p) = 1 := by
        rw [lst_at s p hp, lst_out s (p + 1) (by omega)]
        simp [stepL, escd]
      rw [he]
      clear he h92
      go_enter Tryd.func47, Tryd.ntmps47
      go_wp2_with fail
      go_ret
      exact grows_refl _ _
  · have c0 : (((s[p]'hp).toNat : Int) == 92) = false := neU _ 92 h92
    have he : stepL ((lst s).drop p) = 1 := by
      rw [lst_at s p hp]
      cases (lst s).drop (p + 1) with
      | nil => simp [stepL, escd]
      | cons y l => simp [stepL, escd, h92]
    rw [he]
    clear he h92
    go_enter Tryd.func47, Tryd.ntmps47
    go_wp2_with fail
    go_ret
    exact grows_refl _ _
set_option maxHeartbeats 2000000 in
theorem refStep_any (s : ByteArray) (p : Nat) (hp : p < s.size) (hs : s.size ≤ 1000000) (w : World) : Calls Tryd.prog 24 #[.string s, .int .i64 p] w fun e w' => e = .returned (.int .i64 (stepL ((lst s).drop p))) ∧ w' = w := by
  have hn := (s[p]'hp).toNat_lt
  by_cases h92 : (s[p]'hp) = 92
  · have c0 : (((s[p]'hp).toNat : Int) == 92) = true := by rw [h92]; decide
    by_cases hp1 : p + 1 < s.size
    · have hP := fun W => refPlain_any ((s[p + 1]'hp1).toNat : Int) W
      have he : stepL ((lst s).drop p) = if pl (s[p + 1]'hp1) = true then 2 else 1 := by
        rw [lst_at s p hp, lst_at s (p + 1) hp1, h92]
        simp [stepL, escd]
      cases hpl : pl (s[p + 1]'hp1) with
      | true =>
        have HP : Hid (∀ W, Calls Tryd.prog 57 #[.int .u8 (s[p + 1]'hp1).toNat] W fun e w' => e = .returned (.bool true) ∧ w' = W) := fun W => by
          have := hP W
          rw [show inSps ((s[p + 1]'hp1).toNat : Int) plainL = true from hpl] at this
          exact this
        rw [hpl, if_pos rfl] at he
        rw [he]
        clear hP he hpl h92
        go_enter Tryd.func24, Tryd.ntmps24
        go_wp2_with fail
        refine (HP.out _).mono ?_
        rintro e w' ⟨rfl, rfl⟩
        clear HP
        go_wp2_with fail
        go_ret
        exact ⟨rfl, rfl⟩
      | false =>
        have HP : Hid (∀ W, Calls Tryd.prog 57 #[.int .u8 (s[p + 1]'hp1).toNat] W fun e w' => e = .returned (.bool false) ∧ w' = W) := fun W => by
          have := hP W
          rw [show inSps ((s[p + 1]'hp1).toNat : Int) plainL = false from hpl] at this
          exact this
        rw [hpl, if_neg (by simp)] at he
        rw [he]
        clear hP he hpl h92
        go_enter Tryd.func24, Tryd.ntmps24
        go_wp2_with fail
        refine (HP.out _).mono ?_
        rintro e w' ⟨rfl, rfl⟩
        clear HP
        go_wp2_with fail
        go_ret
        exact ⟨rfl, rfl⟩
    · have he : stepL ((lst s).drop p) = 1 := by
        rw [lst_at s p hp, lst_out s (p + 1) (by omega)]
        simp [stepL, escd]
      rw [he]
      clear he h92
      go_enter Tryd.func24, Tryd.ntmps24
      go_wp2_with fail
      go_ret
      exact ⟨rfl, rfl⟩
  · have c0 : (((s[p]'hp).toNat : Int) == 92) = false := neU _ 92 h92
    have he : stepL ((lst s).drop p) = 1 := by
      rw [lst_at s p hp]
      cases (lst s).drop (p + 1) with
      | nil => simp [stepL, escd]
      | cons y l => simp [stepL, escd, h92]
    rw [he]
    clear he h92
    go_enter Tryd.func24, Tryd.ntmps24
    go_wp2_with fail
    go_ret
    exact ⟨rfl, rfl⟩

def pairV (q : List UInt8 × Nat) : Value := .tuple #[.string ⟨q.1.toArray⟩, .int .i64 q.2]
theorem told_yes (t : ByteArray) (ht : t.size ≤ 1000000) (w : World) : Calls Tryd.prog 26 #[.string t, .bool true] w fun e w' => e = .returned (pairV (toldP (some (lst t)))) ∧ Below w.heap.size w w' := by
  have HP := Lib.hid (fun W => plain_text t (by omega) W)
  have HV : Hid (pairV (toldP (some (lst t))) = .tuple #[.string ⟨(plG 0 (lst t)).toArray⟩, .int .i64 ((t.size : Int) + 2)]) := show _ = _ from by
    unfold pairV toldP
    simp only [lst_size]
    rfl
  rw [HV.out]
  generalize plG 0 (lst t) = x at *
  clear HV
  go_enter Tryd.func26, Tryd.ntmps26
  go_wp2_with fail
  refine (HP.out _).mono ?_
  rintro e w' ⟨rfl, hb⟩
  have HB := Lib.hid hb
  clear hb HP
  go_wp2_with fail
  go_ret2
  exact ⟨rfl, HB.out⟩
theorem told_no (w : World) : Calls Tryd.prog 26 #[.string { data := #[] }, .bool false] w fun e w' => e = .returned (pairV (toldP none)) ∧ Below w.heap.size w w' := by
  go_enter Tryd.func26, Tryd.ntmps26
  go_wp2_with fail
  go_ret2
  exact ⟨rfl, Below.refl _ _⟩

theorem isBl_is (c : UInt8) : isBl c = (((c.toNat : Int) == 32) || ((c.toNat : Int) == 9) || ((c.toNat : Int) == 10)) := by
  unfold isBl
  have e : ∀ d : UInt8, (c == d) = ((c.toNat : Int) == (d.toNat : Int)) := fun d => by
    by_cases h : c = d
    · rw [eqU c d h]; simp [h]
    · rw [neU c d h]; simp [h]
  rw [e 32, e 9, e 10]
  rfl
theorem isTB_is (c : UInt8) : isTB c = (((c.toNat : Int) == 32) || ((c.toNat : Int) == 9)) := by
  unfold isTB
  have e : ∀ d : UInt8, (c == d) = ((c.toNat : Int) == (d.toNat : Int)) := fun d => by
    by_cases h : c = d
    · rw [eqU c d h]; simp [h]
    · rw [neU c d h]; simp [h]
  rw [e 32, e 9]
  rfl
theorem refBl_any (c : UInt8) (w : World) : Calls Tryd.prog 23 #[.int .u8 c.toNat] w fun e w' => e = .returned (.bool (isBl c)) ∧ w' = w := by
  have HB := Lib.hid (isBl_is c)
  generalize isBl c = v at *
  go_enter Tryd.func23, Tryd.ntmps23
  go_wp2_with fail
  all_goals go_ret
  all_goals exact ⟨ret_bool (by rw [HB.out] <;> simp [*]), rfl⟩

theorem idx_has (c : UInt8) : ∀ l : List UInt8, decide (0 ≤ Lib.indexByte l c) = l.contains c
  | [] => rfl
  | b :: l => by
    have ih := idx_has c l
    have hg := Lib.indexByte_ge l c
    unfold Lib.indexByte
    by_cases h : b = c
    · subst h; simp
    · have h' : (b == c) = false := by simpa using h
      have h'' : (c == b) = false := by simp; exact fun e => h e.symm
      rw [h', List.contains_cons, h'', Bool.false_or, ← ih]
      simp only [Bool.false_eq_true, ↓reduceIte]
      by_cases h1 : Lib.indexByte l c = -1
      · rw [h1]; rfl
      · have h1' : (Lib.indexByte l c == -1) = false := by simpa using h1
        rw [h1']
        simp only [Bool.false_eq_true, ↓reduceIte]
        rw [decide_eq_decide]
        omega
theorem has_byte (o : ByteArray) (c : UInt8) (v : Bool) (hv : (lst o).contains c = v) (w : World) : Calls Tryd.prog 48 #[.string o, .int .u8 c.toNat] w fun e w' => (∃ i : Int, e = .returned (.int .i64 i) ∧ decide (0 ≤ i) = v) ∧ w' = w := by
  refine (Tryd.indexByte o (c.toNat : Int) w).mono fun e w' ⟨h1, h2⟩ => ⟨⟨_, h1, ?_⟩, h2⟩
  rw [u8_back, idx_has]
  exact hv
theorem has_Bl (c : UInt8) : [32, 9, 10].contains c = isBl c := by
  simp only [isBl, List.contains, List.elem]
  cases (c == 32) <;> cases (c == 9) <;> cases (c == 10) <;> rfl
theorem has_TB (c : UInt8) : [32, 9].contains c = isTB c := by
  simp only [isTB, List.contains, List.elem]
  cases (c == 32) <;> cases (c == 9) <;> rfl
theorem leftBl_any (s : ByteArray) (w : World) : Calls Tryd.prog 60 #[.string s, .string { data := #[32, 9, 10] }] w fun e w' => e = .returned (.string ⟨((lst s).dropWhile isBl).toArray⟩) ∧ Below w.heap.size w w' := by
  have h := Tryd.trimLeft s { data := #[32, 9, 10] } (by decide) (by decide) w
  rw [show (({ data := #[32, 9, 10] } : ByteArray).data.toList) = [32, 9, 10] from rfl, show Lib.trimLeftS (lst s) [32, 9, 10] = (lst s).dropWhile isBl from by unfold Lib.trimLeftS; congr 1; funext b; exact has_Bl b] at h
  exact h
theorem leftTB_any (s : ByteArray) (w : World) : Calls Tryd.prog 60 #[.string s, .string { data := #[32, 9] }] w fun e w' => e = .returned (.string ⟨((lst s).dropWhile isTB).toArray⟩) ∧ Below w.heap.size w w' := by
  have h := Tryd.trimLeft s { data := #[32, 9] } (by decide) (by decide) w
  rw [show (({ data := #[32, 9] } : ByteArray).data.toList) = [32, 9] from rfl, show Lib.trimLeftS (lst s) [32, 9] = (lst s).dropWhile isTB from by unfold Lib.trimLeftS; congr 1; funext b; exact has_TB b] at h
  exact h
theorem trim_some (l : List UInt8) : (Lib.trimS l [32, 9, 10]).isEmpty = !someL l := by
  unfold Lib.trimS Lib.trimRightS Lib.trimLeftS someL
  have e : (fun b => ([32, 9, 10] : List UInt8).contains b) = isBl := funext has_Bl
  rw [e]
  have k : ∀ m : List UInt8, (m.dropWhile isBl).isEmpty = m.all isBl := by
    intro m
    induction m with
    | nil => rfl
    | cons x m ih =>
      rw [List.dropWhile_cons, List.all_cons]
      cases h : isBl x with
      | true => simpa using ih
      | false => simp
  have k2 : ∀ m : List UInt8, (m.dropWhile isBl).all isBl = m.all isBl := by
    intro m
    induction m with
    | nil => rfl
    | cons x m ih =>
      rw [List.dropWhile_cons, List.all_cons]
      cases h : isBl x with
      | true => simpa using ih
      | false => simp [h]
  rw [k, List.all_reverse, k2, List.all_reverse]
  simp [List.any_eq_not_all_not]
theorem trim_any (s : ByteArray) (hs : s.size ≤ 1000000) (v : Bool) (hv : someL (lst s) = v) (w : World) : Calls Tryd.prog 21 #[.string s, .string { data := #[32, 9, 10] }] w fun e w' => (∃ t : ByteArray, e = .returned (.string t) ∧ t.toList.isEmpty = !v) ∧ Below w.heap.size w w' := by
  refine (Tryd.trim s { data := #[32, 9, 10] } hs (by decide) (by decide) w).mono fun e w' ⟨h1, h2⟩ => ⟨⟨_, h1, ?_⟩, h2⟩
  rw [Lib.toList_data, ← hv]
  exact trim_some (lst s)
theorem clone_any (s : ByteArray) (hs : s.size ≤ 1000000) (w : World) : Calls Tryd.prog 22 #[.string s] w fun e w' => e = .returned (.string s) ∧ Below w.heap.size w w' := by
  have H := Lib.hid (Tryd.clone s hs)
  go_enter Tryd.func22, Tryd.ntmps22
  go_wp2_with fail
  refine (H.out _).mono ?_
  rintro e w1 ⟨rfl, hb⟩
  have HB := Lib.hid hb
  clear hb H
  go_wp2_with fail
  go_ret
  exact ⟨rfl, HB.out⟩
end Go.Proofs.YtfoheffbapifpaaDoor
