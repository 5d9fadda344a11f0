/-
  PROVED: contracts of link.behindBlanks, link.lineEnd, link.titleBehind and of the document's own gap and rest: blanks with at most one line's end, the end of a line, the title behind a destination ('gapL', 'restL', 'titB'). Conditions: the place is one of the text, which has at most 1000000 bytes.
-/
import Derived.Test.YtfoheffbapifpaaDoorParts
namespace Go.Proofs.YtfoheffbapifpaaDoor
open Go.ChangeShapes Go.WideShapes Go.ChangeAt Go.RowKit Go.Sort
set_option linter.unusedVariables false

def gapN (l : List UInt8) : Nat := (l.takeWhile isBl).length
def gapC (l : List UInt8) : Nat := (l.takeWhile isBl).count 10
theorem gapL_is (l : List UInt8) : gapL l = if gapC l ≤ 1 then some (gapN l) else none := rfl
theorem gap_nil : gapN [] = 0 ∧ gapC [] = 0 := ⟨rfl, rfl⟩
theorem gap_stop (x : UInt8) (l : List UInt8) (h : isBl x = false) : gapN (x :: l) = 0 ∧ gapC (x :: l) = 0 := by
  unfold gapN gapC
  rw [List.takeWhile_cons, h]
  exact ⟨rfl, rfl⟩
theorem gap_go (x : UInt8) (l : List UInt8) (h : isBl x = true) : gapN (x :: l) = gapN l + 1 ∧ gapC (x :: l) = gapC l + (if x = 10 then 1 else 0) := by
  unfold gapN gapC
  rw [List.takeWhile_cons, h]
  refine ⟨by simp, ?_⟩
  simp [List.count_cons]
theorem tw_take (l : List UInt8) : l.take (gapN l) = l.takeWhile isBl := by
  unfold gapN
  induction l with
  | nil => rfl
  | cons x l ih =>
    rw [List.takeWhile_cons]
    cases h : isBl x with
    | true => simpa using ih
    | false => simp
theorem gapN_le (l : List UInt8) : gapN l ≤ l.length := by
  have h := congrArg List.length (List.takeWhile_append_dropWhile (p := isBl) (l := l))
  rw [List.length_append] at h
  unfold gapN
  omega
theorem dw_len (l : List UInt8) : (l.dropWhile isBl).length = l.length - gapN l := by
  have h := congrArg List.length (List.takeWhile_append_dropWhile (p := isBl) (l := l))
  rw [List.length_append] at h
  unfold gapN
  omega
theorem rest_nil : restL [] = some 0 := rfl
theorem dwT_len (l : List UInt8) : (l.dropWhile isTB).length ≤ l.length := by
  have h := congrArg List.length (List.takeWhile_append_dropWhile (p := isTB) (l := l))
  rw [List.length_append] at h
  omega
theorem rest_go (x : UInt8) (l : List UInt8) (h : isTB x = true) : restL (x :: l) = (restL l).map (1 + ·) := by
  have hl := dwT_len l
  unfold restL
  rw [List.dropWhile_cons, if_pos h, List.length_cons]
  cases hd : l.dropWhile isTB with
  | nil => simp; omega
  | cons c r =>
    rw [hd, List.length_cons] at hl
    simp only []
    split
    · simp; omega
    · rfl
theorem rest_stop (x : UInt8) (l : List UInt8) (h : isTB x = false) : restL (x :: l) = if x = 10 then some 1 else none := by
  unfold restL
  rw [List.dropWhile_cons, if_neg (by rw [h]; simp), List.length_cons]
  simp only []
  rw [show l.length + 1 - l.length = 1 by omega]

theorem ret_ib {a b : Int} {c d : Bool} (h1 : a = b) (h2 : c = d) : Ending.returned (.tuple #[.int .i64 a, .bool c]) = .returned (.tuple #[.int .i64 b, .bool d]) := by rw [h1, h2]
set_option maxHeartbeats 2000000 in
theorem behind_any (s : ByteArray) (p : Nat) (hp : p ≤ s.size) (hs : s.size ≤ 1000000) (w : World) : Calls Tryd.prog 29 #[.string s, .int .i64 p] w fun r w' => r = .returned (.tuple #[.int .i64 ((p + gapN ((lst s).drop p) : Nat) : Int), .bool (decide (gapC ((lst s).drop p) ≤ 1))]) ∧ Below w.heap.size w w' := by
  have hg := gapN_le ((lst s).drop p)
  rw [List.length_drop, lst_size] at hg
  have HT : Hid (∀ W, Calls Tryd.prog 60 #[.string (s.extract p s.size), .string { data := #[32, 9, 10] }] W fun e w' => (∃ D : ByteArray, e = .returned (.string D) ∧ (D.size : Int) = s.size - (p + gapN ((lst s).drop p) : Nat)) ∧ Below W.heap.size W w') := fun W => by
    refine (leftBl_any _ W).mono fun e w' ⟨h1, h2⟩ => ⟨⟨_, h1, ?_⟩, h2⟩
    rw [lst_from]
    have := dw_len ((lst s).drop p)
    rw [List.length_drop, lst_size] at this
    show ((((lst s).drop p).dropWhile isBl).toArray.size : Int) = _
    rw [List.size_toArray, this]
    omega
  have HC : Hid (∀ W, Calls Tryd.prog 61 #[.string (s.extract p (p + gapN ((lst s).drop p))), .string { data := #[10] }] W fun e w' => e = .returned (.int .i64 (gapC ((lst s).drop p) : Nat)) ∧ w' = W) := fun W => by
    refine (Tryd.count1 _ 10 W).mono fun e w' ⟨h1, h2⟩ => ⟨?_, h2⟩
    rw [h1]
    have e1 : (s.extract p (p + gapN ((lst s).drop p))).data.toList = ((lst s).drop p).takeWhile isBl := by
      have := lst_cut s p (p + gapN ((lst s).drop p))
      rw [List.drop_take, show p + gapN ((lst s).drop p) - p = gapN ((lst s).drop p) by omega, tw_take] at this
      exact this
    rw [e1]
    rfl
  generalize gapN ((lst s).drop p) = g at *
  generalize gapC ((lst s).drop p) = c at *
  go_enter Tryd.func29, Tryd.ntmps29
  go_wp2_with fail
  refine (HT.out _).mono ?_
  rintro e' w1 ⟨⟨D, rfl, hD⟩, hb⟩
  have B1 := Lib.hid hb
  clear hb HT
  go_wp2_with fail
  rw [show s.size - (s.size - (p + g)) = p + g by omega]
  refine (HC.out _).mono ?_
  rintro e' w2 ⟨rfl, rfl⟩
  clear HC
  go_wp2_with fail
  go_ret2
  exact ⟨ret_ib (by omega) (by first | rfl | (rw [decide_eq_decide]; omega)), B1.out⟩

/-- What a line's end is answered as. -/
def endV (p : Nat) : Option Nat → Value
  | some n => .tuple #[.int .i64 ((p + n : Nat) : Int), .bool true]
  | none => .tuple #[.int .i64 0, .bool false]
theorem dw_rest (l : List UInt8) : (l.dropWhile isTB = [] → restL l = some l.length) ∧ (∀ x r, l.dropWhile isTB = x :: r → restL l = if x = 10 then some (l.length - r.length) else none) := by
  unfold restL
  refine ⟨fun h => by rw [h], fun x r h => by rw [h]⟩
set_option maxHeartbeats 2000000 in
theorem lineEnd_any (s : ByteArray) (p : Nat) (hp : p ≤ s.size) (hs : s.size ≤ 1000000) (w : World) : Calls Tryd.prog 31 #[.string s, .int .i64 p] w fun r w' => r = .returned (endV p (restL ((lst s).drop p))) ∧ Below w.heap.size w w' := by
  have hle := dwT_len ((lst s).drop p)
  obtain ⟨r1, r2⟩ := dw_rest ((lst s).drop p)
  rw [List.length_drop, lst_size] at hle r1 r2
  obtain ⟨D, hD, hD2⟩ := made (((lst s).drop p).dropWhile isTB)
  have HT : Hid (∀ W, Calls Tryd.prog 60 #[.string (s.extract p s.size), .string { data := #[32, 9] }] W fun e w' => e = .returned (.string D) ∧ Below W.heap.size W w') := fun W => by
    have h := leftTB_any (s.extract p s.size) W
    rw [lst_from, hD2] at h
    exact h
  rw [← hD] at hle r1 r2
  rw [lst_size] at hle
  generalize restL ((lst s).drop p) = r at *
  clear hD hD2
  by_cases h0 : 0 < D.size
  · have hem := emp_no D h0
    have hc := lst_at D 0 h0
    rw [List.drop_zero] at hc
    have hr := r2 _ _ hc
    have hl : ((lst D).drop 1).length = D.size - 1 := by rw [List.length_drop, lst_size]
    rw [show 0 + 1 = 1 from rfl, hl] at hr
    have hn := (D[0]'h0).toNat_lt
    clear r1 r2 hl hc
    by_cases h10 : (D[0]'h0) = 10
    · have c1 : (((D[0]'h0).toNat : Int) == 10) = true := eqU _ 10 h10
      have HV : Hid (r = some (s.size - p - (D.size - 1))) := show _ = _ from by rw [hr, if_pos h10]
      clear hr h10
      go_enter Tryd.func31, Tryd.ntmps31
      go_wp2_with fail
      refine (HT.out _).mono ?_
      rintro e' w1 ⟨rfl, hb⟩
      have B1 := Lib.hid hb
      clear hb HT
      go_wp2_with fail
      go_ret2
      rw [HV.out]
      exact ⟨ret_ib (by omega) rfl, B1.out⟩
    · have c1 : (((D[0]'h0).toNat : Int) == 10) = false := neU _ 10 h10
      have HV : Hid (r = none) := show _ = _ from by rw [hr, if_neg h10]
      clear hr h10
      go_enter Tryd.func31, Tryd.ntmps31
      go_wp2_with fail
      refine (HT.out _).mono ?_
      rintro e' w1 ⟨rfl, hb⟩
      have B1 := Lib.hid hb
      clear hb HT
      go_wp2_with fail
      go_ret2
      rw [HV.out]
      exact ⟨rfl, B1.out⟩
  · have hem := emp_yes D (by omega)
    have HV := Lib.hid (r1 (lst_nil D (by omega)))
    have hz : D.size ≤ 0 := by omega
    clear r1 r2
    go_enter Tryd.func31, Tryd.ntmps31
    go_wp2_with fail
    refine (HT.out _).mono ?_
    rintro e' w1 ⟨rfl, hb⟩
    have B1 := Lib.hid hb
    clear hb HT
    go_wp2_with fail
    go_ret2
    rw [HV.out]
    exact ⟨ret_ib (by omega) rfl, B1.out⟩

/-- What the title behind a destination is answered as. -/
def titV (p : Nat) : Option (List UInt8 × Nat) → Value
  | some q => .tuple #[.string ⟨q.1.toArray⟩, .int .i64 ((p + q.2 : Nat) : Int)]
  | none => .tuple #[.string { data := #[] }, .int .i64 0]
theorem titleP_le (l : List UInt8) : (titleP l).2 ≤ l.length := by
  have key : ∀ c e o, (toldP (encO c e o l)).2 ≤ l.length := fun c e o => by
    cases h : encO c e o l with
    | none => exact Nat.zero_le _
    | some t => have := encO_len _ _ _ _ _ h; simp only [toldP]; omega
  rw [title_is]
  split
  · exact key _ _ _
  · split
    · exact key _ _ _
    · exact key _ _ _
set_option maxHeartbeats 4000000 in
theorem titB_any (s : ByteArray) (p : Nat) (hp : p ≤ s.size) (hs : s.size ≤ 1000000) (w : World) : Calls Tryd.prog 30 #[.string s, .int .i64 p] w fun r w' => r = .returned (titV p (titB ((lst s).drop p))) ∧ Below w.heap.size w w' := by
  have hg := gapN_le ((lst s).drop p)
  rw [List.length_drop, lst_size] at hg
  have HB := Lib.hid (behind_any s p hp hs)
  have HR := Lib.hid (show titB ((lst s).drop p) = match gapL ((lst s).drop p) with
    | none => none
    | some g => if g = 0 ∨ (titleP (((lst s).drop p).drop g)).2 = 0 then none else some ((titleP (((lst s).drop p).drop g)).1, g + (titleP (((lst s).drop p).drop g)).2) from rfl)
  have HT := Lib.hid (title_any s ((p + gapN ((lst s).drop p) : Nat) : Int) hs)
  rw [gapL_is] at HR
  generalize titB ((lst s).drop p) = r at *
  by_cases hc : gapC ((lst s).drop p) ≤ 1
  · rw [decide_eq_true hc] at HB
    rw [if_pos hc] at HR
    simp only [List.drop_drop] at HR
    rw [frm_in s _ (by omega)] at HT
    have htl := titleP_le ((lst s).drop (p + gapN ((lst s).drop p)))
    rw [List.length_drop, lst_size] at htl
    generalize titleP ((lst s).drop (p + gapN ((lst s).drop p))) = t at *
    generalize gapN ((lst s).drop p) = g at *
    obtain ⟨x, n⟩ := t
    obtain ⟨X, hX, hX2⟩ := made x
    simp only [pairV, hX2] at HT
    simp only [] at HR htl
    clear hc
    by_cases h0 : g = 0
    · have HV : Hid (r = none) := show _ = _ from by rw [HR.out, if_pos (.inl h0)]
      have q0 : (((p + g : Nat) : Int) == (p : Int)) = true := by rw [h0]; simp
      have hle0 : g ≤ 0 := by omega
      obtain ⟨m, hm⟩ : ∃ m : Nat, m = p + g := ⟨_, rfl⟩
      rw [← hm] at HB q0
      clear HR h0 HT hX hX2 hm
      go_enter Tryd.func30, Tryd.ntmps30
      go_wp2_with fail
      refine (HB.out _).mono ?_
      rintro e' w1 ⟨rfl, hb⟩
      have B1 := Lib.hid hb
      clear hb HB
      go_wp2_with fail
      go_ret2
      rw [HV.out]
      exact ⟨rfl, B1.out⟩
    · have q0 : (((p + g : Nat) : Int) == (p : Int)) = false := by rw [beq_eq_false_iff_ne]; omega
      by_cases h1 : n = 0
      · have HV : Hid (r = none) := show _ = _ from by rw [HR.out, if_pos (.inr h1)]
        have q1 : ((n : Int) == 0) = true := by simp [h1]
        obtain ⟨m, hm⟩ : ∃ m : Nat, m = p + g := ⟨_, rfl⟩
        rw [← hm] at HB q0 HT
        have hms : m ≤ s.size := by omega
        clear HR h0 hX hX2 hm h1
        go_enter Tryd.func30, Tryd.ntmps30
        go_wp2_with fail
        refine (HB.out _).mono ?_
        rintro e' w1 ⟨rfl, hb⟩
        have B1 := Lib.hid hb
        clear hb HB
        go_wp2_with fail
        refine (HT.out _).mono ?_
        rintro e' w2 ⟨rfl, hb⟩
        have B2 := Lib.hid (chain (Nat.le_refl _) B1.out hb)
        clear hb HT B1
        go_wp2_with fail
        go_ret2
        rw [HV.out]
        exact ⟨rfl, B2.out⟩
      · have HV : Hid (titV p r = .tuple #[.string X, .int .i64 ((p + g + n : Nat) : Int)]) := show _ = _ from by
          rw [HR.out, if_neg (by omega)]
          simp only [titV, hX2]
          rw [Nat.add_assoc]
        have q1 : ((n : Int) == 0) = false := by rw [beq_eq_false_iff_ne]; omega
        obtain ⟨m, hm⟩ : ∃ m : Nat, m = p + g := ⟨_, rfl⟩
        rw [← hm] at HB q0 HT HV htl
        have hms : m ≤ s.size := by omega
        rw [HV.out]
        clear HR h0 hX hX2 hm h1 HV
        go_enter Tryd.func30, Tryd.ntmps30
        go_wp2_with fail
        refine (HB.out _).mono ?_
        rintro e' w1 ⟨rfl, hb⟩
        have B1 := Lib.hid hb
        clear hb HB
        go_wp2_with fail
        refine (HT.out _).mono ?_
        rintro e' w2 ⟨rfl, hb⟩
        have B2 := Lib.hid (chain (Nat.le_refl _) B1.out hb)
        clear hb HT B1
        go_wp2_with fail
        go_ret2
        exact ⟨by first | rfl | simp, B2.out⟩
  · rw [decide_eq_false hc] at HB
    rw [if_neg hc] at HR
    have HV : Hid (r = none) := show _ = _ from by rw [HR.out]
    obtain ⟨m, hm⟩ : ∃ m : Nat, m = p + gapN ((lst s).drop p) := ⟨_, rfl⟩
    rw [← hm] at HB
    have hms : m ≤ s.size := by omega
    clear HR HT hc hm hg
    go_enter Tryd.func30, Tryd.ntmps30
    go_wp2_with fail
    refine (HB.out _).mono ?_
    rintro e' w1 ⟨rfl, hb⟩
    have B1 := Lib.hid hb
    clear hb HB
    go_wp2_with fail
    go_ret2
    rw [HV.out]
    exact ⟨rfl, B1.out⟩

/-- What the loop of the document's gap goes by. -/
def GaRel (s : ByteArray) (p : Nat) (w : World) (i c : Value) (wr : World) : Prop :=
  ∃ k n : Nat, p ≤ k ∧ k ≤ s.size ∧ i = .int .i64 k ∧ c = .int .i64 n ∧ n ≤ k ∧ k + gapN ((lst s).drop k) = p + gapN ((lst s).drop p) ∧ n + gapC ((lst s).drop k) = gapC ((lst s).drop p) ∧ wr = w
def gapV (p : Nat) (l : List UInt8) : Int := if gapC l ≤ 1 then ((p + gapN l : Nat) : Int) else -1
set_option maxHeartbeats 4000000 in
theorem refGap_any (s : ByteArray) (p : Nat) (hp : p ≤ s.size) (hs : s.size ≤ 1000000) (w : World) : Calls Tryd.prog 32 #[.string s, .int .i64 p] w fun r w' => r = .returned (.int .i64 (gapV p ((lst s).drop p))) ∧ w' = w := by
  have HR := Lib.hid (show gapV p ((lst s).drop p) = if gapC ((lst s).drop p) ≤ 1 then ((p + gapN ((lst s).drop p) : Nat) : Int) else -1 from rfl)
  generalize gapV p ((lst s).drop p) = r at *
  go_enter Tryd.func32, Tryd.ntmps32
  go_wp2_with fail
  go_loopw [1, 5] (fun i c wr => GaRel s p w i c wr) (fun i _ _ => s.size - (intOf i).toNat)
  case atStart => exact ⟨p, 0, Nat.le_refl _, hp, rfl, rfl, Nat.zero_le _, rfl, by omega, rfl⟩
  case round =>
    obtain ⟨k, n, hk1, hk2, rfl, rfl, hnk, hl, hcn, rfl⟩ := hrel
    have HL := Lib.hid hl
    have HC := Lib.hid hcn
    clear hl hcn
    by_cases hlt : k < s.size
    · have hn := (s[k]'hlt).toNat_lt
      have hcons := lst_at s k hlt
      have HB := Lib.hid (refBl_any (s[k]'hlt))
      cases hb : isBl (s[k]'hlt) with
      | true =>
        obtain ⟨g1, g2⟩ := gap_go (s[k]'hlt) ((lst s).drop (k + 1)) hb
        rw [← hcons] at g1 g2
        rw [hb] at HB
        by_cases h10 : (s[k]'hlt) = 10
        · have c1 : (((s[k]'hlt).toNat : Int) == 10) = true := eqU _ 10 h10
          rw [if_pos h10] at g2
          have HN : Hid (k + 1 + gapN ((lst s).drop (k + 1)) = p + gapN ((lst s).drop p) ∧ n + 1 + gapC ((lst s).drop (k + 1)) = gapC ((lst s).drop p)) := show _ ∧ _ from ⟨by rw [← HL.out]; omega, by rw [← HC.out]; omega⟩
          clear g1 g2 hcons hb h10 HL HC HR
          go_wp2_with fail
          refine (HB.out _).mono ?_
          rintro e' y ⟨rfl, rfl⟩
          clear HB
          go_wp2_with fail
          go_roundw
          case rel => exact ⟨k + 1, n + 1, by omega, by omega, by go_num, by go_num, by omega, HN.out.1, HN.out.2, rfl⟩
          case measure => simp [intOf]; omega
        · have c1 : (((s[k]'hlt).toNat : Int) == 10) = false := neU _ 10 h10
          rw [if_neg h10] at g2
          have HN : Hid (k + 1 + gapN ((lst s).drop (k + 1)) = p + gapN ((lst s).drop p) ∧ n + gapC ((lst s).drop (k + 1)) = gapC ((lst s).drop p)) := show _ ∧ _ from ⟨by rw [← HL.out]; omega, by rw [← HC.out]; omega⟩
          clear g1 g2 hcons hb h10 HL HC HR
          go_wp2_with fail
          refine (HB.out _).mono ?_
          rintro e' y ⟨rfl, rfl⟩
          clear HB
          go_wp2_with fail
          go_roundw
          case rel => exact ⟨k + 1, n, by omega, by omega, by go_num, rfl, by omega, HN.out.1, HN.out.2, rfl⟩
          case measure => simp [intOf]; omega
      | false =>
        obtain ⟨g1, g2⟩ := gap_stop (s[k]'hlt) ((lst s).drop (k + 1)) hb
        rw [← hcons] at g1 g2
        rw [hb] at HB
        have HV : Hid (r = if n ≤ 1 then (k : Int) else -1) := show _ = _ from by
          rw [HR.out, ← HL.out, ← HC.out, g1, g2]
          simp
        clear g1 g2 hcons hb HL HC HR
        by_cases h1 : n ≤ 1
        · rw [if_pos h1] at HV
          go_wp2_with fail
          refine (HB.out _).mono ?_
          rintro e' y ⟨rfl, rfl⟩
          clear HB
          go_wp2_with fail
          go_ret
          rw [HV.out]
          exact ⟨rfl, rfl⟩
        · rw [if_neg h1] at HV
          go_wp2_with fail
          refine (HB.out _).mono ?_
          rintro e' y ⟨rfl, rfl⟩
          clear HB
          go_wp2_with fail
          go_ret
          rw [HV.out]
          exact ⟨rfl, rfl⟩
    · have HV : Hid (r = if n ≤ 1 then (k : Int) else -1) := show _ = _ from by
        rw [HR.out, ← HL.out, ← HC.out, lst_out s k (by omega)]
        rfl
      clear HL HC HR
      by_cases h1 : n ≤ 1
      · rw [if_pos h1] at HV
        go_wp2_with fail
        go_ret
        rw [HV.out]
        exact ⟨rfl, rfl⟩
      · rw [if_neg h1] at HV
        go_wp2_with fail
        go_ret
        rw [HV.out]
        exact ⟨rfl, rfl⟩

/-- What the loop of the document's rest goes by. -/
def ReRel (s : ByteArray) (p : Nat) (w : World) (i : Value) (wr : World) : Prop :=
  ∃ k : Nat, p ≤ k ∧ k ≤ s.size ∧ i = .int .i64 k ∧ (restL ((lst s).drop k)).map (k + ·) = (restL ((lst s).drop p)).map (p + ·) ∧ wr = w
def restV (p : Nat) (l : List UInt8) : Int := match (restL l).map (p + ·) with
  | some n => n
  | none => -1
set_option maxHeartbeats 4000000 in
theorem refRest_any (s : ByteArray) (p : Nat) (hp : p ≤ s.size) (hs : s.size ≤ 1000000) (w : World) : Calls Tryd.prog 34 #[.string s, .int .i64 p] w fun r w' => r = .returned (.int .i64 (restV p ((lst s).drop p))) ∧ w' = w := by
  have HR := Lib.hid (show restV p ((lst s).drop p) = match (restL ((lst s).drop p)).map (p + ·) with
    | some n => (n : Int)
    | none => -1 from rfl)
  generalize restV p ((lst s).drop p) = r at *
  go_enter Tryd.func34, Tryd.ntmps34
  go_wp2_with fail
  go_loopw [1] (fun i wr => ReRel s p w i wr) (fun i _ => s.size - (intOf i).toNat)
  case atStart => exact ⟨p, Nat.le_refl _, hp, rfl, rfl, rfl⟩
  case round =>
    obtain ⟨k, hk1, hk2, rfl, hl, rfl⟩ := hrel
    have HL := Lib.hid hl
    clear hl
    by_cases hlt : k < s.size
    · have hn := (s[k]'hlt).toNat_lt
      have hcons := lst_at s k hlt
      have hTB := isTB_is (s[k]'hlt)
      have q0 : ((k : Int) == (s.size : Int)) = false := by rw [beq_eq_false_iff_ne]; omega
      by_cases h32 : (s[k]'hlt) = 32
      · have c1 : (((s[k]'hlt).toNat : Int) == 32) = true := eqU _ 32 h32
        have HN : Hid ((restL ((lst s).drop (k + 1))).map (k + 1 + ·) = (restL ((lst s).drop p)).map (p + ·)) := show _ = _ from by
          rw [← HL.out, hcons, rest_go _ _ (by rw [hTB, c1]; rfl), Option.map_map]
          congr 1
          funext j
          simp only [Function.comp]
          omega
        clear hcons hTB h32 HL HR
        go_wp2_with fail
        go_roundw
        case rel => exact ⟨k + 1, by omega, by omega, by go_num, HN.out, rfl⟩
        case measure => simp [intOf]; omega
      have c1 : (((s[k]'hlt).toNat : Int) == 32) = false := neU _ 32 h32
      by_cases h9 : (s[k]'hlt) = 9
      · have c2 : (((s[k]'hlt).toNat : Int) == 9) = true := eqU _ 9 h9
        have HN : Hid ((restL ((lst s).drop (k + 1))).map (k + 1 + ·) = (restL ((lst s).drop p)).map (p + ·)) := show _ = _ from by
          rw [← HL.out, hcons, rest_go _ _ (by rw [hTB, c2, Bool.or_true]), Option.map_map]
          congr 1
          funext j
          simp only [Function.comp]
          omega
        clear hcons hTB h32 h9 HL HR
        go_wp2_with fail
        go_roundw
        case rel => exact ⟨k + 1, by omega, by omega, by go_num, HN.out, rfl⟩
        case measure => simp [intOf]; omega
      have c2 : (((s[k]'hlt).toNat : Int) == 9) = false := neU _ 9 h9
      have hst := rest_stop (s[k]'hlt) ((lst s).drop (k + 1)) (by rw [hTB, c1, c2]; rfl)
      rw [← hcons] at hst
      by_cases h10 : (s[k]'hlt) = 10
      · have c3 : (((s[k]'hlt).toNat : Int) == 10) = true := eqU _ 10 h10
        have HV : Hid (r = (k : Int) + 1) := show _ = _ from by
          rw [HR.out, ← HL.out, hst, if_pos h10]
          rfl
        clear hcons hTB h32 h9 h10 HL HR hst
        go_wp2_with fail
        go_ret
        rw [HV.out]
        exact ⟨rfl, rfl⟩
      · have c3 : (((s[k]'hlt).toNat : Int) == 10) = false := neU _ 10 h10
        have HV : Hid (r = -1) := show _ = _ from by
          rw [HR.out, ← HL.out, hst, if_neg h10]
          rfl
        clear hcons hTB h32 h9 h10 HL HR hst
        go_wp2_with fail
        go_ret
        rw [HV.out]
        exact ⟨rfl, rfl⟩
    · have HV : Hid (r = (k : Int)) := show _ = _ from by
        rw [HR.out, ← HL.out, lst_out s k (by omega), rest_nil]
        rfl
      have q0 : ((k : Int) == (s.size : Int)) = true := by rw [beq_iff_eq]; omega
      clear HL HR
      go_wp2_with fail
      go_ret
      rw [HV.out]
      exact ⟨rfl, rfl⟩
end Go.Proofs.YtfoheffbapifpaaDoor
