/-
  PROVED: contracts of the document's blanks, name, value and attribute: the same places as the program's scan goes to. Conditions: the text has at most 1000000 bytes; the place is within it.
-/
import Derived.Test.YtdnnjakggopdoaaDoorScan2
namespace Go.Proofs.YtdnnjakggopdoaaDoor
open Go.ChangeShapes Go.WideShapes Go.ChangeAt Go.RowKit
set_option linter.unusedVariables false
set_option linter.unusedSimpArgs false

theorem u8_not (x : UInt8) (k : Nat) (hk : k < 256) (h : x ≠ k.toUInt8) : ((x.toNat : Int) == (k : Int)) = false := by
  have : (x.toNat : Int) ≠ (k : Int) := fun e => h (UInt8.toNat_inj.1 (by simp; omega))
  simpa using this
theorem u8_ne (x : UInt8) (k : Nat) (hk : k < 256) (h : x ≠ k.toUInt8) : ((x.toNat : Int) != (k : Int)) = true := by
  rw [bne, u8_not x k hk h]
  rfl
theorem N_is (x : UInt8) : isN x = (isL x || isD x || x == 45) := rfl
theorem A_is (x : UInt8) : isA x = (isL x || isD x || x == 95 || x == 46 || x == 58 || x == 45) := by
  unfold isA isW
  simp only [List.contains, List.elem]
  cases isL x <;> cases isD x <;> cases (x == 95) <;> cases (x == 46) <;> cases (x == 58) <;> cases (x == 45) <;> rfl
theorem V_is (x : UInt8) : isV x = (!isS x && x != 34 && x != 39 && x != 61 && x != 60 && x != 62 && x != 96) := by
  unfold isV
  simp only [List.contains, List.elem, bne]
  cases isS x <;> cases (x == 34) <;> cases (x == 39) <;> cases (x == 61) <;> cases (x == 60) <;> cases (x == 62) <;> cases (x == 96) <;> rfl

set_option maxHeartbeats 4000000 in
theorem refBlanks_any (s : ByteArray) (hs : s.size ≤ 1000000) (k : Nat) (hk : k ≤ s.size) (w : World) : Calls Tryd.prog 29 #[.string s, .int .i64 k] w fun e w' => e = .returned (.int .i64 (upL isS (lst s) k)) ∧ w' = w := by
  go_enter Tryd.func29, Tryd.ntmps29
  go_wp2_with fail
  go_loopw [1] (fun i wr => NRel isS s k i w wr) (fun i _ => s.size - (intOf i).toNat)
  case atStart => exact ⟨k, hk, rfl, rfl, rfl⟩
  case round =>
    obtain ⟨j, hj, rfl, hl, rfl⟩ := hrel
    have HL := Lib.hid hl
    clear hl
    by_cases hlt : j < s.size
    · have hx := Lib.data_getElem? s j hlt
      have C0 := Lib.hid (refBlank_any (s[j]'hlt))
      cases h0 : isS (s[j]'hlt) with
      | true =>
        rw [h0] at C0
        have hp : isS (s[j]'hlt) = true := by rw [show isS (s[j]'hlt) = isS (s[j]'hlt) from rfl]; simp [h0]
        have HN := Lib.hid (upL_step isS (lst s) j _ hx hp)
        clear hx hp h0
        go_wp2_with fail
        refine (C0.out _).mono ?_
        rintro e w1 ⟨rfl, rfl⟩
        go_wp2_with fail
        go_roundw
        case rel => exact ⟨j + 1, by omega, by go_num, HN.out.trans HL.out, rfl⟩
        case measure => simp [intOf]; omega
      | false =>
        rw [h0] at C0
        have hp : isS (s[j]'hlt) = false := by rw [show isS (s[j]'hlt) = isS (s[j]'hlt) from rfl]; simp [h0]
        have HN := Lib.hid (upL_stop isS (lst s) j (fun x h => by rw [hx] at h; cases h; exact hp))
        clear hx hp h0
        go_wp2_with fail
        refine (C0.out _).mono ?_
        rintro e w1 ⟨rfl, rfl⟩
        go_wp2_with fail
        go_ret
        exact ⟨ret_int (by rw [← HL.out, HN.out]), rfl⟩
    · have HN := Lib.hid (upL_stop isS (lst s) j (fun x h => by rw [List.getElem?_eq_none (by rw [lst_size]; omega)] at h; cases h))
      go_wp2_with fail
      go_ret
      exact ⟨ret_int (by rw [← HL.out, HN.out]), rfl⟩

/-- The document's name: the place itself where there is none. -/
def nameR (l : List UInt8) (k : Nat) : Nat := if upL isL l k = k then k else upL isN l k
theorem nameR_no {l : List UInt8} {k : Nat} (h : ∀ x, l[k]? = some x → isL x = false) : nameR l k = k := by unfold nameR; rw [if_pos (upL_stop _ _ _ h)]
theorem nameR_yes {l : List UInt8} {k : Nat} {x : UInt8} (hx : l[k]? = some x) (h : isL x = true) : nameR l k = upL isN l k := by
  unfold nameR
  rw [if_neg]
  intro e
  have := (upL_pos isL l k).1 e x hx
  rw [h] at this
  cases this
set_option maxHeartbeats 8000000 in
theorem refName_any (s : ByteArray) (hs : s.size ≤ 1000000) (k : Nat) (hk : k ≤ s.size) (w : World) : Calls Tryd.prog 28 #[.string s, .int .i64 k] w fun e w' => e = .returned (.int .i64 (nameR (lst s) k)) ∧ w' = w := by
  by_cases hks : k < s.size
  · have hx0 := Lib.data_getElem? s k hks
    have b1 : decide (s.size ≤ k) = false := by simp; omega
    have C := Lib.hid (refLetter_any (s[k]'hks))
    cases h0 : isL (s[k]'hks) with
    | false =>
      have HV := Lib.hid (nameR_no (l := lst s) (k := k) (fun x h => by rw [hx0] at h; cases h; exact h0))
      rw [h0] at C
      clear hx0 h0
      go_enter Tryd.func28, Tryd.ntmps28
      go_wp2_with fail
      refine (C.out _).mono ?_
      rintro e w1 ⟨rfl, rfl⟩
      go_wp2_with fail
      go_ret
      exact ⟨ret_int (by rw [HV.out]), rfl⟩
    | true =>
      have HV := Lib.hid (nameR_yes hx0 h0)
      rw [h0] at C
      clear hx0 h0
      go_enter Tryd.func28, Tryd.ntmps28
      go_wp2_with fail
      refine (C.out _).mono ?_
      rintro e w1 ⟨rfl, rfl⟩
      clear C
      go_wp2_with fail
      go_loopw [1] (fun i wr => NRel isN s k i w1 wr) (fun i _ => s.size - (intOf i).toNat)
      case atStart => exact ⟨k, hk, rfl, rfl, rfl⟩
      case round =>
        obtain ⟨j, hj, rfl, hl, rfl⟩ := hrel
        have HL := Lib.hid hl
        clear hl
        by_cases hlt : j < s.size
        · have hx := Lib.data_getElem? s j hlt
          have C0 := Lib.hid (refLetter_any (s[j]'hlt))
          cases h0 : isL (s[j]'hlt) with
          | true =>
            rw [h0] at C0
            have hp : isN (s[j]'hlt) = true := by rw [N_is]; simp [h0]
            have HN := Lib.hid (upL_step isN (lst s) j _ hx hp)
            clear hx hp h0
            go_wp2_with fail
            refine (C0.out _).mono ?_
            rintro e w1 ⟨rfl, rfl⟩
            go_wp2_with fail
            go_roundw
            case rel => exact ⟨j + 1, by omega, by go_num, HN.out.trans HL.out, rfl⟩
            case measure => simp [intOf]; omega
          | false =>
            rw [h0] at C0
            have C1 := Lib.hid (refDigit_any (s[j]'hlt))
            cases h1 : isD (s[j]'hlt) with
            | true =>
              rw [h1] at C1
              have hp : isN (s[j]'hlt) = true := by rw [N_is]; simp [h0, h1]
              have HN := Lib.hid (upL_step isN (lst s) j _ hx hp)
              clear hx hp h0 h1
              go_wp2_with fail
              refine (C0.out _).mono ?_
              rintro e w1 ⟨rfl, rfl⟩
              go_wp2_with fail
              refine (C1.out _).mono ?_
              rintro e w1 ⟨rfl, rfl⟩
              go_wp2_with fail
              go_roundw
              case rel => exact ⟨j + 1, by omega, by go_num, HN.out.trans HL.out, rfl⟩
              case measure => simp [intOf]; omega
            | false =>
              rw [h1] at C1
              by_cases h2 : (s[j]'hlt) = 45
              · have q2 : (((s[j]'hlt).toNat : Int) == 45) = true := by rw [h2]; rfl
                have hp : isN (s[j]'hlt) = true := by rw [N_is]; simp [h0, h1, h2]
                have HN := Lib.hid (upL_step isN (lst s) j _ hx hp)
                clear hx hp h0 h1 h2
                go_wp2_with fail
                refine (C0.out _).mono ?_
                rintro e w1 ⟨rfl, rfl⟩
                go_wp2_with fail
                refine (C1.out _).mono ?_
                rintro e w1 ⟨rfl, rfl⟩
                go_wp2_with fail
                go_roundw
                case rel => exact ⟨j + 1, by omega, by go_num, HN.out.trans HL.out, rfl⟩
                case measure => simp [intOf]; omega
              · have q2 : (((s[j]'hlt).toNat : Int) == 45) = false := u8_not _ 45 (by omega) h2
                have hp : isN (s[j]'hlt) = false := by rw [N_is]; simp [h0, h1, h2]
                have HN := Lib.hid (upL_stop isN (lst s) j (fun x h => by rw [hx] at h; cases h; exact hp))
                clear hx hp h0 h1 h2
                go_wp2_with fail
                refine (C0.out _).mono ?_
                rintro e w1 ⟨rfl, rfl⟩
                go_wp2_with fail
                refine (C1.out _).mono ?_
                rintro e w1 ⟨rfl, rfl⟩
                go_wp2_with fail
                go_ret
                exact ⟨ret_int (by rw [HV.out, ← HL.out, HN.out]), rfl⟩
        · have HN := Lib.hid (upL_stop isN (lst s) j (fun x h => by rw [List.getElem?_eq_none (by rw [lst_size]; omega)] at h; cases h))
          go_wp2_with fail
          go_ret
          exact ⟨ret_int (by rw [HV.out, ← HL.out, HN.out]), rfl⟩
  · have HV := Lib.hid (nameR_no (l := lst s) (k := k) (fun x h => by rw [List.getElem?_eq_none (by rw [lst_size]; omega)] at h; cases h))
    go_enter Tryd.func28, Tryd.ntmps28
    go_wp2_with fail
    go_ret
    exact ⟨ret_int (by rw [HV.out]), rfl⟩

/-- An answer of the document: -1 where there is none. -/
def ans : Option Nat → Int
  | none => -1
  | some k => k
theorem quo_is (l : List UInt8) (a j : Nat) (c : UInt8) (h0 : a ≤ j) (h1 : ∀ i, a ≤ i → i < j → l[i]? ≠ some c) (h2 : l[j]? = some c) : quoL l a c = some (j + 1) := by
  have hidx : Lib.indexByte (l.drop a) c = ((j - a : Nat) : Int) := by
    by_cases hneg : 0 ≤ Lib.indexByte (l.drop a) c
    · obtain ⟨i1, i2, i3⟩ := idx_bd (l.drop a) c hneg
      rw [List.getElem?_drop] at i2
      have e1 : ¬ a + (Lib.indexByte (l.drop a) c).toNat < j := fun h => h1 _ (by omega) h i2
      have e2 : ¬ j - a < (Lib.indexByte (l.drop a) c).toNat := fun h => by
        have := i3 (j - a) h
        rw [List.getElem?_drop, Nat.add_sub_cancel' h0] at this
        exact this h2
      omega
    · exfalso
      have hge := Lib.indexByte_ge (l.drop a) c
      have := Lib.indexByte_none (l := l.drop a) (c := c) (by omega) (j - a)
      rw [List.getElem?_drop, Nat.add_sub_cancel' h0] at this
      exact this h2
  unfold quoL
  rw [hidx, if_neg (by omega), Int.toNat_natCast]
  congr 1
  omega
theorem quo_no (l : List UInt8) (a : Nat) (c : UInt8) (h1 : ∀ i, a ≤ i → l[i]? ≠ some c) : quoL l a c = none := by
  unfold quoL
  rw [if_pos]
  refine Int.not_le.1 fun hneg => ?_
  obtain ⟨i1, i2, i3⟩ := idx_bd (l.drop a) c hneg
  rw [List.getElem?_drop] at i2
  exact h1 _ (by omega) i2
/-- What the loop up to a mark goes by. -/
def QRel (s : ByteArray) (a : Nat) (c : UInt8) (i : Value) (w wr : World) : Prop := ∃ j q : Nat, a ≤ j ∧ j ≤ s.size ∧ i = .int .i64 j ∧ (∀ i, a ≤ i → i < j → (lst s)[i]? ≠ some c) ∧ wr = w.drewN q
theorem q_next {s : ByteArray} {a j : Nat} {c : UInt8} (h : ∀ i, a ≤ i → i < j → (lst s)[i]? ≠ some c) (hn : (lst s)[j]? ≠ some c) : ∀ i, a ≤ i → i < j + 1 → (lst s)[i]? ≠ some c := fun i h1 h2 => by
  by_cases e : i = j
  · rw [e]; exact hn
  · exact h i h1 (by omega)
set_option maxHeartbeats 8000000 in
theorem refValue_any (s : ByteArray) (hs : s.size ≤ 1000000) (k : Nat) (hk : k ≤ s.size) (w : World) : Calls Tryd.prog 50 #[.string s, .int .i64 k] w fun e w' => e = .returned (.int .i64 (ans (valL (lst s) k))) ∧ Below w.heap.size w w' := by
  by_cases hks : k < s.size
  · have hx0 := Lib.data_getElem? s k hks
    have b1 : decide (s.size ≤ k) = false := by simp; omega
    have z1 : (0 : Int) ≤ (k : Int) := by omega
    have z2 : (k : Int) < (s.size : Int) := by omega
    by_cases hq : (s[k]'hks) = 34 ∨ (s[k]'hks) = 39
    · have HV : Hid (valL (lst s) k = quoL (lst s) (k + 1) (s[k]'hks)) := show _ = _ from by
        rcases hq with h | h
        · rw [h]; exact valL_34 (by rw [hx0, h])
        · rw [h]; exact valL_39 (by rw [hx0, h])
      have hD : (((s[k]'hks).toNat : Int) == 34) = true ∨ ((((s[k]'hks).toNat : Int) == 34) = false ∧ (((s[k]'hks).toNat : Int) == 39) = true) := by
        rcases hq with h | h
        · exact .inl (by rw [h]; rfl)
        · exact .inr (by rw [h]; exact ⟨rfl, rfl⟩)
      clear hq hx0
      rcases hD with d1 | ⟨d1, d2⟩
      all_goals
        go_enter Tryd.func50, Tryd.ntmps50
        go_wp2_with fail
        go_loopw [5] (fun i wr => QRel s (k + 1) (s[k]'hks) i w wr) (fun i _ => s.size - (intOf i).toNat)
        case atStart => exact ⟨k + 1, 0, by omega, by omega, by go_num, fun i h1 h2 => by omega, rfl⟩
        case round =>
          obtain ⟨j, q, hj0, hj, rfl, hno, rfl⟩ := hrel
          have HO := Lib.hid hno
          clear hno
          by_cases hlt : j < s.size
          · have hx := Lib.data_getElem? s j hlt
            have y1 : (0 : Int) ≤ (j : Int) := by omega
            have y2 : (j : Int) < (s.size : Int) := by omega
            by_cases he : (s[j]'hlt) = (s[k]'hks)
            · have c1 := eq_u8 _ _ he
              have HA := Lib.hid (quo_is (lst s) (k + 1) j (s[k]'hks) hj0 HO.out (by rw [hx, he]))
              clear hx he
              go_wp2_with fail
              go_quiet (fail)
              go_wp2_with fail
              go_ret
              exact ⟨ret_int (by rw [HV.out, HA.out]; simp [ans]), below_drewN (Below.refl _ _) _⟩
            · have c1 := ne_u8 _ _ he
              have HA := Lib.hid (q_next HO.out (by rw [hx]; exact fun h => he (Option.some.inj h)))
              clear hx he
              go_wp2_with fail
              go_quiet (fail)
              go_wp2_with fail
              go_roundw
              case rel => exact ⟨j + 1, q + nq, by omega, by omega, by go_num, HA.out, rfl⟩
              case measure => simp [intOf]; omega
          · have HA := Lib.hid (quo_no (lst s) (k + 1) (s[k]'hks) (fun i h1 => by
              by_cases hi : i < j
              · exact HO.out i h1 hi
              · rw [List.getElem?_eq_none (by rw [lst_size]; omega)]; simp))
            go_wp2_with fail
            go_ret
            exact ⟨ret_int (by rw [HV.out, HA.out]; rfl), below_drewN (Below.refl _ _) _⟩
    · have d1 : (((s[k]'hks).toNat : Int) == 34) = false := u8_not _ 34 (by omega) (fun h => hq (.inl h))
      have d2 : (((s[k]'hks).toNat : Int) == 39) = false := u8_not _ 39 (by omega) (fun h => hq (.inr h))
      have HV := Lib.hid (valL_v (l := lst s) (e := k) (by rw [hx0]; exact fun h => hq (.inr (Option.some.inj h))) (by rw [hx0]; exact fun h => hq (.inl (Option.some.inj h))))
      clear hq hx0
      go_enter Tryd.func50, Tryd.ntmps50
      go_wp2_with fail
      go_loopw [6] (fun i wr => NRel isV s k i w wr) (fun i _ => s.size - (intOf i).toNat)
      case atStart => exact ⟨k, hk, rfl, rfl, rfl⟩
      case round =>
        obtain ⟨j, hj, rfl, hl, rfl⟩ := hrel
        have HL := Lib.hid hl
        clear hl
        by_cases hlt : j < s.size
        · have hx := Lib.data_getElem? s j hlt
          have C0 := Lib.hid (refBlank_any (s[j]'hlt))
          cases h0 : isS (s[j]'hlt) with
          | true =>
            rw [h0] at C0
            have hp : isV (s[j]'hlt) = false := by rw [V_is]; simp [h0]
            have HN := Lib.hid (upL_stop isV (lst s) j (fun x h => by rw [hx] at h; cases h; exact hp))
            clear hx hp h0
            by_cases hjk : j = k
            · have qe : ((j : Int) == (k : Int)) = true := by rw [hjk]; simp
              have HF : Hid (upL isV (lst s) k = k) := show _ = _ from by rw [← HL.out, HN.out]; exact hjk
              clear hjk
              go_wp2_with fail
              refine (C0.out _).mono ?_
              rintro e w1 ⟨rfl, rfl⟩
              go_wp2_with fail
              go_ret
              exact ⟨ret_int (by rw [HV.out, if_pos HF.out]; rfl), Below.refl _ _⟩
            · have qe : ((j : Int) == (k : Int)) = false := by simp; omega
              have HF : Hid (¬ upL isV (lst s) k = k) := show ¬ _ from by rw [← HL.out, HN.out]; exact hjk
              clear hjk
              go_wp2_with fail
              refine (C0.out _).mono ?_
              rintro e w1 ⟨rfl, rfl⟩
              go_wp2_with fail
              go_ret
              exact ⟨ret_int (by rw [HV.out, if_neg HF.out, ← HL.out, HN.out]; rfl), Below.refl _ _⟩
          | false =>
            rw [h0] at C0
            by_cases h1 : (s[j]'hlt) = 34
            · skip
              have q1 : (((s[j]'hlt).toNat : Int) != 34) = false := by rw [h1]; rfl
              have hp : isV (s[j]'hlt) = false := by rw [V_is]; simp [h0, h1]
              have HN := Lib.hid (upL_stop isV (lst s) j (fun x h => by rw [hx] at h; cases h; exact hp))
              clear hx hp h0 h1
              by_cases hjk : j = k
              · have qe : ((j : Int) == (k : Int)) = true := by rw [hjk]; simp
                have HF : Hid (upL isV (lst s) k = k) := show _ = _ from by rw [← HL.out, HN.out]; exact hjk
                clear hjk
                go_wp2_with fail
                refine (C0.out _).mono ?_
                rintro e w1 ⟨rfl, rfl⟩
                go_wp2_with fail
                go_ret
                exact ⟨ret_int (by rw [HV.out, if_pos HF.out]; rfl), Below.refl _ _⟩
              · have qe : ((j : Int) == (k : Int)) = false := by simp; omega
                have HF : Hid (¬ upL isV (lst s) k = k) := show ¬ _ from by rw [← HL.out, HN.out]; exact hjk
                clear hjk
                go_wp2_with fail
                refine (C0.out _).mono ?_
                rintro e w1 ⟨rfl, rfl⟩
                go_wp2_with fail
                go_ret
                exact ⟨ret_int (by rw [HV.out, if_neg HF.out, ← HL.out, HN.out]; rfl), Below.refl _ _⟩
            · have q1 : (((s[j]'hlt).toNat : Int) != 34) = true := u8_ne _ 34 (by omega) h1
              by_cases h2 : (s[j]'hlt) = 39
              · skip
                have q2 : (((s[j]'hlt).toNat : Int) != 39) = false := by rw [h2]; rfl
                have hp : isV (s[j]'hlt) = false := by rw [V_is]; simp [h0, h1, h2]
                have HN := Lib.hid (upL_stop isV (lst s) j (fun x h => by rw [hx] at h; cases h; exact hp))
                clear hx hp h0 h1 h2
                by_cases hjk : j = k
                · have qe : ((j : Int) == (k : Int)) = true := by rw [hjk]; simp
                  have HF : Hid (upL isV (lst s) k = k) := show _ = _ from by rw [← HL.out, HN.out]; exact hjk
                  clear hjk
                  go_wp2_with fail
                  refine (C0.out _).mono ?_
                  rintro e w1 ⟨rfl, rfl⟩
                  go_wp2_with fail
                  go_ret
                  exact ⟨ret_int (by rw [HV.out, if_pos HF.out]; rfl), Below.refl _ _⟩
                · have qe : ((j : Int) == (k : Int)) = false := by simp; omega
                  have HF : Hid (¬ upL isV (lst s) k = k) := show ¬ _ from by rw [← HL.out, HN.out]; exact hjk
                  clear hjk
                  go_wp2_with fail
                  refine (C0.out _).mono ?_
                  rintro e w1 ⟨rfl, rfl⟩
                  go_wp2_with fail
                  go_ret
                  exact ⟨ret_int (by rw [HV.out, if_neg HF.out, ← HL.out, HN.out]; rfl), Below.refl _ _⟩
              · have q2 : (((s[j]'hlt).toNat : Int) != 39) = true := u8_ne _ 39 (by omega) h2
                by_cases h3 : (s[j]'hlt) = 61
                · skip
                  have q3 : (((s[j]'hlt).toNat : Int) != 61) = false := by rw [h3]; rfl
                  have hp : isV (s[j]'hlt) = false := by rw [V_is]; simp [h0, h1, h2, h3]
                  have HN := Lib.hid (upL_stop isV (lst s) j (fun x h => by rw [hx] at h; cases h; exact hp))
                  clear hx hp h0 h1 h2 h3
                  by_cases hjk : j = k
                  · have qe : ((j : Int) == (k : Int)) = true := by rw [hjk]; simp
                    have HF : Hid (upL isV (lst s) k = k) := show _ = _ from by rw [← HL.out, HN.out]; exact hjk
                    clear hjk
                    go_wp2_with fail
                    refine (C0.out _).mono ?_
                    rintro e w1 ⟨rfl, rfl⟩
                    go_wp2_with fail
                    go_ret
                    exact ⟨ret_int (by rw [HV.out, if_pos HF.out]; rfl), Below.refl _ _⟩
                  · have qe : ((j : Int) == (k : Int)) = false := by simp; omega
                    have HF : Hid (¬ upL isV (lst s) k = k) := show ¬ _ from by rw [← HL.out, HN.out]; exact hjk
                    clear hjk
                    go_wp2_with fail
                    refine (C0.out _).mono ?_
                    rintro e w1 ⟨rfl, rfl⟩
                    go_wp2_with fail
                    go_ret
                    exact ⟨ret_int (by rw [HV.out, if_neg HF.out, ← HL.out, HN.out]; rfl), Below.refl _ _⟩
                · have q3 : (((s[j]'hlt).toNat : Int) != 61) = true := u8_ne _ 61 (by omega) h3
                  by_cases h4 : (s[j]'hlt) = 60
                  · skip
                    have q4 : (((s[j]'hlt).toNat : Int) != 60) = false := by rw [h4]; rfl
                    have hp : isV (s[j]'hlt) = false := by rw [V_is]; simp [h0, h1, h2, h3, h4]
                    have HN := Lib.hid (upL_stop isV (lst s) j (fun x h => by rw [hx] at h; cases h; exact hp))
                    clear hx hp h0 h1 h2 h3 h4
                    by_cases hjk : j = k
                    · have qe : ((j : Int) == (k : Int)) = true := by rw [hjk]; simp
                      have HF : Hid (upL isV (lst s) k = k) := show _ = _ from by rw [← HL.out, HN.out]; exact hjk
                      clear hjk
                      go_wp2_with fail
                      refine (C0.out _).mono ?_
                      rintro e w1 ⟨rfl, rfl⟩
                      go_wp2_with fail
                      go_ret
                      exact ⟨ret_int (by rw [HV.out, if_pos HF.out]; rfl), Below.refl _ _⟩
                    · have qe : ((j : Int) == (k : Int)) = false := by simp; omega
                      have HF : Hid (¬ upL isV (lst s) k = k) := show ¬ _ from by rw [← HL.out, HN.out]; exact hjk
                      clear hjk
                      go_wp2_with fail
                      refine (C0.out _).mono ?_
                      rintro e w1 ⟨rfl, rfl⟩
                      go_wp2_with fail
                      go_ret
                      exact ⟨ret_int (by rw [HV.out, if_neg HF.out, ← HL.out, HN.out]; rfl), Below.refl _ _⟩
                  · have q4 : (((s[j]'hlt).toNat : Int) != 60) = true := u8_ne _ 60 (by omega) h4
                    by_cases h5 : (s[j]'hlt) = 62
                    · skip
                      have q5 : (((s[j]'hlt).toNat : Int) != 62) = false := by rw [h5]; rfl
                      have hp : isV (s[j]'hlt) = false := by rw [V_is]; simp [h0, h1, h2, h3, h4, h5]
                      have HN := Lib.hid (upL_stop isV (lst s) j (fun x h => by rw [hx] at h; cases h; exact hp))
                      clear hx hp h0 h1 h2 h3 h4 h5
                      by_cases hjk : j = k
                      · have qe : ((j : Int) == (k : Int)) = true := by rw [hjk]; simp
                        have HF : Hid (upL isV (lst s) k = k) := show _ = _ from by rw [← HL.out, HN.out]; exact hjk
                        clear hjk
                        go_wp2_with fail
                        refine (C0.out _).mono ?_
                        rintro e w1 ⟨rfl, rfl⟩
                        go_wp2_with fail
                        go_ret
                        exact ⟨ret_int (by rw [HV.out, if_pos HF.out]; rfl), Below.refl _ _⟩
                      · have qe : ((j : Int) == (k : Int)) = false := by simp; omega
                        have HF : Hid (¬ upL isV (lst s) k = k) := show ¬ _ from by rw [← HL.out, HN.out]; exact hjk
                        clear hjk
                        go_wp2_with fail
                        refine (C0.out _).mono ?_
                        rintro e w1 ⟨rfl, rfl⟩
                        go_wp2_with fail
                        go_ret
                        exact ⟨ret_int (by rw [HV.out, if_neg HF.out, ← HL.out, HN.out]; rfl), Below.refl _ _⟩
                    · have q5 : (((s[j]'hlt).toNat : Int) != 62) = true := u8_ne _ 62 (by omega) h5
                      by_cases h6 : (s[j]'hlt) = 96
                      · skip
                        have q6 : (((s[j]'hlt).toNat : Int) != 96) = false := by rw [h6]; rfl
                        have hp : isV (s[j]'hlt) = false := by rw [V_is]; simp [h0, h1, h2, h3, h4, h5, h6]
                        have HN := Lib.hid (upL_stop isV (lst s) j (fun x h => by rw [hx] at h; cases h; exact hp))
                        clear hx hp h0 h1 h2 h3 h4 h5 h6
                        by_cases hjk : j = k
                        · have qe : ((j : Int) == (k : Int)) = true := by rw [hjk]; simp
                          have HF : Hid (upL isV (lst s) k = k) := show _ = _ from by rw [← HL.out, HN.out]; exact hjk
                          clear hjk
                          go_wp2_with fail
                          refine (C0.out _).mono ?_
                          rintro e w1 ⟨rfl, rfl⟩
                          go_wp2_with fail
                          go_ret
                          exact ⟨ret_int (by rw [HV.out, if_pos HF.out]; rfl), Below.refl _ _⟩
                        · have qe : ((j : Int) == (k : Int)) = false := by simp; omega
                          have HF : Hid (¬ upL isV (lst s) k = k) := show ¬ _ from by rw [← HL.out, HN.out]; exact hjk
                          clear hjk
                          go_wp2_with fail
                          refine (C0.out _).mono ?_
                          rintro e w1 ⟨rfl, rfl⟩
                          go_wp2_with fail
                          go_ret
                          exact ⟨ret_int (by rw [HV.out, if_neg HF.out, ← HL.out, HN.out]; rfl), Below.refl _ _⟩
                      · have q6 : (((s[j]'hlt).toNat : Int) != 96) = true := u8_ne _ 96 (by omega) h6
                        have hp : isV (s[j]'hlt) = true := by rw [V_is]; simp [h0, h1, h2, h3, h4, h5, h6]
                        have HN := Lib.hid (upL_step isV (lst s) j _ hx hp)
                        clear hx hp h0 h1 h2 h3 h4 h5 h6
                        go_wp2_with fail
                        refine (C0.out _).mono ?_
                        rintro e w1 ⟨rfl, rfl⟩
                        go_wp2_with fail
                        go_roundw
                        case rel => exact ⟨j + 1, by omega, by go_num, HN.out.trans HL.out, rfl⟩
                        case measure => simp [intOf]; omega
        · have HN := Lib.hid (upL_stop isV (lst s) j (fun x h => by rw [List.getElem?_eq_none (by rw [lst_size]; omega)] at h; cases h))
          have qe : ((j : Int) == (k : Int)) = false := by simp; omega
          have HF : Hid (¬ upL isV (lst s) k = k) := show ¬ _ from by rw [← HL.out, HN.out]; omega
          go_wp2_with fail
          go_ret
          exact ⟨ret_int (by rw [HV.out, if_neg HF.out, ← HL.out, HN.out]; rfl), Below.refl _ _⟩
  · have hn : (lst s)[k]? = none := List.getElem?_eq_none (by rw [lst_size]; omega)
    have HV : Hid (valL (lst s) k = none) := show _ = _ from by
      rw [valL_v (by rw [hn]; simp) (by rw [hn]; simp), if_pos (upL_stop _ _ _ (fun x h => by rw [hn] at h; cases h))]
    clear hn
    go_enter Tryd.func50, Tryd.ntmps50
    go_wp2_with fail
    go_ret
    exact ⟨ret_int (by rw [HV.out]; rfl), Below.refl _ _⟩
end Go.Proofs.YtdnnjakggopdoaaDoor
