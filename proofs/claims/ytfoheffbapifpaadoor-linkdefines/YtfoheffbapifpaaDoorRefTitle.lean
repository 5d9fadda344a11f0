/-
  PROVED: contract of the document's own Title: the title at a place and how many bytes it has ('titleP'). Conditions: the text has at most 1000000 bytes.
-/
import Derived.Test.YtfoheffbapifpaaDoorRefLabel
namespace Go.Proofs.YtfoheffbapifpaaDoor
open Go.ChangeShapes Go.WideShapes Go.ChangeAt Go.RowKit Go.Sort
set_option linter.unusedVariables false

/-- What a scan's loop goes by, in the document's own. -/
def TiRel (e : UInt8) (o : List UInt8) (s : ByteArray) (p : Nat) (w : World) (i : Value) (wr : World) : Prop :=
  ∃ k : Nat, p + 1 ≤ k ∧ k ≤ s.size ∧ i = .int .i64 k ∧ k + runG (stp e o) false ((lst s).drop k) = p + 1 + runG (stp e o) false ((lst s).drop (p + 1)) ∧ wr = w
theorem told_cut (s : ByteArray) (p k : Nat) (hk1 : p + 1 ≤ k) (hk2 : k ≤ s.size) : toldP (some (lst (s.extract (p + 1) k))) = (plG 0 (lst (s.extract (p + 1) k)), k + 1 - p) := by
  simp only [toldP]
  rw [lst_size]
  simp
  omega
theorem title_no (s : ByteArray) (a : Int) (h : a < 0 ∨ (s.size : Int) ≤ a) : titleP (frm s a) = ([], 0) := by rw [frm_out s a h]; rfl
theorem title_not (s : ByteArray) (p : Nat) (hp : p < s.size) (h1 : ¬ (s[p]'hp) = 34) (h2 : ¬ (s[p]'hp) = 39) (h3 : ¬ (s[p]'hp) = 40) : titleP (frm s p) = ([], 0) := by
  rw [frm_cons s p hp]
  simp only [titleP]
  rw [if_neg h1, if_neg h2, if_neg h3]
theorem title_34 (s : ByteArray) (p : Nat) (hp : p < s.size) (h : (s[p]'hp) = 34) : titleP (frm s p) = toldP (encG 34 [] ((lst s).drop (p + 1))) := by
  rw [frm_cons s p hp]
  simp only [titleP]
  rw [if_pos h]
theorem title_39 (s : ByteArray) (p : Nat) (hp : p < s.size) (h : (s[p]'hp) = 39) : titleP (frm s p) = toldP (encG 39 [] ((lst s).drop (p + 1))) := by
  rw [frm_cons s p hp]
  simp only [titleP]
  rw [if_neg (by rw [h]; decide), if_pos h]
theorem title_40 (s : ByteArray) (p : Nat) (hp : p < s.size) (h : (s[p]'hp) = 40) : titleP (frm s p) = toldP (encG 41 [40] ((lst s).drop (p + 1))) := by
  rw [frm_cons s p hp]
  simp only [titleP]
  rw [if_neg (by rw [h]; decide), if_neg (by rw [h]; decide), if_pos h]

set_option maxHeartbeats 8000000 in
theorem refTitle_34 (s : ByteArray) (p : Nat) (hp : p < s.size) (h : (s[p]'hp) = 34) (hs : s.size ≤ 1000000) (w : World) : Calls Tryd.prog 13 #[.string s, .int .i64 p] w fun r w' => r = .returned (pairV (titleP (frm s p))) ∧ Below w.heap.size w w' := by
  have hpn := (s[p]'hp).toNat_lt
  have d0 : decide (s.size ≤ p) = false := decide_eq_false (by omega)
  have a34 : (((s[p]'hp).toNat : Int) != 34) = false := nq_u8 _ 34 h
  have b40 : (((s[p]'hp).toNat : Int) == 40) = false := neU _ 40 (by rw [h]; decide)
  have b41 : (((s[p]'hp).toNat : Int) != 41) = true := nn_u8 _ 41 (by rw [h]; decide)
  have HR := Lib.hid (title_34 s p hp h)
  have HPP := Lib.hid h
  generalize titleP (frm s p) = r at *
  clear h
  go_enter Tryd.func13, Tryd.ntmps13
  go_wp2_with fail
  go_loopw [7] (fun i wr => TiRel 34 [] s p w i wr) (fun i _ => s.size - (intOf i).toNat)
  case atStart => exact ⟨p + 1, Nat.le_refl _, by omega, by go_num, rfl, rfl⟩
  case round =>
    obtain ⟨k, hk1, hk2, rfl, hl, rfl⟩ := hrel
    have HL := Lib.hid hl
    clear hl
    by_cases hlt : k < s.size
    · have hn := (s[k]'hlt).toNat_lt
      by_cases h1 : (s[k]'hlt) = 34
      · have c1 : (((s[k]'hlt).toNat : Int) != (s[p]'hp).toNat) = false := nq_u8 _ _ (by rw [h1, HPP.out])
        have HV : Hid (r = (plG 0 (lst (s.extract (p + 1) k)), k + 1 - p)) := show _ = _ from by
          rw [HR.out, enc_at 34 [] s p k hk1 hk2 HL.out (run_at 34 [] s k hlt (by rw [h1]; rfl)), if_pos (by rw [lst_get s k hlt, h1]), told_cut s p k hk1 hk2]
        have HP := Lib.hid (refPlain_text (s.extract (p + 1) k) (by simp; omega))
        clear h1 HL HR HPP
        generalize plG 0 (lst (s.extract (p + 1) k)) = x at *
        go_wp2_with fail
        refine (HP.out _).mono ?_
        rintro e' w1 ⟨rfl, hb⟩
        have B1 := Lib.hid hb
        clear hb
        go_wp2_with fail
        go_ret2
        rw [HV.out]
        unfold pairV
        refine ⟨ret_pair rfl ?_, B1.out⟩
        simp
        omega
      have c1 : (((s[k]'hlt).toNat : Int) != (s[p]'hp).toNat) = true := nn_u8 _ _ (by rw [HPP.out]; exact h1)
      have HS := Lib.hid (refStep_any s k hlt hs)
      obtain ⟨g1, g2, g3, g4⟩ := run_on (stp 34 []) s k hlt (by simp [stp, h1]) _ HL.out
      have HN := Lib.hid g1
      clear h1  HL g1 HR HPP
      generalize stepL ((lst s).drop k) = n at *
      go_wp2_with fail
      refine (HS.out _).mono ?_
      rintro e' y ⟨rfl, rfl⟩
      clear HS
      go_wp2_with fail
      go_roundw
      case rel => exact ⟨k + n, by omega, g2, by go_num, HN.out, rfl⟩
      case measure => simp [intOf]; omega
    · have HV : Hid (r = ([], 0)) := show _ = _ from by
        rw [HR.out, enc_at 34 [] s p k hk1 hk2 HL.out (run_out _ s k (by omega)), if_neg (by rw [List.getElem?_eq_none (by rw [lst_size]; omega)]; simp)]
        rfl
      clear HL HR HPP
      go_wp2_with fail
      go_ret2
      rw [HV.out]
      exact ⟨rfl, Below.refl _ _⟩

set_option maxHeartbeats 8000000 in
theorem refTitle_39 (s : ByteArray) (p : Nat) (hp : p < s.size) (h : (s[p]'hp) = 39) (hs : s.size ≤ 1000000) (w : World) : Calls Tryd.prog 13 #[.string s, .int .i64 p] w fun r w' => r = .returned (pairV (titleP (frm s p))) ∧ Below w.heap.size w w' := by
  have hpn := (s[p]'hp).toNat_lt
  have d0 : decide (s.size ≤ p) = false := decide_eq_false (by omega)
  have a34 : (((s[p]'hp).toNat : Int) != 34) = true := nn_u8 _ 34 (by rw [h]; decide)
  have a39 : (((s[p]'hp).toNat : Int) != 39) = false := nq_u8 _ 39 h
  have b40 : (((s[p]'hp).toNat : Int) == 40) = false := neU _ 40 (by rw [h]; decide)
  have b41 : (((s[p]'hp).toNat : Int) != 41) = true := nn_u8 _ 41 (by rw [h]; decide)
  have HR := Lib.hid (title_39 s p hp h)
  have HPP := Lib.hid h
  generalize titleP (frm s p) = r at *
  clear h
  go_enter Tryd.func13, Tryd.ntmps13
  go_wp2_with fail
  go_loopw [7] (fun i wr => TiRel 39 [] s p w i wr) (fun i _ => s.size - (intOf i).toNat)
  case atStart => exact ⟨p + 1, Nat.le_refl _, by omega, by go_num, rfl, rfl⟩
  case round =>
    obtain ⟨k, hk1, hk2, rfl, hl, rfl⟩ := hrel
    have HL := Lib.hid hl
    clear hl
    by_cases hlt : k < s.size
    · have hn := (s[k]'hlt).toNat_lt
      by_cases h1 : (s[k]'hlt) = 39
      · have c1 : (((s[k]'hlt).toNat : Int) != (s[p]'hp).toNat) = false := nq_u8 _ _ (by rw [h1, HPP.out])
        have HV : Hid (r = (plG 0 (lst (s.extract (p + 1) k)), k + 1 - p)) := show _ = _ from by
          rw [HR.out, enc_at 39 [] s p k hk1 hk2 HL.out (run_at 39 [] s k hlt (by rw [h1]; rfl)), if_pos (by rw [lst_get s k hlt, h1]), told_cut s p k hk1 hk2]
        have HP := Lib.hid (refPlain_text (s.extract (p + 1) k) (by simp; omega))
        clear h1 HL HR HPP
        generalize plG 0 (lst (s.extract (p + 1) k)) = x at *
        go_wp2_with fail
        refine (HP.out _).mono ?_
        rintro e' w1 ⟨rfl, hb⟩
        have B1 := Lib.hid hb
        clear hb
        go_wp2_with fail
        go_ret2
        rw [HV.out]
        unfold pairV
        refine ⟨ret_pair rfl ?_, B1.out⟩
        simp
        omega
      have c1 : (((s[k]'hlt).toNat : Int) != (s[p]'hp).toNat) = true := nn_u8 _ _ (by rw [HPP.out]; exact h1)
      have HS := Lib.hid (refStep_any s k hlt hs)
      obtain ⟨g1, g2, g3, g4⟩ := run_on (stp 39 []) s k hlt (by simp [stp, h1]) _ HL.out
      have HN := Lib.hid g1
      clear h1  HL g1 HR HPP
      generalize stepL ((lst s).drop k) = n at *
      go_wp2_with fail
      refine (HS.out _).mono ?_
      rintro e' y ⟨rfl, rfl⟩
      clear HS
      go_wp2_with fail
      go_roundw
      case rel => exact ⟨k + n, by omega, g2, by go_num, HN.out, rfl⟩
      case measure => simp [intOf]; omega
    · have HV : Hid (r = ([], 0)) := show _ = _ from by
        rw [HR.out, enc_at 39 [] s p k hk1 hk2 HL.out (run_out _ s k (by omega)), if_neg (by rw [List.getElem?_eq_none (by rw [lst_size]; omega)]; simp)]
        rfl
      clear HL HR HPP
      go_wp2_with fail
      go_ret2
      rw [HV.out]
      exact ⟨rfl, Below.refl _ _⟩

set_option maxHeartbeats 8000000 in
theorem refTitle_40 (s : ByteArray) (p : Nat) (hp : p < s.size) (h : (s[p]'hp) = 40) (hs : s.size ≤ 1000000) (w : World) : Calls Tryd.prog 13 #[.string s, .int .i64 p] w fun r w' => r = .returned (pairV (titleP (frm s p))) ∧ Below w.heap.size w w' := by
  have hpn := (s[p]'hp).toNat_lt
  have d0 : decide (s.size ≤ p) = false := decide_eq_false (by omega)
  have a34 : (((s[p]'hp).toNat : Int) != 34) = true := nn_u8 _ 34 (by rw [h]; decide)
  have a39 : (((s[p]'hp).toNat : Int) != 39) = true := nn_u8 _ 39 (by rw [h]; decide)
  have a40 : (((s[p]'hp).toNat : Int) != 40) = false := nq_u8 _ 40 h
  have b40 : (((s[p]'hp).toNat : Int) == 40) = true := eqU _ 40 h
  have HR := Lib.hid (title_40 s p hp h)
  have HPP := Lib.hid h
  generalize titleP (frm s p) = r at *
  clear h
  go_enter Tryd.func13, Tryd.ntmps13
  go_wp2_with fail
  go_loopw [7] (fun i wr => TiRel 41 [40] s p w i wr) (fun i _ => s.size - (intOf i).toNat)
  case atStart => exact ⟨p + 1, Nat.le_refl _, by omega, by go_num, rfl, rfl⟩
  case round =>
    obtain ⟨k, hk1, hk2, rfl, hl, rfl⟩ := hrel
    have HL := Lib.hid hl
    clear hl
    by_cases hlt : k < s.size
    · have hn := (s[k]'hlt).toNat_lt
      by_cases h1 : (s[k]'hlt) = 41
      · have c1 : (((s[k]'hlt).toNat : Int) != 41) = false := nq_u8 _ 41 h1
        have HV : Hid (r = (plG 0 (lst (s.extract (p + 1) k)), k + 1 - p)) := show _ = _ from by
          rw [HR.out, enc_at 41 [40] s p k hk1 hk2 HL.out (run_at 41 [40] s k hlt (by rw [h1]; rfl)), if_pos (by rw [lst_get s k hlt, h1]), told_cut s p k hk1 hk2]
        have HP := Lib.hid (refPlain_text (s.extract (p + 1) k) (by simp; omega))
        clear h1 HL HR HPP
        generalize plG 0 (lst (s.extract (p + 1) k)) = x at *
        go_wp2_with fail
        refine (HP.out _).mono ?_
        rintro e' w1 ⟨rfl, hb⟩
        have B1 := Lib.hid hb
        clear hb
        go_wp2_with fail
        go_ret2
        rw [HV.out]
        unfold pairV
        refine ⟨ret_pair rfl ?_, B1.out⟩
        simp
        omega
      have c1 : (((s[k]'hlt).toNat : Int) != 41) = true := nn_u8 _ 41 h1
      by_cases h2 : (s[k]'hlt) = 40
      · have c2 : (((s[k]'hlt).toNat : Int) != 40) = false := nq_u8 _ 40 h2
        have HV : Hid (r = ([], 0)) := show _ = _ from by
          rw [HR.out, enc_at 41 [40] s p k hk1 hk2 HL.out (run_at 41 [40] s k hlt (by rw [h2]; rfl)), if_neg (by rw [lst_get s k hlt, h2]; decide)]
          rfl
        clear h1 h2 HL HR HPP
        go_wp2_with fail
        go_ret2
        rw [HV.out]
        exact ⟨rfl, Below.refl _ _⟩
      have c2 : (((s[k]'hlt).toNat : Int) != 40) = true := nn_u8 _ 40 h2
      have HS := Lib.hid (refStep_any s k hlt hs)
      obtain ⟨g1, g2, g3, g4⟩ := run_on (stp 41 [40]) s k hlt (by simp [stp, h1, h2]) _ HL.out
      have HN := Lib.hid g1
      clear h1 h2 HL g1 HR HPP
      generalize stepL ((lst s).drop k) = n at *
      go_wp2_with fail
      refine (HS.out _).mono ?_
      rintro e' y ⟨rfl, rfl⟩
      clear HS
      go_wp2_with fail
      go_roundw
      case rel => exact ⟨k + n, by omega, g2, by go_num, HN.out, rfl⟩
      case measure => simp [intOf]; omega
    · have HV : Hid (r = ([], 0)) := show _ = _ from by
        rw [HR.out, enc_at 41 [40] s p k hk1 hk2 HL.out (run_out _ s k (by omega)), if_neg (by rw [List.getElem?_eq_none (by rw [lst_size]; omega)]; simp)]
        rfl
      clear HL HR HPP
      go_wp2_with fail
      go_ret2
      rw [HV.out]
      exact ⟨rfl, Below.refl _ _⟩

set_option maxHeartbeats 2000000 in
theorem refTitle_any (s : ByteArray) (a : Int) (hs : s.size ≤ 1000000) (w : World) : Calls Tryd.prog 13 #[.string s, .int .i64 a] w fun r w' => r = .returned (pairV (titleP (frm s a))) ∧ Below w.heap.size w w' := by
  by_cases hout : a < 0 ∨ (s.size : Int) ≤ a
  · rw [title_no s a hout]
    by_cases h0 : a < 0
    · clear hout
      go_enter Tryd.func13, Tryd.ntmps13
      go_wp2_with fail
      go_ret2
      exact ⟨rfl, Below.refl _ _⟩
    · have h1 : (s.size : Int) ≤ a := by omega
      clear hout
      go_enter Tryd.func13, Tryd.ntmps13
      go_wp2_with fail
      go_ret2
      exact ⟨rfl, Below.refl _ _⟩
  obtain ⟨p, rfl⟩ : ∃ p : Nat, a = p := ⟨a.toNat, by omega⟩
  have hp : p < s.size := by omega
  clear hout
  have hpn := (s[p]'hp).toNat_lt
  by_cases h1 : (s[p]'hp) = 34
  · exact refTitle_34 s p hp h1 hs w
  by_cases h2 : (s[p]'hp) = 39
  · exact refTitle_39 s p hp h2 hs w
  by_cases h3 : (s[p]'hp) = 40
  · exact refTitle_40 s p hp h3 hs w
  rw [title_not s p hp h1 h2 h3]
  have a1 : (((s[p]'hp).toNat : Int) != 34) = true := nn_u8 _ 34 h1
  have a2 : (((s[p]'hp).toNat : Int) != 39) = true := nn_u8 _ 39 h2
  have a3 : (((s[p]'hp).toNat : Int) != 40) = true := nn_u8 _ 40 h3
  clear h1 h2 h3
  go_enter Tryd.func13, Tryd.ntmps13
  go_wp2_with fail
  go_ret2
  exact ⟨rfl, Below.refl _ _⟩
end Go.Proofs.YtfoheffbapifpaaDoor
