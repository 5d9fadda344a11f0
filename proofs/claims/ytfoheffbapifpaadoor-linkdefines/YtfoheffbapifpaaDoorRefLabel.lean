/-
  PROVED: contracts of the document's own Label, Dest and Title: the part at a place and how many bytes it has ('labP', 'destP', 'titleP'). Conditions: the text has at most 1000000 bytes.
-/
import Derived.Test.YtfoheffbapifpaaDoorParts
import Derived.Test.YtfoheffbapifpaaDoorRefText
namespace Go.Proofs.YtfoheffbapifpaaDoor
open Go.ChangeShapes Go.WideShapes Go.ChangeAt Go.RowKit Go.Sort
set_option linter.unusedVariables false

theorem frm_cons (s : ByteArray) (p : Nat) (hp : p < s.size) : frm s p = (s[p]'hp) :: (lst s).drop (p + 1) := by rw [frm_in s p (by omega), lst_at s p hp]
/-- At the byte that stops a scan: what the part is. -/
theorem enc_at (e : UInt8) (o : List UInt8) (s : ByteArray) (p k : Nat) (hk : p + 1 ≤ k) (hks : k ≤ s.size) (h : k + runG (stp e o) false ((lst s).drop k) = p + 1 + runG (stp e o) false ((lst s).drop (p + 1))) (h0 : runG (stp e o) false ((lst s).drop k) = 0) :
    encG e o ((lst s).drop (p + 1)) = if (lst s)[k]? = some e then some (lst (s.extract (p + 1) k)) else none := by
  unfold encG
  rw [show runG (stp e o) false ((lst s).drop (p + 1)) = k - (p + 1) by omega, List.getElem?_drop, show p + 1 + (k - (p + 1)) = k by omega, lst_cut, List.drop_take]
theorem run_at (e : UInt8) (o : List UInt8) (s : ByteArray) (k : Nat) (hk : k < s.size) (h : stp e o (s[k]'hk) = true) : runG (stp e o) false ((lst s).drop k) = 0 := by rw [lst_at s k hk, run_stop _ _ _ h]
theorem run_out (q : UInt8 → Bool) (s : ByteArray) (k : Nat) (hk : s.size ≤ k) : runG q false ((lst s).drop k) = 0 := by rw [lst_out s k hk, run_nil]
theorem run_on (q : UInt8 → Bool) (s : ByteArray) (k : Nat) (hk : k < s.size) (h : q (s[k]'hk) = false) (R : Nat) (hR : k + runG q false ((lst s).drop k) = R) :
    k + stepL ((lst s).drop k) + runG q false ((lst s).drop (k + stepL ((lst s).drop k))) = R ∧ k + stepL ((lst s).drop k) ≤ s.size ∧ 1 ≤ stepL ((lst s).drop k) ∧ stepL ((lst s).drop k) ≤ 2 := by
  have hc := lst_at s k hk
  have h1 := run_go q (s[k]'hk) ((lst s).drop (k + 1)) h
  have h2 := stepL_len (s[k]'hk) ((lst s).drop (k + 1))
  have h3 := stepL_bd ((lst s).drop k)
  rw [← hc, List.drop_drop] at h1
  rw [← hc, List.length_drop, lst_size] at h2
  omega
theorem some_step (s : ByteArray) (p k : Nat) (hk : k < s.size) (hp : p ≤ k) : someL (lst (s.extract p (k + stepL ((lst s).drop k)))) = (someL (lst (s.extract p k)) || !isBl (s[k]'hk)) := by
  have hc := lst_at s k hk
  rw [lst_cut, lst_cut]
  have e1 : ((lst s).take (k + 1)).drop p = ((lst s).take k).drop p ++ [s[k]'hk] := by
    have hl : k < (lst s).length := by rw [lst_size]; exact hk
    rw [List.take_succ_eq_append_getElem hl, List.drop_append_of_le_length (by rw [List.length_take]; omega)]
    rfl
  have s1 : someL (((lst s).take (k + 1)).drop p) = (someL (((lst s).take k).drop p) || !isBl (s[k]'hk)) := by
    rw [e1]; simp [someL]
  unfold stepL
  cases he : escd ((lst s).drop k) with
  | false => simpa using s1
  | true =>
    simp only [if_true]
    rw [hc] at he
    have hk1 : k + 1 < s.size := by
      by_cases h : k + 1 < s.size
      · exact h
      · rw [lst_out s (k + 1) (by omega)] at he
        simp [escd] at he
    rw [lst_at s (k + 1) hk1] at he
    have h92 : (s[k]'hk) = 92 := by simp [escd] at he; exact he.1
    have hl : k + 1 < (lst s).length := by rw [lst_size]; exact hk1
    have e2 : ((lst s).take (k + 1 + 1)).drop p = ((lst s).take (k + 1)).drop p ++ [(lst s)[k + 1]] := by
      rw [List.take_succ_eq_append_getElem hl, List.drop_append_of_le_length (by rw [List.length_take]; omega)]
    have s2 : someL (((lst s).take (k + 1 + 1)).drop p) = (someL (((lst s).take (k + 1)).drop p) || !isBl ((lst s)[k + 1])) := by
      rw [e2]; simp [someL]
    rw [show k + 2 = k + 1 + 1 by omega, s2, s1, h92]
    simp [isBl]

theorem lab_no (s : ByteArray) (a : Int) (h : a < 0 ∨ (s.size : Int) ≤ a) : labP (frm s a) = ([], 0) := by rw [frm_out s a h]; rfl
theorem lab_not (s : ByteArray) (p : Nat) (hp : p < s.size) (h : ¬ (s[p]'hp) = 91) : labP (frm s p) = ([], 0) := by
  rw [frm_cons s p hp]
  simp only [labP, labelL]
  rw [if_neg h]
theorem lab_none (s : ByteArray) (p : Nat) (hp : p < s.size) (h : encG 93 [91] ((lst s).drop (p + 1)) = none) : labP (frm s p) = ([], 0) := by
  rw [frm_cons s p hp]
  simp only [labP, labelL, h, Option.bind_none]
  split <;> simp_all
theorem lab_some (s : ByteArray) (p : Nat) (hp : p < s.size) (h91 : (s[p]'hp) = 91) (t : List UInt8) (h : encG 93 [91] ((lst s).drop (p + 1)) = some t) : labP (frm s p) = if okLab t = true then (t, t.length + 2) else ([], 0) := by
  rw [frm_cons s p hp]
  simp only [labP, labelL, h, Option.bind_some]
  rw [if_pos h91]
  by_cases ho : okLab t = true
  · rw [if_pos ho, if_pos ho]
  · rw [if_neg ho, if_neg ho]

/-- What the loop of the document's Label goes by. -/
def LbRel (s : ByteArray) (p : Nat) (w : World) (i b : Value) (wr : World) : Prop :=
  ∃ (k : Nat) (v : Bool), p + 1 ≤ k ∧ k ≤ s.size ∧ i = .int .i64 k ∧ b = .bool v ∧ k + runG (stp 93 [91]) false ((lst s).drop k) = p + 1 + runG (stp 93 [91]) false ((lst s).drop (p + 1)) ∧ someL (lst (s.extract (p + 1) k)) = v ∧ wr = w
theorem ret_pair {X Y : ByteArray} {a b : Int} (h1 : X = Y) (h2 : a = b) : Ending.returned (.tuple #[.string X, .int .i64 a]) = .returned (.tuple #[.string Y, .int .i64 b]) := by rw [h1, h2]
set_option maxHeartbeats 8000000 in
theorem refLabel_any (s : ByteArray) (a : Int) (hs : s.size ≤ 1000000) (w : World) : Calls Tryd.prog 9 #[.string s, .int .i64 a] w fun r w' => r = .returned (pairV (labP (frm s a))) ∧ w' = w := by
  by_cases hout : a < 0 ∨ (s.size : Int) ≤ a
  · rw [lab_no s a hout]
    by_cases h0 : a < 0
    · clear hout
      go_enter Tryd.func9, Tryd.ntmps9
      go_wp2_with fail
      go_ret2
      exact ⟨rfl, rfl⟩
    · have h1 : (s.size : Int) ≤ a := by omega
      clear hout
      go_enter Tryd.func9, Tryd.ntmps9
      go_wp2_with fail
      go_ret2
      exact ⟨rfl, rfl⟩
  obtain ⟨p, rfl⟩ : ∃ p : Nat, a = p := ⟨a.toNat, by omega⟩
  have hp : p < s.size := by omega
  clear hout
  have hpn := (s[p]'hp).toNat_lt
  by_cases h91 : (s[p]'hp) = 91
  · have c0 : (((s[p]'hp).toNat : Int) != 91) = false := nq_u8 _ 91 h91
    have d0 : decide (s.size ≤ p) = false := decide_eq_false (by omega)
    have HNO := Lib.hid (lab_none s p hp)
    have HSO := Lib.hid (lab_some s p hp h91)
    clear h91
    generalize labP (frm s p) = r at *
    go_enter Tryd.func9, Tryd.ntmps9
    go_wp2_with fail
    go_loopw [6, 7] (fun i b wr => LbRel s p w i b wr) (fun i _ _ => s.size - (intOf i).toNat)
    case atStart => exact ⟨p + 1, false, Nat.le_refl _, by omega, by go_num, rfl, rfl, by rw [lst_cut]; simp [someL], rfl⟩
    case round =>
      obtain ⟨k, v, hk1, hk2, rfl, rfl, hl, hv, rfl⟩ := hrel
      have HL := Lib.hid hl
      have HVV := Lib.hid hv
      clear hl hv
      by_cases hlt : k < s.size
      · have hn := (s[k]'hlt).toNat_lt
        by_cases h1 : (s[k]'hlt) = 91
        · have c1 : (((s[k]'hlt).toNat : Int) != 91) = false := nq_u8 _ 91 h1
          have c2 : (((s[k]'hlt).toNat : Int) != 93) = true := nn_u8 _ 93 (by rw [h1]; decide)
          have HV : Hid (r = ([], 0)) := show _ = _ from HNO.out (by
            rw [enc_at 93 [91] s p k hk1 hk2 HL.out (run_at 93 [91] s k hlt (by rw [h1]; rfl)), if_neg (by rw [lst_get s k hlt, h1]; decide)])
          clear h1 HL HNO HSO HVV
          go_wp2_with fail
          go_ret2
          rw [HV.out]
          exact ⟨rfl, rfl⟩
        have c1 : (((s[k]'hlt).toNat : Int) != 91) = true := nn_u8 _ 91 h1
        by_cases h2 : (s[k]'hlt) = 93
        · have c2 : (((s[k]'hlt).toNat : Int) != 93) = false := nq_u8 _ 93 h2
          have hE : encG 93 [91] ((lst s).drop (p + 1)) = some (lst (s.extract (p + 1) k)) := by
            rw [enc_at 93 [91] s p k hk1 hk2 HL.out (run_at 93 [91] s k hlt (by rw [h2]; rfl)), if_pos (by rw [lst_get s k hlt, h2])]
          have hR := HSO.out _ hE
          have hsz : (lst (s.extract (p + 1) k)).length = k - (p + 1) := by rw [lst_size]; simp; omega
          unfold okLab at hR
          rw [hsz, HVV.out] at hR
          clear h2 h1 HL HNO HSO HVV hE hsz
          cases v with
          | false =>
            have HV : Hid (r = ([], 0)) := show _ = _ from by rw [hR, if_neg (by simp)]
            clear hR
            go_wp2_with fail
            go_ret2
            rw [HV.out]
            exact ⟨rfl, rfl⟩
          | true =>
            by_cases h999 : k - (p + 1) ≤ 999
            · have HV : Hid (r = (lst (s.extract (p + 1) k), k - (p + 1) + 2)) := show _ = _ from by rw [hR, if_pos (by simp; omega)]
              clear hR
              go_wp2_with fail
              go_ret2
              rw [HV.out]
              unfold pairV
              refine ⟨ret_pair rfl ?_, rfl⟩
              simp
              omega
            · have HV : Hid (r = ([], 0)) := show _ = _ from by rw [hR, if_neg (by simp; omega)]
              clear hR
              go_wp2_with fail
              go_ret2
              rw [HV.out]
              exact ⟨rfl, rfl⟩
        have c2 : (((s[k]'hlt).toNat : Int) != 93) = true := nn_u8 _ 93 h2
        have HS := Lib.hid (refStep_any s k hlt hs)
        have HBL := Lib.hid (refBl_any (s[k]'hlt))
        obtain ⟨g1, g2, g3, g4⟩ := run_on (stp 93 [91]) s k hlt (by simp [stp, h1, h2]) _ HL.out
        have hsm := some_step s (p + 1) k hlt hk1
        have HN := Lib.hid g1
        rw [HVV.out] at hsm
        have HM := Lib.hid hsm
        clear h1 h2 HL HVV g1 hsm
        generalize isBl (s[k]'hlt) = bl at *
        generalize stepL ((lst s).drop k) = n at *
        cases v with
        | true =>
          clear HBL
          go_wp2_with fail
          refine (HS.out _).mono ?_
          rintro e' y ⟨rfl, rfl⟩
          clear HS
          go_wp2_with fail
          go_roundw
          case rel => exact ⟨k + n, true, by omega, g2, by go_num, rfl, HN.out, by simpa using HM.out, rfl⟩
          case measure => simp [intOf]; omega
        | false =>
          go_wp2_with fail
          refine (HBL.out _).mono ?_
          rintro e' y ⟨rfl, rfl⟩
          clear HBL
          go_wp2_with fail
          refine (HS.out _).mono ?_
          rintro e' y ⟨rfl, rfl⟩
          clear HS
          go_wp2_with fail
          go_roundw
          case rel => exact ⟨k + n, !bl, by omega, g2, by go_num, rfl, HN.out, by simpa using HM.out, rfl⟩
          case measure => simp [intOf]; omega
      · have HV : Hid (r = ([], 0)) := show _ = _ from HNO.out (by
          rw [enc_at 93 [91] s p k hk1 hk2 HL.out (run_out _ s k (by omega)), if_neg (by rw [List.getElem?_eq_none (by rw [lst_size]; omega)]; simp)])
        clear HL HNO HSO HVV
        go_wp2_with fail
        go_ret2
        rw [HV.out]
        exact ⟨rfl, rfl⟩
  · have c0 : (((s[p]'hp).toNat : Int) != 91) = true := nn_u8 _ 91 h91
    rw [lab_not s p hp h91]
    clear h91
    go_enter Tryd.func9, Tryd.ntmps9
    go_wp2_with fail
    go_ret2
    exact ⟨rfl, rfl⟩
end Go.Proofs.YtfoheffbapifpaaDoor
