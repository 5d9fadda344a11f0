/-
  PROVED: contracts of the document's own number and char: digits from the left ('numG'), a number's character ('chr'). Conditions: the text has at most 8000000 bytes.
-/
import Derived.Test.YtfoheffbapifpaaDoorRefPure
import Derived.Test.YtfoheffbapifpaaDoorNum
namespace Go.Proofs.YtfoheffbapifpaaDoor
open Go.ChangeShapes Go.WideShapes Go.ChangeAt Go.RowKit Go.Sort
set_option linter.unusedVariables false

/-- What the loop of the document's number goes by. -/
def NRel (s : ByteArray) (p b m : Nat) (x i : Value) (w wr : World) : Prop :=
  ∃ (j : Nat) (v : Int), j ≤ m ∧ x = .int .i64 v ∧ i = .int .i64 j ∧ 0 ≤ v ∧ v < 16 ^ j ∧ numG b (m - j) ((lst s).drop (p + j)) v j = numG b m ((lst s).drop p) 0 0 ∧ wr = w
theorem hexZ_in (c : UInt8) (h : hexV c < 16) : hexZ c = hexV c := by unfold hexZ; rw [if_pos h]
theorem hexZ_no (c : UInt8) (h : ¬ hexV c < 16) : hexZ c = -1 := by unfold hexZ; rw [if_neg h]
set_option maxHeartbeats 2000000 in
theorem number_10_7 (s : ByteArray) (p : Nat) (hs : s.size ≤ 8000000) (hp : p ≤ 8000000) (w : World) : Calls Tryd.prog 77 #[.string s, .int .i64 p, .int .i64 10, .int .i64 7] w fun e w' => e = .returned (.tuple #[.int .i64 (numG 10 7 ((lst s).drop p) 0 0).1, .int .i64 (numG 10 7 ((lst s).drop p) 0 0).2]) ∧ w = w' := by
  obtain ⟨q, hq⟩ : ∃ q, q = numG 10 7 ((lst s).drop p) 0 0 := ⟨_, rfl⟩
  rw [← hq]
  have HQ := Lib.hid hq
  clear hq
  go_enter Tryd.func77, Tryd.ntmps77
  go_wp2_with fail
  go_loopw [10, 11] (fun x i wr => NRel s p 10 7 x i w wr) (fun _ i _ => 7 - (intOf i).toNat)
  case atStart => exact ⟨0, 0, Nat.zero_le _, rfl, rfl, by omega, by decide, rfl, rfl⟩
  case round =>
    obtain ⟨j, v, hj, rfl, rfl, hv0, hv1, hval, rfl⟩ := hrel
    have htop := bd_top j (by omega)
    by_cases hjm : j < 7
    · by_cases hlt : p + j < s.size
      · rw [lst_at s (p + j) hlt, show 7 - j = (7 - (j + 1)) + 1 by omega, numG, ← HQ.out] at hval
        by_cases hd : hexV (s[p + j]'hlt) < 10
        · rw [if_pos hd] at hval
          have hb := bd_step v j 10 _ (by decide) hd hv0 hv1
          have HB := Lib.hid hb
          have HL : Hid (numG 10 (7 - (j + 1)) ((lst s).drop (p + (j + 1))) (v * 10 + (hexV (s[p + j]'hlt) : Int)) (j + 1) = numG 10 7 ((lst s).drop p) 0 0) := by rw [← HQ.out]; exact hval
          have hv2 : v < 4294967296 := by omega
          have HX := Lib.hid (fun W => refHex_any (s[p + j]'hlt) W)
          rw [hexZ_in _ (by omega)] at HX
          clear hb hval htop hv1 HQ
          go_wp2_with fail
          refine (HX.out _).mono ?_
          rintro e w1 ⟨rfl, rfl⟩
          clear HX
          go_wp2_with fail
          go_roundw
          case rel => exact ⟨j + 1, v * 10 + (hexV (s[p + j]'hlt) : Int), by omega, rfl, by go_num, HB.out.1, HB.out.2, HL.out, rfl⟩
          case measure => simp [intOf]; omega
        · rw [if_neg hd] at hval
          have HL := Lib.hid hval
          clear hval htop hv1
          have HX := Lib.hid (fun W => refHex_any (s[p + j]'hlt) W)
          by_cases hd2 : hexV (s[p + j]'hlt) < 16
          · rw [hexZ_in _ hd2] at HX
            go_wp2_with fail
            refine (HX.out _).mono ?_
            rintro e w1 ⟨rfl, rfl⟩
            clear HX
            go_wp2_with fail
            go_ret2
            exact ⟨by rw [← HL.out]; rfl, rfl⟩
          · rw [hexZ_no _ hd2] at HX
            go_wp2_with fail
            refine (HX.out _).mono ?_
            rintro e w1 ⟨rfl, rfl⟩
            clear HX
            go_wp2_with fail
            go_ret2
            exact ⟨by rw [← HL.out]; rfl, rfl⟩
      · rw [lst_out s (p + j) (by omega), numG_nil, ← HQ.out] at hval
        have HL := Lib.hid hval
        clear hval htop hv1
        go_wp2_with fail
        go_ret2
        exact ⟨by rw [← HL.out]; rfl, rfl⟩
    · rw [show 7 - j = 0 by omega, numG_zero, ← HQ.out] at hval
      have HL := Lib.hid hval
      clear hval htop hv1
      go_wp2_with fail
      go_ret2
      exact ⟨by rw [← HL.out]; rfl, rfl⟩
set_option maxHeartbeats 2000000 in
theorem number_16_6 (s : ByteArray) (p : Nat) (hs : s.size ≤ 8000000) (hp : p ≤ 8000000) (w : World) : Calls Tryd.prog 77 #[.string s, .int .i64 p, .int .i64 16, .int .i64 6] w fun e w' => e = .returned (.tuple #[.int .i64 (numG 16 6 ((lst s).drop p) 0 0).1, .int .i64 (numG 16 6 ((lst s).drop p) 0 0).2]) ∧ w = w' := by
  obtain ⟨q, hq⟩ : ∃ q, q = numG 16 6 ((lst s).drop p) 0 0 := ⟨_, rfl⟩
  rw [← hq]
  have HQ := Lib.hid hq
  clear hq
  go_enter Tryd.func77, Tryd.ntmps77
  go_wp2_with fail
  go_loopw [10, 11] (fun x i wr => NRel s p 16 6 x i w wr) (fun _ i _ => 6 - (intOf i).toNat)
  case atStart => exact ⟨0, 0, Nat.zero_le _, rfl, rfl, by omega, by decide, rfl, rfl⟩
  case round =>
    obtain ⟨j, v, hj, rfl, rfl, hv0, hv1, hval, rfl⟩ := hrel
    have htop := bd_top j (by omega)
    by_cases hjm : j < 6
    · by_cases hlt : p + j < s.size
      · rw [lst_at s (p + j) hlt, show 6 - j = (6 - (j + 1)) + 1 by omega, numG, ← HQ.out] at hval
        by_cases hd : hexV (s[p + j]'hlt) < 16
        · rw [if_pos hd] at hval
          have hb := bd_step v j 16 _ (by decide) hd hv0 hv1
          have HB := Lib.hid hb
          have HL : Hid (numG 16 (6 - (j + 1)) ((lst s).drop (p + (j + 1))) (v * 16 + (hexV (s[p + j]'hlt) : Int)) (j + 1) = numG 16 6 ((lst s).drop p) 0 0) := by rw [← HQ.out]; exact hval
          have hv2 : v < 4294967296 := by omega
          have HX := Lib.hid (fun W => refHex_any (s[p + j]'hlt) W)
          rw [hexZ_in _ (by omega)] at HX
          clear hb hval htop hv1 HQ
          go_wp2_with fail
          refine (HX.out _).mono ?_
          rintro e w1 ⟨rfl, rfl⟩
          clear HX
          go_wp2_with fail
          go_roundw
          case rel => exact ⟨j + 1, v * 16 + (hexV (s[p + j]'hlt) : Int), by omega, rfl, by go_num, HB.out.1, HB.out.2, HL.out, rfl⟩
          case measure => simp [intOf]; omega
        · rw [if_neg hd] at hval
          have HL := Lib.hid hval
          clear hval htop hv1
          have HX := Lib.hid (fun W => refHex_any (s[p + j]'hlt) W)
          by_cases hd2 : hexV (s[p + j]'hlt) < 16
          · exact absurd hd2 hd
          · rw [hexZ_no _ hd2] at HX
            go_wp2_with fail
            refine (HX.out _).mono ?_
            rintro e w1 ⟨rfl, rfl⟩
            clear HX
            go_wp2_with fail
            go_ret2
            exact ⟨by rw [← HL.out]; rfl, rfl⟩
      · rw [lst_out s (p + j) (by omega), numG_nil, ← HQ.out] at hval
        have HL := Lib.hid hval
        clear hval htop hv1
        go_wp2_with fail
        go_ret2
        exact ⟨by rw [← HL.out]; rfl, rfl⟩
    · rw [show 6 - j = 0 by omega, numG_zero, ← HQ.out] at hval
      have HL := Lib.hid hval
      clear hval htop hv1
      go_wp2_with fail
      go_ret2
      exact ⟨by rw [← HL.out]; rfl, rfl⟩
set_option maxHeartbeats 2000000 in
theorem number_16_2 (s : ByteArray) (p : Nat) (hs : s.size ≤ 8000000) (hp : p ≤ 8000000) (w : World) : Calls Tryd.prog 77 #[.string s, .int .i64 p, .int .i64 16, .int .i64 2] w fun e w' => e = .returned (.tuple #[.int .i64 (numG 16 2 ((lst s).drop p) 0 0).1, .int .i64 (numG 16 2 ((lst s).drop p) 0 0).2]) ∧ w = w' := by
  obtain ⟨q, hq⟩ : ∃ q, q = numG 16 2 ((lst s).drop p) 0 0 := ⟨_, rfl⟩
  rw [← hq]
  have HQ := Lib.hid hq
  clear hq
  go_enter Tryd.func77, Tryd.ntmps77
  go_wp2_with fail
  go_loopw [10, 11] (fun x i wr => NRel s p 16 2 x i w wr) (fun _ i _ => 2 - (intOf i).toNat)
  case atStart => exact ⟨0, 0, Nat.zero_le _, rfl, rfl, by omega, by decide, rfl, rfl⟩
  case round =>
    obtain ⟨j, v, hj, rfl, rfl, hv0, hv1, hval, rfl⟩ := hrel
    have htop := bd_top j (by omega)
    by_cases hjm : j < 2
    · by_cases hlt : p + j < s.size
      · rw [lst_at s (p + j) hlt, show 2 - j = (2 - (j + 1)) + 1 by omega, numG, ← HQ.out] at hval
        by_cases hd : hexV (s[p + j]'hlt) < 16
        · rw [if_pos hd] at hval
          have hb := bd_step v j 16 _ (by decide) hd hv0 hv1
          have HB := Lib.hid hb
          have HL : Hid (numG 16 (2 - (j + 1)) ((lst s).drop (p + (j + 1))) (v * 16 + (hexV (s[p + j]'hlt) : Int)) (j + 1) = numG 16 2 ((lst s).drop p) 0 0) := by rw [← HQ.out]; exact hval
          have hv2 : v < 4294967296 := by omega
          have HX := Lib.hid (fun W => refHex_any (s[p + j]'hlt) W)
          rw [hexZ_in _ (by omega)] at HX
          clear hb hval htop hv1 HQ
          go_wp2_with fail
          refine (HX.out _).mono ?_
          rintro e w1 ⟨rfl, rfl⟩
          clear HX
          go_wp2_with fail
          go_roundw
          case rel => exact ⟨j + 1, v * 16 + (hexV (s[p + j]'hlt) : Int), by omega, rfl, by go_num, HB.out.1, HB.out.2, HL.out, rfl⟩
          case measure => simp [intOf]; omega
        · rw [if_neg hd] at hval
          have HL := Lib.hid hval
          clear hval htop hv1
          have HX := Lib.hid (fun W => refHex_any (s[p + j]'hlt) W)
          by_cases hd2 : hexV (s[p + j]'hlt) < 16
          · exact absurd hd2 hd
          · rw [hexZ_no _ hd2] at HX
            go_wp2_with fail
            refine (HX.out _).mono ?_
            rintro e w1 ⟨rfl, rfl⟩
            clear HX
            go_wp2_with fail
            go_ret2
            exact ⟨by rw [← HL.out]; rfl, rfl⟩
      · rw [lst_out s (p + j) (by omega), numG_nil, ← HQ.out] at hval
        have HL := Lib.hid hval
        clear hval htop hv1
        go_wp2_with fail
        go_ret2
        exact ⟨by rw [← HL.out]; rfl, rfl⟩
    · rw [show 2 - j = 0 by omega, numG_zero, ← HQ.out] at hval
      have HL := Lib.hid hval
      clear hval htop hv1
      go_wp2_with fail
      go_ret2
      exact ⟨by rw [← HL.out]; rfl, rfl⟩

theorem new_string {l : List UInt8} {b : Nat} {w : World} (h : ∀ j u, (Lib.byteCells l)[j]? = some u → w.cell? ((⟨b, 0, none⟩ : Addr).add j) = some u) : (convert 43 9 (.slice (some ⟨b, 0, none⟩) l.length l.length)).run Tryd.prog w = .ok (.string ⟨l.toArray⟩) w := by
  refine run_convert_bytes_back w 43 9 5 ⟨b, 0, none⟩ l.length l Tryd.underlying43 Tryd.underlying5 Tryd.underlying9 ?_
  intro j hj
  exact h j _ (by unfold Lib.byteCells; rw [List.getElem?_map, List.getElem?_eq_getElem hj]; rfl)
set_option maxHeartbeats 2000000 in
theorem refChar_any (v : Int) (h0 : 0 ≤ v) (h1 : v ≤ 4294967296) (w : World) : Calls Tryd.prog 78 #[.int .i64 v] w fun e w' => e = .returned (.string ⟨(chr v).toArray⟩) ∧ Below w.heap.size w w' := by
  by_cases hb : v = 0 ∨ (55296 ≤ v ∧ v ≤ 57343) ∨ 1114111 < v
  · have HB := Lib.hid (fun W => bytes_any 65533 (by unfold Good; omega) W)
    rw [← fixN_bad v hb] at HB
    generalize chr v = x at *
    rcases hb with rfl | ⟨hb, hb2⟩ | hb
    · go_enter Tryd.func78, Tryd.ntmps78
      go_wp2_with fail
      refine (HB.out _).mono ?_
      rintro e w1 ⟨b, rfl, hb1, hb2, hc, hbw⟩
      have hconv := new_string hc
      have HW := Lib.hid hbw
      clear HB hc hbw
      go_wp2_with fail
      go_ret
      exact ⟨rfl, HW.out⟩
    · have hq : ((v : Int) == 0) = false := by rw [beq_eq_false_iff_ne]; omega
      go_enter Tryd.func78, Tryd.ntmps78
      go_wp2_with fail
      refine (HB.out _).mono ?_
      rintro e w1 ⟨b, rfl, hb1, hb2, hc, hbw⟩
      have hconv := new_string hc
      have HW := Lib.hid hbw
      clear HB hc hbw
      go_wp2_with fail
      go_ret
      exact ⟨rfl, HW.out⟩
    · have hq : ((v : Int) == 0) = false := by rw [beq_eq_false_iff_ne]; omega
      go_enter Tryd.func78, Tryd.ntmps78
      go_wp2_with fail
      refine (HB.out _).mono ?_
      rintro e w1 ⟨b, rfl, hb1, hb2, hc, hbw⟩
      have hconv := new_string hc
      have HW := Lib.hid hbw
      clear HB hc hbw
      go_wp2_with fail
      go_ret
      exact ⟨rfl, HW.out⟩
  · have HB := Lib.hid (fun W => bytes_any v (by unfold Good; omega) W)
    rw [← fixN_good v hb] at HB
    generalize chr v = x at *
    have hq : ((v : Int) == 0) = false := by rw [beq_eq_false_iff_ne]; omega
    have hr : v < 55296 ∨ (57344 ≤ v ∧ v ≤ 1114111) := by omega
    clear hb
    rcases hr with hr | ⟨hr, hr2⟩
    · go_enter Tryd.func78, Tryd.ntmps78
      go_wp2_with fail
      refine (HB.out _).mono ?_
      rintro e w1 ⟨b, rfl, hb1, hb2, hc, hbw⟩
      have hconv := new_string hc
      have HW := Lib.hid hbw
      clear HB hc hbw
      go_wp2_with fail
      go_ret
      exact ⟨rfl, HW.out⟩
    · go_enter Tryd.func78, Tryd.ntmps78
      go_wp2_with fail
      refine (HB.out _).mono ?_
      rintro e w1 ⟨b, rfl, hb1, hb2, hc, hbw⟩
      have hconv := new_string hc
      have HW := Lib.hid hbw
      clear HB hc hbw
      go_wp2_with fail
      go_ret
      exact ⟨rfl, HW.out⟩
end Go.Proofs.YtfoheffbapifpaaDoor
