/-
  PROVED: contracts of strings.Clone and mark.Fence: 'fenceL'. Conditions: the text has at most 1000000 bytes.
-/
import Derived.Test.YtinmefdcgiiejaaDoorLines
import Derived.Test.YtinmefdcgiiejaaDoorHeads
import Derived.Deep.RegionHeld3
namespace Go.Proofs.YtinmefdcgiiejaaDoor
open Go.ChangeShapes Go.WideShapes Go.ChangeAt Go.RowKit
set_option linter.unusedVariables false

theorem clone_any (s : ByteArray) (hs : s.size ≤ 1000000) (w : World) : Calls Tryd.prog 37 #[.string s] w fun e w' => e = .returned (.string s) ∧ Below w.heap.size w w' := by
  have H := Lib.hid (Tryd.clone s hs)
  go_enter Tryd.func37, Tryd.ntmps37
  go_wp2_with fail
  refine (H.out _).mono ?_
  rintro e w1 ⟨rfl, hb1⟩
  have B1 := Lib.hid hb1
  clear hb1
  go_wp2_with fail
  go_ret
  exact ⟨rfl, B1.out⟩

/-- A fence's mark, how many, and what stands behind them. -/
def fenceV (l : List UInt8) : Value := .tuple #[.int .u8 ((fenceL l).1.toNat : Int), .int .i64 (fenceL l).2.1, .string ⟨(fenceL l).2.2.toArray⟩]
def fence0 : Value := .tuple #[.int .u8 0, .int .i64 0, .string { data := #[] }]
theorem fenceV_nil : fenceV [] = fence0 := rfl
theorem fenceV_no (s : ByteArray) (h : 0 < s.size) (hf : ¬ isFence (lst s) (s[0]'h)) : fenceV (lst s) = fence0 := by
  obtain ⟨m, hm⟩ := lst_cons s h
  unfold fenceV
  rw [hm] at hf ⊢
  unfold fenceL
  simp only []
  rw [if_neg hf]
  rfl
theorem fenceV_yes (s : ByteArray) (h : 0 < s.size) (hf : isFence (lst s) (s[0]'h)) : fenceV (lst s) = .tuple #[.int .u8 ((s[0]'h).toNat : Int), .int .i64 (cnt (lst s) (s[0]'h)), .string ⟨(trimB ((lst s).drop (cnt (lst s) (s[0]'h)))).toArray⟩] := by
  obtain ⟨m, hm⟩ := lst_cons s h
  unfold fenceV
  rw [hm] at hf ⊢
  unfold fenceL
  simp only []
  rw [if_pos hf]
theorem beg_fence (s : ByteArray) (h : 0 < s.size) : begL (lst s) [96, 126] = true ↔ (s[0]'h) = 96 ∨ (s[0]'h) = 126 := by
  obtain ⟨m, hm⟩ := lst_cons s h
  rw [hm]
  simp [begL]
theorem trimB_le (l : List UInt8) : (trimB l).length ≤ l.length := Nat.le_trans (List.dropWhile_suffix isB).length_le (trimR_le _ _)

set_option maxHeartbeats 4000000 in
theorem fence_any (s : ByteArray) (hs : s.size ≤ 1000000) (w : World) : Calls Tryd.prog 18 #[.string s] w fun e w' => e = .returned (fenceV (lst s)) ∧ Below w.heap.size w w' := by
  have HB : Hid (∀ W, Calls Tryd.prog 24 #[.string s, .string { data := #[96, 126] }] W fun e w' => e = .returned (.bool (begL (lst s) [96, 126])) ∧ w' = W) := fun W => begins_any s _ W
  by_cases h0 : 0 < s.size
  · cases hbg : begL (lst s) [96, 126] with
    | false =>
      have HV := Lib.hid (fenceV_no s h0 (fun h => by rw [(beg_fence s h0).2 h.1] at hbg; cases hbg))
      rw [hbg] at HB
      clear hbg
      generalize fenceV (lst s) = v at *
      go_enter Tryd.func18, Tryd.ntmps18
      go_wp2_with fail
      refine (HB.out _).mono ?_
      rintro e w1 ⟨rfl, rfl⟩
      go_wp2_with fail
      go_ret3
      exact ⟨(congrArg Ending.returned HV.out).symm, Below.refl _ _⟩
    | true =>
      have hx := (beg_fence s h0).1 hbg
      rw [hbg] at HB
      clear hbg
      have H1 := Lib.hid (row_any s (s[0]'h0) hs)
      have hn : cnt (lst s) (s[0]'h0) ≤ s.size := by rw [← lst_size]; exact cnt_le _ _
      have H2 : Hid (∀ W, Calls Tryd.prog 35 #[.string (s.extract (cnt (lst s) (s[0]'h0)) s.size), .string { data := #[32, 9] }] W fun e w' => e = .returned (.string ⟨(trimB ((lst s).drop (cnt (lst s) (s[0]'h0)))).toArray⟩) ∧ Below W.heap.size W w') := fun W => by
        have h := both_any (s.extract (cnt (lst s) (s[0]'h0)) s.size) (by simp; omega) W
        rw [lst_from] at h
        exact h
      have hY : isFence (lst s) (s[0]'h0) → fenceV (lst s) = .tuple #[.int .u8 ((s[0]'h0).toNat : Int), .int .i64 (cnt (lst s) (s[0]'h0)), .string ⟨(trimB ((lst s).drop (cnt (lst s) (s[0]'h0)))).toArray⟩] := fenceV_yes s h0
      have hN : ¬ isFence (lst s) (s[0]'h0) → fenceV (lst s) = fence0 := fenceV_no s h0
      have hI : isFence (lst s) (s[0]'h0) ↔ (3 ≤ cnt (lst s) (s[0]'h0) ∧ ¬ ((s[0]'h0) = 96 ∧ 96 ∈ trimB ((lst s).drop (cnt (lst s) (s[0]'h0))))) := by
        unfold isFence
        exact and_iff_right hx
      have hbl := trimB_le ((lst s).drop (cnt (lst s) (s[0]'h0)))
      rw [List.length_drop, lst_size] at hbl
      generalize fenceV (lst s) = v at *
      generalize isFence (lst s) (s[0]'h0) = IF at *
      generalize trimB ((lst s).drop (cnt (lst s) (s[0]'h0))) = L1 at *
      generalize cnt (lst s) (s[0]'h0) = n at *
      obtain ⟨b, hb, hbL⟩ := made L1
      rw [← hb] at H2 hY
      clear hb
      have hbz : b.size ≤ s.size := by rw [← lst_size b, hbL]; omega
      by_cases h3 : n < 3
      · have HV := Lib.hid (hN (fun h => by have := (hI.1 h).1; omega))
        clear hx hI hN hY hbl hbL
        go_enter Tryd.func18, Tryd.ntmps18
        go_wp2_with fail
        refine (HB.out _).mono ?_
        rintro e w1 ⟨rfl, rfl⟩
        go_wp2_with fail
        refine (H1.out _).mono ?_
        rintro e w1 ⟨rfl, rfl⟩
        go_wp2_with fail
        refine (H2.out _).mono ?_
        rintro e w2 ⟨rfl, hb2⟩
        have B2 := Lib.hid hb2
        clear hb2
        go_wp2_with fail
        go_ret3
        exact ⟨(congrArg Ending.returned HV.out).symm, B2.out⟩
      · have H4 := Lib.hid (clone_any b (by omega))
        have z0 : (0 : Int) < (s.size : Int) := by omega
        by_cases hq : (s[0]'h0) = 96
        · have c1 : (((s[0]'h0).toNat : Int) == 96) = true := eq_u8 _ 96 hq
          have H3 : Hid (∀ W, Calls Tryd.prog 36 #[.string b, .int .u8 96] W fun e w' => (∃ i : Int, e = .returned (.int .i64 i) ∧ decide (0 ≤ i) = L1.contains 96) ∧ w' = W) := fun W => by
            refine (Tryd.indexByte _ _ W).mono fun e w' ⟨h1, h2⟩ => ⟨⟨_, h1, ?_⟩, h2⟩
            rw [show (((96 : Int)).toNat.toUInt8) = 96 from rfl, idx_has, ← hbL]
          cases hc : L1.contains 96 with
          | true =>
            have HV := Lib.hid (hN (fun h => (hI.1 h).2 ⟨hq, by simpa using hc⟩))
            rw [hc] at H3
            clear hx hI hN hY hbl hbL hc hq
            go_enter Tryd.func18, Tryd.ntmps18
            go_wp2_with fail
            refine (HB.out _).mono ?_
            rintro e w1 ⟨rfl, rfl⟩
            go_wp2_with fail
            refine (H1.out _).mono ?_
            rintro e w1 ⟨rfl, rfl⟩
            go_wp2_with fail
            refine (H2.out _).mono ?_
            rintro e w2 ⟨rfl, hb2⟩
            have B2 := Lib.hid hb2
            clear hb2
            go_wp2_with fail
            refine (H3.out _).mono ?_
            rintro e w3 ⟨⟨i, rfl, hi⟩, rfl⟩
            go_wp2_with fail
            go_ret3
            exact ⟨(congrArg Ending.returned HV.out).symm, B2.out⟩
          | false =>
            have HV := Lib.hid (hY (hI.2 ⟨by omega, fun h => by rw [List.contains_eq_mem, decide_eq_false_iff_not] at hc; exact hc h.2⟩))
            rw [hc] at H3
            clear hx hI hN hY hbl hbL hc hq
            go_enter Tryd.func18, Tryd.ntmps18
            go_wp2_with fail
            refine (HB.out _).mono ?_
            rintro e w1 ⟨rfl, rfl⟩
            go_wp2_with fail
            refine (H1.out _).mono ?_
            rintro e w1 ⟨rfl, rfl⟩
            go_wp2_with fail
            refine (H2.out _).mono ?_
            rintro e w2 ⟨rfl, hb2⟩
            have B2 := Lib.hid hb2
            clear hb2
            go_wp2_with fail
            refine (H3.out _).mono ?_
            rintro e w3 ⟨⟨i, rfl, hi⟩, rfl⟩
            go_wp2_with fail
            go_region_held3 (fun w' => True) (trivial) (first | (go_at_call 37; ((with_reducible refine (H4.out _).mono ?_)); rintro e w4 ⟨rfl, hb4⟩; have B4 := Lib.hid hb4; clear hb4))
            all_goals
              go_wp2_with fail
              go_ret3
              exact ⟨(congrArg Ending.returned HV.out).symm, chain (Nat.le_refl _) B2.out ((Below.refl _ _).drew.trans B4.out)⟩
        · have c1 : (((s[0]'h0).toNat : Int) == 96) = false := ne_u8 _ 96 hq
          have HV := Lib.hid (hY (hI.2 ⟨by omega, fun h => hq h.1⟩))
          clear hx hI hN hY hbl hbL hq
          go_enter Tryd.func18, Tryd.ntmps18
          go_wp2_with fail
          refine (HB.out _).mono ?_
          rintro e w1 ⟨rfl, rfl⟩
          go_wp2_with fail
          refine (H1.out _).mono ?_
          rintro e w1 ⟨rfl, rfl⟩
          go_wp2_with fail
          refine (H2.out _).mono ?_
          rintro e w2 ⟨rfl, hb2⟩
          have B2 := Lib.hid hb2
          clear hb2
          go_wp2_with fail
          go_region_held3 (fun w' => True) (trivial) (first | (go_at_call 37; ((with_reducible refine (H4.out _).mono ?_)); rintro e w4 ⟨rfl, hb4⟩; have B4 := Lib.hid hb4; clear hb4))
          all_goals
            go_wp2_with fail
            go_ret3
            exact ⟨(congrArg Ending.returned HV.out).symm, chain (Nat.le_refl _) B2.out ((Below.refl _ _).drew.trans B4.out)⟩
  · have HV : Hid (begL (lst s) [96, 126] = false) := show _ = _ from by rw [lst_nil s (by omega)]; rfl
    have HW : Hid (fenceV (lst s) = fence0) := show _ = _ from by rw [lst_nil s (by omega)]; rfl
    rw [HV.out] at HB
    generalize fenceV (lst s) = v at *
    go_enter Tryd.func18, Tryd.ntmps18
    go_wp2_with fail
    refine (HB.out _).mono ?_
    rintro e w1 ⟨rfl, rfl⟩
    go_wp2_with fail
    go_ret3
    exact ⟨(congrArg Ending.returned HW.out).symm, Below.refl _ _⟩
end Go.Proofs.YtinmefdcgiiejaaDoor
