/-
  PROVED: contracts of the document's own Bytes, fold and Fold: a character's bytes, a character folded, and the label's bytes ('foldB'). Conditions: the text has at most 2000000 bytes.
-/
import Derived.Test.YtfoheffbapifpaaDoorFoldAlg
import Derived.Test.YtfoheffbapifpaaDoorOwn
import Derived.Lib.AppendStr
import Derived.Lib.UnsafeStr
import Derived.Laws.IdiomStrings
namespace Go.Proofs.YtfoheffbapifpaaDoor
open Go.ChangeShapes Go.WideShapes Go.ChangeAt Go.RowKit Go.Sort
set_option linter.unusedVariables false

theorem encL_one (r : Int) : encL [r] = Lib.encodeRune r := by rw [encL_cons]; exact List.append_nil _
theorem fold_to (r z : Int) (h : ¬ (r = 223 ∨ r = 7838)) (hz : liftZ r = z) : Lib.encodeRune (r + z) = encL (foldR r) := by
  unfold foldR; rw [if_neg h, hz, encL_one]
theorem fold_ss (r : Int) (h : r = 223 ∨ r = 7838) : encL (foldR r) = [115, 115] := by
  unfold foldR; rw [if_pos h]; rfl

set_option maxHeartbeats 2000000 in
theorem rfold_0 (r : Int) (hg : Good r) (h2 : r ≤ 64) (w : World) : Calls Tryd.prog 64 #[.int .i64 r] w (NewBytes (encL (foldR r)) w) := by
  have hl := liftZ_is r
  have HC := Lib.hid (fun W => bytes_any r (by unfold Good at hg ⊢; omega) W)
  rw [show Lib.encodeRune r = Lib.encodeRune (r + 0) by rw [Int.add_zero], fold_to r 0 (by omega) (by omega)] at HC
  have q1 : ((r : Int) == 223) = false := by simp; omega
  have q2 : ((r : Int) == 7838) = false := by simp; omega
  clear hl
  go_enter Tryd.func64, Tryd.ntmps64
  go_wp2_with fail
  refine (HC.out _).mono ?_
  rintro e w' ⟨b, rfl, hb⟩
  have HB := Lib.hid hb
  clear hb HC
  go_wp2_with fail
  go_ret
  exact ⟨b, rfl, HB.out⟩
set_option maxHeartbeats 2000000 in
theorem rfold_1 (r : Int) (hg : Good r) (h1 : 65 ≤ r) (h2 : r ≤ 90) (w : World) : Calls Tryd.prog 64 #[.int .i64 r] w (NewBytes (encL (foldR r)) w) := by
  have hl := liftZ_is r
  have HC := Lib.hid (fun W => bytes_any (r + 32) (by unfold Good at hg ⊢; omega) W)
  rw [fold_to r 32 (by omega) (by omega)] at HC
  clear hl
  go_enter Tryd.func64, Tryd.ntmps64
  go_wp2_with fail
  refine (HC.out _).mono ?_
  rintro e w' ⟨b, rfl, hb⟩
  have HB := Lib.hid hb
  clear hb HC
  go_wp2_with fail
  go_ret
  exact ⟨b, rfl, HB.out⟩
set_option maxHeartbeats 2000000 in
theorem rfold_2 (r : Int) (hg : Good r) (h1 : 91 ≤ r) (h2 : r ≤ 191) (w : World) : Calls Tryd.prog 64 #[.int .i64 r] w (NewBytes (encL (foldR r)) w) := by
  have hl := liftZ_is r
  have HC := Lib.hid (fun W => bytes_any r (by unfold Good at hg ⊢; omega) W)
  rw [show Lib.encodeRune r = Lib.encodeRune (r + 0) by rw [Int.add_zero], fold_to r 0 (by omega) (by omega)] at HC
  have q1 : ((r : Int) == 223) = false := by simp; omega
  have q2 : ((r : Int) == 7838) = false := by simp; omega
  clear hl
  go_enter Tryd.func64, Tryd.ntmps64
  go_wp2_with fail
  refine (HC.out _).mono ?_
  rintro e w' ⟨b, rfl, hb⟩
  have HB := Lib.hid hb
  clear hb HC
  go_wp2_with fail
  go_ret
  exact ⟨b, rfl, HB.out⟩
set_option maxHeartbeats 2000000 in
theorem rfold_3 (r : Int) (hg : Good r) (h1 : 192 ≤ r) (h2 : r ≤ 214) (w : World) : Calls Tryd.prog 64 #[.int .i64 r] w (NewBytes (encL (foldR r)) w) := by
  have hl := liftZ_is r
  have HC := Lib.hid (fun W => bytes_any (r + 32) (by unfold Good at hg ⊢; omega) W)
  rw [fold_to r 32 (by omega) (by omega)] at HC
  clear hl
  go_enter Tryd.func64, Tryd.ntmps64
  go_wp2_with fail
  refine (HC.out _).mono ?_
  rintro e w' ⟨b, rfl, hb⟩
  have HB := Lib.hid hb
  clear hb HC
  go_wp2_with fail
  go_ret
  exact ⟨b, rfl, HB.out⟩
set_option maxHeartbeats 2000000 in
theorem rfold_4 (w : World) : Calls Tryd.prog 64 #[.int .i64 215] w (NewBytes (encL (foldR 215)) w) := by
  have hl := liftZ_is 215
  have HC := Lib.hid (fun W => bytes_any 215 (by unfold Good; omega) W)
  rw [show Lib.encodeRune 215 = Lib.encodeRune (215 + 0) by rw [Int.add_zero], fold_to 215 0 (by omega) (by omega)] at HC
  clear hl
  go_enter Tryd.func64, Tryd.ntmps64
  go_wp2_with fail
  refine (HC.out _).mono ?_
  rintro e w' ⟨b, rfl, hb⟩
  have HB := Lib.hid hb
  clear hb HC
  go_wp2_with fail
  go_ret
  exact ⟨b, rfl, HB.out⟩
set_option maxHeartbeats 2000000 in
theorem rfold_5 (r : Int) (hg : Good r) (h1 : 216 ≤ r) (h2 : r ≤ 222) (w : World) : Calls Tryd.prog 64 #[.int .i64 r] w (NewBytes (encL (foldR r)) w) := by
  have hl := liftZ_is r
  have HC := Lib.hid (fun W => bytes_any (r + 32) (by unfold Good at hg ⊢; omega) W)
  rw [fold_to r 32 (by omega) (by omega)] at HC
  clear hl
  go_enter Tryd.func64, Tryd.ntmps64
  go_wp2_with fail
  refine (HC.out _).mono ?_
  rintro e w' ⟨b, rfl, hb⟩
  have HB := Lib.hid hb
  clear hb HC
  go_wp2_with fail
  go_ret
  exact ⟨b, rfl, HB.out⟩
set_option maxHeartbeats 2000000 in
theorem rfold_6 (w : World) : Calls Tryd.prog 64 #[.int .i64 223] w (NewBytes (encL (foldR 223)) w) := by
  have HF := Lib.hid (fold_ss 223 (by omega))
  rw [HF.out]
  go_enter Tryd.func64, Tryd.ntmps64
  go_wp2_with fail
  go_ret
  exact newBytes_of rfl rfl
set_option maxHeartbeats 2000000 in
theorem rfold_7 (r : Int) (hg : Good r) (h1 : 224 ≤ r) (h2 : r ≤ 912) (w : World) : Calls Tryd.prog 64 #[.int .i64 r] w (NewBytes (encL (foldR r)) w) := by
  have hl := liftZ_is r
  have HC := Lib.hid (fun W => bytes_any r (by unfold Good at hg ⊢; omega) W)
  rw [show Lib.encodeRune r = Lib.encodeRune (r + 0) by rw [Int.add_zero], fold_to r 0 (by omega) (by omega)] at HC
  have q1 : ((r : Int) == 223) = false := by simp; omega
  have q2 : ((r : Int) == 7838) = false := by simp; omega
  clear hl
  go_enter Tryd.func64, Tryd.ntmps64
  go_wp2_with fail
  refine (HC.out _).mono ?_
  rintro e w' ⟨b, rfl, hb⟩
  have HB := Lib.hid hb
  clear hb HC
  go_wp2_with fail
  go_ret
  exact ⟨b, rfl, HB.out⟩
set_option maxHeartbeats 2000000 in
theorem rfold_8 (r : Int) (hg : Good r) (h1 : 913 ≤ r) (h2 : r ≤ 929) (w : World) : Calls Tryd.prog 64 #[.int .i64 r] w (NewBytes (encL (foldR r)) w) := by
  have hl := liftZ_is r
  have HC := Lib.hid (fun W => bytes_any (r + 32) (by unfold Good at hg ⊢; omega) W)
  rw [fold_to r 32 (by omega) (by omega)] at HC
  clear hl
  go_enter Tryd.func64, Tryd.ntmps64
  go_wp2_with fail
  refine (HC.out _).mono ?_
  rintro e w' ⟨b, rfl, hb⟩
  have HB := Lib.hid hb
  clear hb HC
  go_wp2_with fail
  go_ret
  exact ⟨b, rfl, HB.out⟩
set_option maxHeartbeats 2000000 in
theorem rfold_9 (w : World) : Calls Tryd.prog 64 #[.int .i64 930] w (NewBytes (encL (foldR 930)) w) := by
  have hl := liftZ_is 930
  have HC := Lib.hid (fun W => bytes_any 930 (by unfold Good; omega) W)
  rw [show Lib.encodeRune 930 = Lib.encodeRune (930 + 0) by rw [Int.add_zero], fold_to 930 0 (by omega) (by omega)] at HC
  clear hl
  go_enter Tryd.func64, Tryd.ntmps64
  go_wp2_with fail
  refine (HC.out _).mono ?_
  rintro e w' ⟨b, rfl, hb⟩
  have HB := Lib.hid hb
  clear hb HC
  go_wp2_with fail
  go_ret
  exact ⟨b, rfl, HB.out⟩
set_option maxHeartbeats 2000000 in
theorem rfold_10 (r : Int) (hg : Good r) (h1 : 931 ≤ r) (h2 : r ≤ 939) (w : World) : Calls Tryd.prog 64 #[.int .i64 r] w (NewBytes (encL (foldR r)) w) := by
  have hl := liftZ_is r
  have HC := Lib.hid (fun W => bytes_any (r + 32) (by unfold Good at hg ⊢; omega) W)
  rw [fold_to r 32 (by omega) (by omega)] at HC
  clear hl
  go_enter Tryd.func64, Tryd.ntmps64
  go_wp2_with fail
  refine (HC.out _).mono ?_
  rintro e w' ⟨b, rfl, hb⟩
  have HB := Lib.hid hb
  clear hb HC
  go_wp2_with fail
  go_ret
  exact ⟨b, rfl, HB.out⟩
set_option maxHeartbeats 2000000 in
theorem rfold_11 (r : Int) (hg : Good r) (h1 : 940 ≤ r) (h2 : r ≤ 1023) (w : World) : Calls Tryd.prog 64 #[.int .i64 r] w (NewBytes (encL (foldR r)) w) := by
  have hl := liftZ_is r
  have HC := Lib.hid (fun W => bytes_any r (by unfold Good at hg ⊢; omega) W)
  rw [show Lib.encodeRune r = Lib.encodeRune (r + 0) by rw [Int.add_zero], fold_to r 0 (by omega) (by omega)] at HC
  have q1 : ((r : Int) == 223) = false := by simp; omega
  have q2 : ((r : Int) == 7838) = false := by simp; omega
  clear hl
  go_enter Tryd.func64, Tryd.ntmps64
  go_wp2_with fail
  refine (HC.out _).mono ?_
  rintro e w' ⟨b, rfl, hb⟩
  have HB := Lib.hid hb
  clear hb HC
  go_wp2_with fail
  go_ret
  exact ⟨b, rfl, HB.out⟩
set_option maxHeartbeats 2000000 in
theorem rfold_12 (r : Int) (hg : Good r) (h1 : 1024 ≤ r) (h2 : r ≤ 1039) (w : World) : Calls Tryd.prog 64 #[.int .i64 r] w (NewBytes (encL (foldR r)) w) := by
  have hl := liftZ_is r
  have HC := Lib.hid (fun W => bytes_any (r + 80) (by unfold Good at hg ⊢; omega) W)
  rw [fold_to r 80 (by omega) (by omega)] at HC
  clear hl
  go_enter Tryd.func64, Tryd.ntmps64
  go_wp2_with fail
  refine (HC.out _).mono ?_
  rintro e w' ⟨b, rfl, hb⟩
  have HB := Lib.hid hb
  clear hb HC
  go_wp2_with fail
  go_ret
  exact ⟨b, rfl, HB.out⟩
set_option maxHeartbeats 2000000 in
theorem rfold_13 (r : Int) (hg : Good r) (h1 : 1040 ≤ r) (h2 : r ≤ 1071) (w : World) : Calls Tryd.prog 64 #[.int .i64 r] w (NewBytes (encL (foldR r)) w) := by
  have hl := liftZ_is r
  have HC := Lib.hid (fun W => bytes_any (r + 32) (by unfold Good at hg ⊢; omega) W)
  rw [fold_to r 32 (by omega) (by omega)] at HC
  clear hl
  go_enter Tryd.func64, Tryd.ntmps64
  go_wp2_with fail
  refine (HC.out _).mono ?_
  rintro e w' ⟨b, rfl, hb⟩
  have HB := Lib.hid hb
  clear hb HC
  go_wp2_with fail
  go_ret
  exact ⟨b, rfl, HB.out⟩
set_option maxHeartbeats 2000000 in
theorem rfold_14 (r : Int) (hg : Good r) (h1 : 1072 ≤ r) (h2 : r ≤ 7837) (w : World) : Calls Tryd.prog 64 #[.int .i64 r] w (NewBytes (encL (foldR r)) w) := by
  have hl := liftZ_is r
  have HC := Lib.hid (fun W => bytes_any r (by unfold Good at hg ⊢; omega) W)
  rw [show Lib.encodeRune r = Lib.encodeRune (r + 0) by rw [Int.add_zero], fold_to r 0 (by omega) (by omega)] at HC
  have q1 : ((r : Int) == 223) = false := by simp; omega
  have q2 : ((r : Int) == 7838) = false := by simp; omega
  clear hl
  go_enter Tryd.func64, Tryd.ntmps64
  go_wp2_with fail
  refine (HC.out _).mono ?_
  rintro e w' ⟨b, rfl, hb⟩
  have HB := Lib.hid hb
  clear hb HC
  go_wp2_with fail
  go_ret
  exact ⟨b, rfl, HB.out⟩
set_option maxHeartbeats 2000000 in
theorem rfold_15 (w : World) : Calls Tryd.prog 64 #[.int .i64 7838] w (NewBytes (encL (foldR 7838)) w) := by
  have HF := Lib.hid (fold_ss 7838 (by omega))
  rw [HF.out]
  go_enter Tryd.func64, Tryd.ntmps64
  go_wp2_with fail
  go_ret
  exact newBytes_of rfl rfl
set_option maxHeartbeats 2000000 in
theorem rfold_16 (r : Int) (hg : Good r) (h1 : 7839 ≤ r) (w : World) : Calls Tryd.prog 64 #[.int .i64 r] w (NewBytes (encL (foldR r)) w) := by
  have hl := liftZ_is r
  have HC := Lib.hid (fun W => bytes_any r (by unfold Good at hg ⊢; omega) W)
  rw [show Lib.encodeRune r = Lib.encodeRune (r + 0) by rw [Int.add_zero], fold_to r 0 (by omega) (by omega)] at HC
  have q1 : ((r : Int) == 223) = false := by simp; omega
  have q2 : ((r : Int) == 7838) = false := by simp; omega
  clear hl
  go_enter Tryd.func64, Tryd.ntmps64
  go_wp2_with fail
  refine (HC.out _).mono ?_
  rintro e w' ⟨b, rfl, hb⟩
  have HB := Lib.hid hb
  clear hb HC
  go_wp2_with fail
  go_ret
  exact ⟨b, rfl, HB.out⟩
theorem rfold_any (r : Int) (hg : Good r) (w : World) : Calls Tryd.prog 64 #[.int .i64 r] w (NewBytes (encL (foldR r)) w) := by
  by_cases c0 : r ≤ 64
  · exact rfold_0 r hg c0 w
  by_cases c1 : r ≤ 90
  · exact rfold_1 r hg (by omega) c1 w
  by_cases c2 : r ≤ 191
  · exact rfold_2 r hg (by omega) c2 w
  by_cases c3 : r ≤ 214
  · exact rfold_3 r hg (by omega) c3 w
  by_cases c4 : r ≤ 215
  · obtain rfl : r = 215 := by omega
    exact rfold_4 w
  by_cases c5 : r ≤ 222
  · exact rfold_5 r hg (by omega) c5 w
  by_cases c6 : r ≤ 223
  · obtain rfl : r = 223 := by omega
    exact rfold_6 w
  by_cases c7 : r ≤ 912
  · exact rfold_7 r hg (by omega) c7 w
  by_cases c8 : r ≤ 929
  · exact rfold_8 r hg (by omega) c8 w
  by_cases c9 : r ≤ 930
  · obtain rfl : r = 930 := by omega
    exact rfold_9 w
  by_cases c10 : r ≤ 939
  · exact rfold_10 r hg (by omega) c10 w
  by_cases c11 : r ≤ 1023
  · exact rfold_11 r hg (by omega) c11 w
  by_cases c12 : r ≤ 1039
  · exact rfold_12 r hg (by omega) c12 w
  by_cases c13 : r ≤ 1071
  · exact rfold_13 r hg (by omega) c13 w
  by_cases c14 : r ≤ 7837
  · exact rfold_14 r hg (by omega) c14 w
  by_cases c15 : r ≤ 7838
  · obtain rfl : r = 7838 := by omega
    exact rfold_15 w
  exact rfold_16 r hg (by omega) w
end Go.Proofs.YtfoheffbapifpaaDoor
