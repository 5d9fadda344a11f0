/-
  PROVED: stetlaw11.RunsLetters returns true for every number of marks and every two letters: between letters a row of * may open and close, one of _ neither; between blanks neither may do anything. Conditions: none beside the row's own.
-/
import Derived.Test.YthglejhhfnpdaaaTwo
import Derived.WalkKit
import Derived.ProofKit
import Derived.OpenShut
import Derived.ShutString
namespace Go.Proofs.Ythglejhhfnpdaaa.runsLetters
open Go.ChangeShapes Go.WideShapes Go.ChangeAt Go.RowKit
open Go.ChangeMaps (open_string shut_string)
set_option linter.unusedVariables false      -- a walk need not use every 'w<i>' (that an integer argument fits its kind)

theorem own : ownKnob Try.prog.godebug = none := by kernel_rfl

theorem u8_bd {a : Int} (h : (Lit.int .u8 a).wf = true) : 0 ≤ a ∧ a < 256 := by
  unfold Lit.wf at h
  rw [Bool.and_eq_true, decide_eq_true_iff, decide_eq_true_iff] at h
  have h1 : 0 ≤ a := h.1
  have h2 : a ≤ 255 := h.2
  omega
set_option maxHeartbeats 8000000 in
set_option maxRecDepth 100000 in
theorem walk (a0 : Int) (a1 : Int) (a2 : Int) (w0 : (Lit.int .i64 a0).wf = true) (w1 : (Lit.int .u8 a1).wf = true) (w2 : (Lit.int .u8 a2).wf = true) (w : World) :
    Calls Try.prog 4 #[.int .i64 a0, .int .u8 a1, .int .u8 a2] w fun e w' => e = .returned (.bool true) ∧ Below w.heap.size w w' := by
  have hu1 : 0 ≤ a1 ∧ a1 < 256 := u8_bd w1
  have hu2 : 0 ≤ a2 ∧ a2 < 256 := u8_bd w2
  obtain ⟨i0, hi0, hz0, hz1, hz2⟩ := info_parts Try.info5
  by_cases hl : a0 < 1
  · have d0 : decide (a0 < 1) = true := by simpa using hl
    go_enter Try.func4, Try.ntmps4
    go_wp2_with fail
    refine (alive_any _).mono ?_
    rintro e w1 ⟨rfl, hb1⟩
    have B1 := Lib.hid hb1
    have z1 := hb1.size
    clear hb1
    go_wp2_with fail
    go_ret
    exact ⟨rfl, B1.out⟩
  have d0 : decide (a0 < 1) = false := by simpa using hl
  by_cases hg : 1000 < a0
  · have d1 : decide (1000 < a0) = true := by simpa using hg
    go_enter Try.func4, Try.ntmps4
    go_wp2_with fail
    refine (alive_any _).mono ?_
    rintro e w1 ⟨rfl, hb1⟩
    have B1 := Lib.hid hb1
    have z1 := hb1.size
    clear hb1
    go_wp2_with fail
    go_ret
    exact ⟨rfl, B1.out⟩
  have d1 : decide (1000 < a0) = false := by simpa using hg
  obtain ⟨n, rfl⟩ : ∃ n : Nat, a0 = n := ⟨a0.toNat, by omega⟩
  have hn1 : 0 < n := by omega
  have hn2 : n ≤ 1000 := by omega
  obtain ⟨X, hX⟩ : ∃ X : UInt8, (X.toNat : Int) = 97 + a1 % 26 := ⟨UInt8.ofNat (97 + (a1 % 26).toNat), by simp; omega⟩
  obtain ⟨Y, hY⟩ : ∃ Y : UInt8, (Y.toNat : Int) = 97 + a2 % 26 := ⟨UInt8.ofNat (97 + (a2 % 26).toNat), by simp; omega⟩
  have EX := side_letter X (by omega) (by omega)
  have EY := side_letter Y (by omega) (by omega)
  have hXn : X.toNat < 128 ∧ X ≠ 42 ∧ X ≠ 95 := ⟨by omega, fun e => by rw [e] at hX; have : (97 + a1 % 26 : Int) = 42 := hX.symm; omega, fun e => by rw [e] at hX; have : (97 + a1 % 26 : Int) = 95 := hX.symm; omega⟩
  have hYn : Y.toNat < 128 ∧ Y ≠ 42 ∧ Y ≠ 95 := ⟨by omega, fun e => by rw [e] at hY; have : (97 + a2 % 26 : Int) = 42 := hY.symm; omega, fun e => by rw [e] at hY; have : (97 + a2 % 26 : Int) = 95 := hY.symm; omega⟩
  obtain ⟨S, hS⟩ : ∃ S : ByteArray, S = ⟨(List.replicate n 42).toArray⟩ := ⟨_, rfl⟩
  obtain ⟨L, hL⟩ : ∃ L : ByteArray, L = ⟨(List.replicate n 95).toArray⟩ := ⟨_, rfl⟩
  have hSz : S.size = n := by rw [hS, ← lst_size]; simp [lst]
  have hLz : L.size = n := by rw [hL, ← lst_size]; simp [lst]
  have HS1 : Hid (∀ W, Calls Try.prog 8 #[.string (({ data := #[X] } : ByteArray) ++ S ++ { data := #[Y] }), .int .i64 1] W fun e w' => e = .returned (.tuple #[.agg #[.int .u8 42, .int .i64 n, .bool true, .bool true], .bool true]) ∧ Below W.heap.size W w') := fun W => by
    have h := made_val (({ data := #[X] } : ByteArray) ++ S ++ { data := #[Y] }) 42 n [X] [Y] (Or.inl rfl) (by rw [lst_app, lst_app, hS]) hn1 (by rw [← lst_size, lst_app, lst_app, List.length_append, List.length_append, lst_size S, hSz]; exact (by omega : 1 + n + 1 ≤ 50000)) (Nat.le_of_ble_eq_true rfl) (Nat.le_of_ble_eq_true rfl) (one_mem hXn.1) (one_mem ⟨hYn.1, hYn.2.1⟩) 1 rfl false false false false (EX.1) (EX.2) (EY.1) (EY.2) _ (val1 n) W
    exact h
  have HS2 : Hid (∀ W, Calls Try.prog 8 #[.string (({ data := #[X] } : ByteArray) ++ L ++ { data := #[Y] }), .int .i64 1] W fun e w' => e = .returned (.tuple #[.agg #[.int .u8 95, .int .i64 n, .bool false, .bool false], .bool true]) ∧ Below W.heap.size W w') := fun W => by
    have h := made_val (({ data := #[X] } : ByteArray) ++ L ++ { data := #[Y] }) 95 n [X] [Y] (Or.inr rfl) (by rw [lst_app, lst_app, hL]) hn1 (by rw [← lst_size, lst_app, lst_app, List.length_append, List.length_append, lst_size L, hLz]; exact (by omega : 1 + n + 1 ≤ 50000)) (Nat.le_of_ble_eq_true rfl) (Nat.le_of_ble_eq_true rfl) (one_mem hXn.1) (one_mem ⟨hYn.1, hYn.2.2⟩) 1 rfl false false false false (EX.1) (EX.2) (EY.1) (EY.2) _ (val2 n) W
    exact h
  have HS3 : Hid (∀ W, Calls Try.prog 8 #[.string (({ data := #[32] } : ByteArray) ++ S ++ { data := #[32] }), .int .i64 1] W fun e w' => e = .returned (.tuple #[.agg #[.int .u8 42, .int .i64 n, .bool false, .bool false], .bool true]) ∧ Below W.heap.size W w') := fun W => by
    have h := made_val (({ data := #[32] } : ByteArray) ++ S ++ { data := #[32] }) 42 n [32] [32] (Or.inl rfl) (by rw [lst_app, lst_app, hS]) hn1 (by rw [← lst_size, lst_app, lst_app, List.length_append, List.length_append, lst_size S, hSz]; exact (by omega : 1 + n + 1 ≤ 50000)) (Nat.le_of_ble_eq_true rfl) (Nat.le_of_ble_eq_true rfl) (one_mem (by decide)) (one_mem (by decide)) 1 rfl true false true false (side_blank.1) (side_blank.2) (side_blank.1) (side_blank.2) _ (val3 n) W
    exact h
  have HS4 : Hid (∀ W, Calls Try.prog 8 #[.string L, .int .i64 0] W fun e w' => e = .returned (.tuple #[.agg #[.int .u8 95, .int .i64 n, .bool false, .bool false], .bool true]) ∧ Below W.heap.size W w') := fun W => by
    have h := made_val L 95 n [] [] (Or.inr rfl) (by rw [hL]; exact (List.append_nil _).symm) hn1 (by omega) (Nat.le_of_ble_eq_true rfl) (Nat.le_of_ble_eq_true rfl) (no_mem) (no_mem) 0 rfl true false true false (side_none.1) (side_none.2) (side_none.1) (side_none.2) _ (val4 n) W
    exact h
  have HS5 : Hid (∀ W, Calls Try.prog 8 #[.string (S ++ ({ data := #[Y] } : ByteArray)), .int .i64 0] W fun e w' => e = .returned (.tuple #[.agg #[.int .u8 42, .int .i64 n, .bool true, .bool false], .bool true]) ∧ Below W.heap.size W w') := fun W => by
    have h := made_val (S ++ ({ data := #[Y] } : ByteArray)) 42 n [] [Y] (Or.inl rfl) (by rw [lst_app, hS]; rfl) hn1 (by rw [← lst_size, lst_app, List.length_append, lst_size S, hSz]; exact (by omega : n + 1 ≤ 50000)) (Nat.le_of_ble_eq_true rfl) (Nat.le_of_ble_eq_true rfl) (no_mem) (one_mem ⟨hYn.1, hYn.2.1⟩) 0 rfl true false false false (side_none.1) (side_none.2) (EY.1) (EY.2) _ (val5 n) W
    exact h
  have HS6 : Hid (∀ W, Calls Try.prog 8 #[.string (({ data := #[X] } : ByteArray) ++ L), .int .i64 1] W fun e w' => e = .returned (.tuple #[.agg #[.int .u8 95, .int .i64 n, .bool false, .bool true], .bool true]) ∧ Below W.heap.size W w') := fun W => by
    have h := made_val (({ data := #[X] } : ByteArray) ++ L) 95 n [X] [] (Or.inr rfl) (by rw [lst_app, hL]; exact (List.append_nil _).symm) hn1 (by rw [← lst_size, lst_app, List.length_append, lst_size L, hLz]; exact (by omega : 1 + n ≤ 50000)) (Nat.le_of_ble_eq_true rfl) (Nat.le_of_ble_eq_true rfl) (one_mem hXn.1) (no_mem) 1 rfl false false true false (EX.1) (EX.2) (side_none.1) (side_none.2) _ (val6 n) W
    exact h
  have HSe := Lib.hid hS
  have HLe := Lib.hid hL
  clear EX EY hXn hYn hS hL
  go_enter Try.func4, Try.ntmps4
  go_wp2_with fail
  refine (alive_any _).mono ?_
  rintro e w1 ⟨rfl, hb1⟩
  have B1 := Lib.hid hb1
  have z1 := hb1.size
  clear hb1
  have cv1 := conv_one w1 (97 + a1 % 26) X hX w1.heap.size rfl
  go_upto_region 6 with fail
  obtain ⟨w2, hw2⟩ : ∃ w2, w2 = w1.alloc (.cells #[.int .u8 (97 + a1 % 26)] 5) := ⟨_, rfl⟩
  rw [← hw2]
  have B2 := Lib.hid (show Below w.heap.size w w2 from by rw [hw2]; exact B1.out.alloc z1 _)
  have z2 := B2.out.size
  clear cv1 hw2 B1
  have cv2 := conv_one w2 (97 + a2 % 26) Y hY w2.heap.size rfl
  go_upto_region 7 with fail
  obtain ⟨w3, hw3⟩ : ∃ w3, w3 = w2.alloc (.cells #[.int .u8 (97 + a2 % 26)] 5) := ⟨_, rfl⟩
  rw [← hw3]
  have B3 := Lib.hid (show Below w.heap.size w w3 from by rw [hw3]; exact B2.out.alloc z2 _)
  have z3 := B3.out.size
  clear cv2 hw3 B2
  go_wp2_with fail
  go_loopw [9, 10, 11] (fun v u i wr => ∃ k : Nat, i = .int .i64 k ∧ k ≤ n ∧ Two w3 w3.heap.size k v u wr) (fun _ _ i _ => n - (intOf i).toNat)
  case atStart =>
    refine ⟨0, rfl, Nat.zero_le _, w3.heap.size, w3.heap.size + 1, 0, 0, rfl, ?_, by omega, ?_, ?_, rfl, ?_⟩
    · simp
    · exact (own_empty5 w3 _ (Nat.le_refl _)).alloc _
    · have := own_empty5 (w3.alloc (.cells #[] 5)) w3.heap.size (by simp)
      rw [show (w3.alloc (.cells #[] 5)).heap.size = w3.heap.size + 1 from by simp] at this
      exact this
    · exact ((Below.refl _ _).alloc (Nat.le_refl _) _).alloc (by simp) _
  case round =>
    obtain ⟨k, rfl, hk, g, h, c, d, rfl, rfl, hgh, ho1, ho2, _, hB0⟩ := hrel
    have hBz := hB0.size
    have hgl := own_lt ho1
    have hhl := own_lt ho2
    by_cases hlt : k < n
    · have l1 : decide (k < n) = true := by simpa using hlt
      have l2 : decide ((k : Int) < (n : Int)) = true := by simp; omega
      have HN1 := Lib.hid (newsB wr [42])
      go_wp2_with (at_builtin; refine wpList_append_lies _ rfl _ _ 28 rfl w3.heap.size 5 i0 (.int .u8 0) 1 1 Try.underlying28 hi0 hz0 hz1 hz2 rfl (by decide) (.slice (some ⟨g, 0, none⟩) k c) k _ rfl (ho1.alloc _) ⟨wr.heap.size, 0, none⟩ 1 1 (Lib.byteCells [42]) rfl rfl (HN1.out) (bytes_one _) (by decide) (by unfold maxLen; omega) (by omega) (by simp; omega) _ rfl ?_)
      intro g4 c4 w4 hown4 hgrow4 hat4 hlt4
      have hk4 : Kept (fun i => i = g) wr w4 := (Kept.alloc _ wr _).trans (Kept.grown _ hgrow4 (fun i e => by injection e with e; exact e.symm)) (fun _ _ => id)
      have ho24 := hk4.own ho2 (fun i e => by injection e with e; intro hc; exact hgh (by rw [← hc, ← e]))
      have hgh4 : g4 ≠ h := by
        rcases hat4 with e | e
        · injection e with e; rw [← e]; exact hgh
        · omega
      have hz4 := hk4.size
      have hB4 : Below w3.heap.size w3 w4 := hB0.trans (hk4.below hBz (fun i e => by rw [e]; exact hgl.1))
      have hB4z := hB4.size
      have HN2 := Lib.hid (newsB w4 [95])
      rw [rep_step] at hown4
      clear hgrow4 hat4 ho1 ho2 hB0 hk4
      go_wp2_with (at_builtin; refine wpList_append_lies _ rfl _ _ 28 rfl w3.heap.size 5 i0 (.int .u8 0) 1 1 Try.underlying28 hi0 hz0 hz1 hz2 rfl (by decide) (.slice (some ⟨h, 0, none⟩) k d) k _ rfl (ho24.alloc _) ⟨w4.heap.size, 0, none⟩ 1 1 (Lib.byteCells [95]) rfl rfl (HN2.out) (bytes_one _) (by decide) (by unfold maxLen; omega) (by omega) (by simp; omega) _ rfl ?_)
      intro g5 c5 w5 hown5 hgrow5 hat5 hlt5
      have hk5 : Kept (fun i => i = h) w4 w5 := (Kept.alloc _ w4 _).trans (Kept.grown _ hgrow5 (fun i e => by injection e with e; exact e.symm)) (fun _ _ => id)
      have ho15 := hk5.own hown4 (fun i e => by injection e with e; intro hc; exact hgh4 (by rw [← hc, ← e]))
      have hgh5 : g4 ≠ g5 := by
        rcases hat5 with e | e
        · injection e with e; rw [← e]; exact hgh4
        · omega
      have hB5 : Below w3.heap.size w3 w5 := hB4.trans (hk5.below hB4z (fun i e => by rw [e]; exact hhl.1))
      rw [rep_step] at hown5
      have HR : Hid (Two w3 w3.heap.size (k + 1) (.slice (some ⟨g4, 0, none⟩) (k + 1) c4) (.slice (some ⟨g5, 0, none⟩) (k + 1) c5) w5) := ⟨g4, g5, c4, c5, rfl, rfl, hgh5, ho15, hown5, rfl, hB5⟩
      clear hgrow5 hat5 hown4 ho24 hB4 hk5 ho15 hown5 hB5
      go_wp2_with fail
      go_roundw
      case rel => exact ⟨k + 1, by go_num, by omega, HR.out⟩
      case measure => simp [intOf]; omega
    · obtain rfl : k = n := by omega
      have l1 : decide (k < k) = false := by simp
      have l2 : decide ((k : Int) < (k : Int)) = false := by simp
      have OS := Lib.hid ho1
      have OL := Lib.hid ho2
      have BB := Lib.hid (chain (Nat.le_refl _) B3.out hB0)
      have cS0 := rep_string ho1 k rfl
      have cL0 := rep_string ho2 k rfl
      rw [← HSe.out] at cS0
      rw [← HLe.out] at cL0
      clear ho1 ho2 hB0 hlt B3
      go_wp2_with fail
      refine (HS1.out _).mono ?_
      rintro e y1 ⟨rfl, hb⟩
      have hz1 : wr.heap.size ≤ y1.heap.size := hb.size
      obtain ⟨W1, hW⟩ : ∃ W, W = y1.alloc (.cells #[.int .u8 42, .int .i64 k, .bool true, .bool true] 24) := ⟨_, rfl⟩
      have hb' : Below wr.heap.size wr W1 := by rw [hW]; exact hb.alloc hz1 _
      have R1 := Lib.hid (show Holds W1 y1.heap.size 24 #[.int .u8 42, .int .i64 k, .bool true, .bool true] from by rw [hW]; exact Holds.made y1 24 _)
      replace BB := Lib.hid (chain (Nat.le_refl _) BB.out hb')
      replace OS := Lib.hid (own_below OS.out hb')
      replace OL := Lib.hid (own_below OL.out hb')
      have cS1 := rep_string OS.out k rfl
      have cL1 := rep_string OL.out k rfl
      rw [← HSe.out] at cS1
      rw [← HLe.out] at cL1
      have HW1 := Lib.hid hW
      clear hb hb' hW HS1
      go_upto_region 15 with fail
      rw [← HW1.out]
      clear HW1
      go_wp2_with fail
      refine (HS2.out _).mono ?_
      rintro e y2 ⟨rfl, hb⟩
      have hz2 : W1.heap.size ≤ y2.heap.size := hb.size
      obtain ⟨W2, hW⟩ : ∃ W, W = y2.alloc (.cells #[.int .u8 95, .int .i64 k, .bool false, .bool false] 24) := ⟨_, rfl⟩
      have hb' : Below W1.heap.size W1 W2 := by rw [hW]; exact hb.alloc hz2 _
      have R2 := Lib.hid (show Holds W2 y2.heap.size 24 #[.int .u8 95, .int .i64 k, .bool false, .bool false] from by rw [hW]; exact Holds.made y2 24 _)
      replace R1 := Lib.hid (R1.out.under hb' R1.out.lt)
      replace BB := Lib.hid (chain (Nat.le_refl _) BB.out hb')
      replace OS := Lib.hid (own_below OS.out hb')
      replace OL := Lib.hid (own_below OL.out hb')
      have cS2 := rep_string OS.out k rfl
      have cL2 := rep_string OL.out k rfl
      rw [← HSe.out] at cS2
      rw [← HLe.out] at cL2
      have HW2 := Lib.hid hW
      clear hb hb' hW HS2
      go_upto_region 16 with fail
      rw [← HW2.out]
      clear HW2
      go_wp2_with fail
      refine (HS3.out _).mono ?_
      rintro e y3 ⟨rfl, hb⟩
      have hz3 : W2.heap.size ≤ y3.heap.size := hb.size
      obtain ⟨W3, hW⟩ : ∃ W, W = y3.alloc (.cells #[.int .u8 42, .int .i64 k, .bool false, .bool false] 24) := ⟨_, rfl⟩
      have hb' : Below W2.heap.size W2 W3 := by rw [hW]; exact hb.alloc hz3 _
      have R3 := Lib.hid (show Holds W3 y3.heap.size 24 #[.int .u8 42, .int .i64 k, .bool false, .bool false] from by rw [hW]; exact Holds.made y3 24 _)
      replace R1 := Lib.hid (R1.out.under hb' R1.out.lt)
      replace R2 := Lib.hid (R2.out.under hb' R2.out.lt)
      replace BB := Lib.hid (chain (Nat.le_refl _) BB.out hb')
      replace OS := Lib.hid (own_below OS.out hb')
      replace OL := Lib.hid (own_below OL.out hb')
      have cS3 := rep_string OS.out k rfl
      have cL3 := rep_string OL.out k rfl
      rw [← HSe.out] at cS3
      rw [← HLe.out] at cL3
      have HW3 := Lib.hid hW
      clear hb hb' hW HS3
      go_upto_region 17 with fail
      rw [← HW3.out]
      clear HW3
      go_wp2_with fail
      refine (HS4.out _).mono ?_
      rintro e y4 ⟨rfl, hb⟩
      have hz4 : W3.heap.size ≤ y4.heap.size := hb.size
      obtain ⟨W4, hW⟩ : ∃ W, W = y4.alloc (.cells #[.int .u8 95, .int .i64 k, .bool false, .bool false] 24) := ⟨_, rfl⟩
      have hb' : Below W3.heap.size W3 W4 := by rw [hW]; exact hb.alloc hz4 _
      have R4 := Lib.hid (show Holds W4 y4.heap.size 24 #[.int .u8 95, .int .i64 k, .bool false, .bool false] from by rw [hW]; exact Holds.made y4 24 _)
      replace R1 := Lib.hid (R1.out.under hb' R1.out.lt)
      replace R2 := Lib.hid (R2.out.under hb' R2.out.lt)
      replace R3 := Lib.hid (R3.out.under hb' R3.out.lt)
      replace BB := Lib.hid (chain (Nat.le_refl _) BB.out hb')
      replace OS := Lib.hid (own_below OS.out hb')
      replace OL := Lib.hid (own_below OL.out hb')
      have cS4 := rep_string OS.out k rfl
      have cL4 := rep_string OL.out k rfl
      rw [← HSe.out] at cS4
      rw [← HLe.out] at cL4
      have HW4 := Lib.hid hW
      clear hb hb' hW HS4
      go_upto_region 18 with fail
      rw [← HW4.out]
      clear HW4
      go_wp2_with fail
      refine (HS5.out _).mono ?_
      rintro e y5 ⟨rfl, hb⟩
      have hz5 : W4.heap.size ≤ y5.heap.size := hb.size
      obtain ⟨W5, hW⟩ : ∃ W, W = y5.alloc (.cells #[.int .u8 42, .int .i64 k, .bool true, .bool false] 24) := ⟨_, rfl⟩
      have hb' : Below W4.heap.size W4 W5 := by rw [hW]; exact hb.alloc hz5 _
      have R5 := Lib.hid (show Holds W5 y5.heap.size 24 #[.int .u8 42, .int .i64 k, .bool true, .bool false] from by rw [hW]; exact Holds.made y5 24 _)
      replace R1 := Lib.hid (R1.out.under hb' R1.out.lt)
      replace R2 := Lib.hid (R2.out.under hb' R2.out.lt)
      replace R3 := Lib.hid (R3.out.under hb' R3.out.lt)
      replace R4 := Lib.hid (R4.out.under hb' R4.out.lt)
      replace BB := Lib.hid (chain (Nat.le_refl _) BB.out hb')
      replace OS := Lib.hid (own_below OS.out hb')
      replace OL := Lib.hid (own_below OL.out hb')
      have cS5 := rep_string OS.out k rfl
      have cL5 := rep_string OL.out k rfl
      rw [← HSe.out] at cS5
      rw [← HLe.out] at cL5
      have HW5 := Lib.hid hW
      clear hb hb' hW HS5
      go_upto_region 19 with fail
      rw [← HW5.out]
      clear HW5
      go_wp2_with fail
      refine (HS6.out _).mono ?_
      rintro e y6 ⟨rfl, hb⟩
      have hz6 : W5.heap.size ≤ y6.heap.size := hb.size
      replace R1 := Lib.hid (R1.out.under hb R1.out.lt)
      replace R2 := Lib.hid (R2.out.under hb R2.out.lt)
      replace R3 := Lib.hid (R3.out.under hb R3.out.lt)
      replace R4 := Lib.hid (R4.out.under hb R4.out.lt)
      replace R5 := Lib.hid (R5.out.under hb R5.out.lt)
      replace BB := Lib.hid (chain (Nat.le_refl _) BB.out hb)
      clear hb
      have x11 : y6.cell? ⟨y1.heap.size, 1, none⟩ = some (.int .i64 k) := R1.out.at 1
      have x12 : y6.cell? ⟨y1.heap.size, 2, none⟩ = some (.bool true) := R1.out.at 2
      have x13 : y6.cell? ⟨y1.heap.size, 3, none⟩ = some (.bool true) := R1.out.at 3
      have zz1 : y1.heap.size < y6.heap.size := R1.out.lt
      have x21 : y6.cell? ⟨y2.heap.size, 1, none⟩ = some (.int .i64 k) := R2.out.at 1
      have x22 : y6.cell? ⟨y2.heap.size, 2, none⟩ = some (.bool false) := R2.out.at 2
      have x23 : y6.cell? ⟨y2.heap.size, 3, none⟩ = some (.bool false) := R2.out.at 3
      have zz2 : y2.heap.size < y6.heap.size := R2.out.lt
      have x31 : y6.cell? ⟨y3.heap.size, 1, none⟩ = some (.int .i64 k) := R3.out.at 1
      have x32 : y6.cell? ⟨y3.heap.size, 2, none⟩ = some (.bool false) := R3.out.at 2
      have x33 : y6.cell? ⟨y3.heap.size, 3, none⟩ = some (.bool false) := R3.out.at 3
      have zz3 : y3.heap.size < y6.heap.size := R3.out.lt
      have x41 : y6.cell? ⟨y4.heap.size, 1, none⟩ = some (.int .i64 k) := R4.out.at 1
      have x42 : y6.cell? ⟨y4.heap.size, 2, none⟩ = some (.bool false) := R4.out.at 2
      have x43 : y6.cell? ⟨y4.heap.size, 3, none⟩ = some (.bool false) := R4.out.at 3
      have zz4 : y4.heap.size < y6.heap.size := R4.out.lt
      have x51 : y6.cell? ⟨y5.heap.size, 1, none⟩ = some (.int .i64 k) := R5.out.at 1
      have x52 : y6.cell? ⟨y5.heap.size, 2, none⟩ = some (.bool true) := R5.out.at 2
      have x53 : y6.cell? ⟨y5.heap.size, 3, none⟩ = some (.bool false) := R5.out.at 3
      have zz5 : y5.heap.size < y6.heap.size := R5.out.lt
      go_wp2_with fail
      go_ret
      exact ⟨by simp, BB.out.alloc (by have := BB.out.size; omega) _⟩

set_option maxRecDepth 100000 in
theorem lifted (os : Os) (started : os.Started) (H : Type) (enc : TypeId × Value → H) :
    ReturnsInHanded {} Try.checked os 4 .any (Rows.runsLettersSpec.pre6 enc Try.prog Try.f4 Rows.runsLettersRow.domain false) (Rows.runsLettersSpec.post enc Try.prog Try.f4 false true false false) := by
  refine returnsInHanded_of_change (C := Try.checked) own started (by kernel_rfl) Try.func4
    (ChangeSpec.witness6 (enc := enc) (C := Try.checked) false ⟨#[], #[.int .i64 0, .int .u8 0, .int .u8 0], []⟩ 8 (by kernel_rfl) (by kernel_rfl) (by kernel_rfl) (by kernel_rfl)) ?_
  intro W base args ds gs before hval0 hW hcnd _
  have hval : ∀ (j : Nat) t v, Try.f4.params[j]? = some t → args[j]? = some v → Value.okWide Try.prog W .any base t v := hval0
  have hW' := hW
  obtain ⟨p, q, hA0, hV, rfl, hfz, hnd⟩ := hW
  have hA : DataW.TrodAll enc Try.prog W 0 (fun _ => true) true Try.f4.params.toList args.toList ds p := hA0
  rw [Try.params4] at hA hval
  obtain ⟨v0, vs0, d0, ds0, p0, q0, hargs, rfl, rfl, h0, r0⟩ := trodAll_cons hA
  obtain ⟨v1, vs1, d1, ds1, p1, q1, rfl, rfl, rfl, h1, r1⟩ := trodAll_cons r0
  obtain ⟨v2, vs2, d2, ds2, p2, q2, rfl, rfl, rfl, h2, r2⟩ := trodAll_cons r1
  obtain ⟨rfl, rfl, rfl⟩ := trodAll_nil r2
  obtain rfl : args = #[v0, v1, v2] := by cases args; simp_all
  obtain ⟨rfl, rfl⟩ := trodVars_none hV
  obtain ⟨a0, rfl, rfl, rfl, w0⟩ := open_int Try.underlying3 (hval 0 3 v0 rfl rfl) h0
  obtain ⟨a1, rfl, rfl, rfl, w1⟩ := open_int Try.underlying5 (hval 1 5 v1 rfl rfl) h1
  obtain ⟨a2, rfl, rfl, rfl, w2⟩ := open_int Try.underlying5 (hval 2 5 v2 rfl rfl) h2
  clear hA0 hval0
  simp only [List.append_nil] at hW'
  refine (walk a0 a1 a2 w0 w1 w2 W).mono fun e W' ⟨he, hg⟩ => ?_
  subst he
  exact ⟨_, rfl, _, _, _, [], [], [], hW', (trodAll_cons_mk (shut_bool Try.underlying4 _) trodAll_mk0), (trodAll_cons_mk (shut_int Try.underlying3 w0) (trodAll_cons_mk (shut_int Try.underlying5 w1) (trodAll_cons_mk (shut_int Try.underlying5 w2) trodAll_mk0))), rfl, hg.frame _, fun h => by cases h⟩

theorem over : Rows.runsLettersRow.holds Try.pinned (OpenSpec.ofChange Rows.runsLettersSpec) :=
  OpenClaim.holds_of_wide 4 Try.f4 rfl rfl rfl rfl rfl rfl rfl ⟨rfl, rfl, rfl, rfl, rfl⟩ rfl rfl rfl rfl rfl (by kernel_rfl) Try.func4 (by kernel_rfl)
    (of_decide_eq_true (by kernel_rfl)) (by unfold Func.isWrapper; first | (rw [if_pos (by decide +kernel)]; kernel_rfl) | (rw [if_neg (by decide +kernel)]; exact ⟨rfl, rfl⟩))
    (fun os started H enc _ => lifted os started H enc)

theorem proved : Rows.RunsLettersSaid :=
  over
#print axioms proved
end Go.Proofs.Ythglejhhfnpdaaa.runsLetters
