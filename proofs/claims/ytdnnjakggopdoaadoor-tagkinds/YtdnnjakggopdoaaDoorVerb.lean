/-
  PROVED: contracts of tag.endsName, beginsVerbatim and endsVerbatim. Conditions: the tables of the package hold what their initialisers lay; the text has at most 1000000 bytes.
-/
import Derived.Test.YtdnnjakggopdoaaDoorSmall
import Derived.Test.YtdnnjakggopdoaaDoorGlob
namespace Go.Proofs.YtdnnjakggopdoaaDoor
open Go.ChangeShapes Go.WideShapes Go.ChangeAt Go.RowKit Go.Sort
set_option linter.unusedVariables false
set_option linter.unusedSimpArgs false

/-- May a line go on so behind a tag's name? -/
def endsN : List UInt8 → Bool
  | [] => true
  | x :: _ => [32, 9, 62].contains x
theorem endsName_any (s : ByteArray) (w : World) : Calls Tryd.prog 52 #[.string s] w fun e w' => e = .returned (.bool (endsN (lst s))) ∧ w' = w := by
  by_cases h0 : 0 < s.size
  · have he := emp_no s h0
    obtain ⟨m, hm⟩ := lst_cons s h0
    have HI : Hid (∀ W, Calls Tryd.prog 66 #[.string { data := #[32, 9, 62] }, .int .u8 (s[0]'h0).toNat] W fun e w' => (∃ i : Int, e = .returned (.int .i64 i) ∧ decide (0 ≤ i) = endsN (lst s)) ∧ w' = W) := fun W => by
      rw [hm]
      exact has_any { data := #[32, 9, 62] } (s[0]'h0) W
    generalize endsN (lst s) = v at *
    clear hm
    go_enter Tryd.func52, Tryd.ntmps52
    go_wp2_with fail
    refine (HI.out _).mono ?_
    rintro e w1 ⟨⟨i, rfl, hi⟩, rfl⟩
    have H := Lib.hid hi
    clear hi
    go_wp2_with fail
    go_ret
    exact ⟨ret_bool H.out, rfl⟩
  · have he := emp_yes s (by omega)
    have HV : Hid (endsN (lst s) = true) := show _ = _ from by rw [lst_nil s (by omega)]; rfl
    go_enter Tryd.func52, Tryd.ntmps52
    go_wp2_with fail
    go_ret
    exact ⟨ret_bool (by rw [HV.out]), rfl⟩
/-- Does a line begin with the i-th of the verbatim tags? -/
def isVb (l : List UInt8) (i : Nat) : Bool := decide ((vbeg i).length ≤ l.length) && ((l.take (vbeg i).length).map lowb == vbeg i) && endsN (l.drop (vbeg i).length)
def begV (l : List UInt8) : Bool := isVb l 0 || isVb l 1 || isVb l 2 || isVb l 3
theorem grows_same {v : Value} {w w' : World} {e : Ending} (h : e = .returned v ∧ w' = w) : Grows v w e w' := ⟨h.1, 0, #[], by rw [h.2]; simp [World.drewN_zero]⟩
/-- What the loops over the verbatim tags go by. -/
def ZRel (f : Nat → Bool) (w : World) (i : Value) (wr : World) : Prop := RowKit.Below w.heap.size w wr ∧
  (i = .int .i64 0 ∨ (i = .int .i64 1 ∧ f 0 = false) ∨ (i = .int .i64 2 ∧ f 0 = false ∧ f 1 = false) ∨ (i = .int .i64 3 ∧ f 0 = false ∧ f 1 = false ∧ f 2 = false) ∨ (i = .int .i64 4 ∧ f 0 = false ∧ f 1 = false ∧ f 2 = false ∧ f 3 = false))
theorem small_cut (s : ByteArray) (n : Nat) (hs : s.size ≤ 1000000) (hn : n ≤ s.size) (A : ByteArray) (hA : lst A = ((lst s).take n).map lowb) (w : World) : Calls Tryd.prog 51 #[.string (s.extract 0 n)] w (Grows (.string A) w) := by
  have h := smallP_grows (s.extract 0 n) (by rw [← lst_size, lst_cut, List.drop_zero, List.length_take, lst_size]; omega) w
  rw [lst_cut, List.drop_zero, ← hA, show (ByteArray.mk (lst A).toArray) = A from Lib.mk_data A] at h
  exact h
theorem ends_cut (s : ByteArray) (n : Nat) (w : World) : Calls Tryd.prog 52 #[.string (s.extract n s.size)] w (Grows (.bool (endsN ((lst s).drop n))) w) := by
  have h := endsName_any (s.extract n s.size) w
  rw [lst_from] at h
  exact h.mono fun e w' h => grows_same h

set_option maxHeartbeats 32000000 in
theorem begV_any (s : ByteArray) (hs : s.size ≤ 1000000) (w : World) (hG : Glob w) :
    Calls Tryd.prog 31 #[.string s] w fun e w' => e = .returned (.bool (begV (lst s))) ∧ RowKit.Below w.heap.size w w' := by
  have v0 := hG.v0
  have v1 := hG.v1
  have v2 := hG.v2
  have v3 := hG.v3
  have v4 := hG.v4
  have v5 := hG.v5
  have v6 := hG.v6
  have v7 := hG.v7
  have v8 := hG.v8
  have v9 := hG.v9
  have v10 := hG.v10
  have v11 := hG.v11
  have mixed := Tryd.mixed
  clear hG
  go_enter Tryd.func31, Tryd.ntmps31
  go_wp2_with fail
  clear v0 v1 v2 v3 v4 v5 v6 v7 v8 v9 v10 v11
  go_loopw [7] (fun i wr => ZRel (isVb (lst s)) w i wr) (fun i _ => 4 - (intOf i).toNat)
  case atStart => exact ⟨Below.refl _ _, .inl rfl⟩
  case round =>
    obtain ⟨hB, hrel⟩ := hrel
    have HB := Lib.hid hB
    have hsz := hB.size
    clear hB
    rcases hrel with rfl | ⟨rfl, h0⟩ | ⟨rfl, h0, h1⟩ | ⟨rfl, h0, h1, h2⟩ | ⟨rfl, h0, h1, h2, h3⟩
    · skip
      have k := idx_v0
      obtain ⟨W1, hW1⟩ : ∃ W1, W1 = wr.alloc (.cells #[.string { data := #[60, 112, 114, 101] }, .bool false, .string { data := #[60, 47, 112, 114, 101, 62] }] 32) := ⟨_, rfl⟩
      have HA : Hid (RowKit.Below w.heap.size w W1) := show RowKit.Below _ _ _ from by rw [hW1]; exact HB.out.alloc hsz _
      have hz : wr.heap.size < W1.heap.size := by rw [hW1]; simp
      have y0 : W1.cell? ⟨wr.heap.size, 0, none⟩ = some (.string { data := #[60, 112, 114, 101] }) := by rw [hW1]; simp
      have HW1 := Lib.hid hW1
      clear hW1
      by_cases hn : 4 ≤ s.size
      · skip
        have hd : decide (4 ≤ s.size) = true := by simp; omega
        have hd2 : decide ((4 : Int) ≤ (s.size : Int)) = true := by simp; omega
        have z1 : (4 : Int) ≤ (s.size : Int) := by omega
        obtain ⟨A, hA⟩ : ∃ A : ByteArray, A = ⟨(((lst s).take 4).map lowb).toArray⟩ := ⟨_, rfl⟩
        have hAl : lst A = ((lst s).take 4).map lowb := by rw [hA, lst_mk]
        have HS := Lib.hid (small_cut s 4 hs hn A hAl)
        have HE := Lib.hid (ends_cut s 4)
        have p0 := cell_grown hz y0
        have HVB : Hid (isVb (lst s) 0 = ((lst A == [60, 112, 114, 101]) && endsN ((lst s).drop 4))) := show _ = _ from by
          unfold isVb
          rw [decide_eq_true (by rw [lst_size]; exact hn), Bool.true_and, hAl]
          rfl
        have HAL : Hid (A.toList = lst A) := Lib.toList_data A
        clear hA hAl
        generalize endsN ((lst s).drop 4) = ve at *
        cases hq : (lst A == [60, 112, 114, 101]) with
        | false =>
          rw [hq] at HVB
          have hq1 : (A.toList == [60, 112, 114, 101]) = false := by rw [HAL.out]; exact hq
          have hq2 : (A.toList == ({ data := #[60, 112, 114, 101] } : ByteArray).toList) = false := by rw [HAL.out, Lib.toList_data]; exact hq
          clear hq
          have H : Hid (isVb (lst s) 0 = false) := show _ = _ from by rw [HVB.out]; rfl
          go_wp2_with fail
          rw [← HW1.out]
          go_quiet_grown (first | (go_at_call 51; refine Calls.grown_of (HS.out _)) | (go_at_call 52; refine Calls.grown_of (HE.out _)))
          have HB4 : Hid (RowKit.Below w.heap.size w (grow (W1.drewN nq) osq)) := chain (Nat.le_refl _) HA.out ((show Grows (.bool true) W1 (.returned (.bool true)) (grow (W1.drewN nq) osq) from ⟨rfl, nq, osq, rfl⟩).below).2
          generalize grow (W1.drewN nq) osq = w4 at HB4 ⊢
          clear p0 y0 HS HE hq1 hq2
          go_wp2_with fail
          go_roundw
          case rel => exact ⟨HB4.out, .inr (.inl ⟨rfl, H.out⟩)⟩
          case measure => simp [intOf]
        | true =>
          rw [hq] at HVB
          have hq1 : (A.toList == [60, 112, 114, 101]) = true := by rw [HAL.out]; exact hq
          have hq2 : (A.toList == ({ data := #[60, 112, 114, 101] } : ByteArray).toList) = true := by rw [HAL.out, Lib.toList_data]; exact hq
          clear hq
          cases ve
          · have H : Hid (isVb (lst s) 0 = false) := show _ = _ from by rw [HVB.out]; rfl
            go_wp2_with fail
            rw [← HW1.out]
            go_quiet_grown (first | (go_at_call 51; refine Calls.grown_of (HS.out _)) | (go_at_call 52; refine Calls.grown_of (HE.out _)))
            have HB4 : Hid (RowKit.Below w.heap.size w (grow (W1.drewN nq) osq)) := chain (Nat.le_refl _) HA.out ((show Grows (.bool true) W1 (.returned (.bool true)) (grow (W1.drewN nq) osq) from ⟨rfl, nq, osq, rfl⟩).below).2
            generalize grow (W1.drewN nq) osq = w4 at HB4 ⊢
            clear p0 y0 HS HE hq1 hq2
            go_wp2_with fail
            go_roundw
            case rel => exact ⟨HB4.out, .inr (.inl ⟨rfl, H.out⟩)⟩
            case measure => simp [intOf]
          · have H : Hid (isVb (lst s) 0 = true) := show _ = _ from by rw [HVB.out]; rfl
            go_wp2_with fail
            rw [← HW1.out]
            go_quiet_grown (first | (go_at_call 51; refine Calls.grown_of (HS.out _)) | (go_at_call 52; refine Calls.grown_of (HE.out _)))
            have HB4 : Hid (RowKit.Below w.heap.size w (grow (W1.drewN nq) osq)) := chain (Nat.le_refl _) HA.out ((show Grows (.bool true) W1 (.returned (.bool true)) (grow (W1.drewN nq) osq) from ⟨rfl, nq, osq, rfl⟩).below).2
            generalize grow (W1.drewN nq) osq = w4 at HB4 ⊢
            clear p0 y0 HS HE hq1 hq2
            go_wp2_with fail
            go_ret
            exact ⟨ret_bool (by unfold begV; rw [H.out]; rfl), HB4.out⟩
      · have hd : decide (4 ≤ s.size) = false := by simp; omega
        have hd2 : decide ((4 : Int) ≤ (s.size : Int)) = false := by simp; omega
        have H : Hid (isVb (lst s) 0 = false) := show _ = _ from by
          unfold isVb
          rw [decide_eq_false (by rw [lst_size]; exact hn)]
          rfl
        go_wp2_with fail
        rw [← HW1.out]
        go_quiet (fail)
        have HB4 : Hid (RowKit.Below w.heap.size w (W1.drewN nq)) := below_drewN HA.out nq
        generalize W1.drewN nq = w4 at HB4 ⊢
        go_wp2_with fail
        go_roundw
        case rel => exact ⟨HB4.out, .inr (.inl ⟨rfl, H.out⟩)⟩
        case measure => simp [intOf]
    · skip
      replace h0 := Lib.hid h0
      have k := idx_v1
      obtain ⟨W1, hW1⟩ : ∃ W1, W1 = wr.alloc (.cells #[.string { data := #[60, 115, 99, 114, 105, 112, 116] }, .bool false, .string { data := #[60, 47, 115, 99, 114, 105, 112, 116, 62] }] 32) := ⟨_, rfl⟩
      have HA : Hid (RowKit.Below w.heap.size w W1) := show RowKit.Below _ _ _ from by rw [hW1]; exact HB.out.alloc hsz _
      have hz : wr.heap.size < W1.heap.size := by rw [hW1]; simp
      have y0 : W1.cell? ⟨wr.heap.size, 0, none⟩ = some (.string { data := #[60, 115, 99, 114, 105, 112, 116] }) := by rw [hW1]; simp
      have HW1 := Lib.hid hW1
      clear hW1
      by_cases hn : 7 ≤ s.size
      · skip
        have hd : decide (7 ≤ s.size) = true := by simp; omega
        have hd2 : decide ((7 : Int) ≤ (s.size : Int)) = true := by simp; omega
        have z1 : (7 : Int) ≤ (s.size : Int) := by omega
        obtain ⟨A, hA⟩ : ∃ A : ByteArray, A = ⟨(((lst s).take 7).map lowb).toArray⟩ := ⟨_, rfl⟩
        have hAl : lst A = ((lst s).take 7).map lowb := by rw [hA, lst_mk]
        have HS := Lib.hid (small_cut s 7 hs hn A hAl)
        have HE := Lib.hid (ends_cut s 7)
        have p0 := cell_grown hz y0
        have HVB : Hid (isVb (lst s) 1 = ((lst A == [60, 115, 99, 114, 105, 112, 116]) && endsN ((lst s).drop 7))) := show _ = _ from by
          unfold isVb
          rw [decide_eq_true (by rw [lst_size]; exact hn), Bool.true_and, hAl]
          rfl
        have HAL : Hid (A.toList = lst A) := Lib.toList_data A
        clear hA hAl
        generalize endsN ((lst s).drop 7) = ve at *
        cases hq : (lst A == [60, 115, 99, 114, 105, 112, 116]) with
        | false =>
          rw [hq] at HVB
          have hq1 : (A.toList == [60, 115, 99, 114, 105, 112, 116]) = false := by rw [HAL.out]; exact hq
          have hq2 : (A.toList == ({ data := #[60, 115, 99, 114, 105, 112, 116] } : ByteArray).toList) = false := by rw [HAL.out, Lib.toList_data]; exact hq
          clear hq
          have H : Hid (isVb (lst s) 1 = false) := show _ = _ from by rw [HVB.out]; rfl
          go_wp2_with fail
          rw [← HW1.out]
          go_quiet_grown (first | (go_at_call 51; refine Calls.grown_of (HS.out _)) | (go_at_call 52; refine Calls.grown_of (HE.out _)))
          have HB4 : Hid (RowKit.Below w.heap.size w (grow (W1.drewN nq) osq)) := chain (Nat.le_refl _) HA.out ((show Grows (.bool true) W1 (.returned (.bool true)) (grow (W1.drewN nq) osq) from ⟨rfl, nq, osq, rfl⟩).below).2
          generalize grow (W1.drewN nq) osq = w4 at HB4 ⊢
          clear p0 y0 HS HE hq1 hq2
          go_wp2_with fail
          go_roundw
          case rel => exact ⟨HB4.out, .inr (.inr (.inl ⟨rfl, h0.out, H.out⟩))⟩
          case measure => simp [intOf]
        | true =>
          rw [hq] at HVB
          have hq1 : (A.toList == [60, 115, 99, 114, 105, 112, 116]) = true := by rw [HAL.out]; exact hq
          have hq2 : (A.toList == ({ data := #[60, 115, 99, 114, 105, 112, 116] } : ByteArray).toList) = true := by rw [HAL.out, Lib.toList_data]; exact hq
          clear hq
          cases ve
          · have H : Hid (isVb (lst s) 1 = false) := show _ = _ from by rw [HVB.out]; rfl
            go_wp2_with fail
            rw [← HW1.out]
            go_quiet_grown (first | (go_at_call 51; refine Calls.grown_of (HS.out _)) | (go_at_call 52; refine Calls.grown_of (HE.out _)))
            have HB4 : Hid (RowKit.Below w.heap.size w (grow (W1.drewN nq) osq)) := chain (Nat.le_refl _) HA.out ((show Grows (.bool true) W1 (.returned (.bool true)) (grow (W1.drewN nq) osq) from ⟨rfl, nq, osq, rfl⟩).below).2
            generalize grow (W1.drewN nq) osq = w4 at HB4 ⊢
            clear p0 y0 HS HE hq1 hq2
            go_wp2_with fail
            go_roundw
            case rel => exact ⟨HB4.out, .inr (.inr (.inl ⟨rfl, h0.out, H.out⟩))⟩
            case measure => simp [intOf]
          · have H : Hid (isVb (lst s) 1 = true) := show _ = _ from by rw [HVB.out]; rfl
            go_wp2_with fail
            rw [← HW1.out]
            go_quiet_grown (first | (go_at_call 51; refine Calls.grown_of (HS.out _)) | (go_at_call 52; refine Calls.grown_of (HE.out _)))
            have HB4 : Hid (RowKit.Below w.heap.size w (grow (W1.drewN nq) osq)) := chain (Nat.le_refl _) HA.out ((show Grows (.bool true) W1 (.returned (.bool true)) (grow (W1.drewN nq) osq) from ⟨rfl, nq, osq, rfl⟩).below).2
            generalize grow (W1.drewN nq) osq = w4 at HB4 ⊢
            clear p0 y0 HS HE hq1 hq2
            go_wp2_with fail
            go_ret
            exact ⟨ret_bool (by unfold begV; rw [h0.out, H.out]; rfl), HB4.out⟩
      · have hd : decide (7 ≤ s.size) = false := by simp; omega
        have hd2 : decide ((7 : Int) ≤ (s.size : Int)) = false := by simp; omega
        have H : Hid (isVb (lst s) 1 = false) := show _ = _ from by
          unfold isVb
          rw [decide_eq_false (by rw [lst_size]; exact hn)]
          rfl
        go_wp2_with fail
        rw [← HW1.out]
        go_quiet (fail)
        have HB4 : Hid (RowKit.Below w.heap.size w (W1.drewN nq)) := below_drewN HA.out nq
        generalize W1.drewN nq = w4 at HB4 ⊢
        go_wp2_with fail
        go_roundw
        case rel => exact ⟨HB4.out, .inr (.inr (.inl ⟨rfl, h0.out, H.out⟩))⟩
        case measure => simp [intOf]
    · skip
      replace h0 := Lib.hid h0
      replace h1 := Lib.hid h1
      have k := idx_v2
      obtain ⟨W1, hW1⟩ : ∃ W1, W1 = wr.alloc (.cells #[.string { data := #[60, 115, 116, 121, 108, 101] }, .bool false, .string { data := #[60, 47, 115, 116, 121, 108, 101, 62] }] 32) := ⟨_, rfl⟩
      have HA : Hid (RowKit.Below w.heap.size w W1) := show RowKit.Below _ _ _ from by rw [hW1]; exact HB.out.alloc hsz _
      have hz : wr.heap.size < W1.heap.size := by rw [hW1]; simp
      have y0 : W1.cell? ⟨wr.heap.size, 0, none⟩ = some (.string { data := #[60, 115, 116, 121, 108, 101] }) := by rw [hW1]; simp
      have HW1 := Lib.hid hW1
      clear hW1
      by_cases hn : 6 ≤ s.size
      · skip
        have hd : decide (6 ≤ s.size) = true := by simp; omega
        have hd2 : decide ((6 : Int) ≤ (s.size : Int)) = true := by simp; omega
        have z1 : (6 : Int) ≤ (s.size : Int) := by omega
        obtain ⟨A, hA⟩ : ∃ A : ByteArray, A = ⟨(((lst s).take 6).map lowb).toArray⟩ := ⟨_, rfl⟩
        have hAl : lst A = ((lst s).take 6).map lowb := by rw [hA, lst_mk]
        have HS := Lib.hid (small_cut s 6 hs hn A hAl)
        have HE := Lib.hid (ends_cut s 6)
        have p0 := cell_grown hz y0
        have HVB : Hid (isVb (lst s) 2 = ((lst A == [60, 115, 116, 121, 108, 101]) && endsN ((lst s).drop 6))) := show _ = _ from by
          unfold isVb
          rw [decide_eq_true (by rw [lst_size]; exact hn), Bool.true_and, hAl]
          rfl
        have HAL : Hid (A.toList = lst A) := Lib.toList_data A
        clear hA hAl
        generalize endsN ((lst s).drop 6) = ve at *
        cases hq : (lst A == [60, 115, 116, 121, 108, 101]) with
        | false =>
          rw [hq] at HVB
          have hq1 : (A.toList == [60, 115, 116, 121, 108, 101]) = false := by rw [HAL.out]; exact hq
          have hq2 : (A.toList == ({ data := #[60, 115, 116, 121, 108, 101] } : ByteArray).toList) = false := by rw [HAL.out, Lib.toList_data]; exact hq
          clear hq
          have H : Hid (isVb (lst s) 2 = false) := show _ = _ from by rw [HVB.out]; rfl
          go_wp2_with fail
          rw [← HW1.out]
          go_quiet_grown (first | (go_at_call 51; refine Calls.grown_of (HS.out _)) | (go_at_call 52; refine Calls.grown_of (HE.out _)))
          have HB4 : Hid (RowKit.Below w.heap.size w (grow (W1.drewN nq) osq)) := chain (Nat.le_refl _) HA.out ((show Grows (.bool true) W1 (.returned (.bool true)) (grow (W1.drewN nq) osq) from ⟨rfl, nq, osq, rfl⟩).below).2
          generalize grow (W1.drewN nq) osq = w4 at HB4 ⊢
          clear p0 y0 HS HE hq1 hq2
          go_wp2_with fail
          go_roundw
          case rel => exact ⟨HB4.out, .inr (.inr (.inr (.inl ⟨rfl, h0.out, h1.out, H.out⟩)))⟩
          case measure => simp [intOf]
        | true =>
          rw [hq] at HVB
          have hq1 : (A.toList == [60, 115, 116, 121, 108, 101]) = true := by rw [HAL.out]; exact hq
          have hq2 : (A.toList == ({ data := #[60, 115, 116, 121, 108, 101] } : ByteArray).toList) = true := by rw [HAL.out, Lib.toList_data]; exact hq
          clear hq
          cases ve
          · have H : Hid (isVb (lst s) 2 = false) := show _ = _ from by rw [HVB.out]; rfl
            go_wp2_with fail
            rw [← HW1.out]
            go_quiet_grown (first | (go_at_call 51; refine Calls.grown_of (HS.out _)) | (go_at_call 52; refine Calls.grown_of (HE.out _)))
            have HB4 : Hid (RowKit.Below w.heap.size w (grow (W1.drewN nq) osq)) := chain (Nat.le_refl _) HA.out ((show Grows (.bool true) W1 (.returned (.bool true)) (grow (W1.drewN nq) osq) from ⟨rfl, nq, osq, rfl⟩).below).2
            generalize grow (W1.drewN nq) osq = w4 at HB4 ⊢
            clear p0 y0 HS HE hq1 hq2
            go_wp2_with fail
            go_roundw
            case rel => exact ⟨HB4.out, .inr (.inr (.inr (.inl ⟨rfl, h0.out, h1.out, H.out⟩)))⟩
            case measure => simp [intOf]
          · have H : Hid (isVb (lst s) 2 = true) := show _ = _ from by rw [HVB.out]; rfl
            go_wp2_with fail
            rw [← HW1.out]
            go_quiet_grown (first | (go_at_call 51; refine Calls.grown_of (HS.out _)) | (go_at_call 52; refine Calls.grown_of (HE.out _)))
            have HB4 : Hid (RowKit.Below w.heap.size w (grow (W1.drewN nq) osq)) := chain (Nat.le_refl _) HA.out ((show Grows (.bool true) W1 (.returned (.bool true)) (grow (W1.drewN nq) osq) from ⟨rfl, nq, osq, rfl⟩).below).2
            generalize grow (W1.drewN nq) osq = w4 at HB4 ⊢
            clear p0 y0 HS HE hq1 hq2
            go_wp2_with fail
            go_ret
            exact ⟨ret_bool (by unfold begV; rw [h0.out, h1.out, H.out]; rfl), HB4.out⟩
      · have hd : decide (6 ≤ s.size) = false := by simp; omega
        have hd2 : decide ((6 : Int) ≤ (s.size : Int)) = false := by simp; omega
        have H : Hid (isVb (lst s) 2 = false) := show _ = _ from by
          unfold isVb
          rw [decide_eq_false (by rw [lst_size]; exact hn)]
          rfl
        go_wp2_with fail
        rw [← HW1.out]
        go_quiet (fail)
        have HB4 : Hid (RowKit.Below w.heap.size w (W1.drewN nq)) := below_drewN HA.out nq
        generalize W1.drewN nq = w4 at HB4 ⊢
        go_wp2_with fail
        go_roundw
        case rel => exact ⟨HB4.out, .inr (.inr (.inr (.inl ⟨rfl, h0.out, h1.out, H.out⟩)))⟩
        case measure => simp [intOf]
    · skip
      replace h0 := Lib.hid h0
      replace h1 := Lib.hid h1
      replace h2 := Lib.hid h2
      have k := idx_v3
      obtain ⟨W1, hW1⟩ : ∃ W1, W1 = wr.alloc (.cells #[.string { data := #[60, 116, 101, 120, 116, 97, 114, 101, 97] }, .bool false, .string { data := #[60, 47, 116, 101, 120, 116, 97, 114, 101, 97, 62] }] 32) := ⟨_, rfl⟩
      have HA : Hid (RowKit.Below w.heap.size w W1) := show RowKit.Below _ _ _ from by rw [hW1]; exact HB.out.alloc hsz _
      have hz : wr.heap.size < W1.heap.size := by rw [hW1]; simp
      have y0 : W1.cell? ⟨wr.heap.size, 0, none⟩ = some (.string { data := #[60, 116, 101, 120, 116, 97, 114, 101, 97] }) := by rw [hW1]; simp
      have HW1 := Lib.hid hW1
      clear hW1
      by_cases hn : 9 ≤ s.size
      · skip
        have hd : decide (9 ≤ s.size) = true := by simp; omega
        have hd2 : decide ((9 : Int) ≤ (s.size : Int)) = true := by simp; omega
        have z1 : (9 : Int) ≤ (s.size : Int) := by omega
        obtain ⟨A, hA⟩ : ∃ A : ByteArray, A = ⟨(((lst s).take 9).map lowb).toArray⟩ := ⟨_, rfl⟩
        have hAl : lst A = ((lst s).take 9).map lowb := by rw [hA, lst_mk]
        have HS := Lib.hid (small_cut s 9 hs hn A hAl)
        have HE := Lib.hid (ends_cut s 9)
        have p0 := cell_grown hz y0
        have HVB : Hid (isVb (lst s) 3 = ((lst A == [60, 116, 101, 120, 116, 97, 114, 101, 97]) && endsN ((lst s).drop 9))) := show _ = _ from by
          unfold isVb
          rw [decide_eq_true (by rw [lst_size]; exact hn), Bool.true_and, hAl]
          rfl
        have HAL : Hid (A.toList = lst A) := Lib.toList_data A
        clear hA hAl
        generalize endsN ((lst s).drop 9) = ve at *
        cases hq : (lst A == [60, 116, 101, 120, 116, 97, 114, 101, 97]) with
        | false =>
          rw [hq] at HVB
          have hq1 : (A.toList == [60, 116, 101, 120, 116, 97, 114, 101, 97]) = false := by rw [HAL.out]; exact hq
          have hq2 : (A.toList == ({ data := #[60, 116, 101, 120, 116, 97, 114, 101, 97] } : ByteArray).toList) = false := by rw [HAL.out, Lib.toList_data]; exact hq
          clear hq
          have H : Hid (isVb (lst s) 3 = false) := show _ = _ from by rw [HVB.out]; rfl
          go_wp2_with fail
          rw [← HW1.out]
          go_quiet_grown (first | (go_at_call 51; refine Calls.grown_of (HS.out _)) | (go_at_call 52; refine Calls.grown_of (HE.out _)))
          have HB4 : Hid (RowKit.Below w.heap.size w (grow (W1.drewN nq) osq)) := chain (Nat.le_refl _) HA.out ((show Grows (.bool true) W1 (.returned (.bool true)) (grow (W1.drewN nq) osq) from ⟨rfl, nq, osq, rfl⟩).below).2
          generalize grow (W1.drewN nq) osq = w4 at HB4 ⊢
          clear p0 y0 HS HE hq1 hq2
          go_wp2_with fail
          go_roundw
          case rel => exact ⟨HB4.out, .inr (.inr (.inr (.inr ⟨rfl, h0.out, h1.out, h2.out, H.out⟩)))⟩
          case measure => simp [intOf]
        | true =>
          rw [hq] at HVB
          have hq1 : (A.toList == [60, 116, 101, 120, 116, 97, 114, 101, 97]) = true := by rw [HAL.out]; exact hq
          have hq2 : (A.toList == ({ data := #[60, 116, 101, 120, 116, 97, 114, 101, 97] } : ByteArray).toList) = true := by rw [HAL.out, Lib.toList_data]; exact hq
          clear hq
          cases ve
          · have H : Hid (isVb (lst s) 3 = false) := show _ = _ from by rw [HVB.out]; rfl
            go_wp2_with fail
            rw [← HW1.out]
            go_quiet_grown (first | (go_at_call 51; refine Calls.grown_of (HS.out _)) | (go_at_call 52; refine Calls.grown_of (HE.out _)))
            have HB4 : Hid (RowKit.Below w.heap.size w (grow (W1.drewN nq) osq)) := chain (Nat.le_refl _) HA.out ((show Grows (.bool true) W1 (.returned (.bool true)) (grow (W1.drewN nq) osq) from ⟨rfl, nq, osq, rfl⟩).below).2
            generalize grow (W1.drewN nq) osq = w4 at HB4 ⊢
            clear p0 y0 HS HE hq1 hq2
            go_wp2_with fail
            go_roundw
            case rel => exact ⟨HB4.out, .inr (.inr (.inr (.inr ⟨rfl, h0.out, h1.out, h2.out, H.out⟩)))⟩
            case measure => simp [intOf]
          · have H : Hid (isVb (lst s) 3 = true) := show _ = _ from by rw [HVB.out]; rfl
            go_wp2_with fail
            rw [← HW1.out]
            go_quiet_grown (first | (go_at_call 51; refine Calls.grown_of (HS.out _)) | (go_at_call 52; refine Calls.grown_of (HE.out _)))
            have HB4 : Hid (RowKit.Below w.heap.size w (grow (W1.drewN nq) osq)) := chain (Nat.le_refl _) HA.out ((show Grows (.bool true) W1 (.returned (.bool true)) (grow (W1.drewN nq) osq) from ⟨rfl, nq, osq, rfl⟩).below).2
            generalize grow (W1.drewN nq) osq = w4 at HB4 ⊢
            clear p0 y0 HS HE hq1 hq2
            go_wp2_with fail
            go_ret
            exact ⟨ret_bool (by unfold begV; rw [h0.out, h1.out, h2.out, H.out]; rfl), HB4.out⟩
      · have hd : decide (9 ≤ s.size) = false := by simp; omega
        have hd2 : decide ((9 : Int) ≤ (s.size : Int)) = false := by simp; omega
        have H : Hid (isVb (lst s) 3 = false) := show _ = _ from by
          unfold isVb
          rw [decide_eq_false (by rw [lst_size]; exact hn)]
          rfl
        go_wp2_with fail
        rw [← HW1.out]
        go_quiet (fail)
        have HB4 : Hid (RowKit.Below w.heap.size w (W1.drewN nq)) := below_drewN HA.out nq
        generalize W1.drewN nq = w4 at HB4 ⊢
        go_wp2_with fail
        go_roundw
        case rel => exact ⟨HB4.out, .inr (.inr (.inr (.inr ⟨rfl, h0.out, h1.out, h2.out, H.out⟩)))⟩
        case measure => simp [intOf]
    · skip
      replace h0 := Lib.hid h0
      replace h1 := Lib.hid h1
      replace h2 := Lib.hid h2
      replace h3 := Lib.hid h3
      go_wp2_with fail
      go_ret
      exact ⟨ret_bool (by unfold begV; rw [h0.out, h1.out, h2.out, h3.out]; rfl), HB.out⟩
end Go.Proofs.YtdnnjakggopdoaaDoor
