/-
  PROVED: contract of text.Offset: it answers 'offV', the least offset of a place as 'offOf' has it, or ErrPlace. Conditions: the text has at most 200000 bytes; the place's numbers fit an int.
-/
import Derived.Test.YtinbdangpehkaaaAt
namespace Go.Proofs.Ytinbdangpehkaaa
open Go.ChangeShapes Go.WideShapes Go.ChangeAt Go.RowKit
set_option linter.unusedVariables false

/-- What Offset answers. -/
def offV (s : ByteArray) (ln col : Int) : Int × Int := if ln < 1 ∨ col < 1 then (0, 11) else match offOf s (ln.toNat - 1) (col.toNat - 1) with
  | some j => ((j : Int), 0)
  | none => (0, 11)
theorem offV_out (s : ByteArray) (ln col : Int) (h : ln < 1 ∨ col < 1) : offV s ln col = (0, 11) := by unfold offV; rw [if_pos h]
theorem offV_some (s : ByteArray) (ln col : Int) (h1 : 1 ≤ ln) (h2 : 1 ≤ col) {j : Nat} (hr : offOf s (ln.toNat - 1) (col.toNat - 1) = some j) : offV s ln col = ((j : Int), 0) := by
  unfold offV
  rw [if_neg (by omega), hr]
theorem offV_none (s : ByteArray) (ln col : Int) (h1 : 1 ≤ ln) (h2 : 1 ≤ col) (hr : offOf s (ln.toNat - 1) (col.toNat - 1) = none) : offV s ln col = (0, 11) := by
  unfold offV
  rw [if_neg (by omega), hr]

theorem lb_cases (s : ByteArray) (f c : Nat) (hf : f ≤ s.size) :
    (lbV s f (lineEnd s f) c = (0, false) ∧ offIn s f c = none) ∨ ∃ d : Nat, lbV s f (lineEnd s f) c = ((d : Int), true) ∧ f + d ≤ lineEnd s f ∧ offIn s f c = if ended s f ∧ f + d = lineEnd s f then none else some (f + d) := by
  unfold lbV offIn
  by_cases h0 : c = 0
  · refine Or.inr ⟨0, by rw [if_pos h0]; rfl, Nat.le_trans (lineTo_ge s f) (lineEnd_ge s f), ?_⟩
    rw [if_pos h0, if_neg (fun hh => by have := ended_lt s f hh.1; omega)]
    rfl
  · rw [if_neg h0, if_neg h0]
    cases hl : leastB s (lineEnd s f) f c with
    | none => exact Or.inl ⟨rfl, rfl⟩
    | some j =>
      obtain ⟨a1, a2, a3, a4⟩ := leastB_some s _ c f j hl
      refine Or.inr ⟨j - f, ?_, by omega, ?_⟩
      · show ((j : Int) - (f : Int), true) = _
        rw [show ((j - f : Nat) : Int) = (j : Int) - (f : Int) from by omega]
      · rw [show f + (j - f) = j from by omega]
        rfl

theorem offset_out (s : ByteArray) (ln col : Int) (h : ln < 1 ∨ col < 1) (hs : s.size ≤ 200000) (w : World) :
    Calls Try.prog 19 #[.string s, .agg #[.int .i64 ln, .int .i64 col]] w fun e w' => e = .returned (.tuple #[.int .i64 0, .int .i64 11]) ∧ Below w.heap.size w w' := by
  by_cases h0 : ln < 1
  · go_enter Try.func19, Try.ntmps19
    go_wp2_with fail
    go_ret2
    exact ⟨rfl, (Below.refl _ _).alloc (Nat.le_refl _) _⟩
  · have h1 : col < 1 := by omega
    go_enter Try.func19, Try.ntmps19
    go_wp2_with fail
    go_ret2
    exact ⟨rfl, (Below.refl _ _).alloc (Nat.le_refl _) _⟩

/-- What the loop of text.Offset goes by. -/
def ORel (s : ByteArray) (ln col : Int) (w : World) (G : Nat) (v : Value) (wr : World) : Prop :=
  ∃ n f : Nat, v = .int .i64 n ∧ 1 ≤ n ∧ (n : Int) ≤ ln ∧ f ≤ s.size ∧ walkTo s (ln.toNat - n) f = walkTo s (ln.toNat - 1) 0 ∧ Holds wr G 28 #[.int .i64 f, .int .i64 (lineTo s f), .int .i64 (lineEnd s f)] ∧ Holds wr w.heap.size 30 #[.int .i64 ln, .int .i64 col] ∧ Below w.heap.size w wr

theorem least_sub (s : ByteArray) (f e : Nat) (col : Int) (hF : Fit s e) (hfe : f ≤ e) (h1 : 1 ≤ col) (h2 : col ≤ 2 ^ 63 - 1) (hs : s.size ≤ 200000) (w : World) :
    Calls Try.prog 31 #[.string (s.extract f e), .int .i64 (IntKind.i64.wrap (col - 1))] w fun en w' => en = .returned (.tuple #[.int .i64 (lbV s f e (col.toNat - 1)).1, .bool (lbV s f e (col.toNat - 1)).2]) ∧ Below w.heap.size w w' := by
  have h := least_at s f e (col.toNat - 1) hF hfe (by unfold maxLen; omega) hs w
  rw [show ((col.toNat - 1 : Nat) : Int) = col - 1 from by omega] at h
  rw [IntWalk.i64_in _ (by omega)]
  exact h

set_option maxHeartbeats 2000000 in
theorem offset_in (s : ByteArray) (ln col : Int) (h1 : 1 ≤ ln) (h2 : 1 ≤ col) (h3 : ln ≤ 2 ^ 63 - 1) (h4 : col ≤ 2 ^ 63 - 1) (hs : s.size ≤ 200000) (w : World) :
    Calls Try.prog 19 #[.string s, .agg #[.int .i64 ln, .int .i64 col]] w fun e w' => e = .returned (.tuple #[.int .i64 (offV s ln col).1, .int .i64 (offV s ln col).2]) ∧ Below w.heap.size w w' := by
  have hs' : s.size ≤ maxLen := by unfold maxLen; omega
  have b1 : decide (ln < 1) = false := by simp; omega
  have b2 : decide (col < 1) = false := by simp; omega
  go_enter Try.func19, Try.ntmps19
  go_wp2_with fail
  refine (lineFrom_at s 0 (Nat.zero_le _) hs' _).mono ?_
  rintro e w1 ⟨rfl, hb1⟩
  have hz1 : w.heap.size < w1.heap.size := by have := hb1.size; simp at this; omega
  have hB1 : Below w.heap.size w w1 := ((Below.refl _ _).alloc (Nat.le_refl _) _).trans (hb1.mono (by simp))
  have HR1 : Hid (Holds w1 w.heap.size 30 #[.int .i64 ln, .int .i64 col]) := Holds.under (Holds.made w 30 _) hb1 (by simp)
  clear hb1
  go_wp2_with fail
  go_loopw [7] (fun v wr => ORel s ln col w w1.heap.size v wr) (fun v _ => (ln - intOf v).toNat)
  case atStart => exact ⟨1, 0, rfl, Nat.le_refl _, h1, Nat.zero_le _, rfl, Holds.made w1 28 _, Holds.under HR1.out ((Below.refl w1.heap.size w1).alloc (Nat.le_refl _) _) hz1, hB1.alloc (Nat.le_of_lt hz1) _⟩
  case round =>
    obtain ⟨n, f, rfl, hn1, hnl, hfs, hwk, hG, hR, hB⟩ := hrel
    have HW := Lib.hid hwk
    have HG := Lib.hid hG
    have HR := Lib.hid hR
    have hgl := hG.lt
    have hz := hB.size
    have k0 : wr.cell? ⟨w1.heap.size, 0, none⟩ = some (.int .i64 f) := hG.at 0
    have k1 : wr.cell? ⟨w1.heap.size, 1, none⟩ = some (.int .i64 (lineTo s f)) := hG.at 1
    have k2 : wr.cell? ⟨w1.heap.size, 2, none⟩ = some (.int .i64 (lineEnd s f)) := hG.at 2
    have m0 : wr.cell? ⟨w.heap.size, 0, none⟩ = some (.int .i64 ln) := hR.at 0
    have m1 : wr.cell? ⟨w.heap.size, 1, none⟩ = some (.int .i64 col) := hR.at 1
    have hle := lineEnd_le s f hfs
    have hfe := Nat.le_trans (lineTo_ge s f) (lineEnd_ge s f)
    clear hwk hG hR
    by_cases hgo : (n : Int) < ln
    · by_cases he : ended s f
      · have HW2 : Hid (walkTo s (ln.toNat - (n + 1)) (lineEnd s f) = walkTo s (ln.toNat - 1) 0) := by
          rw [← HW.out, show ln.toNat - n = (ln.toNat - (n + 1)) + 1 from by omega]
          show _ = walkTo s (ln.toNat - (n + 1) + 1) f
          conv => rhs; unfold walkTo
          rw [if_pos he]
        have de : decide ((lineTo s f : Int) < (lineEnd s f : Int)) = true := by have : lineTo s f < lineEnd s f := he; simp; omega
        clear he
        go_wp2_with fail
        refine (ended_at _ _ _ _).mono ?_
        rintro e w2 ⟨rfl, hb2⟩
        have HG2 : Hid (Holds w2 w1.heap.size 28 #[.int .i64 f, .int .i64 (lineTo s f), .int .i64 (lineEnd s f)]) := HG.out.under hb2 hgl
        have q2 : w2.cell? ⟨w1.heap.size, 2, none⟩ = some (.int .i64 (lineEnd s f)) := HG2.out.at 2
        rw [de]
        go_wp2_with fail
        refine (lineFrom_at s (lineEnd s f) hle hs' _).mono ?_
        rintro e w3 ⟨rfl, hb3⟩
        have hs2 := hb2.size
        have hs3 := hb3.size
        have hG3 : Holds w3 w1.heap.size 28 #[.int .i64 f, .int .i64 (lineTo s f), .int .i64 (lineEnd s f)] := HG2.out.under hb3 (by omega)
        have HR3 : Hid (Holds w3 w.heap.size 30 #[.int .i64 ln, .int .i64 col]) := (HR.out.under hb2 (by omega)).under hb3 (by omega)
        have HB3 : Hid (Below w.heap.size w w3) := (hB.trans (hb2.mono hB.size)).trans (hb3.mono (by have := hB.size; omega))
        have p0 : w3.cell? ⟨w1.heap.size, 0, none⟩ = some (.int .i64 f) := hG3.at 0
        have p1 : w3.cell? ⟨w1.heap.size, 1, none⟩ = some (.int .i64 (lineTo s f)) := hG3.at 1
        have p2 : w3.cell? ⟨w1.heap.size, 2, none⟩ = some (.int .i64 (lineEnd s f)) := hG3.at 2
        have z0 : w3.frozen? ⟨w1.heap.size, 0, none⟩ = false := hG3.soft 0
        have z1 : w3.frozen? ⟨w1.heap.size, 1, none⟩ = false := hG3.soft 1
        have z2 : w3.frozen? ⟨w1.heap.size, 2, none⟩ = false := hG3.soft 2
        have HG3 := Lib.hid hG3
        clear hG3 HG2 q2 hb2 hb3
        go_wp2_with fail
        go_roundw
        case rel =>
          have hG4 := ((HG3.out.set 0 (.int .i64 (lineEnd s f))).set 1 (.int .i64 (lineTo s (lineEnd s f)))).set 2 (.int .i64 (lineEnd s (lineEnd s f)))
          exact ⟨n + 1, lineEnd s f, by go_num, by omega, by omega, hle, HW2.out, hG4, ((HR3.out.past (by show w.heap.size ≠ w1.heap.size; omega) _).past (by show w.heap.size ≠ w1.heap.size; omega) _).past (by show w.heap.size ≠ w1.heap.size; omega) _, ((HB3.out.setCell (Nat.le_of_lt hz1) _).setCell (Nat.le_of_lt hz1) _).setCell (Nat.le_of_lt hz1) _⟩
        case measure => simp [intOf]; omega
      · have HV : Hid (offV s ln col = (0, 11)) := by
          have hw : walkTo s (ln.toNat - 1) 0 = none := by
            rw [← HW.out, show ln.toNat - n = (ln.toNat - (n + 1)) + 1 from by omega]
            unfold walkTo
            rw [if_neg he]
          exact offV_none s ln col h1 h2 (by unfold offOf; rw [hw]; rfl)
        have de : decide ((lineTo s f : Int) < (lineEnd s f : Int)) = false := by have : ¬ lineTo s f < lineEnd s f := he; simp; omega
        clear he
        go_wp2_with fail
        refine (ended_at _ _ _ _).mono ?_
        rintro e w2 ⟨rfl, hb2⟩
        rw [de]
        go_wp2_with fail
        go_ret2
        exact ⟨by rw [HV.out]; rfl, hB.trans (hb2.mono hB.size)⟩
    · have hn : (n : Int) = ln := by omega
      have HO : Hid (offOf s (ln.toNat - 1) (col.toNat - 1) = offIn s f (col.toNat - 1)) := by
        have hw : walkTo s (ln.toNat - 1) 0 = some f := by rw [← HW.out, show ln.toNat - n = 0 from by omega]; rfl
        show offOf s (ln.toNat - 1) (col.toNat - 1) = offIn s f (col.toNat - 1)
        unfold offOf
        rw [hw]
        rfl
      have HN := Lib.hid hn
      have hgo' : ln ≤ (n : Int) := by omega
      clear hn hgo
      have HFt := Lib.hid (fit_line s f hfs)
      have dn : decide ((n : Int) < ln) = false := by simp; omega
      rcases lb_cases s f (col.toNat - 1) hfs with ⟨hl1, hl2⟩ | ⟨d, hl1, hl2, hl3⟩
      · have HLB := Lib.hid hl1
        have HV : Hid (offV s ln col = (0, 11)) := offV_none s ln col h1 h2 (HO.out.trans hl2)
        clear hl1 hl2
        go_wp2_with fail
        go_region_held3 (fun w' => w'.cell? ⟨w1.heap.size, 0, none⟩ = some (.int .i64 f) ∧ w'.cell? ⟨w1.heap.size, 2, none⟩ = some (.int .i64 (lineEnd s f)) ∧ w'.cell? ⟨w.heap.size, 1, none⟩ = some (.int .i64 col)) (first | exact ⟨k0, k2, m1⟩ | (refine ⟨?_, ?_, ?_⟩ <;> assumption))
          (first | (go_at_call 31; ((with_reducible refine (least_sub s f (lineEnd s f) col HFt.out hfe h2 h4 hs _).mono ?_)); rw [HLB.out]; rintro e w3 ⟨rfl, hb3'⟩; have hb3 : Below wr.heap.size wr w3 := (Below.refl wr.heap.size wr).drew.trans hb3'; have hG3 := HG.out.under hb3 hgl; have y0 : w3.cell? ⟨w1.heap.size, 0, none⟩ = some (.int .i64 f) := hG3.at 0; have y1 : w3.cell? ⟨w1.heap.size, 1, none⟩ = some (.int .i64 (lineTo s f)) := hG3.at 1; have y2 : w3.cell? ⟨w1.heap.size, 2, none⟩ = some (.int .i64 (lineEnd s f)) := hG3.at 2; have hR3 := HR.out.under hb3 (by omega); have x1 : w3.cell? ⟨w.heap.size, 1, none⟩ = some (.int .i64 col) := hR3.at 1))
        have hB3 : Below w.heap.size w w3 := hB.trans (hb3.mono hB.size)
        have HG3 := Lib.hid hG3
        clear hG3 hR3 hb3 hb3'
        go_wp2_with fail
        go_ret2
        exact ⟨by rw [HV.out]; rfl, hB3⟩
      · have HLB := Lib.hid hl1
        clear hl1
        by_cases he : ended s f
        · have de : decide ((lineTo s f : Int) < (lineEnd s f : Int)) = true := by have : lineTo s f < lineEnd s f := he; simp; omega
          by_cases hx : f + d = lineEnd s f
          · have HV : Hid (offV s ln col = (0, 11)) := offV_none s ln col h1 h2 (HO.out.trans (hl3.trans (if_pos ⟨he, hx⟩)))
            have dx : ((f : Int) + (d : Int) == (lineEnd s f : Int)) = true := by simp; omega
            clear he hx hl3
            go_wp2_with fail
            go_region_held3 (fun w' => w'.cell? ⟨w1.heap.size, 0, none⟩ = some (.int .i64 f) ∧ w'.cell? ⟨w1.heap.size, 2, none⟩ = some (.int .i64 (lineEnd s f)) ∧ w'.cell? ⟨w.heap.size, 1, none⟩ = some (.int .i64 col)) (first | exact ⟨k0, k2, m1⟩ | (refine ⟨?_, ?_, ?_⟩ <;> assumption))
              (first | (go_at_call 31; ((with_reducible refine (least_sub s f (lineEnd s f) col HFt.out hfe h2 h4 hs _).mono ?_)); rw [HLB.out]; rintro e w3 ⟨rfl, hb3'⟩; have hb3 : Below wr.heap.size wr w3 := (Below.refl wr.heap.size wr).drew.trans hb3'; have hG3 := HG.out.under hb3 hgl; have y0 : w3.cell? ⟨w1.heap.size, 0, none⟩ = some (.int .i64 f) := hG3.at 0; have y1 : w3.cell? ⟨w1.heap.size, 1, none⟩ = some (.int .i64 (lineTo s f)) := hG3.at 1; have y2 : w3.cell? ⟨w1.heap.size, 2, none⟩ = some (.int .i64 (lineEnd s f)) := hG3.at 2; have hR3 := HR.out.under hb3 (by omega); have x1 : w3.cell? ⟨w.heap.size, 1, none⟩ = some (.int .i64 col) := hR3.at 1))
            have hB3 : Below w.heap.size w w3 := hB.trans (hb3.mono hB.size)
            have HG3 := Lib.hid hG3
            clear hG3 hR3 hb3 hb3'
            go_wp2_with fail
            refine (ended_at _ _ _ _).mono ?_
            rintro e w4 ⟨rfl, hb4⟩
            have z2 : w4.cell? ⟨w1.heap.size, 2, none⟩ = some (.int .i64 (lineEnd s f)) := (HG3.out.under hb4 HG3.out.lt).at 2
            rw [de]
            go_wp2_with fail
            go_ret2
            exact ⟨by rw [HV.out]; rfl, hB3.trans (hb4.mono hB3.size)⟩
          · have HV : Hid (offV s ln col = (((f + d : Nat) : Int), 0)) := offV_some s ln col h1 h2 (HO.out.trans (hl3.trans (if_neg (fun hh => hx hh.2))))
            have dx : ((f : Int) + (d : Int) == (lineEnd s f : Int)) = false := by simp; omega
            clear he hx hl3
            go_wp2_with fail
            go_region_held3 (fun w' => w'.cell? ⟨w1.heap.size, 0, none⟩ = some (.int .i64 f) ∧ w'.cell? ⟨w1.heap.size, 2, none⟩ = some (.int .i64 (lineEnd s f)) ∧ w'.cell? ⟨w.heap.size, 1, none⟩ = some (.int .i64 col)) (first | exact ⟨k0, k2, m1⟩ | (refine ⟨?_, ?_, ?_⟩ <;> assumption))
              (first | (go_at_call 31; ((with_reducible refine (least_sub s f (lineEnd s f) col HFt.out hfe h2 h4 hs _).mono ?_)); rw [HLB.out]; rintro e w3 ⟨rfl, hb3'⟩; have hb3 : Below wr.heap.size wr w3 := (Below.refl wr.heap.size wr).drew.trans hb3'; have hG3 := HG.out.under hb3 hgl; have y0 : w3.cell? ⟨w1.heap.size, 0, none⟩ = some (.int .i64 f) := hG3.at 0; have y1 : w3.cell? ⟨w1.heap.size, 1, none⟩ = some (.int .i64 (lineTo s f)) := hG3.at 1; have y2 : w3.cell? ⟨w1.heap.size, 2, none⟩ = some (.int .i64 (lineEnd s f)) := hG3.at 2; have hR3 := HR.out.under hb3 (by omega); have x1 : w3.cell? ⟨w.heap.size, 1, none⟩ = some (.int .i64 col) := hR3.at 1))
            have hB3 : Below w.heap.size w w3 := hB.trans (hb3.mono hB.size)
            have HG3 := Lib.hid hG3
            clear hG3 hR3 hb3 hb3'
            go_wp2_with fail
            refine (ended_at _ _ _ _).mono ?_
            rintro e w4 ⟨rfl, hb4⟩
            have z2 : w4.cell? ⟨w1.heap.size, 2, none⟩ = some (.int .i64 (lineEnd s f)) := (HG3.out.under hb4 HG3.out.lt).at 2
            rw [de]
            go_wp2_with fail
            go_ret2
            exact ⟨by rw [HV.out]; exact ret2_int (by omega) rfl, hB3.trans (hb4.mono hB3.size)⟩
        · have de : decide ((lineTo s f : Int) < (lineEnd s f : Int)) = false := by have : ¬ lineTo s f < lineEnd s f := he; simp; omega
          have HV : Hid (offV s ln col = (((f + d : Nat) : Int), 0)) := offV_some s ln col h1 h2 (HO.out.trans (hl3.trans (if_neg (fun hh => he hh.1))))
          clear he hl3
          go_wp2_with fail
          go_region_held3 (fun w' => w'.cell? ⟨w1.heap.size, 0, none⟩ = some (.int .i64 f) ∧ w'.cell? ⟨w1.heap.size, 2, none⟩ = some (.int .i64 (lineEnd s f)) ∧ w'.cell? ⟨w.heap.size, 1, none⟩ = some (.int .i64 col)) (first | exact ⟨k0, k2, m1⟩ | (refine ⟨?_, ?_, ?_⟩ <;> assumption))
            (first | (go_at_call 31; ((with_reducible refine (least_sub s f (lineEnd s f) col HFt.out hfe h2 h4 hs _).mono ?_)); rw [HLB.out]; rintro e w3 ⟨rfl, hb3'⟩; have hb3 : Below wr.heap.size wr w3 := (Below.refl wr.heap.size wr).drew.trans hb3'; have hG3 := HG.out.under hb3 hgl; have y0 : w3.cell? ⟨w1.heap.size, 0, none⟩ = some (.int .i64 f) := hG3.at 0; have y1 : w3.cell? ⟨w1.heap.size, 1, none⟩ = some (.int .i64 (lineTo s f)) := hG3.at 1; have y2 : w3.cell? ⟨w1.heap.size, 2, none⟩ = some (.int .i64 (lineEnd s f)) := hG3.at 2; have hR3 := HR.out.under hb3 (by omega); have x1 : w3.cell? ⟨w.heap.size, 1, none⟩ = some (.int .i64 col) := hR3.at 1))
          have hB3 : Below w.heap.size w w3 := hB.trans (hb3.mono hB.size)
          have HG3 := Lib.hid hG3
          clear hG3 hR3 hb3 hb3'
          go_wp2_with fail
          refine (ended_at _ _ _ _).mono ?_
          rintro e w4 ⟨rfl, hb4⟩
          rw [de]
          go_wp2_with fail
          go_ret2
          exact ⟨by rw [HV.out]; exact ret2_int (by omega) rfl, hB3.trans (hb4.mono hB3.size)⟩

theorem offset_any (s : ByteArray) (ln col : Int) (h3 : ln ≤ 2 ^ 63 - 1) (h4 : col ≤ 2 ^ 63 - 1) (hs : s.size ≤ 200000) (w : World) :
    Calls Try.prog 19 #[.string s, .agg #[.int .i64 ln, .int .i64 col]] w fun e w' => e = .returned (.tuple #[.int .i64 (offV s ln col).1, .int .i64 (offV s ln col).2]) ∧ Below w.heap.size w w' := by
  by_cases h : ln < 1 ∨ col < 1
  · rw [offV_out s ln col h]
    exact offset_out s ln col h hs w
  · exact offset_in s ln col (by omega) (by omega) h3 h4 hs w
end Go.Proofs.Ytinbdangpehkaaa
