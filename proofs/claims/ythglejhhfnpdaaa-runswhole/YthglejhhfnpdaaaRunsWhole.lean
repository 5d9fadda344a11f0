/-
  PROVED: stetlaw11.RunsWhole returns true for every text and every place: a row is all of its byte that stands there, and what stands behind the character behind it, or ahead of the one ahead, makes no difference. Conditions: none beside the row's own.
-/
import Derived.Test.YthglejhhfnpdaaaAlive
import Derived.WalkKit
import Derived.ProofKit
import Derived.OpenShut
import Derived.ShutString
namespace Go.Proofs.Ythglejhhfnpdaaa.runsWhole
open Go.ChangeShapes Go.WideShapes Go.ChangeAt Go.RowKit
open Go.ChangeMaps (open_string shut_string)
set_option linter.unusedVariables false      -- a walk need not use every 'w<i>' (that an integer argument fits its kind)

theorem own : ownKnob Try.prog.godebug = none := by kernel_rfl

set_option maxHeartbeats 8000000 in
set_option maxRecDepth 100000 in
theorem walk (a0 : ByteArray) (a1 : Int) (w0 : a0.size ≤ maxLen) (w1 : (Lit.int .i64 a1).wf = true) (w : World) :
    Calls Try.prog 6 #[.string a0, .int .i64 a1] w fun e w' => e = .returned (.bool true) ∧ Below w.heap.size w w' := by
  obtain ⟨b1, b2⟩ := i64_bd w1
  by_cases hl : 20000 < a0.size
  · skip
    go_enter Try.func6, Try.ntmps6
    go_wp2_with fail
    refine (alive_any _).mono ?_
    rintro e w1 ⟨rfl, hb1⟩
    have B1 := Lib.hid hb1
    have z1 := hb1.size
    clear hb1
    go_wp2_with fail
    go_ret
    exact ⟨rfl, B1.out⟩
  · by_cases hr : isRow a0 a1
    · obtain ⟨p, hp, rfl, hk⟩ := hr
      obtain ⟨c, hc⟩ : ∃ c, a0[p]'hp = c := ⟨_, rfl⟩
      rw [hc] at hk
      have hq1 := rowTo_lt a0 c p hp hc
      have hq2 := (rowTo_bd a0 c p (by omega)).2
      have hin := Lib.hid (fun i h1 h2 => rowTo_in a0 c (a0.size - p) p i rfl h1 h2)
      have hend := rowTo_end a0 c (a0.size - p) p (rowTo a0 c p) rfl rfl
      have HP := Lib.hid (part_atV a0 p (rowTo a0 c p) (p - 1) c hp hc rfl)
      have HQ := Lib.hid (part_row a0 p (rowTo a0 c p) (p - 1) c hp hc rfl)
      have HS := Lib.hid (fun W => scan_in a0 p c (by omega) hp hc hk W)
      obtain ⟨q, hq⟩ : ∃ q, q = rowTo a0 c p := ⟨_, rfl⟩
      rw [← hq] at hq1 hq2 hin hend HP HQ
      obtain ⟨n, rfl⟩ : ∃ n, q = p + n := ⟨q - p, by omega⟩
      have hu := c.toNat_lt
      have hb : a0.size ≤ 20000 := by omega
      obtain ⟨O, hO⟩ : ∃ O, O = opB (c == 95) (isBlank (ahV a0 p)) (isMark (ahV a0 p)) (isBlank (bhV a0 (p + n))) (isMark (bhV a0 (p + n))) := ⟨_, rfl⟩
      obtain ⟨C, hC⟩ : ∃ C, C = clB (c == 95) (isBlank (ahV a0 p)) (isMark (ahV a0 p)) (isBlank (bhV a0 (p + n))) (isMark (bhV a0 (p + n))) := ⟨_, rfl⟩
      have hat : atV a0 p c = .agg #[.int .u8 c.toNat, .int .i64 n, .bool O, .bool C] := by
        unfold atV rowV
        rw [← hq, hO, hC, show p + n - p = n from by omega]
      rw [hat] at HS
      have HAt := Lib.hid hat
      have HKk := Lib.hid hk
      have HCc := Lib.hid hc
      have c1 : decide ((n : Int) < 1) = false := by simp; omega
      have c2 : decide ((a0.size : Int) < (p : Int) + n) = false := by simp; omega
      have c3 : decide (a0.size < p + n) = false := by simp; omega
      have p0 : (0 : Int) ≤ (p : Int) + n := by omega
      clear hq hO hC hat hk hc
      by_cases he : p + n = a0.size
      · have d1 : decide (p + n < a0.size) = false := by simp; omega
        have d2 : decide ((p : Int) + n < (a0.size : Int)) = false := by simp; omega
        have d3 : ((p : Int) + n == (a0.size : Int)) = true := by rw [beq_iff_eq]; omega
        have hlz : p + n ≤ a0.size := hq2
        clear HP HQ hend he
        go_enter Try.func6, Try.ntmps6
        go_wp2_with fail
        refine (alive_any _).mono ?_
        rintro e w1 ⟨rfl, hb1⟩
        have B1 := Lib.hid hb1
        clear hb1
        go_wp2_with fail
        refine (HS.out _).mono ?_
        rintro e w2 ⟨rfl, hb2⟩
        have B2 := Lib.hid (chain (Nat.le_refl _) B1.out hb2)
        clear hb2 B1
        obtain ⟨W3, hW3⟩ : ∃ W3, W3 = w2.alloc (.cells #[.int .u8 c.toNat, .int .i64 n, .bool O, .bool C] 24) := ⟨_, rfl⟩
        have R3 := Lib.hid (show Holds W3 w2.heap.size 24 #[.int .u8 c.toNat, .int .i64 n, .bool O, .bool C] from by rw [hW3]; exact Holds.made w2 24 _)
        have B3 := Lib.hid (show Below w.heap.size w W3 from by rw [hW3]; exact B2.out.alloc (by have := B2.out.size; omega) _)
        have HW3 := Lib.hid hW3
        have x0 : W3.cell? ⟨w2.heap.size, 0, none⟩ = some (.int .u8 c.toNat) := R3.out.at 0
        have x1 : W3.cell? ⟨w2.heap.size, 1, none⟩ = some (.int .i64 n) := R3.out.at 1
        clear hW3
        go_upto_if 24 with fail
        rw [← HW3.out]
        go_wp2_with fail
        go_quiet (fail)
        go_upto_block 0 with fail
        go_cut [8] from 56 to 66 (fun v wx => Holds wx w2.heap.size 24 #[.int .u8 c.toNat, .int .i64 n, .bool O, .bool C] ∧ Below w.heap.size w wx)
        case first =>
          go_wp2_with fail
          go_loopw [8] (fun v wr => ∃ j : Nat, v = .int .i64 j ∧ p ≤ j ∧ j ≤ p + n ∧ Holds wr w2.heap.size 24 #[.int .u8 c.toNat, .int .i64 n, .bool O, .bool C] ∧ Below w.heap.size w wr) (fun v _ => p + n - (intOf v).toNat)
          case atStart => exact ⟨p, rfl, Nat.le_refl _, by omega, R3.out, below_dr B3.out _⟩
          case round =>
            obtain ⟨j, rfl, hj1, hj2, hh, hb⟩ := hrel
            have HH := Lib.hid (And.intro hh hb)
            have y0 : wr.cell? ⟨w2.heap.size, 0, none⟩ = some (.int .u8 c.toNat) := hh.at 0
            clear hh hb
            by_cases hlt : j < p + n
            · have hlt2 : j < a0.size := by omega
              have e1 : (((a0[j]'hlt2).toNat : Int) == (c.toNat : Int)) = true := eq_u8 _ _ (hin.out j hj1 hlt).2
              have e2 : (((a0[j]'hlt2).toNat : Int) != (c.toNat : Int)) = false := by rw [bne, e1]; rfl
              have l1 : decide (j < p + n) = true := by simpa using hlt
              have l2 : decide ((j : Int) < (p : Int) + n) = true := by simp; omega
              go_wp2_with fail
              go_quiet (fail)
              go_wp2_with fail
              go_roundw
              case rel => exact ⟨j + 1, by go_num, by omega, by omega, HH.out.1, below_dr HH.out.2 _⟩
              case measure => simp [intOf]; omega
            · have l1 : decide (j < p + n) = false := by simpa using hlt
              have l2 : decide ((j : Int) < (p : Int) + n) = false := by simp; omega
              go_wp2_with fail
              go_meet
              exact HH.out
        case rest =>
          obtain ⟨g3, g5⟩ := hcut
          have G3 := Lib.hid g3
          have G5 := Lib.hid g5
          clear g3 g5 R3 B3 HW3 x0 x1 B2
          go_wp2_with fail
          go_ret
          exact ⟨rfl, G5.out⟩
      · have hqs : p + n < a0.size := by omega
        have f1 : (((a0[p + n]'hqs).toNat : Int) == (c.toNat : Int)) = false := ne_u8 _ _ (hend hqs)
        have d1 : decide (p + n < a0.size) = true := by simp; omega
        have d2 : decide ((p : Int) + n < (a0.size : Int)) = true := by simp; omega
        have d3 : ((p : Int) + n == (a0.size : Int)) = false := by rw [beq_eq_false_iff_ne]; omega
        have HP2 := Lib.hid (fun hl ha => HP.out hqs hl rfl ha)
        have HQ2 := Lib.hid (fun hl ha => HQ.out hqs hl rfl ha)
        have z1 : (p : Int) + n < a0.size := by omega
        have hun := (a0[p + n]'hqs).toNat_lt
        clear HP HQ hend he
        go_enter Try.func6, Try.ntmps6
        go_wp2_with fail
        refine (alive_any _).mono ?_
        rintro e w1 ⟨rfl, hb1⟩
        have B1 := Lib.hid hb1
        clear hb1
        go_wp2_with fail
        refine (HS.out _).mono ?_
        rintro e w2 ⟨rfl, hb2⟩
        have B2 := Lib.hid (chain (Nat.le_refl _) B1.out hb2)
        clear hb2 B1
        obtain ⟨W3, hW3⟩ : ∃ W3, W3 = w2.alloc (.cells #[.int .u8 c.toNat, .int .i64 n, .bool O, .bool C] 24) := ⟨_, rfl⟩
        have R3 := Lib.hid (show Holds W3 w2.heap.size 24 #[.int .u8 c.toNat, .int .i64 n, .bool O, .bool C] from by rw [hW3]; exact Holds.made w2 24 _)
        have B3 := Lib.hid (show Below w.heap.size w W3 from by rw [hW3]; exact B2.out.alloc (by have := B2.out.size; omega) _)
        have HW3 := Lib.hid hW3
        have x0 : W3.cell? ⟨w2.heap.size, 0, none⟩ = some (.int .u8 c.toNat) := R3.out.at 0
        have x1 : W3.cell? ⟨w2.heap.size, 1, none⟩ = some (.int .i64 n) := R3.out.at 1
        clear hW3
        go_upto_if 24 with fail
        rw [← HW3.out]
        go_wp2_with fail
        go_quiet (fail)
        go_upto_block 0 with fail
        go_cut [8] from 56 to 66 (fun v wx => Holds wx w2.heap.size 24 #[.int .u8 c.toNat, .int .i64 n, .bool O, .bool C] ∧ Below w.heap.size w wx)
        case first =>
          go_wp2_with fail
          go_loopw [8] (fun v wr => ∃ j : Nat, v = .int .i64 j ∧ p ≤ j ∧ j ≤ p + n ∧ Holds wr w2.heap.size 24 #[.int .u8 c.toNat, .int .i64 n, .bool O, .bool C] ∧ Below w.heap.size w wr) (fun v _ => p + n - (intOf v).toNat)
          case atStart => exact ⟨p, rfl, Nat.le_refl _, by omega, R3.out, below_dr B3.out _⟩
          case round =>
            obtain ⟨j, rfl, hj1, hj2, hh, hb⟩ := hrel
            have HH := Lib.hid (And.intro hh hb)
            have y0 : wr.cell? ⟨w2.heap.size, 0, none⟩ = some (.int .u8 c.toNat) := hh.at 0
            clear hh hb
            by_cases hlt : j < p + n
            · have hlt2 : j < a0.size := by omega
              have e1 : (((a0[j]'hlt2).toNat : Int) == (c.toNat : Int)) = true := eq_u8 _ _ (hin.out j hj1 hlt).2
              have e2 : (((a0[j]'hlt2).toNat : Int) != (c.toNat : Int)) = false := by rw [bne, e1]; rfl
              have l1 : decide (j < p + n) = true := by simpa using hlt
              have l2 : decide ((j : Int) < (p : Int) + n) = true := by simp; omega
              go_wp2_with fail
              go_quiet (fail)
              go_wp2_with fail
              go_roundw
              case rel => exact ⟨j + 1, by go_num, by omega, by omega, HH.out.1, below_dr HH.out.2 _⟩
              case measure => simp [intOf]; omega
            · have l1 : decide (j < p + n) = false := by simpa using hlt
              have l2 : decide ((j : Int) < (p : Int) + n) = false := by simp; omega
              go_wp2_with fail
              go_meet
              exact HH.out
        case rest =>
          obtain ⟨g3, g5⟩ := hcut
          have G3 := Lib.hid g3
          have G5 := Lib.hid g5
          clear g3 g5 R3 B3 HW3 x0 x1 B2
          by_cases hA : 128 ≤ (a0[p + n]'hqs).toNat
          · have a1 : decide (128 ≤ (a0[p + n]'hqs).toNat) = true := by simpa using hA
            have a2 : decide ((128 : Int) ≤ ((a0[p + n]'hqs).toNat : Int)) = true := by simp; omega
            clear HP2 HQ2
            go_wp2_with fail
            go_ret
            exact ⟨rfl, G5.out⟩
          · have a1 : decide (128 ≤ (a0[p + n]'hqs).toNat) = false := by simp; omega
            have a2 : decide ((128 : Int) ≤ ((a0[p + n]'hqs).toNat : Int)) = false := by simp; omega
            by_cases hB : ∃ (h0 : 0 < p), 128 ≤ (a0[p - 1]'(by omega)).toNat
            · obtain ⟨h0, h1⟩ := hB
              obtain ⟨k, hk⟩ : ∃ k, k = p - 1 := ⟨_, rfl⟩
              simp only [← hk] at h1
              have b0 : decide (0 < p) = true := by simpa using h0
              have b1 : decide ((0 : Int) < (p : Int)) = true := by simp; omega
              have b2 : (p : Int) - 1 = (k : Int) := by omega
              have b5 : k < a0.size := by omega
              have b3 : decide (128 ≤ (a0[k]'b5).toNat) = true := by simpa using h1
              have b4 : decide ((128 : Int) ≤ ((a0[k]'b5).toNat : Int)) = true := by simp; omega
              clear HP2 HQ2 hk h1
              go_wp2_with fail
              go_ret
              exact ⟨rfl, G5.out⟩
            · obtain ⟨f, hf⟩ : ∃ f, f = p - 1 := ⟨_, rfl⟩
              have ha : ∀ (h0 : 0 < p) (h : p - 1 < a0.size), (a0[p - 1]'h).toNat < 128 := fun h0 h => by
                refine Nat.lt_of_not_le fun hc => hB ⟨h0, hc⟩
              have HS2 : Hid (∀ W, Calls Try.prog 8 #[.string (a0.extract f (p + n + 1)), .int .i64 ((p : Int) - f)] W fun e w' => e = .returned (.tuple #[.agg #[.int .u8 c.toNat, .int .i64 n, .bool O, .bool C], .bool true]) ∧ Below W.heap.size W w') := fun W => by
                obtain ⟨g, g1, _⟩ := HQ2.out (by omega) ha
                have := scan_in (a0.extract (p - 1) (p + n + 1)) (p - (p - 1)) c (by rw [ByteArray.size_extract]; omega) g g1 HKk.out W
                rw [HP2.out (by omega) ha, HAt.out, ← hf] at this
                rw [show (p : Int) - f = ((p - f : Nat) : Int) from by omega]
                exact this
              have x0 : wc.cell? ⟨w2.heap.size, 0, none⟩ = some (.int .u8 c.toNat) := G3.out.at 0
              have x1 : wc.cell? ⟨w2.heap.size, 1, none⟩ = some (.int .i64 n) := G3.out.at 1
              by_cases h0 : 0 < p
              · have h1 := ha (by omega) (by omega)
                simp only [← hf] at h1
                have s1 : (f : Int) ≤ (p : Int) + n + 1 := by omega
                have s2 : (p : Int) + n + 1 ≤ a0.size := by omega
                have s3 : f ≤ p + n + 1 := by omega
                have s4 : p + n + 1 ≤ a0.size := by omega
                have b0 : decide (0 < p) = true := by simpa using h0
                have b1 : decide ((0 : Int) < (p : Int)) = true := by simp; omega
                have b2 : (p : Int) - 1 = (f : Int) := by omega
                have b5 : f < a0.size := by omega
                have b3 : decide (128 ≤ (a0[f]'b5).toNat) = false := by simp; omega
                have b4 : decide ((128 : Int) ≤ ((a0[f]'b5).toNat : Int)) = false := by simp; omega
                have b6 : max (f : Int) 0 = (f : Int) := by omega
                clear HP2 HQ2 hB ha h1 hf
                go_wp2_with fail
                refine (HS2.out _).mono ?_
                rintro e w5 ⟨rfl, hb5⟩
                have R5 := Lib.hid (G3.out.under hb5 G3.out.lt)
                have B5 := Lib.hid (chain (Nat.le_refl _) G5.out hb5)
                have zz : w2.heap.size < w5.heap.size := R5.out.lt
                clear hb5 x0 x1
                have x0 : w5.cell? ⟨w2.heap.size, 0, none⟩ = some (.int .u8 c.toNat) := R5.out.at 0
                have x1 : w5.cell? ⟨w2.heap.size, 1, none⟩ = some (.int .i64 n) := R5.out.at 1
                have x2 : w5.cell? ⟨w2.heap.size, 2, none⟩ = some (.bool O) := R5.out.at 2
                have x3 : w5.cell? ⟨w2.heap.size, 3, none⟩ = some (.bool C) := R5.out.at 3
                go_wp2_with fail
                go_ret
                exact ⟨by simp, B5.out.alloc (by have := B5.out.size; omega) _⟩
              · have hf0 : f = 0 := by omega
                have b0 : decide (0 < p) = false := by simpa using h0
                have b1 : decide ((0 : Int) < (p : Int)) = false := by simp; omega
                have s2 : (p : Int) + n + 1 ≤ a0.size := by omega
                have s4 : p + n + 1 ≤ a0.size := by omega
                rw [hf0, show (p : Int) - ((0 : Nat) : Int) = (p : Int) from by omega] at HS2
                clear HP2 HQ2 hB ha hf hf0
                go_wp2_with fail
                refine (HS2.out _).mono ?_
                rintro e w5 ⟨rfl, hb5⟩
                have R5 := Lib.hid (G3.out.under hb5 G3.out.lt)
                have B5 := Lib.hid (chain (Nat.le_refl _) G5.out hb5)
                have zz : w2.heap.size < w5.heap.size := R5.out.lt
                clear hb5 x0 x1
                have x0 : w5.cell? ⟨w2.heap.size, 0, none⟩ = some (.int .u8 c.toNat) := R5.out.at 0
                have x1 : w5.cell? ⟨w2.heap.size, 1, none⟩ = some (.int .i64 n) := R5.out.at 1
                have x2 : w5.cell? ⟨w2.heap.size, 2, none⟩ = some (.bool O) := R5.out.at 2
                have x3 : w5.cell? ⟨w2.heap.size, 3, none⟩ = some (.bool C) := R5.out.at 3
                go_wp2_with fail
                go_ret
                exact ⟨by simp, B5.out.alloc (by have := B5.out.size; omega) _⟩

    · have HS := Lib.hid (fun W => scan_no a0 a1 (by omega) hr W)
      clear hr
      go_enter Try.func6, Try.ntmps6
      go_wp2_with fail
      refine (alive_any _).mono ?_
      rintro e w1 ⟨rfl, hb1⟩
      have B1 := Lib.hid hb1
      have z1 := hb1.size
      clear hb1
      go_wp2_with fail
      refine (HS.out _).mono ?_
      rintro e w2 ⟨rfl, hb2⟩
      have B2 := Lib.hid (chain (Nat.le_refl _) B1.out hb2)
      have z2 := hb2.size
      clear hb2 B1 HS
      unfold noV
      go_wp2_with fail
      go_ret
      exact ⟨by simp, B2.out.alloc (by have := B2.out.size; omega) _⟩

set_option maxRecDepth 100000 in
theorem lifted (os : Os) (started : os.Started) (H : Type) (enc : TypeId × Value → H) :
    ReturnsInHanded {} Try.checked os 6 .any (Rows.runsWholeSpec.pre6 enc Try.prog Try.f6 Rows.runsWholeRow.domain false) (Rows.runsWholeSpec.post enc Try.prog Try.f6 false true false false) := by
  refine returnsInHanded_of_change (C := Try.checked) own started (by kernel_rfl) Try.func6
    (ChangeSpec.witness6 (enc := enc) (C := Try.checked) false ⟨#[], #[.string ByteArray.empty, .int .i64 0], []⟩ 8 (by kernel_rfl) (by kernel_rfl) (by kernel_rfl) (by kernel_rfl)) ?_
  intro W base args ds gs before hval0 hW hcnd _
  have hval : ∀ (j : Nat) t v, Try.f6.params[j]? = some t → args[j]? = some v → Value.okWide Try.prog W .any base t v := hval0
  have hW' := hW
  obtain ⟨p, q, hA0, hV, rfl, hfz, hnd⟩ := hW
  have hA : DataW.TrodAll enc Try.prog W 0 (fun _ => true) true Try.f6.params.toList args.toList ds p := hA0
  rw [Try.params6] at hA hval
  obtain ⟨v0, vs0, d0, ds0, p0, q0, hargs, rfl, rfl, h0, r0⟩ := trodAll_cons hA
  obtain ⟨v1, vs1, d1, ds1, p1, q1, rfl, rfl, rfl, h1, r1⟩ := trodAll_cons r0
  obtain ⟨rfl, rfl, rfl⟩ := trodAll_nil r1
  obtain rfl : args = #[v0, v1] := by cases args; simp_all
  obtain ⟨rfl, rfl⟩ := trodVars_none hV
  obtain ⟨a0, rfl, rfl, rfl, w0⟩ := open_string Try.underlying9 (hval 0 9 v0 rfl rfl) h0
  obtain ⟨a1, rfl, rfl, rfl, w1⟩ := open_int Try.underlying3 (hval 1 3 v1 rfl rfl) h1
  clear hA0 hval0
  simp only [List.append_nil] at hW'
  refine (walk a0 a1 w0 w1 W).mono fun e W' ⟨he, hg⟩ => ?_
  subst he
  exact ⟨_, rfl, _, _, _, [], [], [], hW', (trodAll_cons_mk (shut_bool Try.underlying4 _) trodAll_mk0), (trodAll_cons_mk (shut_string Try.underlying9 w0) (trodAll_cons_mk (shut_int Try.underlying3 w1) trodAll_mk0)), rfl, hg.frame _, fun h => by cases h⟩

theorem over : Rows.runsWholeRow.holds Try.pinned (OpenSpec.ofChange Rows.runsWholeSpec) :=
  OpenClaim.holds_of_wide 6 Try.f6 rfl rfl rfl rfl rfl rfl rfl ⟨rfl, rfl, rfl, rfl, rfl⟩ rfl rfl rfl rfl rfl (by kernel_rfl) Try.func6 (by kernel_rfl)
    (of_decide_eq_true (by kernel_rfl)) (by unfold Func.isWrapper; first | (rw [if_pos (by decide +kernel)]; kernel_rfl) | (rw [if_neg (by decide +kernel)]; exact ⟨rfl, rfl⟩))
    (fun os started H enc _ => lifted os started H enc)

theorem proved : Rows.RunsWholeSaid :=
  over
#print axioms proved
end Go.Proofs.Ythglejhhfnpdaaa.runsWhole
