/-
  PROVED: stetlaw11.RunsTurned returns true for every text and every place: a text of ASCII read from its end has its rows open where they closed, and the other way round. Conditions: none beside the row's own.
-/
import Derived.Test.YthglejhhfnpdaaaAlive
import Derived.Test.YthglejhhfnpdaaaTurn
import Derived.WalkKit
import Derived.ProofKit
import Derived.OpenShut
import Derived.ShutString
namespace Go.Proofs.Ythglejhhfnpdaaa.runsTurned
open Go.ChangeShapes Go.WideShapes Go.ChangeAt Go.RowKit
open Go.ChangeMaps (open_string shut_string)
set_option linter.unusedVariables false      -- a walk need not use every 'w<i>' (that an integer argument fits its kind)

theorem own : ownKnob Try.prog.godebug = none := by kernel_rfl

set_option maxHeartbeats 8000000 in
set_option maxRecDepth 100000 in
theorem walk (a0 : ByteArray) (a1 : Int) (w0 : a0.size ≤ maxLen) (w1 : (Lit.int .i64 a1).wf = true) (w : World) :
    Calls Try.prog 5 #[.string a0, .int .i64 a1] w fun e w' => e = .returned (.bool true) ∧ Below w.heap.size w w' := by
  obtain ⟨b1, b2⟩ := i64_bd w1
  by_cases hl : 20000 < a0.size
  · have d0 : decide (20000 < a0.size) = true := by simpa using hl
    have d1 : decide ((20000 : Int) < (a0.size : Int)) = true := by simp; omega
    go_enter Try.func5, Try.ntmps5
    go_wp2_with fail
    refine (alive_any _).mono ?_
    rintro e w1 ⟨rfl, hb1⟩
    have B1 := Lib.hid hb1
    have z1 := hb1.size
    clear hb1
    go_wp2_with fail
    go_quiet (fail)
    go_wp2_with fail
    go_ret
    exact ⟨rfl, below_dr B1.out _⟩
  have d0 : decide (20000 < a0.size) = false := by simpa using hl
  have d1 : decide ((20000 : Int) < (a0.size : Int)) = false := by simp; omega
  by_cases hn : a1 < 0
  · have d2 : decide (a1 < 0) = true := by simpa using hn
    go_enter Try.func5, Try.ntmps5
    go_wp2_with fail
    refine (alive_any _).mono ?_
    rintro e w1 ⟨rfl, hb1⟩
    have B1 := Lib.hid hb1
    have z1 := hb1.size
    clear hb1
    go_wp2_with fail
    go_quiet (fail)
    go_wp2_with fail
    go_ret
    exact ⟨rfl, below_dr B1.out _⟩
  have d2 : decide (a1 < 0) = false := by simpa using hn
  by_cases hg : (a0.size : Int) ≤ a1
  · have d3 : decide ((a0.size : Int) ≤ a1) = true := by simpa using hg
    go_enter Try.func5, Try.ntmps5
    go_wp2_with fail
    refine (alive_any _).mono ?_
    rintro e w1 ⟨rfl, hb1⟩
    have B1 := Lib.hid hb1
    have z1 := hb1.size
    clear hb1
    go_wp2_with fail
    go_quiet (fail)
    go_wp2_with fail
    go_ret
    exact ⟨rfl, below_dr B1.out _⟩
  obtain ⟨p, rfl⟩ : ∃ p : Nat, a1 = p := ⟨a1.toNat, by omega⟩
  have hp : p < a0.size := by omega
  have d3 : decide ((a0.size : Int) ≤ (p : Int)) = false := by simp; omega
  have d4 : decide (a0.size ≤ p) = false := by simp; omega
  have d5 : decide ((p : Int) < 0) = false := by simp
  by_cases hs : ∃ (h0 : 0 < p), (a0[p - 1]'(by omega)) = (a0[p]'hp)
  · obtain ⟨h0, h1⟩ := hs
    obtain ⟨k, hk⟩ : ∃ k, k = p - 1 := ⟨_, rfl⟩
    simp only [← hk] at h1
    have b0 : decide (0 < p) = true := by simpa using h0
    have b1 : decide ((0 : Int) < (p : Int)) = true := by simp; omega
    have b2 : (p : Int) - 1 = (k : Int) := by omega
    have b5 : k < a0.size := by omega
    have c1 : (((a0[k]'b5).toNat : Int) == ((a0[p]'hp).toNat : Int)) = true := eq_u8 _ _ h1
    clear hk h1
    go_enter Try.func5, Try.ntmps5
    go_wp2_with fail
    refine (alive_any _).mono ?_
    rintro e w1 ⟨rfl, hb1⟩
    have B1 := Lib.hid hb1
    have z1 := hb1.size
    clear hb1
    go_wp2_with fail
    go_quiet (fail)
    go_wp2_with fail
    go_ret
    exact ⟨rfl, below_dr B1.out _⟩
  · have hbf : ∀ (h0 : 0 < p) (h : p - 1 < a0.size), a0[p - 1]'h ≠ a0[p]'hp := fun h0 h e => hs ⟨h0, e⟩
    clear hs
    by_cases h0 : 0 < p
    · obtain ⟨k, hk⟩ : ∃ k, k = p - 1 := ⟨_, rfl⟩
      have h1 := hbf h0 (by omega)
      simp only [← hk] at h1
      have b0 : decide (0 < p) = true := by simpa using h0
      have b1 : decide ((0 : Int) < (p : Int)) = true := by simp; omega
      have b2 : (p : Int) - 1 = (k : Int) := by omega
      have b5 : k < a0.size := by omega
      have c1 : (((a0[k]'b5).toNat : Int) == ((a0[p]'hp).toNat : Int)) = false := ne_u8 _ _ h1
      have HBF := Lib.hid hbf
      clear hk h1 hbf
      obtain ⟨i0, hi0, hz0, hz1, hz2⟩ := info_parts Try.info5
      go_enter Try.func5, Try.ntmps5
      go_wp2_with fail
      refine (alive_any _).mono ?_
      rintro e w1 ⟨rfl, hb1⟩
      have B1 := Lib.hid hb1
      have z1 := hb1.size
      clear hb1
      go_wp2_with fail
      go_quiet (fail)
      go_wp2_with fail
      go_loopw [5, 6] (fun v i wr => TRel a0 w1 v i wr) (fun _ i _ => (intOf i + 1).toNat)
      case atStart => exact ⟨a0.size, Nat.le_refl _, rfl, fun k h hk => absurd h (by omega), by rw [backL_end]; exact own_empty5 _ _ (Nat.le_refl _), (fun h => by cases h), (below_dr (Below.refl _ _) _).alloc (Nat.le_refl _) _⟩
      case round =>
        obtain ⟨j, hj, rfl, hall, hown0, hnil, hB0⟩ := hrel
        have hBz := hB0.size
        have HNIL := Lib.hid hnil
        by_cases hz : 0 < j
        · obtain ⟨i, rfl⟩ : ∃ i, j = i + 1 := ⟨j - 1, by omega⟩
          have hi : i < a0.size := by omega
          have hn := (a0[i]'hi).toNat_lt
          have i1 : ((i + 1 : Nat) : Int) - 1 = (i : Int) := by omega
          rw [i1]
          by_cases h8 : 128 ≤ (a0[i]'hi).toNat
          · have e1 : decide (128 ≤ (a0[i]'hi).toNat) = true := by simpa using h8
            have e2 : decide ((128 : Int) ≤ ((a0[i]'hi).toNat : Int)) = true := by simp; omega
            have HB := Lib.hid (chain (Nat.le_refl _) B1.out hB0)
            clear hall hown0 hB0 hnil
            go_wp2_with fail
            go_ret
            exact ⟨rfl, HB.out⟩
          · have e1 : decide (128 ≤ (a0[i]'hi).toNat) = false := by simp; omega
            have e2 : decide ((128 : Int) ≤ ((a0[i]'hi).toNat : Int)) = false := by simp; omega
            have HS := Lib.hid (fun (w2 : World) (v : Value) (z : Int) (hz : z = (i : Int) - 1) (ho : w2.ownsRow w1.heap.size 5 1 v ((backL a0 (i + 1)).length + 1) (Lib.byteCells (backL a0 (i + 1)) ++ Lib.byteCells [a0[i]'hi])) (hv : v ≠ .slice none 0 0) (hB : Below w1.heap.size w1 w2) => trel_step (W := w1) (v := v) hi hz hall (by omega) ho hv hB)
            have hl5 : (backL a0 (i + 1)).length ≤ 20000 := by rw [backL_len]; omega
            clear hall hnil
            go_wp2_with (at_builtin; refine wpList_append_own _ rfl _ _ 28 rfl w1.heap.size 5 i0 (.int .u8 0) 1 1 Try.underlying28 hi0 hz0 hz1 hz2 rfl (by decide) _ _ _ rfl (hown0.alloc _) ⟨wr.heap.size, 0, none⟩ 1 1 (Lib.byteCells [a0[i]'hi]) rfl rfl (newsB _ [a0[i]'hi]) (bytes_one _) (by unfold maxLen; omega) (by omega) (by simp; omega) ?_)
            intro v' w3 hown3 hgrow hiff
            have hge := own_block_ge hown0
            have HR := Lib.hid (fun z hz => HS.out w3 v' z hz hown3 (by first | exact hiff | exact fun hv => HNIL.out (hiff.1 hv).1) ((hB0.alloc (by omega) _).grown hgrow (by simp; omega) (fun k hk => (hge k hk).1)))
            clear hown3 hgrow hown0 hiff hge hB0 HS
            go_wp2_with fail
            go_roundw
            case rel => exact HR.out _ rfl
            case measure => simp [intOf]
        · have hj0 : j = 0 := by omega
          subst hj0
          rw [show ((0 : Nat) : Int) - 1 = -1 from rfl]
          have m1 : decide ((0 : Int) ≤ -1) = false := by decide
          rw [backL_all] at hown0
          obtain ⟨acc, hacc⟩ : ∃ acc, acc = (lst a0).reverse := ⟨_, rfl⟩
          rw [← hacc] at hown0
          by_cases hr : isRow a0 p
          · obtain ⟨p', hp', hpe, hk⟩ := hr
            obtain rfl : p = p' := by omega
            obtain ⟨c, hc⟩ : ∃ c, a0[p]'hp = c := ⟨_, rfl⟩
            rw [hc] at hk
            have hq1 := rowTo_lt a0 c p hp hc
            have hq2 := (rowTo_bd a0 c p (by omega)).2
            obtain ⟨n, hq⟩ : ∃ n, rowTo a0 c p = p + n := ⟨rowTo a0 c p - p, by omega⟩
            rw [hq] at hq1 hq2
            have HS1 := Lib.hid (fun W => scan_in a0 p c (by omega) hp hc hk W)
            obtain ⟨b, hb⟩ : ∃ b : ByteArray, b = ⟨acc.toArray⟩ := ⟨_, rfl⟩
            have hbl : lst b = (lst a0).reverse := by rw [hb, ← hacc]
            obtain ⟨g, g1, g2⟩ := turn_at a0 b p n c hbl hp hc hq hq2 (fun h0 h => by rw [← hc]; exact HBF.out h0 h) (fun i h => hall i h (by omega))
            have hbz : b.size = a0.size := back_size a0 b hbl
            have HS2 : Hid (∀ W, Calls Try.prog 8 #[.string b, .int .i64 ((a0.size : Int) - p - n)] W fun e w' => e = .returned (.tuple #[rowV c n (bhV a0 (p + n)) (ahV a0 p), .bool true]) ∧ Below W.heap.size W w') := fun W => by
              have := scan_in b (a0.size - (p + n)) c (by omega) g g1 hk W
              rw [g2] at this
              rw [show (a0.size : Int) - p - n = ((a0.size - (p + n) : Nat) : Int) from by omega]
              exact this
            have hu := c.toNat_lt
            obtain ⟨O, hO⟩ : ∃ O, O = opB (c == 95) (isBlank (ahV a0 p)) (isMark (ahV a0 p)) (isBlank (bhV a0 (p + n))) (isMark (bhV a0 (p + n))) := ⟨_, rfl⟩
            obtain ⟨C, hC⟩ : ∃ C, C = clB (c == 95) (isBlank (ahV a0 p)) (isMark (ahV a0 p)) (isBlank (bhV a0 (p + n))) (isMark (bhV a0 (p + n))) := ⟨_, rfl⟩
            have hat1 : atV a0 p c = .agg #[.int .u8 c.toNat, .int .i64 n, .bool O, .bool C] := by
              unfold atV rowV
              rw [hq, hO, hC, show p + n - p = n from by omega]
            have hat2 : rowV c n (bhV a0 (p + n)) (ahV a0 p) = .agg #[.int .u8 c.toNat, .int .i64 n, .bool C, .bool O] := by
              unfold rowV
              rw [hO, hC]; rfl
            rw [hat1] at HS1
            rw [hat2] at HS2
            have HB0 := Lib.hid hB0
            have HOW := Lib.hid hown0
            clear hall hown0 hB0 hnil hacc hat1 hat2 hO hC g g1 g2 hq hc hk hpe hp' hbl
            go_wp2_with fail
            refine (HS1.out _).mono ?_
            rintro e w2 ⟨rfl, hb2⟩
            obtain ⟨W3, hW3⟩ : ∃ W3, W3 = w2.alloc (.cells #[.int .u8 c.toNat, .int .i64 n, .bool O, .bool C] 24) := ⟨_, rfl⟩
            have R3 := Lib.hid (show Holds W3 w2.heap.size 24 #[.int .u8 c.toNat, .int .i64 n, .bool O, .bool C] from by rw [hW3]; exact Holds.made w2 24 _)
            have hz2 : wr.heap.size ≤ w2.heap.size := hb2.size
            have hb3 : Below wr.heap.size wr W3 := by rw [hW3]; exact hb2.alloc hz2 _
            have B3 := Lib.hid (chain (Nat.le_refl _) B1.out (chain (Nat.le_refl _) HB0.out hb3))
            obtain ⟨a, cp, rfl, hconv⟩ := own_string (own_below HOW.out hb3) HNIL.out
            rw [← hb] at hconv
            have x1 : W3.cell? ⟨w2.heap.size, 1, none⟩ = some (.int .i64 n) := R3.out.at 1
            have HW3 := Lib.hid hW3
            have HBb := Lib.hid hb
            clear hb2 hb3 hW3 hb HS1
            go_upto_if 65 with fail
            rw [← HW3.out]
            go_wp2_with fail
            refine (HS2.out _).mono ?_
            rintro e w5 ⟨rfl, hb5⟩
            have R5 := Lib.hid (R3.out.under hb5 R3.out.lt)
            have B5 := Lib.hid (chain (Nat.le_refl _) B3.out hb5)
            have zz : w2.heap.size < w5.heap.size := R5.out.lt
            clear hb5 x1
            have x0 : w5.cell? ⟨w2.heap.size, 0, none⟩ = some (.int .u8 c.toNat) := R5.out.at 0
            have x1 : w5.cell? ⟨w2.heap.size, 1, none⟩ = some (.int .i64 n) := R5.out.at 1
            have x2 : w5.cell? ⟨w2.heap.size, 2, none⟩ = some (.bool O) := R5.out.at 2
            have x3 : w5.cell? ⟨w2.heap.size, 3, none⟩ = some (.bool C) := R5.out.at 3
            go_wp2_with fail
            go_ret
            exact ⟨by simp, B5.out.alloc (by have := B5.out.size; omega) _⟩
          · have HS1 := Lib.hid (fun W => scan_no a0 p (by omega) hr W)
            have hk : a0[p]'hp ≠ 42 ∧ a0[p]'hp ≠ 95 := ⟨fun e => hr ⟨p, hp, rfl, Or.inl e⟩, fun e => hr ⟨p, hp, rfl, Or.inr e⟩⟩
            have e1 : (((a0[p]'hp).toNat : Int) == 42) = false := ne_u8 _ 42 hk.1
            have e2 : (((a0[p]'hp).toNat : Int) == 95) = false := ne_u8 _ 95 hk.2
            have e3 : (((a0[p]'hp).toNat : Int) != 42) = true := by rw [bne, e1]; rfl
            have e4 : (((a0[p]'hp).toNat : Int) != 95) = true := by rw [bne, e2]; rfl
            have HB := Lib.hid (chain (Nat.le_refl _) B1.out hB0)
            obtain ⟨a, cp, rfl, _⟩ := own_string hown0 hnil
            clear hall hown0 hB0 hnil hacc hr hk
            unfold noV at HS1
            go_wp2_with fail
            refine (HS1.out _).mono ?_
            rintro e w2 ⟨rfl, hb2⟩
            have HB2 := Lib.hid (chain (Nat.le_refl _) HB.out hb2)
            clear hb2
            go_wp2_with fail
            go_ret
            exact ⟨by simp, HB2.out.alloc (by have := HB2.out.size; omega) _⟩
    · have b0 : decide (0 < p) = false := by simpa using h0
      have b1 : decide ((0 : Int) < (p : Int)) = false := by simp; omega
      have HBF := Lib.hid hbf
      clear hbf
      obtain ⟨i0, hi0, hz0, hz1, hz2⟩ := info_parts Try.info5
      go_enter Try.func5, Try.ntmps5
      go_wp2_with fail
      refine (alive_any _).mono ?_
      rintro e w1 ⟨rfl, hb1⟩
      have B1 := Lib.hid hb1
      have z1 := hb1.size
      clear hb1
      go_wp2_with fail
      go_quiet (fail)
      go_wp2_with fail
      go_loopw [5, 6] (fun v i wr => TRel a0 w1 v i wr) (fun _ i _ => (intOf i + 1).toNat)
      case atStart => exact ⟨a0.size, Nat.le_refl _, rfl, fun k h hk => absurd h (by omega), by rw [backL_end]; exact own_empty5 _ _ (Nat.le_refl _), (fun h => by cases h), (below_dr (Below.refl _ _) _).alloc (Nat.le_refl _) _⟩
      case round =>
        obtain ⟨j, hj, rfl, hall, hown0, hnil, hB0⟩ := hrel
        have hBz := hB0.size
        have HNIL := Lib.hid hnil
        by_cases hz : 0 < j
        · obtain ⟨i, rfl⟩ : ∃ i, j = i + 1 := ⟨j - 1, by omega⟩
          have hi : i < a0.size := by omega
          have hn := (a0[i]'hi).toNat_lt
          have i1 : ((i + 1 : Nat) : Int) - 1 = (i : Int) := by omega
          rw [i1]
          by_cases h8 : 128 ≤ (a0[i]'hi).toNat
          · have e1 : decide (128 ≤ (a0[i]'hi).toNat) = true := by simpa using h8
            have e2 : decide ((128 : Int) ≤ ((a0[i]'hi).toNat : Int)) = true := by simp; omega
            have HB := Lib.hid (chain (Nat.le_refl _) B1.out hB0)
            clear hall hown0 hB0 hnil
            go_wp2_with fail
            go_ret
            exact ⟨rfl, HB.out⟩
          · have e1 : decide (128 ≤ (a0[i]'hi).toNat) = false := by simp; omega
            have e2 : decide ((128 : Int) ≤ ((a0[i]'hi).toNat : Int)) = false := by simp; omega
            have HS := Lib.hid (fun (w2 : World) (v : Value) (z : Int) (hz : z = (i : Int) - 1) (ho : w2.ownsRow w1.heap.size 5 1 v ((backL a0 (i + 1)).length + 1) (Lib.byteCells (backL a0 (i + 1)) ++ Lib.byteCells [a0[i]'hi])) (hv : v ≠ .slice none 0 0) (hB : Below w1.heap.size w1 w2) => trel_step (W := w1) (v := v) hi hz hall (by omega) ho hv hB)
            have hl5 : (backL a0 (i + 1)).length ≤ 20000 := by rw [backL_len]; omega
            clear hall hnil
            go_wp2_with (at_builtin; refine wpList_append_own _ rfl _ _ 28 rfl w1.heap.size 5 i0 (.int .u8 0) 1 1 Try.underlying28 hi0 hz0 hz1 hz2 rfl (by decide) _ _ _ rfl (hown0.alloc _) ⟨wr.heap.size, 0, none⟩ 1 1 (Lib.byteCells [a0[i]'hi]) rfl rfl (newsB _ [a0[i]'hi]) (bytes_one _) (by unfold maxLen; omega) (by omega) (by simp; omega) ?_)
            intro v' w3 hown3 hgrow hiff
            have hge := own_block_ge hown0
            have HR := Lib.hid (fun z hz => HS.out w3 v' z hz hown3 (by first | exact hiff | exact fun hv => HNIL.out (hiff.1 hv).1) ((hB0.alloc (by omega) _).grown hgrow (by simp; omega) (fun k hk => (hge k hk).1)))
            clear hown3 hgrow hown0 hiff hge hB0 HS
            go_wp2_with fail
            go_roundw
            case rel => exact HR.out _ rfl
            case measure => simp [intOf]
        · have hj0 : j = 0 := by omega
          subst hj0
          rw [show ((0 : Nat) : Int) - 1 = -1 from rfl]
          have m1 : decide ((0 : Int) ≤ -1) = false := by decide
          rw [backL_all] at hown0
          obtain ⟨acc, hacc⟩ : ∃ acc, acc = (lst a0).reverse := ⟨_, rfl⟩
          rw [← hacc] at hown0
          by_cases hr : isRow a0 p
          · obtain ⟨p', hp', hpe, hk⟩ := hr
            obtain rfl : p = p' := by omega
            obtain ⟨c, hc⟩ : ∃ c, a0[p]'hp = c := ⟨_, rfl⟩
            rw [hc] at hk
            have hq1 := rowTo_lt a0 c p hp hc
            have hq2 := (rowTo_bd a0 c p (by omega)).2
            obtain ⟨n, hq⟩ : ∃ n, rowTo a0 c p = p + n := ⟨rowTo a0 c p - p, by omega⟩
            rw [hq] at hq1 hq2
            have HS1 := Lib.hid (fun W => scan_in a0 p c (by omega) hp hc hk W)
            obtain ⟨b, hb⟩ : ∃ b : ByteArray, b = ⟨acc.toArray⟩ := ⟨_, rfl⟩
            have hbl : lst b = (lst a0).reverse := by rw [hb, ← hacc]
            obtain ⟨g, g1, g2⟩ := turn_at a0 b p n c hbl hp hc hq hq2 (fun h0 h => by rw [← hc]; exact HBF.out h0 h) (fun i h => hall i h (by omega))
            have hbz : b.size = a0.size := back_size a0 b hbl
            have HS2 : Hid (∀ W, Calls Try.prog 8 #[.string b, .int .i64 ((a0.size : Int) - p - n)] W fun e w' => e = .returned (.tuple #[rowV c n (bhV a0 (p + n)) (ahV a0 p), .bool true]) ∧ Below W.heap.size W w') := fun W => by
              have := scan_in b (a0.size - (p + n)) c (by omega) g g1 hk W
              rw [g2] at this
              rw [show (a0.size : Int) - p - n = ((a0.size - (p + n) : Nat) : Int) from by omega]
              exact this
            have hu := c.toNat_lt
            obtain ⟨O, hO⟩ : ∃ O, O = opB (c == 95) (isBlank (ahV a0 p)) (isMark (ahV a0 p)) (isBlank (bhV a0 (p + n))) (isMark (bhV a0 (p + n))) := ⟨_, rfl⟩
            obtain ⟨C, hC⟩ : ∃ C, C = clB (c == 95) (isBlank (ahV a0 p)) (isMark (ahV a0 p)) (isBlank (bhV a0 (p + n))) (isMark (bhV a0 (p + n))) := ⟨_, rfl⟩
            have hat1 : atV a0 p c = .agg #[.int .u8 c.toNat, .int .i64 n, .bool O, .bool C] := by
              unfold atV rowV
              rw [hq, hO, hC, show p + n - p = n from by omega]
            have hat2 : rowV c n (bhV a0 (p + n)) (ahV a0 p) = .agg #[.int .u8 c.toNat, .int .i64 n, .bool C, .bool O] := by
              unfold rowV
              rw [hO, hC]; rfl
            rw [hat1] at HS1
            rw [hat2] at HS2
            have HB0 := Lib.hid hB0
            have HOW := Lib.hid hown0
            clear hall hown0 hB0 hnil hacc hat1 hat2 hO hC g g1 g2 hq hc hk hpe hp' hbl
            go_wp2_with fail
            refine (HS1.out _).mono ?_
            rintro e w2 ⟨rfl, hb2⟩
            obtain ⟨W3, hW3⟩ : ∃ W3, W3 = w2.alloc (.cells #[.int .u8 c.toNat, .int .i64 n, .bool O, .bool C] 24) := ⟨_, rfl⟩
            have R3 := Lib.hid (show Holds W3 w2.heap.size 24 #[.int .u8 c.toNat, .int .i64 n, .bool O, .bool C] from by rw [hW3]; exact Holds.made w2 24 _)
            have hz2 : wr.heap.size ≤ w2.heap.size := hb2.size
            have hb3 : Below wr.heap.size wr W3 := by rw [hW3]; exact hb2.alloc hz2 _
            have B3 := Lib.hid (chain (Nat.le_refl _) B1.out (chain (Nat.le_refl _) HB0.out hb3))
            obtain ⟨a, cp, rfl, hconv⟩ := own_string (own_below HOW.out hb3) HNIL.out
            rw [← hb] at hconv
            have x1 : W3.cell? ⟨w2.heap.size, 1, none⟩ = some (.int .i64 n) := R3.out.at 1
            have HW3 := Lib.hid hW3
            have HBb := Lib.hid hb
            clear hb2 hb3 hW3 hb HS1
            go_upto_if 65 with fail
            rw [← HW3.out]
            go_wp2_with fail
            refine (HS2.out _).mono ?_
            rintro e w5 ⟨rfl, hb5⟩
            have R5 := Lib.hid (R3.out.under hb5 R3.out.lt)
            have B5 := Lib.hid (chain (Nat.le_refl _) B3.out hb5)
            have zz : w2.heap.size < w5.heap.size := R5.out.lt
            clear hb5 x1
            have x0 : w5.cell? ⟨w2.heap.size, 0, none⟩ = some (.int .u8 c.toNat) := R5.out.at 0
            have x1 : w5.cell? ⟨w2.heap.size, 1, none⟩ = some (.int .i64 n) := R5.out.at 1
            have x2 : w5.cell? ⟨w2.heap.size, 2, none⟩ = some (.bool O) := R5.out.at 2
            have x3 : w5.cell? ⟨w2.heap.size, 3, none⟩ = some (.bool C) := R5.out.at 3
            go_wp2_with fail
            go_ret
            exact ⟨by simp, B5.out.alloc (by have := B5.out.size; omega) _⟩
          · have HS1 := Lib.hid (fun W => scan_no a0 p (by omega) hr W)
            have hk : a0[p]'hp ≠ 42 ∧ a0[p]'hp ≠ 95 := ⟨fun e => hr ⟨p, hp, rfl, Or.inl e⟩, fun e => hr ⟨p, hp, rfl, Or.inr e⟩⟩
            have e1 : (((a0[p]'hp).toNat : Int) == 42) = false := ne_u8 _ 42 hk.1
            have e2 : (((a0[p]'hp).toNat : Int) == 95) = false := ne_u8 _ 95 hk.2
            have e3 : (((a0[p]'hp).toNat : Int) != 42) = true := by rw [bne, e1]; rfl
            have e4 : (((a0[p]'hp).toNat : Int) != 95) = true := by rw [bne, e2]; rfl
            have HB := Lib.hid (chain (Nat.le_refl _) B1.out hB0)
            obtain ⟨a, cp, rfl, _⟩ := own_string hown0 hnil
            clear hall hown0 hB0 hnil hacc hr hk
            unfold noV at HS1
            go_wp2_with fail
            refine (HS1.out _).mono ?_
            rintro e w2 ⟨rfl, hb2⟩
            have HB2 := Lib.hid (chain (Nat.le_refl _) HB.out hb2)
            clear hb2
            go_wp2_with fail
            go_ret
            exact ⟨by simp, HB2.out.alloc (by have := HB2.out.size; omega) _⟩

set_option maxRecDepth 100000 in
theorem lifted (os : Os) (started : os.Started) (H : Type) (enc : TypeId × Value → H) :
    ReturnsInHanded {} Try.checked os 5 .any (Rows.runsTurnedSpec.pre6 enc Try.prog Try.f5 Rows.runsTurnedRow.domain false) (Rows.runsTurnedSpec.post enc Try.prog Try.f5 false true false false) := by
  refine returnsInHanded_of_change (C := Try.checked) own started (by kernel_rfl) Try.func5
    (ChangeSpec.witness6 (enc := enc) (C := Try.checked) false ⟨#[], #[.string ByteArray.empty, .int .i64 0], []⟩ 8 (by kernel_rfl) (by kernel_rfl) (by kernel_rfl) (by kernel_rfl)) ?_
  intro W base args ds gs before hval0 hW hcnd _
  have hval : ∀ (j : Nat) t v, Try.f5.params[j]? = some t → args[j]? = some v → Value.okWide Try.prog W .any base t v := hval0
  have hW' := hW
  obtain ⟨p, q, hA0, hV, rfl, hfz, hnd⟩ := hW
  have hA : DataW.TrodAll enc Try.prog W 0 (fun _ => true) true Try.f5.params.toList args.toList ds p := hA0
  rw [Try.params5] at hA hval
  obtain ⟨v0, vs0, d0, ds0, p0, q0, hargs, rfl, rfl, h0, r0⟩ := trodAll_cons hA
  obtain ⟨v1, vs1, d1, ds1, p1, q1, rfl, rfl, rfl, h1, r1⟩ := trodAll_cons r0
  obtain ⟨rfl, rfl, rfl⟩ := trodAll_nil r1
  obtain rfl : args = #[v0, v1] := by cases args; simp_all
  obtain ⟨rfl, rfl⟩ := trodVars_none hV
  obtain ⟨a0, rfl, rfl, rfl, w0⟩ := open_string Try.underlying9 (hval 0 9 v0 rfl rfl) h0
  obtain ⟨a1, rfl, rfl, rfl, w1⟩ := open_int Try.underlying3 (hval 1 3 v1 rfl rfl) h1
  clear hA0 hval0
  simp only [List.append_nil] at hW'
  refine (walk a0 a1 w0 w1 W).mono fun e W' ⟨he, hg⟩ => ?_
  subst he
  exact ⟨_, rfl, _, _, _, [], [], [], hW', (trodAll_cons_mk (shut_bool Try.underlying4 _) trodAll_mk0), (trodAll_cons_mk (shut_string Try.underlying9 w0) (trodAll_cons_mk (shut_int Try.underlying3 w1) trodAll_mk0)), rfl, hg.frame _, fun h => by cases h⟩

theorem over : Rows.runsTurnedRow.holds Try.pinned (OpenSpec.ofChange Rows.runsTurnedSpec) :=
  OpenClaim.holds_of_wide 5 Try.f5 rfl rfl rfl rfl rfl rfl rfl ⟨rfl, rfl, rfl, rfl, rfl⟩ rfl rfl rfl rfl rfl (by kernel_rfl) Try.func5 (by kernel_rfl)
    (of_decide_eq_true (by kernel_rfl)) (by unfold Func.isWrapper; first | (rw [if_pos (by decide +kernel)]; kernel_rfl) | (rw [if_neg (by decide +kernel)]; exact ⟨rfl, rfl⟩))
    (fun os started H enc _ => lifted os started H enc)

theorem proved : Rows.RunsTurnedSaid :=
  over
#print axioms proved
end Go.Proofs.Ythglejhhfnpdaaa.runsTurned
