/-
  PROVED: a contract of the document's own Drop: it answers 'drp'. Conditions: the text's length is at most 200000 bytes.
-/
import Derived.Test.YthlcjlikeipdlaaDrops
namespace Go.Proofs.Ythlcjlikeipdlaa
open Go.ChangeShapes Go.WideShapes Go.ChangeAt Go.RowKit
set_option linter.unusedVariables false

/-- What the loop of the document's Drop goes by. -/
def ERel (s : ByteArray) (b : Nat) (n : Int) (a g l i : Value) (w wr : World) : Prop :=
  ∃ (x p k d : Nat), p ≤ s.size ∧ a = .int .i64 x ∧ g = .int .i64 p ∧ l = .int .i64 k ∧ i = .int .i64 d ∧ k ≤ 4 ∧ (k = 0 → x ≤ b + 4 * p) ∧ x + k ≤ b + 4 * p + 4 ∧ (0 < k → p < s.size) ∧ (d = 0 ∨ (d : Int) ≤ n) ∧ drh s p x k (n.toNat - d) = drp s 0 b n.toNat ∧ wr = w

set_option maxHeartbeats 4000000 in
theorem refDrop_any (s : ByteArray) (c n : Int) (hs : s.size ≤ 200000) (hn : -9223372036854775808 ≤ n) (hn' : n ≤ 9223372036854775807) (w : World) :
    Calls Try.prog 11 #[.string s, .int .i64 c, .int .i64 n] w fun e w' => e = .returned (.tuple #[.int .i64 (drp s 0 (bnd c) n.toNat).1, .int .i64 (drp s 0 (bnd c) n.toNat).2.1, .int .i64 (drp s 0 (bnd c) n.toNat).2.2]) ∧ w = w' := by
  have hbd := bnd_le c
  have HB := Lib.hid (begin_any c)
  generalize bnd c = b at *
  go_enter Try.func11, Try.ntmps11
  go_wp2_with fail
  refine (HB.out _).mono ?_
  rintro e w1 ⟨rfl, rfl⟩
  go_wp2_with fail
  go_loopw [9, 10, 11, 12] (fun a g l i wr => ERel s b n a g l i w wr) (fun _ _ _ i _ => n.toNat - (intOf i).toNat)
  case atStart => exact ⟨b, 0, 0, 0, Nat.zero_le _, rfl, rfl, rfl, rfl, by omega, by omega, by omega, by omega, by omega, by rw [Nat.sub_zero]; unfold drh; rw [if_pos rfl], rfl⟩
  case round =>
    obtain ⟨x, p, k, d, hp, rfl, rfl, rfl, rfl, hk, hx0, hx, hkp, hd, hl, rfl⟩ := hrel
    have HL := Lib.hid hl
    clear hl
    by_cases hdn : (d : Int) < n
    · by_cases hk0 : k = 0
      · subst hk0
        have hx1 := hx0 rfl
        by_cases hlt : p < s.size
        · have hn1 := (s[p]'hlt).toNat_lt
          by_cases hb : blk s p
          · have hbb : (s[p]'hlt).toNat = 32 ∨ (s[p]'hlt).toNat = 9 := by rw [← bt_at s p hlt]; exact hb.2
            have hw := wd_bd (s[p]'hlt).toNat x
            have ht := drh_take s p x (n.toNat - d) hb (by omega)
            rw [bt_at s p hlt, HL.out] at ht
            clear hb
            by_cases h1 : wd (s[p]'hlt).toNat x = 1
            · have HT : Hid (drh s (p + 1) (x + 1) 0 (n.toNat - (d + 1)) = drp s 0 b n.toNat) := by
                rw [ht, h1, drh_last s p x _ (by omega)]; exact congrArg _ (by omega)
              have H1 := Lib.hid h1
              clear ht h1 HL hx0 hkp hx
              by_cases h32 : (s[p]'hlt).toNat = 32
              · have c1 : (((s[p]'hlt).toNat : Int) != 32) = false := by simp; omega
                clear hbb h32
                go_wp2_with fail
                refine (wide_any (s[p]'hlt).toNat x (by omega) _).mono ?_
                rw [H1.out]
                rintro e w1 ⟨rfl, rfl⟩
                go_wp2_with fail
                go_roundw
                case rel => exact ⟨x + 1, p + 1, 0, d + 1, by omega, by go_num, by go_num, by go_num, by go_num, by omega, by omega, by omega, by omega, by omega, HT.out, rfl⟩
                case measure => simp [intOf]; omega
              · have c1 : (((s[p]'hlt).toNat : Int) != 32) = true := by simp; omega
                have c2 : (((s[p]'hlt).toNat : Int) != 9) = false := by simp; omega
                clear hbb h32
                go_wp2_with fail
                refine (wide_any (s[p]'hlt).toNat x (by omega) _).mono ?_
                rw [H1.out]
                rintro e w1 ⟨rfl, rfl⟩
                go_wp2_with fail
                go_roundw
                case rel => exact ⟨x + 1, p + 1, 0, d + 1, by omega, by go_num, by go_num, by go_num, by go_num, by omega, by omega, by omega, by omega, by omega, HT.out, rfl⟩
                case measure => simp [intOf]; omega
            · have HT : Hid (drh s p (x + 1) (wd (s[p]'hlt).toNat x - 1) (n.toNat - (d + 1)) = drp s 0 b n.toNat) := by
                rw [ht, drh_step s p x _ _ (by omega) (by omega)]; exact congrArg _ (by omega)
              have hbe : (((wd (s[p]'hlt).toNat x : Nat) : Int) - 1 == 0) = false := by simp; omega
              have hgt : 1 < wd (s[p]'hlt).toNat x := by omega
              clear ht h1 HL hx0 hkp hx
              by_cases h32 : (s[p]'hlt).toNat = 32
              · have c1 : (((s[p]'hlt).toNat : Int) != 32) = false := by simp; omega
                clear hbb h32
                go_wp2_with fail
                refine (wide_any (s[p]'hlt).toNat x (by omega) _).mono ?_
                rintro e w1 ⟨rfl, rfl⟩
                go_wp2_with fail
                go_roundw
                case rel => exact ⟨x + 1, p, wd (s[p]'hlt).toNat x - 1, d + 1, by omega, by go_num, by go_num, by congr 1; omega, by go_num, by omega, by omega, by omega, by omega, by omega, HT.out, rfl⟩
                case measure => simp [intOf]; omega
              · have c1 : (((s[p]'hlt).toNat : Int) != 32) = true := by simp; omega
                have c2 : (((s[p]'hlt).toNat : Int) != 9) = false := by simp; omega
                clear hbb h32
                go_wp2_with fail
                refine (wide_any (s[p]'hlt).toNat x (by omega) _).mono ?_
                rintro e w1 ⟨rfl, rfl⟩
                go_wp2_with fail
                go_roundw
                case rel => exact ⟨x + 1, p, wd (s[p]'hlt).toNat x - 1, d + 1, by omega, by go_num, by go_num, by congr 1; omega, by go_num, by omega, by omega, by omega, by omega, by omega, HT.out, rfl⟩
                case measure => simp [intOf]; omega
          · have HO := Lib.hid (HL.out.symm.trans (drh_stop s p x _ hb))
            have hbb : ¬ ((s[p]'hlt).toNat = 32 ∨ (s[p]'hlt).toNat = 9) := by rw [← bt_at s p hlt]; exact fun hc => hb ⟨hlt, hc⟩
            have c1 : (((s[p]'hlt).toNat : Int) != 32) = true := by simp; omega
            have c2 : (((s[p]'hlt).toNat : Int) != 9) = true := by simp; omega
            clear hb hbb
            go_wp2_with fail
            go_ret3
            exact ⟨ret_drop HO.out rfl rfl rfl, rfl⟩
        · have HO := Lib.hid (HL.out.symm.trans (drh_stop s p x _ (fun hc => hlt hc.1)))
          go_wp2_with fail
          go_ret3
          exact ⟨ret_drop HO.out rfl rfl rfl, rfl⟩
      · have hlt := hkp (by omega)
        have b0 : ((k : Int) == 0) = false := by simp; omega
        by_cases h1 : k = 1
        · subst h1
          have HT : Hid (drh s (p + 1) (x + 1) 0 (n.toNat - (d + 1)) = drp s 0 b n.toNat) := by
            rw [← HL.out, drh_last s p x _ (by omega)]; exact congrArg _ (by omega)
          clear hk0 HL hx0 hkp
          go_wp2_with fail
          go_roundw
          case rel => exact ⟨x + 1, p + 1, 0, d + 1, by omega, by go_num, by go_num, by go_num, by go_num, by omega, by omega, by omega, by omega, by omega, HT.out, rfl⟩
          case measure => simp [intOf]; omega
        · have HT : Hid (drh s p (x + 1) (k - 1) (n.toNat - (d + 1)) = drp s 0 b n.toNat) := by
            rw [← HL.out, drh_step s p x k _ (by omega) (by omega)]; exact congrArg _ (by omega)
          have hgt : 1 < k := by omega
          have b1 : ((k : Int) - 1 == 0) = false := by simp; omega
          clear hk0 h1 HL hx0 hkp
          go_wp2_with fail
          go_roundw
          case rel => exact ⟨x + 1, p, k - 1, d + 1, by omega, by go_num, by go_num, by congr 1; omega, by go_num, by omega, by omega, by omega, by omega, by omega, HT.out, rfl⟩
          case measure => simp [intOf]; omega
    · have HO : Hid (drp s 0 b n.toNat = (p, x, k)) := by rw [← HL.out, show n.toNat - d = 0 from by omega]; exact drh_end s p x k
      go_wp2_with fail
      go_ret3
      exact ⟨ret_drop HO.out rfl rfl rfl, rfl⟩
end Go.Proofs.Ythlcjlikeipdlaa
