/-
  PROVED: contracts of column.Drop and of the document's own Drop: both answer 'drp'. Conditions: the text's length is at most 200000 bytes.
-/
import Derived.Test.YthlcjlikeipdlaaCols
namespace Go.Proofs.Ythlcjlikeipdlaa
open Go.ChangeShapes Go.WideShapes Go.ChangeAt Go.RowKit
set_option linter.unusedVariables false

theorem ret_drop {g a l : Int} {d : Nat × Nat × Nat} {x y z : Nat} (h : d = (x, y, z)) (hg : g = x) (ha : a = y) (hl : l = z) :
    Ending.returned (.tuple #[.int .i64 g, .int .i64 a, .int .i64 l]) = .returned (.tuple #[.int .i64 d.1, .int .i64 d.2.1, .int .i64 d.2.2]) := by subst h hg ha hl; rfl

/-- What column.Drop's loop goes by. -/
def DRel (s : ByteArray) (b : Nat) (n : Int) (g a m : Value) (w wr : World) : Prop :=
  ∃ (p x : Nat) (k : Int), p ≤ s.size ∧ g = .int .i64 p ∧ a = .int .i64 x ∧ m = .int .i64 k ∧ x ≤ b + 4 * p ∧ k ≤ n ∧ min n 0 ≤ k ∧ drp s p x k.toNat = drp s 0 b n.toNat ∧ wr = w

set_option maxHeartbeats 2000000 in
theorem drop_any (s : ByteArray) (c n : Int) (hs : s.size ≤ 200000) (hc : -9223372036854775808 ≤ c) (hc' : c ≤ 9223372036854775807) (hn : -9223372036854775808 ≤ n) (hn' : n ≤ 9223372036854775807) (w : World) :
    Calls Try.prog 10 #[.string s, .int .i64 c, .int .i64 n] w fun e w' => e = .returned (.tuple #[.int .i64 (drp s 0 (bnd c) n.toNat).1, .int .i64 (drp s 0 (bnd c) n.toNat).2.1, .int .i64 (drp s 0 (bnd c) n.toNat).2.2]) ∧ w = w' := by
  have hbd := bnd_le c
  have HB := Lib.hid (bounded_any c hc hc')
  generalize bnd c = b at *
  go_enter Try.func10, Try.ntmps10
  go_wp2_with fail
  refine (HB.out _).mono ?_
  rintro e w1 ⟨rfl, rfl⟩
  go_wp2_with fail
  go_loopw [9, 10, 2] (fun g a m wr => DRel s b n g a m w wr) (fun g _ _ _ => s.size - (intOf g).toNat)
  case atStart => exact ⟨0, b, n, Nat.zero_le _, rfl, rfl, rfl, by omega, by omega, by omega, rfl, rfl⟩
  case round =>
    obtain ⟨p, x, k, hp, rfl, rfl, rfl, hx, hk, hk', hl, rfl⟩ := hrel
    have HL := Lib.hid hl
    clear hl
    by_cases h0 : 0 < k
    · by_cases hlt : p < s.size
      · have hn1 := (s[p]'hlt).toNat_lt
        by_cases hb : blk s p
        · have c1 : decide ((s[p]'hlt).toNat = 32 ∨ (s[p]'hlt).toNat = 9) = true := by rw [← bt_at s p hlt]; simpa using hb.2
          have hd := wd_bd (s[p]'hlt).toNat x
          have HP := Lib.hid (drp_part s p x k.toNat ⟨by omega, hb⟩)
          have HN := Lib.hid (drp_in s p x k.toNat ⟨by omega, hb⟩)
          rw [bt_at s p hlt] at HP HN
          clear hb
          by_cases hw : k < wd (s[p]'hlt).toNat x
          · have HP' := Lib.hid (HL.out.symm.trans (HP.out (by omega)))
            clear HP HN
            go_wp2_with fail
            refine (indents_any (s[p]'hlt).toNat _).mono ?_
            rw [c1]
            rintro e w1 ⟨rfl, rfl⟩
            go_wp2_with fail
            refine (columns_any (s[p]'hlt).toNat x (by omega) _).mono ?_
            rintro e w1 ⟨rfl, rfl⟩
            go_wp2_with fail
            go_ret3
            exact ⟨ret_drop HP'.out rfl (by omega) (by omega), rfl⟩
          · have HN' := Lib.hid ((HN.out (by omega)).symm.trans HL.out)
            clear HP HN
            go_wp2_with fail
            refine (indents_any (s[p]'hlt).toNat _).mono ?_
            rw [c1]
            rintro e w1 ⟨rfl, rfl⟩
            go_wp2_with fail
            refine (columns_any (s[p]'hlt).toNat x (by omega) _).mono ?_
            rintro e w1 ⟨rfl, rfl⟩
            go_wp2_with fail
            go_roundw
            case rel => exact ⟨p + 1, x + wd (s[p]'hlt).toNat x, k - wd (s[p]'hlt).toNat x, by omega, by go_num, by go_num, by go_num, by omega, by omega, by omega, by rw [← HN'.out]; congr 1; omega, rfl⟩
            case measure => simp [intOf]; omega
        · have c1 : decide ((s[p]'hlt).toNat = 32 ∨ (s[p]'hlt).toNat = 9) = false := by rw [← bt_at s p hlt]; simpa using fun hc => hb ⟨hlt, hc⟩
          have HO := Lib.hid (HL.out.symm.trans (drp_out s p x k.toNat (fun hc => hb hc.2)))
          clear hb
          go_wp2_with fail
          refine (indents_any (s[p]'hlt).toNat _).mono ?_
          rw [c1]
          rintro e w1 ⟨rfl, rfl⟩
          go_wp2_with fail
          go_ret3
          exact ⟨ret_drop HO.out rfl rfl rfl, rfl⟩
      · have HO := Lib.hid (HL.out.symm.trans (drp_out s p x k.toNat (fun hc => hlt hc.2.1)))
        go_wp2_with fail
        go_ret3
        exact ⟨ret_drop HO.out rfl rfl rfl, rfl⟩
    · have HO := Lib.hid (HL.out.symm.trans (drp_out s p x k.toNat (fun hc => by omega)))
      go_wp2_with fail
      go_ret3
      exact ⟨ret_drop HO.out rfl rfl rfl, rfl⟩
end Go.Proofs.Ythlcjlikeipdlaa
