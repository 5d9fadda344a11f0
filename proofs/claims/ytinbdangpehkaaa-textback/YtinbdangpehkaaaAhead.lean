/-
  PROVED: contracts of text.begunAhead and text.leastBehind on a line of a text; a line cut out of a text has the characters that it has within the text. Conditions: the line lies within the text, and ends with the text or with a byte below 128.
-/
import Derived.Test.YtinbdangpehkaaaPlacePure
import Derived.Test.YtinbdangpehkaaaJoinPure
namespace Go.Proofs.Ytinbdangpehkaaa
open Go.ChangeShapes Go.WideShapes Go.ChangeAt Go.RowKit
set_option linter.unusedVariables false

theorem cut_size (s : ByteArray) (f e : Nat) (h : e ≤ s.size) : (s.extract f e).size = e - f := by
  simp
  omega
theorem bt_cut (s : ByteArray) (f e j : Nat) (h : f + j < e) : bt (s.extract f e) j = bt s (f + j) := by
  rw [bt_list, bt_list, Lib.extract_data, List.getD_eq_getElem?_getD, List.getD_eq_getElem?_getD, List.getElem?_take_of_lt (by omega), List.getElem?_drop]

set_option maxHeartbeats 4000000 in
theorem decodeN_cut (m M b0 b1 b2 b3 c1 c2 c3 : Nat) (hm : 1 ≤ m) (hM : m ≤ M) (e1 : 1 < m → c1 = b1) (e2 : 2 < m → c2 = b2) (e3 : 3 < m → c3 = b3)
    (hl : m = M ∨ (m = 1 ∧ b0 < 128) ∨ (m = 2 ∧ b1 < 128) ∨ (m = 3 ∧ b2 < 128) ∨ 4 ≤ m) : Lib.decodeN m b0 c1 c2 c3 = Lib.decodeN M b0 b1 b2 b3 := by
  by_cases h4 : 4 ≤ m
  · rw [e1 (by omega), e2 (by omega), e3 (by omega)]
    unfold Lib.decodeN
    simp only [show (1 < m) = True from eq_true (by omega), show (2 < m) = True from eq_true (by omega), show (3 < m) = True from eq_true (by omega), show (1 < M) = True from eq_true (by omega), show (2 < M) = True from eq_true (by omega), show (3 < M) = True from eq_true (by omega)]
  · obtain rfl | rfl | rfl : m = 1 ∨ m = 2 ∨ m = 3 := by omega
    · unfold Lib.decodeN
      repeat' split
      all_goals first | with_reducible rfl | (exfalso; omega)
    · rw [e1 (by omega)]
      unfold Lib.decodeN
      repeat' split
      all_goals first | with_reducible rfl | (exfalso; omega)
    · rw [e1 (by omega), e2 (by omega)]
      unfold Lib.decodeN
      repeat' split
      all_goals first | with_reducible rfl | (exfalso; omega)

/-- The line's last byte is below 128, or the line ends with the text. -/
def Fit (s : ByteArray) (e : Nat) : Prop := e ≤ s.size ∧ (e = s.size ∨ bt s (e - 1) < 128)
theorem dec_line (s : ByteArray) (f e q : Nat) (hF : Fit s e) (hq : f + q < e) : Utf8.decode (s.extract f e) q = Utf8.decode s (f + q) := by
  obtain ⟨he, hl⟩ := hF
  rw [Lib.decode_at, Lib.decode_at, cut_size s f e he]
  have g0 : (s.extract f e).get! q = s.get! (f + q) := UInt8.toNat_inj.1 (bt_cut s f e q hq)
  rw [g0]
  refine decodeN_cut _ _ _ _ _ _ _ _ _ (by omega) (by omega) (fun h => ?_) (fun h => ?_) (fun h => ?_) ?_
  · exact bt_cut s f e (q + 1) (by omega)
  · exact bt_cut s f e (q + 2) (by omega)
  · exact bt_cut s f e (q + 3) (by omega)
  · rcases hl with rfl | hl
    · left; omega
    · right
      by_cases h1 : e - f - q = 1
      · left; refine ⟨h1, ?_⟩
        rw [show e - 1 = f + q from by omega] at hl
        exact hl
      right
      by_cases h2 : e - f - q = 2
      · left; refine ⟨h2, ?_⟩
        rw [show e - 1 = f + q + 1 from by omega] at hl
        exact hl
      right
      by_cases h3 : e - f - q = 3
      · left; refine ⟨h3, ?_⟩
        rw [show e - 1 = f + q + 2 from by omega] at hl
        exact hl
      right; omega
theorem fit_line (s : ByteArray) (f : Nat) (hf : f ≤ s.size) : Fit s (lineEnd s f) := by
  refine ⟨lineEnd_le s f hf, ?_⟩
  have h1 := lineTo_le s f hf
  by_cases hl : lineTo s f < s.size
  · right
    have hb := lineTo_end s f hl
    unfold lineEnd endLen
    rw [if_pos hl]
    split
    · rename_i h
      rw [show lineTo s f + 2 - 1 = lineTo s f + 1 from by omega, h.2.2]; omega
    · rw [show lineTo s f + 1 - 1 = lineTo s f from by omega]; omega
  · left
    unfold lineEnd endLen
    rw [if_neg hl]; omega

theorem below_iter0 (w : World) (s : ByteArray) (p : Nat) : Below w.heap.size w (w.iter s p) := by
  unfold World.iter
  exact (Below.refl _ _).alloc (Nat.le_refl _) _
theorem ret_int {k : IntKind} {a b : Int} (h : a = b) : Ending.returned (.int k a) = .returned (.int k b) := by rw [h]

set_option maxHeartbeats 400000 in
theorem begun_at (s : ByteArray) (f e d : Nat) (hF : Fit s e) (hd : f + d ≤ e) (hs : s.size ≤ 200000) (w : World) :
    Calls Try.prog 30 #[.string (s.extract f e), .int .i64 d] w fun en w' => en = .returned (.int .i64 (cnt s f (f + d))) ∧ Below w.heap.size w w' := by
  have hz := cut_size s f e hF.1
  have he := hF.1
  have hcl := cnt_le s (f + d) _ f (Nat.le_refl _)
  have HD : Hid (∀ q, f + q < e → Utf8.decode (s.extract f e) q = Utf8.decode s (f + q)) := fun q hq => dec_line s f e q hF hq
  generalize s.extract f e = r at *
  go_enter Try.func30, Try.ntmps30
  go_wp2_with fail
  go_loopw [5] (fun v wr => ∃ q n : Nat, wr = w.iter r q ∧ f + q ≤ e ∧ v = .int .i64 n ∧ n + cnt s (f + q) (f + d) = cnt s f (f + d)) (fun _ wr => s.size - wr.iterPos w.heap.size)
  case atStart => exact ⟨0, 0, rfl, by omega, rfl, by simp⟩
  case round =>
    obtain ⟨q, n, rfl, hq, rfl, hn⟩ := hrel
    have HN := Lib.hid hn
    have hnl : n ≤ s.size := by omega
    clear hn
    by_cases hlt : f + q < e
    · have hnx : ∀ ty, (Instr.next (.pointer (some ⟨w.heap.size, 0, none⟩)) true ty).run Try.prog (w.iter r q) = _ := fun ty => run_next_any w r q ty (by omega)
      rw [HD.out q hlt] at hnx
      have hw := dec_bd r q (by omega)
      rw [HD.out q hlt] at hw
      obtain ⟨hw1, hw2, hw3, -⟩ := hw
      by_cases hqd : q < d
      · have HC : Hid (cnt s (f + q) (f + d) = 1 + cnt s (f + (q + (Utf8.decode s (f + q)).2)) (f + d)) := by
          rw [← Nat.add_assoc]
          exact cnt_go s (f + q) (f + d) (by omega)
        go_wp2_with fail
        go_roundw
        case rel => exact ⟨q + (Utf8.decode s (f + q)).2, n + 1, rfl, by omega, by go_num, by rw [← HN.out, HC.out]; omega⟩
        case measure => rw [World.iterPos_iter, World.iterPos_iter]; omega
      · go_wp2_with fail
        go_ret
        exact ⟨ret_int (by rw [← HN.out, cnt_out s (f + q) (f + d) (by omega)]; rfl), below_iter0 _ _ _⟩
    · have hnx : ∀ ty, (Instr.next (.pointer (some ⟨w.heap.size, 0, none⟩)) true ty).run Try.prog (w.iter r q) = _ := fun ty => run_next_end w r q ty (by omega)
      go_wp2_with fail
      go_ret
      exact ⟨ret_int (by rw [← HN.out, cnt_out s (f + q) (f + d) (by omega)]; rfl), below_iter0 _ _ _⟩

/-- What leastBehind answers. -/
def lbV (s : ByteArray) (f e c : Nat) : Int × Bool := if c = 0 then (0, true) else match leastB s e f c with
  | some j => ((j : Int) - (f : Int), true)
  | none => (0, false)
theorem leastB_go (s : ByteArray) (e p c : Nat) (hp : p < e) : leastB s e p (c + 2) = leastB s e (p + wd s p) (c + 1) := by
  conv => lhs; unfold leastB
  rw [if_pos hp, if_neg (by omega)]
theorem leastB_one (s : ByteArray) (e p : Nat) (hp : p < e) : leastB s e p 1 = some (p + 1) := by
  unfold leastB
  rw [if_pos hp, if_pos rfl]
theorem leastB_out (s : ByteArray) (e p c : Nat) (hp : e ≤ p) : leastB s e p c = none := by
  cases c with
  | zero => rfl
  | succ c => unfold leastB; rw [if_neg (by omega)]
theorem ret_ib {a c : Int} {b d : Bool} (h : a = c) (k : b = d) : Ending.returned (.tuple #[.int .i64 a, .bool b]) = .returned (.tuple #[.int .i64 c, .bool d]) := by rw [h, k]

set_option maxHeartbeats 400000 in
theorem least_at (s : ByteArray) (f e c : Nat) (hF : Fit s e) (hfe : f ≤ e) (hc : c ≤ maxLen) (hs : s.size ≤ 200000) (w : World) :
    Calls Try.prog 31 #[.string (s.extract f e), .int .i64 c] w fun en w' => en = .returned (.tuple #[.int .i64 (lbV s f e c).1, .bool (lbV s f e c).2]) ∧ Below w.heap.size w w' := by
  have hz := cut_size s f e hF.1
  have he := hF.1
  unfold maxLen at hc
  have HD : Hid (∀ q, f + q < e → Utf8.decode (s.extract f e) q = Utf8.decode s (f + q)) := fun q hq => dec_line s f e q hF hq
  generalize s.extract f e = r at *
  by_cases h0 : c = 0
  · subst h0
    go_enter Try.func31, Try.ntmps31
    go_wp2_with fail
    go_ret2
    exact ⟨rfl, Below.refl _ _⟩
  · have H0 := Lib.hid h0
    clear h0
    have c0 : ((c : Int) == 0) = false := by have := H0.out; simp; omega
    go_enter Try.func31, Try.ntmps31
    go_wp2_with fail
    go_loopw [6] (fun v wr => ∃ q n : Nat, wr = w.iter r q ∧ f + q ≤ e ∧ v = .int .i64 n ∧ n < c ∧ n ≤ q ∧ leastB s e (f + q) (c - n) = leastB s e f c) (fun _ wr => s.size - wr.iterPos w.heap.size)
    case atStart => exact ⟨0, 0, rfl, by omega, rfl, by have := H0.out; omega, by omega, rfl⟩
    case round =>
      obtain ⟨q, n, rfl, hq, rfl, hnc, hnq, hn⟩ := hrel
      have HN := Lib.hid hn
      clear hn
      by_cases hlt : f + q < e
      · have hnx : ∀ ty, (Instr.next (.pointer (some ⟨w.heap.size, 0, none⟩)) true ty).run Try.prog (w.iter r q) = _ := fun ty => run_next_any w r q ty (by omega)
        rw [HD.out q hlt] at hnx
        have hw := dec_bd r q (by omega)
        rw [HD.out q hlt] at hw
        obtain ⟨hw1, hw2, hw3, -⟩ := hw
        by_cases hl : n + 1 = c
        · have HX : Hid (lbV s f e c = ((q : Int) + 1, true)) := by
            have h1 : leastB s e f c = some (f + q + 1) := by
              rw [← HN.out, show c - n = 1 from by omega]
              exact leastB_one s e (f + q) hlt
            show lbV s f e c = ((q : Int) + 1, true)
            unfold lbV
            rw [if_neg H0.out, h1]
            show ((f + q + 1 : Nat) - (f : Int), true) = _
            rw [show (((f + q + 1 : Nat) : Int) - (f : Int)) = (q : Int) + 1 from by omega]
          have t1 : ((n : Int) + 1 == (c : Int)) = true := by simp; omega
          clear hl
          go_wp2_with fail
          go_ret2
          rw [HX.out]
          exact ⟨rfl, below_iter0 _ _ _⟩
        · have t1 : ((n : Int) + 1 == (c : Int)) = false := by simp; omega
          have HX : Hid (leastB s e (f + (q + (Utf8.decode s (f + q)).2)) (c - (n + 1)) = leastB s e f c) := by
            rw [← HN.out, show c - n = (c - n - 2) + 2 from by omega, leastB_go s e (f + q) _ hlt, ← Nat.add_assoc, show c - (n + 1) = c - n - 2 + 1 from by omega]
            rfl
          have hl' : n + 1 < c := by omega
          clear hl
          go_wp2_with fail
          go_roundw
          case rel => exact ⟨q + (Utf8.decode s (f + q)).2, n + 1, rfl, by omega, by go_num, by omega, by omega, HX.out⟩
          case measure => rw [World.iterPos_iter, World.iterPos_iter]; omega
      · have hnx : ∀ ty, (Instr.next (.pointer (some ⟨w.heap.size, 0, none⟩)) true ty).run Try.prog (w.iter r q) = _ := fun ty => run_next_end w r q ty (by omega)
        have HX : Hid (lbV s f e c = (0, false)) := by
          have h1 : leastB s e f c = none := by
            rw [← HN.out]
            exact leastB_out s e (f + q) _ (by omega)
          show lbV s f e c = (0, false)
          unfold lbV
          rw [if_neg H0.out, h1]
        go_wp2_with fail
        go_ret2
        rw [HX.out]
        exact ⟨rfl, below_iter0 _ _ _⟩
end Go.Proofs.Ytinbdangpehkaaa
