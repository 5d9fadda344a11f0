/-
  PROVED: contract of the document's own Lines: it answers a slice that owns the lines of the text. Conditions: the text has at most 200000 bytes.
-/
import Derived.Test.YtinbdangpehkaaaLines
namespace Go.Proofs.Ytinbdangpehkaaa
open Go.ChangeShapes Go.WideShapes Go.ChangeAt Go.RowKit
set_option linter.unusedVariables false

theorem own_empty (w : World) (base e size : Nat) (hb : base ≤ w.heap.size) : (w.alloc (.cells #[] e)).ownsRow base e size (.slice (some ⟨w.heap.size, 0, none⟩) 0 0) 0 [] := by
  refine ⟨by simp, Or.inr ⟨w.heap.size, 0, #[], rfl, hb, heap_alloc_new w _, Nat.le_refl _, Nat.zero_le _, by simp, by simp⟩⟩

theorem news3 (w : World) (a b c : Value) : ∀ j u, [a, b, c][j]? = some u → (w.alloc (.cells #[a, b, c] 28)).cell? ((⟨w.heap.size, 0, none⟩ : Addr).add j) = some u := by
  intro j u hj
  match j, hj with
  | 0, hj => simp at hj; subst hj; simp [Addr.add]
  | 1, hj => simp at hj; subst hj; simp [Addr.add]
  | 2, hj => simp at hj; subst hj; simp [Addr.add]
theorem one3 (a b c : Int) : ∀ u ∈ [Value.int .i64 a, .int .i64 b, .int .i64 c], u.oneCell' = true := by
  intro u hu
  simp at hu
  rcases hu with rfl | rfl | rfl <;> rfl

/-- What one round of the document's Lines has made behind its append. -/
theorem refRound {s : ByteArray} {w wr w2 : World} {v v' : Value} {p : Nat} {L : List (Nat × Nat × Nat)} {o : Obj} {E : Int} (hlt : p < s.size) (hL : L ++ linesF s p = linesF s 0)
    (hown : wr.ownsRow w.heap.size 28 3 v L.length (lcells L)) (hB : Below w.heap.size w wr) (hE : E = lineEnd s p)
    (ho : w2.ownsRow w.heap.size 28 3 v' (L.length + 1) (lcells L ++ [.int .i64 p, .int .i64 (lineTo s p), .int .i64 E])) (hgrow : (wr.alloc o).grownBy w2 v.ownBlock) :
    LRel s w v' (.int .i64 E) w2 := by
  subst hE
  have hge := own_block_ge hown
  refine ⟨lineEnd s p, L ++ [(p, lineTo s p, lineEnd s p)], lineEnd_le s p (by omega), rfl, ?_, ?_, ?_⟩
  · rw [← hL, linesF_go s p hlt, List.append_assoc]; rfl
  · rw [← lcells_snoc, List.length_append]; exact ho
  · exact (hB.alloc hB.size _).grown hgrow (by have := hB.size; simp; omega) (fun k hk => (hge k hk).1)

set_option maxHeartbeats 4000000 in
theorem refLines_any (s : ByteArray) (hs : s.size ≤ 200000) (w : World) :
    Calls Try.prog 16 #[.string s] w (LinesPost s w) := by
  obtain ⟨i0, hi, hz0, hz1, hz2⟩ := info_parts Try.info28
  have hs' : s.size ≤ maxLen := by unfold maxLen; omega
  go_enter Try.func16, Try.ntmps16
  go_wp2_with fail
  go_loopw [3, 4] (fun v i wr => LRel s w v i wr) (fun _ i _ => s.size - (intOf i).toNat)
  case atStart => exact ⟨0, [], Nat.zero_le _, rfl, rfl, own_empty _ _ _ _ (Nat.le_refl _), (Below.refl _ _).alloc (Nat.le_refl _) _⟩
  case round =>
    obtain ⟨p, L, hp, rfl, hL, hown, hB⟩ := hrel
    have HL := Lib.hid hL
    have hlen : L.length ≤ 200000 := by
      have h1 := congrArg List.length hL
      have h2 := linesF_len s s.size 0 (by omega)
      rw [List.length_append] at h1
      omega
    clear hL
    by_cases hlt : p < s.size
    · have hle := lineEnd_le s p hp
      have hgt := lineEnd_gt s p hlt
      have hBz := hB.size
      go_wp2_with fail
      go_loop [5] (fun v => ∃ q : Nat, p ≤ q ∧ q ≤ s.size ∧ v = .int .i64 q ∧ lineTo s q = lineTo s p) (fun v => s.size - (intOf v).toNat)
      case atStart => exact ⟨p, Nat.le_refl _, hp, rfl, rfl⟩
      case round =>
        obtain ⟨q, hq1, hq2, rfl, hl⟩ := hrel
        have HQL := Lib.hid hl
        clear hl
        by_cases hgo : q < s.size ∧ bt s q ≠ 13 ∧ bt s q ≠ 10
        · obtain ⟨hql, g1, g2⟩ := hgo
          have HN := Lib.hid (lineTo_go s q hql (by omega))
          rw [bt_at s q hql] at g1 g2
          have hn := (s[q]'hql).toNat_lt
          have c1 : (((s[q]'hql).toNat : Int) != 13) = true := by simp; omega
          have c2 : (((s[q]'hql).toNat : Int) != 10) = true := by simp; omega
          clear g1 g2
          go_wp2_with fail
          go_round
          case rel => exact ⟨q + 1, by omega, by omega, by go_num, HN.out.symm.trans HQL.out⟩
          case measure => simp [intOf]; omega
        · have hq : q = lineTo s p := by
            rw [← HQL.out]
            by_cases hql : q < s.size
            · exact (lineTo_stop s q (by omega)).symm
            · exact (lineTo_out s q (by omega)).symm
          clear HQL
          have HE : Hid (lineEnd s p = q + endLen s q) := show lineEnd s p = q + endLen s q from by rw [hq]; rfl
          have HQ := Lib.hid hq
          clear hq
          by_cases hql : q < s.size
          · have hn := (s[q]'hql).toNat_lt
            have hbt := bt_at s q hql
            by_cases h10 : bt s q = 10
            · have HEL : Hid (endLen s q = 1) := show endLen s q = 1 from by unfold endLen; rw [if_pos hql, if_neg (by omega)]
              have c1 : (((s[q]'hql).toNat : Int) != 10) = false := by simp; omega
              have c2 : (((s[q]'hql).toNat : Int) == 13) = false := by simp; omega
              have HG : Hid (q + 1 ≤ s.size) := hql
              clear h10 hbt hgo
              go_wp2_with (at_builtin; refine wpList_append_own _ rfl _ _ 24 rfl w.heap.size 28 i0 (.agg #[.int .i64 0, .int .i64 0, .int .i64 0]) 3 24 Try.underlying24 hi hz0 hz1 hz2 rfl (by decide) _ _ _ rfl (hown.alloc _) ⟨wr.heap.size, 0, none⟩ 1 1 [.int .i64 p, .int .i64 q, .int .i64 ((q : Int) + 1)] rfl rfl (news3 _ _ _ _) (one3 _ _ _) (by unfold maxLen; omega) (by omega) (by simp; omega) ?_)
              intro v' w2 hown' hgrow _
              have HR : Hid (LRel s w v' (.int .i64 ((q : Int) + 1)) w2) := refRound hlt HL.out hown hB (by rw [HE.out]; rw [HEL.out]; omega) (by rw [← HQ.out]; exact hown') hgrow
              clear hown' hgrow hown
              go_wp2_with fail
              go_roundw
              case rel => exact HR.out
              case measure => have := HE.out; simp [intOf]; omega
            · have h13 : bt s q = 13 := by omega
              have c1 : (((s[q]'hql).toNat : Int) != 10) = true := by simp; omega
              have c2 : (((s[q]'hql).toNat : Int) != 13) = false := by simp; omega
              have c3 : (((s[q]'hql).toNat : Int) == 13) = true := by simp; omega
              by_cases hq2l : q + 1 < s.size
              · have hn2 := (s[q + 1]'hq2l).toNat_lt
                have hbt2 := bt_at s (q + 1) hq2l
                by_cases h10' : bt s (q + 1) = 10
                · have HEL : Hid (endLen s q = 2) := show endLen s q = 2 from by unfold endLen; rw [if_pos hql, if_pos ⟨h13, hq2l, h10'⟩]
                  have c4 : (((s[q + 1]'hq2l).toNat : Int) == 10) = true := by simp; omega
                  clear h10 hbt hgo h13 h10' hbt2
                  go_wp2_with (at_builtin; refine wpList_append_own _ rfl _ _ 24 rfl w.heap.size 28 i0 (.agg #[.int .i64 0, .int .i64 0, .int .i64 0]) 3 24 Try.underlying24 hi hz0 hz1 hz2 rfl (by decide) _ _ _ rfl (hown.alloc _) ⟨wr.heap.size, 0, none⟩ 1 1 [.int .i64 p, .int .i64 q, .int .i64 ((q : Int) + 1 + 1)] rfl rfl (news3 _ _ _ _) (one3 _ _ _) (by unfold maxLen; omega) (by omega) (by simp; omega) ?_)
                  intro v' w2 hown' hgrow _
                  have HR : Hid (LRel s w v' (.int .i64 ((q : Int) + 1 + 1)) w2) := refRound hlt HL.out hown hB (by rw [HE.out]; rw [HEL.out]; omega) (by rw [← HQ.out]; exact hown') hgrow
                  clear hown' hgrow hown
                  go_wp2_with fail
                  go_roundw
                  case rel => exact HR.out
                  case measure => have := HE.out; simp [intOf]; omega
                · have HEL : Hid (endLen s q = 1) := show endLen s q = 1 from by unfold endLen; rw [if_pos hql, if_neg (by omega)]
                  have c4 : (((s[q + 1]'hq2l).toNat : Int) == 10) = false := by simp; omega
                  clear h10 hbt hgo h13 h10' hbt2
                  go_wp2_with (at_builtin; refine wpList_append_own _ rfl _ _ 24 rfl w.heap.size 28 i0 (.agg #[.int .i64 0, .int .i64 0, .int .i64 0]) 3 24 Try.underlying24 hi hz0 hz1 hz2 rfl (by decide) _ _ _ rfl (hown.alloc _) ⟨wr.heap.size, 0, none⟩ 1 1 [.int .i64 p, .int .i64 q, .int .i64 ((q : Int) + 1)] rfl rfl (news3 _ _ _ _) (one3 _ _ _) (by unfold maxLen; omega) (by omega) (by simp; omega) ?_)
                  intro v' w2 hown' hgrow _
                  have HR : Hid (LRel s w v' (.int .i64 ((q : Int) + 1)) w2) := refRound hlt HL.out hown hB (by rw [HE.out]; rw [HEL.out]; omega) (by rw [← HQ.out]; exact hown') hgrow
                  clear hown' hgrow hown
                  go_wp2_with fail
                  go_roundw
                  case rel => exact HR.out
                  case measure => have := HE.out; simp [intOf]; omega
              · have HEL : Hid (endLen s q = 1) := show endLen s q = 1 from by unfold endLen; rw [if_pos hql, if_neg (by omega)]
                clear h10 hbt hgo h13
                go_wp2_with (at_builtin; refine wpList_append_own _ rfl _ _ 24 rfl w.heap.size 28 i0 (.agg #[.int .i64 0, .int .i64 0, .int .i64 0]) 3 24 Try.underlying24 hi hz0 hz1 hz2 rfl (by decide) _ _ _ rfl (hown.alloc _) ⟨wr.heap.size, 0, none⟩ 1 1 [.int .i64 p, .int .i64 q, .int .i64 ((q : Int) + 1)] rfl rfl (news3 _ _ _ _) (one3 _ _ _) (by unfold maxLen; omega) (by omega) (by simp; omega) ?_)
                intro v' w2 hown' hgrow _
                have HR : Hid (LRel s w v' (.int .i64 ((q : Int) + 1)) w2) := refRound hlt HL.out hown hB (by rw [HE.out]; rw [HEL.out]; omega) (by rw [← HQ.out]; exact hown') hgrow
                clear hown' hgrow hown
                go_wp2_with fail
                go_roundw
                case rel => exact HR.out
                case measure => have := HE.out; simp [intOf]; omega
          · have HEL : Hid (endLen s q = 0) := show endLen s q = 0 from by unfold endLen; rw [if_neg hql]
            clear hgo
            go_wp2_with (at_builtin; refine wpList_append_own _ rfl _ _ 24 rfl w.heap.size 28 i0 (.agg #[.int .i64 0, .int .i64 0, .int .i64 0]) 3 24 Try.underlying24 hi hz0 hz1 hz2 rfl (by decide) _ _ _ rfl (hown.alloc _) ⟨wr.heap.size, 0, none⟩ 1 1 [.int .i64 p, .int .i64 q, .int .i64 (q : Int)] rfl rfl (news3 _ _ _ _) (one3 _ _ _) (by unfold maxLen; omega) (by omega) (by simp; omega) ?_)
            intro v' w2 hown' hgrow _
            have HR : Hid (LRel s w v' (.int .i64 (q : Int)) w2) := refRound hlt HL.out hown hB (by rw [HE.out]; rw [HEL.out]; omega) (by rw [← HQ.out]; exact hown') hgrow
            clear hown' hgrow hown
            go_wp2_with fail
            go_roundw
            case rel => exact HR.out
            case measure => have := HE.out; simp [intOf]; omega
    · go_wp2_with fail
      go_ret
      refine ⟨_, rfl, ?_, hB⟩
      have h1 := HL.out
      rw [linesF_out s p (by omega), List.append_nil] at h1
      rw [← h1]
      exact hown
end Go.Proofs.Ytinbdangpehkaaa
