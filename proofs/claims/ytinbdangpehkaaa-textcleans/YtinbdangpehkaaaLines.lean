/-
  PROVED: contracts of text.Lines and of the document's own Lines: both answer a slice that owns the lines of the text. Conditions: the text has at most 200000 bytes.
-/
import Derived.Test.YtinbdangpehkaaaLine
namespace Go.Proofs.Ytinbdangpehkaaa
open Go.ChangeShapes Go.WideShapes Go.ChangeAt Go.RowKit
set_option linter.unusedVariables false

theorem Try.info28 : (Try.prog.info? 28).map (fun i => (i.zero, i.size, i.bytes)) = some (some (.agg #[.int .i64 0, .int .i64 0, .int .i64 0]), 3, 24) := by kernel_rfl

/-- A line's cells. -/
def lcell (l : Nat × Nat × Nat) : List Value := [.int .i64 l.1, .int .i64 l.2.1, .int .i64 l.2.2]
def lcells (L : List (Nat × Nat × Nat)) : List Value := L.flatMap lcell
theorem lcells_snoc (L : List (Nat × Nat × Nat)) (a b c : Nat) : lcells L ++ [.int .i64 a, .int .i64 b, .int .i64 c] = lcells (L ++ [(a, b, c)]) := by
  simp [lcells, lcell]
theorem own_below {w w' : World} {base e size n : Nat} {v : Value} {xs : List Value} (h : w.ownsRow base e size v n xs) (hb : Below w.heap.size w w') : w'.ownsRow base e size v n xs := by
  obtain ⟨h1, h2⟩ := h
  refine ⟨h1, ?_⟩
  rcases h2 with h2 | ⟨g, cap, cur, hv, hg, hh, r⟩
  · exact Or.inl h2
  · have hlt : g < w.heap.size := (Array.getElem?_eq_some_iff.1 hh).1
    exact Or.inr ⟨g, cap, cur, hv, hg, (hb.block g hlt).trans hh, r⟩
theorem own_block_ge {w : World} {base e size n : Nat} {v : Value} {xs : List Value} (h : w.ownsRow base e size v n xs) : ∀ g, v.ownBlock = some g → base ≤ g ∧ g < w.heap.size := by
  intro g hg
  rcases h.2 with ⟨rfl, _⟩ | ⟨g', cap, cur, rfl, hb, hh, r⟩
  · simp [Value.ownBlock] at hg
  · simp [Value.ownBlock] at hg
    subst hg
    exact ⟨hb, (Array.getElem?_eq_some_iff.1 hh).1⟩

/-- What a call of Lines leaves: a slice of new memory that holds the lines. -/
def LinesPost (s : ByteArray) (w : World) (e : Ending) (w' : World) : Prop :=
  ∃ v, e = .returned v ∧ w'.ownsRow w.heap.size 28 3 v (linesF s 0).length (lcells (linesF s 0)) ∧ Below w.heap.size w w'

/-- What the loop of text.Lines goes by. -/
def LRel (s : ByteArray) (w : World) (v i : Value) (wr : World) : Prop :=
  ∃ (p : Nat) (L : List (Nat × Nat × Nat)), p ≤ s.size ∧ i = .int .i64 p ∧ L ++ linesF s p = linesF s 0 ∧ wr.ownsRow w.heap.size 28 3 v L.length (lcells L) ∧ Below w.heap.size w wr

set_option maxHeartbeats 1000000 in
theorem lines_any (s : ByteArray) (hs : s.size ≤ 200000) (w : World) :
    Calls Try.prog 14 #[.string s] w (LinesPost s w) := by
  obtain ⟨i0, hi, hz0, hz1, hz2⟩ := info_parts Try.info28
  have hs' : s.size ≤ maxLen := by unfold maxLen; omega
  go_enter Try.func14, Try.ntmps14
  go_wp2_with fail
  go_loopw [3, 4] (fun v i wr => LRel s w v i wr) (fun _ i _ => s.size - (intOf i).toNat)
  case atStart => exact ⟨0, [], Nat.zero_le _, rfl, rfl, World.ownsRow_nil _ _ _ _, Below.refl _ _⟩
  case round =>
    obtain ⟨p, L, hp, rfl, hL, hown, hB⟩ := hrel
    have HL := Lib.hid hL
    have hlen : L.length ≤ 200000 := by
      have h1 := congrArg List.length hL
      have h2 := linesF_len s s.size 0 (by omega)
      rw [List.length_append] at h1
      omega
    clear hL
    by_cases hlt : p < s.size
    · have hle := lineEnd_le s p hp
      have hgt := lineEnd_gt s p hlt
      go_wp2_with fail
      refine (lineFrom_at s p hp hs' _).mono ?_
      rintro e w1 ⟨rfl, hb1⟩
      have hown1 := own_below hown hb1
      go_wp2_with (at_builtin; refine wpList_append_own _ rfl _ _ 24 rfl w.heap.size 28 i0 (.agg #[.int .i64 0, .int .i64 0, .int .i64 0]) 3 24 Try.underlying24 hi hz0 hz1 hz2 rfl (by decide) _ _ _ rfl ((hown1.alloc _).alloc _) ⟨w1.heap.size + 1, 0, none⟩ 1 1 [.int .i64 p, .int .i64 (lineTo s p), .int .i64 (lineEnd s p)] rfl rfl ?c1 ?c2 ?c3 ?c4 ?c5 ?_)
      case c1 =>
        intro j u hj
        match j, hj with
        | 0, hj => simp at hj; subst hj; simp [Addr.add]
        | 1, hj => simp at hj; subst hj; simp [Addr.add]
        | 2, hj => simp at hj; subst hj; simp [Addr.add]
      case c2 =>
        intro u hu
        simp at hu
        rcases hu with rfl | rfl | rfl <;> rfl
      case c3 => unfold maxLen; omega
      case c4 => omega
      case c5 => have := hB.size; have := hb1.size; simp; omega
      · intro v' w2 hown' hgrow _
        have hge := own_block_ge hown1
        have hcell : w2.cell? ⟨w1.heap.size, 2, none⟩ = some (.int .i64 (lineEnd s p)) := by
          rw [World.cell?_of_block (hgrow.block w1.heap.size (by simp; omega) (fun e => by have := hge _ e.symm; omega))]
          simp
        have hB2 : Below w.heap.size w w2 := ((((hB.trans (hb1.mono hB.size)).alloc (Nat.le_trans hB.size hb1.size) _).alloc (by have := hB.size; have := hb1.size; simp; omega) _).grown hgrow (by have := hB.size; have := hb1.size; simp; omega) (fun k hk => (hge k hk).1))
        have HO := Lib.hid hown'
        clear hown' hgrow hown hown1 hge
        go_wp2_with fail
        go_roundw
        case rel =>
          refine ⟨lineEnd s p, L ++ [(p, lineTo s p, lineEnd s p)], hle, rfl, ?_, ?_, hB2⟩
          · rw [← HL.out, linesF_go s p hlt, List.append_assoc]; rfl
          · rw [← lcells_snoc, List.length_append]; exact HO.out
        case measure => simp [intOf]; omega
    · go_wp2_with fail
      go_ret
      have e : p = s.size := by omega
      refine ⟨_, rfl, ?_, hB⟩
      have h1 := HL.out
      rw [linesF_out s p (by omega), List.append_nil] at h1
      rw [← h1]
      exact hown
end Go.Proofs.Ytinbdangpehkaaa
