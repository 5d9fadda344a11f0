/-
  PROVED: contracts of runs.leans, told, length, ahead and behind. Conditions: the text has at most 1000000 bytes.
-/
import Derived.Test.YthglejhhfnpdaaaRowPure
namespace Go.Proofs.Ythglejhhfnpdaaa
open Go.ChangeShapes Go.WideShapes Go.ChangeAt Go.RowKit Go.Sort
set_option linter.unusedVariables false

/-- Block g holds just these cells, none of them frozen. -/
def Holds (w : World) (g : Nat) (t : TypeId) (cs : Array Value) : Prop := w.heap[g]? = some (.cells cs t (0, 0))
theorem Holds.lt {w : World} {g : Nat} {t : TypeId} {cs : Array Value} (h : Holds w g t cs) : g < w.heap.size := (Array.getElem?_eq_some_iff.1 h).1
theorem Holds.at {w : World} {g : Nat} {t : TypeId} {cs : Array Value} (h : Holds w g t cs) (i : Nat) : w.cell? ⟨g, i, none⟩ = cs[i]? := cell_of_row w g i cs t (0, 0) h
theorem Holds.soft {w : World} {g : Nat} {t : TypeId} {cs : Array Value} (h : Holds w g t cs) (i : Nat) : w.frozen? ⟨g, i, none⟩ = false := by
  unfold Holds at h
  simp [World.frozen?, h]
theorem Holds.under {w w' : World} {g B : Nat} {t : TypeId} {cs : Array Value} (h : Holds w g t cs) (hb : Below B w w') (hg : g < B) : Holds w' g t cs := (hb.block g hg).trans h
theorem Holds.set {w : World} {g : Nat} {t : TypeId} {cs : Array Value} (h : Holds w g t cs) (i : Nat) (u : Value) : Holds (w.setCell ⟨g, i, none⟩ u) g t (cs.setIfInBounds i u) := by
  unfold Holds at h ⊢
  simp [World.setCell, Array.getElem?_modify, h]
theorem Holds.past {w : World} {g : Nat} {t : TypeId} {cs : Array Value} (h : Holds w g t cs) {p : Addr} (hp : g ≠ p.block) (u : Value) : Holds (w.setCell p u) g t cs := (Below.heap_setCell w p u g hp).trans h
theorem Holds.made (w : World) (t : TypeId) (cs : Array Value) : Holds (w.alloc (.cells cs t)) w.heap.size t cs := heap_alloc_new w _

set_option maxHeartbeats 4000000 in
theorem leans_any (nb nm fb fm : Bool) (w : World) : Calls Try.prog 13 #[.agg #[.bool nb, .bool nm], .agg #[.bool fb, .bool fm]] w (Grows (.bool (leanB nb nm fb fm)) w) := by
  cases nb <;> cases nm <;> cases fb <;> cases fm
  all_goals
    go_enter Try.func13, Try.ntmps13
    go_wp2_with fail
    go_ret
    exact ⟨rfl, 0, _, by rw [alloc_eq_grow, alloc_eq_grow, grow_grow]; rfl⟩

set_option maxHeartbeats 4000000 in
theorem told_any (r : Int) (w : World) : Calls Try.prog 18 #[.int .i64 r] w fun e w' => e = .returned (.agg #[.bool (isBlank r), .bool (isMark r)]) ∧ Below w.heap.size w w' := by
  have HB : Hid (∀ W, Calls Try.prog 22 #[.int .i64 r] W fun e w' => e = .returned (.bool (isBlank r)) ∧ Below W.heap.size W w') := fun W => (blank_any r W).mono fun e w' h => h.below
  have HM : Hid (∀ W, Calls Try.prog 23 #[.int .i64 r] W fun e w' => e = .returned (.bool (isMark r)) ∧ Below W.heap.size W w') := fun W => (mark_any r W).mono fun e w' h => h.below
  generalize isBlank r = x at *
  generalize isMark r = y at *
  go_enter Try.func18, Try.ntmps18
  go_wp2_with fail
  refine (HB.out _).mono ?_
  rintro e w1 ⟨rfl, hb⟩
  have R1 : Hid (Holds w1 w.heap.size 32 #[.bool false, .bool false]) := Holds.under (Holds.made w 32 _) hb (by simp)
  have B1 : Hid (Below w.heap.size w w1) := ((Below.refl _ _).alloc (Nat.le_refl _) _).trans (hb.mono (by simp))
  clear hb
  go_wp2_with fail
  refine (HM.out _).mono ?_
  rintro e w2 ⟨rfl, hb⟩
  have R2 : Hid (Holds w2 w.heap.size 32 #[.bool false, .bool false]) := R1.out.under hb R1.out.lt
  have B2 : Hid (Below w.heap.size w w2) := chain (Nat.le_refl _) B1.out hb
  have z2 := R2.out.lt
  clear hb R1 B1
  have x0 : w2.cell? ⟨w.heap.size, 0, none⟩ = _ := R2.out.at 0
  have x1 : w2.cell? ⟨w.heap.size, 1, none⟩ = _ := R2.out.at 1
  have v0 : w2.frozen? ⟨w.heap.size, 0, none⟩ = false := R2.out.soft 0
  have v1 : w2.frozen? ⟨w.heap.size, 1, none⟩ = false := R2.out.soft 1
  go_wp2_with fail
  exact bodyPost_ret (v := .agg #[.bool x, .bool y]) (by simp [results, Try.results18, go_sem, x0, x1]) rfl ⟨rfl, (B2.out.setCell (by exact Nat.le_refl _) _).setCell (by exact Nat.le_refl _) _⟩
set_option maxHeartbeats 4000000 in
theorem length_no (s : ByteArray) (a : Int) (hs : s.size ≤ 1000000) (h : ¬ isRow s a) (w : World) : Calls Try.prog 10 #[.string s, .int .i64 a] w fun e w' => e = .returned (.int .i64 0) ∧ Below w.heap.size w w' := by
  by_cases h0 : a < 0
  · have b1 : decide (a < 0) = true := by simpa using h0
    go_enter Try.func10, Try.ntmps10
    go_wp2_with fail
    go_ret
    exact ⟨rfl, Below.refl _ _⟩
  · obtain ⟨p, rfl⟩ : ∃ p : Nat, a = p := ⟨a.toNat, by omega⟩
    by_cases hp : p < s.size
    · have hk : s[p]'hp ≠ 42 ∧ s[p]'hp ≠ 95 := ⟨fun e => h ⟨p, hp, rfl, Or.inl e⟩, fun e => h ⟨p, hp, rfl, Or.inr e⟩⟩
      have e1 : (((s[p]'hp).toNat : Int) == 42) = false := ne_u8 _ 42 hk.1
      have e2 : (((s[p]'hp).toNat : Int) == 95) = false := ne_u8 _ 95 hk.2
      have e3 : (((s[p]'hp).toNat : Int) != 42) = true := by rw [bne, e1]; rfl
      have e4 : (((s[p]'hp).toNat : Int) != 95) = true := by rw [bne, e2]; rfl
      clear h hk
      go_enter Try.func10, Try.ntmps10
      go_wp2_with fail
      go_ret
      exact ⟨rfl, Below.refl _ _⟩
    · clear h
      have b2 : decide (s.size ≤ p) = true := by simpa using hp
      go_enter Try.func10, Try.ntmps10
      go_wp2_with fail
      go_ret
      exact ⟨rfl, Below.refl _ _⟩
/-- What the loop of length goes by. -/
def LRel (s : ByteArray) (c : UInt8) (p : Nat) (w : World) (v : Value) (wr : World) : Prop :=
  ∃ k : Nat, v = .int .i64 k ∧ p + k ≤ s.size ∧ rowTo s c (p + k) = rowTo s c p ∧ Below w.heap.size w wr
set_option maxHeartbeats 4000000 in
theorem length_yes (s : ByteArray) (p : Nat) (c : UInt8) (hs : s.size ≤ 1000000) (hp : p < s.size) (hc : s[p]'hp = c) (hk : c = 42 ∨ c = 95) (w : World) : Calls Try.prog 10 #[.string s, .int .i64 p] w fun e w' => e = .returned (.int .i64 (rowTo s c p - p : Nat)) ∧ Below w.heap.size w w' := by
  have hst := rowTo_step s c p hp hc
  have HC := Lib.hid hc
  have e1 : (((s[p]'hp).toNat : Int) != 42) = true ∧ (((s[p]'hp).toNat : Int) != 95) = false ∨ (((s[p]'hp).toNat : Int) != 42) = false := by
    rw [hc]; rcases hk with rfl | rfl
    · exact Or.inr rfl
    · exact Or.inl ⟨rfl, rfl⟩
  have HS := Lib.hid hst
  clear hst hc hk
  rcases e1 with ⟨e1, e2⟩ | e1
  all_goals
    go_enter Try.func10, Try.ntmps10
    go_wp2_with fail
    go_loopw [5] (fun v wr => LRel s c p w v wr) (fun v _ => s.size - (intOf v).toNat)
    case atStart => exact ⟨1, rfl, by omega, HS.out, Below.refl _ _⟩
    case round =>
      obtain ⟨k, rfl, hk, hr, hb⟩ := hrel
      have HR := Lib.hid hr
      clear hr
      have HB := Lib.hid hb
      clear hb
      by_cases hlt : p + k < s.size
      · by_cases he : (s[p + k]'hlt) = (s[p]'hp)
        · have c1 := eq_u8 _ _ he
          have d1 : decide (p + k < s.size) = true := by simpa using hlt
          have d2 : decide ((p : Int) + k < s.size) = true := by simp; omega
          have z0 : (0 : Int) ≤ (p : Int) + k := by omega
          have z1 : (p : Int) + k < s.size := by omega
          have HN := Lib.hid (rowTo_step s c (p + k) hlt (he.trans HC.out))
          clear he
          go_wp2_with fail
          go_quiet (fail)
          go_wp2_with fail
          go_roundw
          case rel => exact ⟨k + 1, by go_num, by omega, HN.out.trans HR.out, below_dr HB.out _⟩
          case measure => simp [intOf]; omega
        · have c1 := ne_u8 _ _ he
          have d1 : decide (p + k < s.size) = true := by simpa using hlt
          have d2 : decide ((p : Int) + k < s.size) = true := by simp; omega
          have z0 : (0 : Int) ≤ (p : Int) + k := by omega
          have z1 : (p : Int) + k < s.size := by omega
          have HN := Lib.hid (rowTo_stop s c (p + k) (fun h e => he (e.trans HC.out.symm)))
          clear he
          go_wp2_with fail
          go_quiet (fail)
          go_wp2_with fail
          go_ret
          exact ⟨ret_int (by have := HN.out.symm.trans HR.out; omega), below_dr HB.out _⟩
      · have HN := Lib.hid (rowTo_stop s c (p + k) (fun h => absurd h hlt))
        have b3 : decide (p + k < s.size) = false := by simpa using hlt
        have d2 : decide ((p : Int) + k < s.size) = false := by simp; omega
        go_wp2_with fail
        go_quiet (fail)
        go_wp2_with fail
        go_ret
        exact ⟨ret_int (by have := HN.out.symm.trans HR.out; omega), below_dr HB.out _⟩

theorem ah_zero (s : ByteArray) : ahV s 0 = 32 := rfl
theorem bh_end (s : ByteArray) (p : Nat) (h : s.size ≤ p) : bhV s p = 32 := if_pos h
set_option maxHeartbeats 4000000 in
theorem ahead_any (s : ByteArray) (p : Nat) (hs : s.size ≤ 1000000) (hp : p ≤ s.size) (w : World) : Calls Try.prog 11 #[.string s, .int .i64 p] w fun e w' => e = .returned (.agg #[.bool (isBlank (ahV s p)), .bool (isMark (ahV s p))]) ∧ Below w.heap.size w w' := by
  by_cases h0 : p = 0
  · subst h0
    rw [ah_zero, blank_32, mark_32]
    go_enter Try.func11, Try.ntmps11
    go_wp2_with fail
    exact bodyPost_ret (v := .agg #[.bool true, .bool false]) (by simp [results, Try.results11, go_sem]) rfl ⟨rfl, (Below.refl _ _).alloc (Nat.le_refl _) _⟩
  · have HA : Hid (∀ W, Calls Try.prog 19 #[.string s, .int .i64 p] W fun e w' => e = .returned (.int .i64 (ahV s p)) ∧ Below W.heap.size W w') := fun W => by
      rw [show ahV s p = beforeV s p from if_neg h0]
      exact before_any s p (by unfold maxLen; omega) W
    have HT := Lib.hid (told_any (ahV s p))
    have hv := ahV_bd s p
    have c0 : ((p : Int) == 0) = false := by rw [beq_eq_false_iff_ne]; omega
    generalize isBlank (ahV s p) = x at *
    generalize isMark (ahV s p) = y at *
    generalize ahV s p = r at *
    go_enter Try.func11, Try.ntmps11
    go_wp2_with fail
    refine (HA.out _).mono ?_
    rintro e w1 ⟨rfl, hb⟩
    have R1 : Hid (Holds w1 w.heap.size 32 #[.bool false, .bool false]) := Holds.under (Holds.made w 32 _) hb (by simp)
    have B1 : Hid (Below w.heap.size w w1) := ((Below.refl _ _).alloc (Nat.le_refl _) _).trans (hb.mono (by simp))
    clear hb
    go_wp2_with fail
    refine (HT.out _).mono ?_
    rintro e w2 ⟨rfl, hb⟩
    have R2 : Hid (Holds w2 w.heap.size 32 #[.bool false, .bool false]) := R1.out.under hb R1.out.lt
    have B2 : Hid (Below w.heap.size w w2) := chain (Nat.le_refl _) B1.out hb
    clear hb R1 B1
    have x0 : w2.cell? ⟨w.heap.size, 0, none⟩ = _ := R2.out.at 0
    have x1 : w2.cell? ⟨w.heap.size, 1, none⟩ = _ := R2.out.at 1
    have v0 : w2.frozen? ⟨w.heap.size, 0, none⟩ = false := R2.out.soft 0
    have v1 : w2.frozen? ⟨w.heap.size, 1, none⟩ = false := R2.out.soft 1
    go_wp2_with fail
    exact bodyPost_ret (v := .agg #[.bool x, .bool y]) (by simp [results, Try.results11, go_sem, x0, x1]) rfl ⟨rfl, (B2.out.setCell (by exact Nat.le_refl _) _).setCell (by exact Nat.le_refl _) _⟩
set_option maxHeartbeats 4000000 in
theorem behind_any (s : ByteArray) (p : Nat) (hs : s.size ≤ 1000000) (hp : p ≤ s.size) (w : World) : Calls Try.prog 12 #[.string s, .int .i64 p] w fun e w' => e = .returned (.agg #[.bool (isBlank (bhV s p)), .bool (isMark (bhV s p))]) ∧ Below w.heap.size w w' := by
  by_cases h0 : s.size ≤ p
  · have e : p = s.size := by omega
    subst e
    rw [bh_end s _ (Nat.le_refl _), blank_32, mark_32]
    have c0 : (((s.size : Nat) : Int) == (s.size : Int)) = true := by simp
    go_enter Try.func12, Try.ntmps12
    go_wp2_with fail
    exact bodyPost_ret (v := .agg #[.bool true, .bool false]) (by simp [results, Try.results12, go_sem]) rfl ⟨rfl, (Below.refl _ _).alloc (Nat.le_refl _) _⟩
  · have HA : Hid (∀ W, Calls Try.prog 20 #[.string s, .int .i64 p] W fun e w' => e = .returned (.tuple #[.int .i64 (bhV s p), .int .i64 (runeN s p)]) ∧ Below W.heap.size W w') := fun W => by
      rw [show bhV s p = runeV s p from if_neg h0]
      exact rune_any s p (by unfold maxLen; omega) W
    have HT := Lib.hid (told_any (bhV s p))
    have hv := bhV_bd s p
    have hn := runeN_bd s p
    have c0 : ((p : Int) == (s.size : Int)) = false := by rw [beq_eq_false_iff_ne]; omega
    generalize isBlank (bhV s p) = x at *
    generalize isMark (bhV s p) = y at *
    generalize bhV s p = r at *
    generalize runeN s p = n at *
    go_enter Try.func12, Try.ntmps12
    go_wp2_with fail
    refine (HA.out _).mono ?_
    rintro e w1 ⟨rfl, hb⟩
    have R1 : Hid (Holds w1 w.heap.size 32 #[.bool false, .bool false]) := Holds.under (Holds.made w 32 _) hb (by simp)
    have B1 : Hid (Below w.heap.size w w1) := ((Below.refl _ _).alloc (Nat.le_refl _) _).trans (hb.mono (by simp))
    clear hb
    go_wp2_with fail
    refine (HT.out _).mono ?_
    rintro e w2 ⟨rfl, hb⟩
    have R2 : Hid (Holds w2 w.heap.size 32 #[.bool false, .bool false]) := R1.out.under hb R1.out.lt
    have B2 : Hid (Below w.heap.size w w2) := chain (Nat.le_refl _) B1.out hb
    clear hb R1 B1
    have x0 : w2.cell? ⟨w.heap.size, 0, none⟩ = _ := R2.out.at 0
    have x1 : w2.cell? ⟨w.heap.size, 1, none⟩ = _ := R2.out.at 1
    have v0 : w2.frozen? ⟨w.heap.size, 0, none⟩ = false := R2.out.soft 0
    have v1 : w2.frozen? ⟨w.heap.size, 1, none⟩ = false := R2.out.soft 1
    go_wp2_with fail
    exact bodyPost_ret (v := .agg #[.bool x, .bool y]) (by simp [results, Try.results12, go_sem, x0, x1]) rfl ⟨rfl, (B2.out.setCell (by exact Nat.le_refl _) _).setCell (by exact Nat.le_refl _) _⟩
end Go.Proofs.Ythglejhhfnpdaaa
