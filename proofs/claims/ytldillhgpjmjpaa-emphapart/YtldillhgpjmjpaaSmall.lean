/-
  PROVED: contracts of the program's marks, search and fits, and of the document's fits. Conditions: as each says.
-/
import Derived.Test.YtldillhgpjmjpaaMem
namespace Go.Proofs.Ytldillhgpjmjpaa
open Go.ChangeShapes Go.WideShapes Go.ChangeAt Go.RowKit Go.Sort
set_option linter.unusedVariables false

abbrev wagg (r : Rw) (l : Nat) : Value := .agg #[.int .u8 r.m, .int .i64 r.n, .bool r.o, .bool r.c, .int .i64 l]
theorem num_bd (r : Rw) : num r ≤ 1048576 := by unfold num; split <;> omega

set_option maxHeartbeats 1000000 in
theorem marks_any (r : Rw) (w : World) : Calls Try.prog 20 #[ragg r] w fun e w' => e = .returned (.int .i64 (num r)) ∧ Below w.heap.size w w' := by
  obtain ⟨m, n, o, c⟩ := r
  by_cases h1 : n < 1
  · have HV : Hid (num ⟨m, n, o, c⟩ = 0) := by show _ = _; unfold num; rw [if_neg (by simp; omega)]
    generalize num ⟨m, n, o, c⟩ = v at HV ⊢
    go_enter Try.func20, Try.ntmps20
    go_wp2_with fail
    go_ret
    exact ⟨by rw [HV.out]; rfl, (Below.refl _ _).alloc (Nat.le_refl _) _⟩
  · by_cases h2 : 1048576 < n
    · have HV : Hid (num ⟨m, n, o, c⟩ = 0) := by show _ = _; unfold num; rw [if_neg (by simp; omega)]
      generalize num ⟨m, n, o, c⟩ = v at HV ⊢
      go_enter Try.func20, Try.ntmps20
      go_wp2_with fail
      go_ret
      exact ⟨by rw [HV.out]; rfl, (Below.refl _ _).alloc (Nat.le_refl _) _⟩
    · have HV : Hid ((num ⟨m, n, o, c⟩ : Int) = n) := by show _ = _; unfold num; rw [if_pos (by simp; omega)]; simp; omega
      generalize num ⟨m, n, o, c⟩ = v at HV ⊢
      go_enter Try.func20, Try.ntmps20
      go_wp2_with fail
      go_ret
      exact ⟨by rw [HV.out]; rfl, (Below.refl _ _).alloc (Nat.le_refl _) _⟩

/-- What a search hangs on. -/
abbrev skey (m r : Int) (o : Bool) : Value := .agg #[.int .u8 m, .int .i64 r, .bool o]
set_option maxHeartbeats 1000000 in
theorem search_any (m n : Int) (hn : 0 ≤ n) (o c : Bool) (l : Nat) (w : World) : Calls Try.prog 26 #[.agg #[.int .u8 m, .int .i64 n, .bool o, .bool c, .int .i64 l]] w fun e w' => e = .returned (skey m (n % 3) o) ∧ Below w.heap.size w w' := by
  have ht : n.tmod 3 = n % 3 := Int.tmod_eq_emod_of_nonneg hn
  go_enter Try.func26, Try.ntmps26
  go_wp2_with fail
  refine bodyPost_ret (v := skey m (n % 3) o) (by simp [results, Try.results26, go_sem]) rfl ⟨rfl, ?_⟩
  exact ((Below.refl w.heap.size w).alloc (Nat.le_refl _) _).alloc (by simp) _

set_option maxHeartbeats 2000000 in
theorem fits_any (c o : Rw) (lc lo : Nat) (h1 : 1 ≤ c.n) (h2 : c.n ≤ 1048576) (h3 : 1 ≤ o.n) (h4 : o.n ≤ 1048576) (w : World) :
    Calls Try.prog 28 #[wagg c lc, wagg o lo] w fun e w' => e = .returned (.bool (fit c o)) ∧ Below w.heap.size w w' := by
  obtain ⟨m, n, a, b⟩ := c
  obtain ⟨m', n', a', b'⟩ := o
  simp only at h1 h2 h3 h4
  have t1 : (n + n').tmod 3 = (n + n') % 3 := Int.tmod_eq_emod_of_nonneg (by omega)
  have t2 : n.tmod 3 = n % 3 := Int.tmod_eq_emod_of_nonneg (by omega)
  have hB : Hid (Below w.heap.size w ((w.alloc (.cells #[.int .u8 m, .int .i64 n, .bool a, .bool b, .int .i64 lc] 53)).alloc (.cells #[.int .u8 m', .int .i64 n', .bool a', .bool b', .int .i64 lo] 53))) := ((Below.refl w.heap.size w).alloc (Nat.le_refl _) _).alloc (by simp) _
  by_cases hm : m = m'
  · have q0 : ((m : Int) != m') = false := by simp [hm]
    have HV : Hid (fit ⟨m, n, a, b⟩ ⟨m', n', a', b'⟩ = (decide (¬ (n + n') % 3 = 0) || decide (n % 3 = 0) || (!a && !b'))) := by show _ = _; unfold fit; simp [hm]
    generalize fit ⟨m, n, a, b⟩ ⟨m', n', a', b'⟩ = v at HV ⊢
    have HM := Lib.hid hm
    clear hm
    by_cases hs : (n + n') % 3 = 0
    · have q1 : ((n + n') % 3 != 0) = false := by simp [hs]
      by_cases hz : n % 3 = 0
      · have q2 : (n % 3 == 0) = true := by simp [hz]
        have HR : Hid (v = true) := by show _ = _; rw [HV.out]; simp [hz]
        clear HV
        have HS := Lib.hid hs
        have HZ := Lib.hid hz
        clear hs hz
        go_enter Try.func28, Try.ntmps28
        go_wp2_with fail
        go_ret
        exact ⟨by rw [HR.out]; rfl, hB.out⟩
      · have q2 : (n % 3 == 0) = false := by simp [hz]
        have HR : Hid (v = (!a && !b')) := by show _ = _; rw [HV.out]; simp [hz, hs]
        clear HV
        have HS := Lib.hid hs
        have HZ := Lib.hid hz
        clear hs hz
        cases a <;> cases b'
        all_goals
          go_enter Try.func28, Try.ntmps28
          go_wp2_with fail
          go_ret
          exact ⟨by rw [HR.out]; rfl, hB.out⟩
    · have q1 : ((n + n') % 3 != 0) = true := by simp [hs]
      have HR : Hid (v = true) := by show _ = _; rw [HV.out]; simp [hs]
      clear HV
      have HS := Lib.hid hs
      clear hs
      go_enter Try.func28, Try.ntmps28
      go_wp2_with fail
      go_ret
      exact ⟨by rw [HR.out]; rfl, hB.out⟩
  · have q0 : ((m : Int) != m') = true := by simp [hm]
    have HV : Hid (fit ⟨m, n, a, b⟩ ⟨m', n', a', b'⟩ = false) := by show _ = _; unfold fit; simp [hm]
    generalize fit ⟨m, n, a, b⟩ ⟨m', n', a', b'⟩ = v at HV ⊢
    have HM : Hid (¬ m = m') := hm
    clear hm
    go_enter Try.func28, Try.ntmps28
    go_wp2_with fail
    go_ret
    exact ⟨by rw [HV.out]; rfl, hB.out⟩

/-- The document's own: without the marks. -/
def fitR (o c : Rw) : Bool := decide (¬ (o.n % 3 + c.n % 3) % 3 = 0) || (decide (o.n % 3 = 0) && decide (c.n % 3 = 0)) || (!c.o && !o.c)
theorem fitR_eq (o c : Rw) (h : o.m = c.m) : fitR o c = fit c o := by
  unfold fitR fit
  have e : decide (c.m = o.m) = true := by simp [h]
  rw [e, Bool.true_and]
  have h1 : (o.n % 3 + c.n % 3) % 3 = (c.n + o.n) % 3 := by omega
  rw [h1]
  by_cases hs : (c.n + o.n) % 3 = 0
  · by_cases hz : c.n % 3 = 0
    · have hz2 : o.n % 3 = 0 := by omega
      simp [hz, hz2]
    · simp [hs, hz]
  · simp [hs]

set_option maxHeartbeats 2000000 in
theorem refFits_any (o c : Rw) (h1 : 1 ≤ c.n) (h2 : c.n ≤ 1048576) (h3 : 1 ≤ o.n) (h4 : o.n ≤ 1048576) (w : World) :
    Calls Try.prog 23 #[ragg o, ragg c] w fun e w' => e = .returned (.bool (fitR o c)) ∧ Below w.heap.size w w' := by
  obtain ⟨m, n, a, b⟩ := o
  obtain ⟨m', n', a', b'⟩ := c
  simp only at h1 h2 h3 h4
  have t1 : (n % 3 + n' % 3).tmod 3 = (n + n') % 3 := by rw [Int.tmod_eq_emod_of_nonneg (by omega)]; omega
  have t2 : n.tmod 3 = n % 3 := Int.tmod_eq_emod_of_nonneg (by omega)
  have t3 : n'.tmod 3 = n' % 3 := Int.tmod_eq_emod_of_nonneg (by omega)
  have hB : Hid (Below w.heap.size w ((w.alloc (.cells #[.int .u8 m, .int .i64 n, .bool a, .bool b] 35)).alloc (.cells #[.int .u8 m', .int .i64 n', .bool a', .bool b'] 35))) := ((Below.refl w.heap.size w).alloc (Nat.le_refl _) _).alloc (by simp) _
  have e0 : (n % 3 + n' % 3) % 3 = (n + n') % 3 := by omega
  have HV : Hid (fitR ⟨m, n, a, b⟩ ⟨m', n', a', b'⟩ = (decide (¬ (n + n') % 3 = 0) || (decide (n % 3 = 0) && decide (n' % 3 = 0)) || (!a' && !b))) := by show _ = _; unfold fitR; simp only [e0]
  clear e0
  generalize fitR ⟨m, n, a, b⟩ ⟨m', n', a', b'⟩ = v at HV ⊢
  by_cases hs : (n + n') % 3 = 0
  · have q1 : ((n + n') % 3 != 0) = false := by simp [hs]
    by_cases hz : n % 3 = 0
    · have q2 : (n % 3 == 0) = true := by simp [hz]
      by_cases hy : n' % 3 = 0
      · have q3 : (n' % 3 == 0) = true := by simp [hy]
        have HR : Hid (v = true) := by show _ = _; rw [HV.out]; simp [hz, hy]
        clear HV
        have HS := Lib.hid hs
        have HZ := Lib.hid hz
        have HY := Lib.hid hy
        clear hs hz hy
        go_enter Try.func23, Try.ntmps23
        go_wp2_with fail
        go_ret
        exact ⟨by rw [HR.out]; rfl, hB.out⟩
      · exact absurd hs (by omega)
    · have q2 : (n % 3 == 0) = false := by simp [hz]
      have HR : Hid (v = (!a' && !b)) := by show _ = _; rw [HV.out]; simp [hz, hs]
      clear HV
      have HS := Lib.hid hs
      have HZ := Lib.hid hz
      clear hs hz
      cases a' <;> cases b
      all_goals
        go_enter Try.func23, Try.ntmps23
        go_wp2_with fail
        go_ret
        exact ⟨by rw [HR.out]; rfl, hB.out⟩
  · have q1 : ((n + n') % 3 != 0) = true := by simp [hs]
    have HR : Hid (v = true) := by show _ = _; rw [HV.out]; simp [hs]
    clear HV
    have HS := Lib.hid hs
    clear hs
    go_enter Try.func23, Try.ntmps23
    go_wp2_with fail
    go_ret
    exact ⟨by rw [HR.out]; rfl, hB.out⟩

end Go.Proofs.Ytldillhgpjmjpaa
