/-
  PROVED: stetlaw04.ColumnDrops returns true for every text, column and number: what column.Drop drops and what is left are together the whole indent, and no more is dropped than asked for. Conditions: none beside the row's own.
-/
import Derived.Test.YthlcjlikeipdlaaAlive
import Derived.WalkKit
import Derived.ProofKit
import Derived.OpenShut
import Derived.ShutString
namespace Go.Proofs.Ythlcjlikeipdlaa.columnDrops
open Go.ChangeShapes Go.WideShapes Go.ChangeAt Go.RowKit
open Go.ChangeMaps (open_string shut_string)
set_option linter.unusedVariables false      -- a walk need not use every 'w<i>' (that an integer argument fits its kind)

theorem own : ownKnob Try.prog.godebug = none := by kernel_rfl

set_option maxHeartbeats 2000000 in
theorem walk (a0 : ByteArray) (a1 : Int) (a2 : Int) (w0 : a0.size ≤ maxLen) (w1 : (Lit.int .i64 a1).wf = true) (w2 : (Lit.int .i64 a2).wf = true) (w : World) :
    Calls Try.prog 4 #[.string a0, .int .i64 a1, .int .i64 a2] w fun e w' => e = .returned (.bool true) ∧ Below w.heap.size w w' := by
  obtain ⟨b1, b2⟩ := i64_bd w1
  obtain ⟨b3, b4⟩ := i64_bd w2
  by_cases hl : 50000 < a0.size
  · go_enter Try.func4, Try.ntmps4
    go_wp2_with fail
    refine (alive_any _).mono ?_
    rintro e w1 ⟨rfl, rfl⟩
    go_wp2_with fail
    go_ret
    exact ⟨rfl, Below.refl _ _⟩
  by_cases h0 : a1 < 0
  · go_enter Try.func4, Try.ntmps4
    go_wp2_with fail
    refine (alive_any _).mono ?_
    rintro e w1 ⟨rfl, rfl⟩
    go_wp2_with fail
    go_ret
    exact ⟨rfl, Below.refl _ _⟩
  by_cases h1 : 1048576 < a1
  · go_enter Try.func4, Try.ntmps4
    go_wp2_with fail
    refine (alive_any _).mono ?_
    rintro e w1 ⟨rfl, rfl⟩
    go_wp2_with fail
    go_ret
    exact ⟨rfl, Below.refl _ _⟩
  by_cases h2 : a2 < 0
  · go_enter Try.func4, Try.ntmps4
    go_wp2_with fail
    refine (alive_any _).mono ?_
    rintro e w1 ⟨rfl, rfl⟩
    go_wp2_with fail
    go_ret
    exact ⟨rfl, Below.refl _ _⟩
  have H1 := Lib.hid (indent_any a0 a1 (by omega) b1 b2)
  have H3 := Lib.hid (drop_any a0 a1 a2 (by omega) b1 b2 b3 b4)
  obtain ⟨c, rfl⟩ : ∃ c : Nat, a1 = c := ⟨a1.toNat, by omega⟩
  obtain ⟨m, rfl⟩ : ∃ m : Nat, a2 = m := ⟨a2.toNat, by omega⟩
  have hc : c ≤ 1048576 := by omega
  rw [bnd_nat c (by omega)] at H1 H3
  rw [Int.toNat_natCast] at H3
  have hd := drp_facts a0 _ 0 c m rfl (Nat.zero_le _)
  have hcb := col_bd a0 _ 0 c rfl
  have hil := ind_le a0 0 (Nat.zero_le _)
  have hT := col_tail a0
  generalize drp a0 0 c m = D at *
  obtain ⟨g, x, l⟩ := D
  obtain ⟨f1, f2, f3, f4, f5, f6⟩ := hd
  simp only [] at f1 f2 f3 f4 f5 f6
  by_cases hl0 : l = 0
  · subst hl0
    have H5 : Hid (∀ w, Calls Try.prog 8 #[.string (a0.extract g a0.size), .int .i64 x] w fun e w' => ∃ k : Nat, e = .returned (.tuple #[.int .i64 ((col a0 0 c : Int) - x), .int .i64 k]) ∧ w = w') := fun w => by
      have h := indent_any (a0.extract g a0.size) x (by simp; omega) (by omega) (by omega) w
      rw [bnd_nat x (by omega), hT g _ 0 x rfl, Nat.add_zero, f6 rfl] at h
      exact h.mono fun e w' ⟨he, hw⟩ => ⟨_, he, hw⟩
    clear f5 f6 hT
    generalize col a0 0 c = C at *
    generalize ind a0 0 = I at *
    have k1 : x ≤ c + m := by omega
    have k2 : x ≤ C := by omega
    have k3 : c ≤ x := by omega
    by_cases hmc : c + m ≤ C
    · have q1 : ((x : Int) - c != (m : Int)) = false := by simp; omega
      have q2 : min (m : Int) ((C : Int) - c) = m := by omega
      clear f4
      go_enter Try.func4, Try.ntmps4
      go_wp2_with fail
      refine (alive_any _).mono ?_
      rintro e w1 ⟨rfl, rfl⟩
      go_wp2_with fail
      refine (H1.out _).mono ?_
      rintro e w1 ⟨rfl, rfl⟩
      go_wp2_with fail
      refine (H3.out _).mono ?_
      rintro e w1 ⟨rfl, rfl⟩
      go_wp2_with fail
      refine (H5.out _).mono ?_
      rintro e w1 ⟨k, rfl, rfl⟩
      go_wp2_with fail
      go_ret
      exact ⟨congrArg (fun b => Ending.returned (Value.bool b)) (by simp; omega), Below.refl _ _⟩
    · have q1 : ((x : Int) - c != (C : Int) - c) = false := by simp; omega
      have q2 : min (m : Int) ((C : Int) - c) = (C : Int) - c := by omega
      clear f4
      go_enter Try.func4, Try.ntmps4
      go_wp2_with fail
      refine (alive_any _).mono ?_
      rintro e w1 ⟨rfl, rfl⟩
      go_wp2_with fail
      refine (H1.out _).mono ?_
      rintro e w1 ⟨rfl, rfl⟩
      go_wp2_with fail
      refine (H3.out _).mono ?_
      rintro e w1 ⟨rfl, rfl⟩
      go_wp2_with fail
      refine (H5.out _).mono ?_
      rintro e w1 ⟨k, rfl, rfl⟩
      go_wp2_with fail
      go_ret
      exact ⟨congrArg (fun b => Ending.returned (Value.bool b)) (by simp; omega), Below.refl _ _⟩
  · have hl1 : 0 < l := by omega
    obtain ⟨hg, h9, h7⟩ := f5 hl1
    have H5 : Hid (∀ w, Calls Try.prog 8 #[.string (a0.extract (g + 1) a0.size), .int .i64 ((x : Int) + l)] w fun e w' => ∃ k : Nat, e = .returned (.tuple #[.int .i64 ((col a0 0 c : Int) - ((x : Int) + l)), .int .i64 k]) ∧ w = w') := fun w => by
      have h := indent_any (a0.extract (g + 1) a0.size) ((x + l : Nat) : Int) (by simp; omega) (by omega) (by omega) w
      rw [bnd_nat (x + l) (by omega), hT (g + 1) _ 0 (x + l) rfl, Nat.add_zero, h7, Int.natCast_add] at h
      exact h.mono fun e w' ⟨he, hw⟩ => ⟨_, he, hw⟩
    have hxl : x + l ≤ col a0 0 c := by rw [← h7]; exact (col_bd a0 _ (g + 1) (x + l) rfl).1
    have c9 : (((a0[g]'hg).toNat : Int) != 9) = false := by rw [← bt_at a0 g hg, h9]; rfl
    clear f5 f6 hT h7 h9 hl0
    generalize col a0 0 c = C at *
    generalize ind a0 0 = I at *
    have k1 : x ≤ c + m := by omega
    have k2 : x ≤ C := by omega
    have k3 : c ≤ x := by omega
    by_cases hmc : c + m ≤ C
    · have q1 : ((x : Int) - c != (m : Int)) = false := by simp; omega
      have q2 : min (m : Int) ((C : Int) - c) = m := by omega
      clear f4
      go_enter Try.func4, Try.ntmps4
      go_wp2_with fail
      refine (alive_any _).mono ?_
      rintro e w1 ⟨rfl, rfl⟩
      go_wp2_with fail
      refine (H1.out _).mono ?_
      rintro e w1 ⟨rfl, rfl⟩
      go_wp2_with fail
      refine (H3.out _).mono ?_
      rintro e w1 ⟨rfl, rfl⟩
      go_wp2_with fail
      refine (H5.out _).mono ?_
      rintro e w1 ⟨k, rfl, rfl⟩
      go_wp2_with fail
      go_ret
      exact ⟨congrArg (fun b => Ending.returned (Value.bool b)) (by simp; omega), Below.refl _ _⟩
    · exfalso; omega

set_option maxRecDepth 100000 in
theorem lifted (os : Os) (started : os.Started) (H : Type) (enc : TypeId × Value → H) :
    ReturnsInHanded {} Try.checked os 4 .any (Rows.columnDropsSpec.pre6 enc Try.prog Try.f4 Rows.columnDropsRow.domain false) (Rows.columnDropsSpec.post enc Try.prog Try.f4 false true false false) := by
  refine returnsInHanded_of_change (C := Try.checked) own started (by kernel_rfl) Try.func4
    (ChangeSpec.witness6 (enc := enc) (C := Try.checked) false ⟨#[], #[.string ByteArray.empty, .int .i64 0, .int .i64 0], []⟩ 8 (by kernel_rfl) (by kernel_rfl) (by kernel_rfl) (by kernel_rfl)) ?_
  intro W base args ds gs before hval0 hW hcnd _
  have hval : ∀ (j : Nat) t v, Try.f4.params[j]? = some t → args[j]? = some v → Value.okWide Try.prog W .any base t v := hval0
  have hW' := hW
  obtain ⟨p, q, hA0, hV, rfl, hfz, hnd⟩ := hW
  have hA : DataW.TrodAll enc Try.prog W 0 (fun _ => true) true Try.f4.params.toList args.toList ds p := hA0
  rw [Try.params4] at hA hval
  obtain ⟨v0, vs0, d0, ds0, p0, q0, hargs, rfl, rfl, h0, r0⟩ := trodAll_cons hA
  obtain ⟨v1, vs1, d1, ds1, p1, q1, rfl, rfl, rfl, h1, r1⟩ := trodAll_cons r0
  obtain ⟨v2, vs2, d2, ds2, p2, q2, rfl, rfl, rfl, h2, r2⟩ := trodAll_cons r1
  obtain ⟨rfl, rfl, rfl⟩ := trodAll_nil r2
  obtain rfl : args = #[v0, v1, v2] := by cases args; simp_all
  obtain ⟨rfl, rfl⟩ := trodVars_none hV
  obtain ⟨a0, rfl, rfl, rfl, w0⟩ := open_string Try.underlying9 (hval 0 9 v0 rfl rfl) h0
  obtain ⟨a1, rfl, rfl, rfl, w1⟩ := open_int Try.underlying3 (hval 1 3 v1 rfl rfl) h1
  obtain ⟨a2, rfl, rfl, rfl, w2⟩ := open_int Try.underlying3 (hval 2 3 v2 rfl rfl) h2
  clear hA0 hval0
  simp only [List.append_nil] at hW'
  refine (walk a0 a1 a2 w0 w1 w2 W).mono fun e W' ⟨he, hg⟩ => ?_
  subst he
  exact ⟨_, rfl, _, _, _, [], [], [], hW', (trodAll_cons_mk (shut_bool Try.underlying4 _) trodAll_mk0), (trodAll_cons_mk (shut_string Try.underlying9 w0) (trodAll_cons_mk (shut_int Try.underlying3 w1) (trodAll_cons_mk (shut_int Try.underlying3 w2) trodAll_mk0))), rfl, hg.frame _, fun h => by cases h⟩

theorem over : Rows.columnDropsRow.holds Try.pinned (OpenSpec.ofChange Rows.columnDropsSpec) :=
  OpenClaim.holds_of_wide 4 Try.f4 rfl rfl rfl rfl rfl rfl rfl ⟨rfl, rfl, rfl, rfl, rfl⟩ rfl rfl rfl rfl rfl (by kernel_rfl) Try.func4 (by kernel_rfl)
    (of_decide_eq_true (by kernel_rfl)) (by unfold Func.isWrapper; first | (rw [if_pos (by decide +kernel)]; kernel_rfl) | (rw [if_neg (by decide +kernel)]; exact ⟨rfl, rfl⟩))
    (fun os started H enc _ => lifted os started H enc)

theorem proved : Rows.ColumnDropsSaid :=
  over
#print axioms proved
end Go.Proofs.Ythlcjlikeipdlaa.columnDrops
