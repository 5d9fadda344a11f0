/-
  PROVED: contract of tag.Open: how many bytes the tag has with which a text begins; what the deferred closure recovers is what a scan misses. Conditions: the text has at most 1000000 bytes.
-/
import Derived.Test.YtdnnjakggopdoaaDoorScan3
import Derived.Defers
import Derived.Recover
namespace Go.Proofs.YtdnnjakggopdoaaDoor
open Go.ChangeShapes Go.WideShapes Go.ChangeAt Go.RowKit
set_option linter.unusedVariables false

theorem assert_yes (m : ByteArray) (W : World) : (Instr.typeAssert (.iface 36 (.string m)) 20 36 true).run Tryd.prog W = .ok (.tuple #[.string m, .bool true]) W := by kernel_rfl
set_option maxHeartbeats 4000000 in
theorem catch_panicking (m : ByteArray) (w : World) :
    CallsD Tryd.prog 23 #[] (.panicking ({ v := .iface 36 (.string m), recovered := false } :: [])) w fun e u' w' =>
      e = .returned (.tuple #[]) ∧ u' = .panicking ({ v := .iface 36 (.string m), recovered := true } :: []) ∧ w' = w := by
  refine callsD_of_wpS Tryd.func23 rfl fun c₀ cs hu => ?_
  apply wpS_seq
  apply wpS_region
  simp [wpOpsS, go_sem, recoverD, hu, Tryd.ntmps23, Exit.thenS]
  refine wpS_of_wp ?_
  have hta := assert_yes m
  rw [show ((Array.replicate 14 undef).setIfInBounds 3 (Value.iface 36 (Value.string m))).setIfInBounds 0 (Value.iface 36 (Value.string m)) = #[Value.iface 36 (Value.string m), undef, undef, Value.iface 36 (Value.string m), undef, undef, undef, undef, undef, undef, undef, undef, undef, undef] from rfl]
  go_wp2_with fail
  exact ⟨rfl, _, rfl, .tuple #[], by simp [results, Tryd.results23], rfl, rfl, rfl⟩
theorem catch_idle (w : World) : CallsD Tryd.prog 23 #[] .returning w fun e u' w' => e = .returned (.tuple #[]) ∧ u' = .returning ∧ w' = w := by
  refine callsD_of_wpS Tryd.func23 rfl fun c₀ cs hu => ?_
  apply wpS_seq
  apply wpS_region
  simp [wpOpsS, go_sem, recoverD, hu, Tryd.ntmps23, Exit.thenS]
  refine wpS_of_wp ?_
  rw [show ((Array.replicate 14 undef).setIfInBounds 3 Value.nilIface).setIfInBounds 0 Value.nilIface = #[Value.nilIface, undef, undef, Value.nilIface, undef, undef, undef, undef, undef, undef, undef, undef, undef, undef] from rfl]
  go_wp2_with fail
  refine ⟨rfl, .returning, ?_, .tuple #[], by simp [results, Tryd.results23], rfl, rfl, rfl⟩
  cases c₀
  simp_all

theorem at_lst (s : ByteArray) : (lst s)[0]? = some 60 → 1 ≤ s.size := fun h => lt_of_at h
set_option maxHeartbeats 8000000 in
theorem open_any (s : ByteArray) (hs : s.size ≤ 1000000) (w : World) :
    Calls Tryd.prog 11 #[.string s] w fun e w' => e = .returned (.int .i64 (openL (lst s))) ∧ Below w.heap.size w w' := by
  have H0 : Hid (Sc (w.alloc (.cells #[.string s, .int .i64 0] 40)) w.heap.size s 0) := Holds.made w 40 _
  have HB0 : Hid (Below w.heap.size w (w.alloc (.cells #[.string s, .int .i64 0] 40))) := (Below.refl _ _).alloc (Nat.le_refl _) _
  have HL := Lib.hid (need_any 60 s hs w.heap.size 0 w.heap.size (Nat.le_refl _) (Nat.zero_le _) _ H0.out)
  unfold openL tagO
  by_cases h60 : (lst s)[0]? = some 60
  · rw [if_pos h60]
    have h1s : 1 ≤ s.size := lt_of_at h60
    unfold needL at HL
    rw [if_pos h60] at HL
    have HT := Lib.hid (fun W (hW : Sc W w.heap.size s 1) => take_any 47 s hs w.heap.size 1 w.heap.size (Nat.le_refl _) h1s W hW)
    by_cases h47 : (lst s)[1]? = some 47
    · rw [if_pos h47]
      have h2s : 2 ≤ s.size := lt_of_at h47
      rw [decide_eq_true h47, past_yes h47] at HT
      have HC := Lib.hid (fun W (hW : Sc W w.heap.size s 2) => closing_any s hs w.heap.size 2 w.heap.size (Nat.le_refl _) h2s W hW)
      generalize closeO (lst s) 2 = r at *
      clear h60 h47 H0 h1s h2s
      go_enter_defers Tryd.func11, Tryd.ntmps11
      go_wp2_with fail
      refine HL.out.mono ?_
      rintro e1 w1 ⟨rfl, h1, h2⟩
      have A1 := Lib.hid h1
      have B1 := Lib.hid (HB0.out.trans h2)
      clear h1 h2
      go_wp2_with fail
      refine (HT.out _ A1.out).mono ?_
      rintro e1 w2 ⟨rfl, h1, h2⟩
      have A2 := Lib.hid h1
      have B2 := Lib.hid (B1.out.trans h2)
      clear h1 h2
      go_wp2_with fail
      refine (HC.out _ A2.out).mono ?_
      intro e1 w3 hW
      cases r with
      | none =>
        obtain ⟨m, rfl, h2⟩ := hW
        have B3 := Lib.hid (B2.out.trans h2)
        clear h2
        unfold miss
        go_wp2_with fail
        refine leaves_cons (f := 23) (args := #[]) (by simp) (by simp [go_sem]) ?_
        refine (catch_panicking m _).mono ?_
        rintro e u' w'' ⟨rfl, rfl, rfl⟩
        simp [Leaves, settle, results, Tryd.results11, go_sem]
        exact B3.out
      | some r =>
        obtain ⟨rfl, h1, h2⟩ := hW
        have y3 : w3.cell? ⟨w.heap.size, 1, none⟩ = some (.int .i64 r) := h1.at 1
        have B3 := Lib.hid (B2.out.trans h2)
        clear h1 h2
        go_wp2_with fail
        refine leaves_cons (f := 23) (args := #[]) (by simp) (by simp [go_sem]) ?_
        refine (catch_idle _).mono ?_
        rintro e u' w'' ⟨rfl, rfl, rfl⟩
        simp [Leaves, settle, results, Tryd.results11, go_sem]
        exact B3.out
    · rw [if_neg h47]
      rw [decide_eq_false h47, past_no h47] at HT
      have HC := Lib.hid (fun W (hW : Sc W w.heap.size s 1) => opening_any s hs w.heap.size 1 w.heap.size (Nat.le_refl _) h1s W hW)
      generalize openO (lst s) 1 = r at *
      clear h60 h47 H0 h1s
      go_enter_defers Tryd.func11, Tryd.ntmps11
      go_wp2_with fail
      refine HL.out.mono ?_
      rintro e1 w1 ⟨rfl, h1, h2⟩
      have A1 := Lib.hid h1
      have B1 := Lib.hid (HB0.out.trans h2)
      clear h1 h2
      go_wp2_with fail
      refine (HT.out _ A1.out).mono ?_
      rintro e1 w2 ⟨rfl, h1, h2⟩
      have A2 := Lib.hid h1
      have B2 := Lib.hid (B1.out.trans h2)
      clear h1 h2
      go_wp2_with fail
      refine (HC.out _ A2.out).mono ?_
      intro e1 w3 hW
      cases r with
      | none =>
        obtain ⟨m, rfl, h2⟩ := hW
        have B3 := Lib.hid (B2.out.trans h2)
        clear h2
        unfold miss
        go_wp2_with fail
        refine leaves_cons (f := 23) (args := #[]) (by simp) (by simp [go_sem]) ?_
        refine (catch_panicking m _).mono ?_
        rintro e u' w'' ⟨rfl, rfl, rfl⟩
        simp [Leaves, settle, results, Tryd.results11, go_sem]
        exact B3.out
      | some r =>
        obtain ⟨rfl, h1, h2⟩ := hW
        have y3 : w3.cell? ⟨w.heap.size, 1, none⟩ = some (.int .i64 r) := h1.at 1
        have B3 := Lib.hid (B2.out.trans h2)
        clear h1 h2
        go_wp2_with fail
        refine leaves_cons (f := 23) (args := #[]) (by simp) (by simp [go_sem]) ?_
        refine (catch_idle _).mono ?_
        rintro e u' w'' ⟨rfl, rfl, rfl⟩
        simp [Leaves, settle, results, Tryd.results11, go_sem]
        exact B3.out
  · rw [if_neg h60]
    unfold needL at HL
    rw [if_neg h60] at HL
    clear h60 H0
    go_enter_defers Tryd.func11, Tryd.ntmps11
    go_wp2_with fail
    refine HL.out.mono ?_
    rintro e1 w1 ⟨m, rfl, h2⟩
    have B1 := Lib.hid (HB0.out.trans h2)
    clear h2
    unfold miss
    go_wp2_with fail
    refine leaves_cons (f := 23) (args := #[]) (by simp) (by simp [go_sem]) ?_
    refine (catch_panicking m _).mono ?_
    rintro e u' w'' ⟨rfl, rfl, rfl⟩
    simp [Leaves, settle, results, Tryd.results11, go_sem]
    exact B1.out
end Go.Proofs.YtdnnjakggopdoaaDoor
