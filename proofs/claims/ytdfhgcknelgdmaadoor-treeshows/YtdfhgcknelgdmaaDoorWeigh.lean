/-
  PROVED: contract of WeighTree: it answers 'wgt'; a tree whose weight is small is a small one ('Bd'). Conditions: the lengths are those of a machine.
-/
import Derived.Test.YtdfhgcknelgdmaaDoorSame
namespace Go.Proofs.YtdfhgcknelgdmaaDoor
open Go.ChangeShapes Go.WideShapes Go.ChangeAt Go.RowKit Go.Sort
set_option linter.unusedVariables false

def wN (n : Nd) : Nat := 1 + n.x.size + n.u.size + n.h.size + n.ks.length + n.ps.length
def wgt (m : Nat) : Nat → List Nd → Nat
  | a, [] => a
  | a, n :: T => if a ≤ m then wgt m (a + wN n) T else a
theorem wgt_out (m : Nat) : ∀ (T : List Nd) (a : Nat), m < a → wgt m a T = a
  | [], _, _ => rfl
  | n :: T, a, h => by rw [wgt, if_neg (by omega)]
theorem wgt_small (m : Nat) : ∀ (T : List Nd) (a : Nat), wgt m a T ≤ m → a ≤ m ∧ a + T.length ≤ m ∧ ∀ n ∈ T, wN n ≤ m
  | [], a, h => ⟨h, h, fun n hn => by simp at hn⟩
  | n :: T, a, h => by
    rw [wgt] at h
    split at h
    · obtain ⟨h1, h2, h3⟩ := wgt_small m T _ h
      have hw : 1 ≤ wN n := by unfold wN; omega
      refine ⟨by omega, by simp; omega, fun x hx => ?_⟩
      rcases List.mem_cons.1 hx with rfl | hx
      · omega
      · exact h3 x hx
    · omega
theorem wgt_bd {m : Nat} {T : List Nd} (h : wgt m 0 T ≤ m) (hm : m ≤ 4000) : Bd T ∧ T.length ≤ m := by
  obtain ⟨_, h2, h3⟩ := wgt_small m T 0 h
  refine ⟨⟨by omega, fun n hn => ?_⟩, by omega⟩
  have := h3 n hn
  unfold wN at this
  omega

/-- The bounds of any tree that a machine holds. -/
def Wide (T : List Nd) : Prop := T.length ≤ 140737488355328 ∧ ∀ n ∈ T, n.x.size ≤ 140737488355328 ∧ n.u.size ≤ 140737488355328 ∧ n.h.size ≤ 140737488355328 ∧ n.ks.length ≤ 140737488355328 ∧ n.ps.length ≤ 140737488355328

def WRel (T : List Nd) (m : Nat) (w : World) (s5 s6 : Value) (wr : World) : Prop :=
  ∃ i a : Nat, i ≤ T.length ∧ s6 = .int .i64 i ∧ s5 = .int .i64 a ∧ a ≤ m + 2000000000000000 ∧ wgt m a (T.drop i) = wgt m 0 T ∧ Gr w wr

set_option maxHeartbeats 8000000 in
theorem weigh_any (A : Option Addr) (c m : Nat) (hm : m ≤ 4000) (T : List Nd) (hT : Wide T) (w : World) (h : Tr w w.heap.size A T) :
    Calls Tryd.prog 9 #[.agg #[.slice A T.length c], .int .i64 m] w fun e w' => e = .returned (.int .i64 (wgt m 0 T)) ∧ Below w.heap.size w w' := by
  have HT := Lib.hid hT
  have hl : T.length ≤ 140737488355328 := hT.1
  have HA := Lib.hid h
  obtain ⟨V, hV⟩ : ∃ V, V = wgt m 0 T := ⟨_, rfl⟩
  rw [← hV]
  have HV := Lib.hid hV
  clear hT h hV
  have H0 : Hid (Holds (w.alloc (.cells #[.slice A T.length c] 24)) w.heap.size 24 #[.slice A T.length c]) := Holds.made w 24 _
  go_enter Tryd.func9, Tryd.ntmps9
  go_wp2_with fail
  go_loopw [5, 6] (fun s5 s6 wr => WRel T m (w.alloc (.cells #[.slice A T.length c] 24)) s5 s6 wr) (fun _ v _ => T.length - (intOf v).toNat)
  case atStart => exact ⟨0, 0, Nat.zero_le _, rfl, rfl, by omega, rfl, Gr.refl _⟩
  case round =>
    obtain ⟨i, a, hi, rfl, rfl, ha, hw, hG⟩ := hrel
    have GR := Lib.hid (Gr.trans (Gr.alloc _ _) hG)
    have HG := Lib.hid hG
    have HR := Lib.hid (Gr.holds hG H0.out)
    have a0 : wr.cell? ⟨w.heap.size, 0, none⟩ = some (.slice A T.length c) := HR.out.at 0
    have HW : Hid (wgt m a (T.drop i) = V) := hw.trans HV.out.symm
    clear hw hG
    by_cases hlt : i < T.length
    · by_cases ham : a ≤ m
      · have hti := List.getElem?_eq_getElem hlt
        obtain ⟨b, o, kv, pv, rfl, hb, hK, KA, kc, PA, pc, rfl, e2, e3, rfl, e5, e6⟩ := GR.out.tr HA.out i _ hti
        obtain ⟨m1, m2, m3, m4, m5⟩ := HT.out.2 _ (List.getElem_mem hlt)
        have HD : Hid (T.drop i = T[i] :: T.drop (i + 1)) := List.drop_eq_getElem_cons hlt
        clear hti e2 e3 e5 e6
        generalize T[i] = n at *
        have hz : (a : Int) ≤ (m : Int) := by omega
        have r0 := hK.c0
        have r1 := hK.c1
        have r2 := hK.c2
        have r3 := hK.c3
        have r4 := hK.c4
        have r5 := hK.c5
        have r6 := hK.c6
        have r7 := hK.c7
        have r8 := hK.c8
        have r9 := hK.c9
        clear hK
        go_wp2_with fail
        go_roundw
        case rel =>
          refine ⟨i + 1, a + wN n, by omega, by go_num, ?_, ?_, ?_, HG.out.trans (Gr.alloc _ _)⟩
          · unfold wN; go_num
          · unfold wN; omega
          · have := HW.out; rw [HD.out, wgt, if_pos ham] at this; exact this.trans HV.out
        case measure => simp [intOf]; omega
      · have hz : ¬ (a : Int) ≤ (m : Int) := by omega
        have HE : Hid (a = V) := (wgt_out m _ a (by omega)).symm.trans HW.out
        go_wp2_with fail
        go_ret
        exact ⟨by rw [← HE.out]; rfl, GR.out.below⟩
    · have HE : Hid (a = V) := by have := HW.out; rw [List.drop_eq_nil_of_le (by omega)] at this; exact this
      go_wp2_with fail
      go_ret
      exact ⟨by rw [← HE.out]; rfl, GR.out.below⟩
end Go.Proofs.YtdfhgcknelgdmaaDoor
