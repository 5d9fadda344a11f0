/-
  PROVED: contract of tree.depthsBy: of each node how many it is within. Conditions: parents stand ahead of their kids; there are at most 10000.
-/
import Derived.Test.YtdfhgcknelgdmaaDoorShowPure
import Derived.Test.YtdfhgcknelgdmaaDoorPar
namespace Go.Proofs.YtdfhgcknelgdmaaDoor
open Go.ChangeShapes Go.WideShapes Go.ChangeAt Go.RowKit Go.Sort
set_option linter.unusedVariables false

def depI (P : List Int) (i : Nat) : List Int := (List.range i).map fun j => (depA P j : Int)

theorem depI_len (P : List Int) (i : Nat) : (depI P i).length = i := by simp [depI]
theorem depI_at (P : List Int) (i j : Nat) (h : j < i) : (depI P i)[j]? = some (depA P j : Int) := by simp [depI, h]

def DRel (P : List Int) (w : World) (gd : Nat) (v : Value) (wr : World) : Prop :=
  ∃ (i : Nat), 1 ≤ i ∧ i ≤ P.length ∧ v = .int .i64 i ∧ wr.ownsRow w.heap.size 3 1 (.slice (some ⟨gd, 0, none⟩) P.length P.length) P.length (icells (depI P i ++ List.replicate (P.length - i) 0)) ∧ Below w.heap.size w wr

set_option maxRecDepth 100000 in
set_option maxHeartbeats 8000000 in
theorem depths_any (A : Option Addr) (c : Nat) (P : List Int) (h0 : 0 < P.length) (hl : P.length ≤ 10000) (hp : ∀ (j : Nat), 0 < j → j < P.length → ∃ q : Nat, P[j]? = some (q : Int) ∧ q < j) (w : World) (h : Is w w.heap.size A P) :
    Calls Tryd.prog 29 #[.slice A P.length c] w fun e w' => ∃ g, e = .returned (.slice (some ⟨g, 0, none⟩) P.length P.length) ∧ Is w' w'.heap.size (some ⟨g, 0, none⟩) (depI P P.length) ∧ Below w.heap.size w w' := by
  obtain ⟨i0, hi0, hz0, hz1, hz2⟩ := info_parts Tryd.info3
  have HP := Lib.hid hp
  have HI := Lib.hid h
  clear hp h
  go_enter Tryd.func29, Tryd.ntmps29
  go_wp2_with (at_make; refine wpList_make_full _ rfl _ _ 30 rfl w.heap.size 3 i0 (.int .i64 0) 1 Tryd.underlying30 hi0 hz0 hz1 .i64 .i64 _ _ P.length rfl rfl rfl rfl (by rw [hz2]; omega) (by unfold maxLen; omega) (Nat.le_refl _) ?_)
  intro w1 hown hgrow
  rw [made_ints] at hown
  have hB1 : Below w.heap.size w w1 := (Below.refl _ _).grown hgrow (Nat.le_refl _) (fun k hk => by cases hk)
  have HO := Lib.hid hown
  have HB := Lib.hid hB1
  clear hown hgrow hB1
  go_wp2_with fail
  go_loopw [4] (fun v wr => DRel P w w.heap.size v wr) (fun v _ => P.length - (intOf v).toNat)
  case atStart =>
    refine ⟨1, Nat.le_refl _, by omega, rfl, ?_, HB.out⟩
    have := HO.out
    have e : depI P 1 ++ List.replicate (P.length - 1) 0 = List.replicate P.length 0 := by
      rw [show depI P 1 = [0] from rfl, show P.length = (P.length - 1) + 1 by omega, List.replicate_succ]
      rfl
    rw [e]; exact this
  case round =>
    obtain ⟨i, hi1, hi, rfl, hO, hB⟩ := hrel
    have HOr := Lib.hid hO
    have HBr := Lib.hid hB
    by_cases hlt : i < P.length
    · obtain ⟨q, hq, hqi⟩ := HP.out i (by omega) hlt
      have HD : Hid (depA P i = depA P q + 1) := depA_succ P i q (by omega) hq hqi
      obtain ⟨b, o, rfl, hb, cp⟩ := (HI.out.below hB) i _ hq
      have hdq : (depI P i ++ List.replicate (P.length - i) 0)[q]? = some (depA P q : Int) := by rw [List.getElem?_append_left (by rw [depI_len]; exact hqi)]; exact depI_at P i q hqi
      have hdi : (depI P i ++ List.replicate (P.length - i) 0)[i]? = some 0 := by rw [List.getElem?_append_right (by rw [depI_len]; exact Nat.le_refl _), depI_len, Nat.sub_self, List.getElem?_replicate, if_pos (by omega)]
      obtain ⟨cq, _⟩ := own_cell hO hdq
      obtain ⟨ci, fi⟩ := own_cell hO hdi
      have hdl : depA P q ≤ 20000 := by
        have : ∀ m, m < i → depA P m ≤ m := by
          intro m
          induction m using Nat.strongRecOn with
          | _ m ih =>
            intro hm
            rcases Nat.eq_zero_or_pos m with rfl | hmp
            · exact Nat.le_refl _
            · obtain ⟨r, hr, hrm⟩ := HP.out m hmp (by omega)
              rw [depA_succ P m r hmp hr hrm]
              have := ih r hrm (by omega)
              omega
        have := this q hqi
        omega
      have HS : Hid ((depI P i ++ List.replicate (P.length - i) 0).set i ((depA P q : Int) + 1) = depI P (i + 1) ++ List.replicate (P.length - (i + 1)) 0) := by
        show _ = _
        have e1 : depI P (i + 1) = depI P i ++ [((depA P i : Nat) : Int)] := by simp [depI, List.range_succ]
        have e2 : List.replicate (P.length - i) (0 : Int) = 0 :: List.replicate (P.length - (i + 1)) 0 := by rw [show P.length - i = (P.length - (i + 1)) + 1 by omega, List.replicate_succ]
        rw [e1, e2, HD.out, List.set_append_right _ _ (by rw [depI_len]; exact Nat.le_refl _), depI_len, Nat.sub_self]
        simp
      have hO2 := Lib.hid (own_put (x := (depA P q : Int) + 1) hO hlt)
      clear hO hB hdq hdi HD
      generalize depA P q = D at *
      clear hq
      go_wp2_with fail
      go_roundw
      case rel => exact ⟨i + 1, by omega, by omega, by go_num, by rw [← HS.out]; exact hO2.out, HBr.out.setCell (p := ⟨w.heap.size, i, none⟩) (Nat.le_refl _) _⟩
      case measure => simp [intOf]; omega
    · have HE : Hid (depI P i ++ List.replicate (P.length - i) 0 = depI P P.length) := by
        show _ = _
        obtain rfl : i = P.length := by omega
        simp
      have hfin := HOr.out
      rw [HE.out] at hfin
      obtain ⟨A2, c2, e1, _, _, e4⟩ := own_ints (L := depI P P.length) (by rw [depI_len]; exact hfin)
      rw [depI_len] at e1
      injection e1 with e1 e1b e1c
      clear e1b e1c
      have E4 := Lib.hid e4
      rw [← e1] at E4
      clear hO hB hfin e4 e1
      go_wp2_with fail
      go_ret
      exact ⟨w.heap.size, rfl, E4.out, HBr.out⟩
end Go.Proofs.YtdfhgcknelgdmaaDoor
