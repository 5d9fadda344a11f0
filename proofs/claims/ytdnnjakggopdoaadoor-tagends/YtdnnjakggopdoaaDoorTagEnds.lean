/-
  PROVED: stetlaw06.TagEnds returns true for all texts and numbers: a line that is the last one of a block is so with more around it, and capital letters make no difference (the row, and its card, tied to the program's text). Conditions: none beside the row's own: the listed tables (tag's three, unicode/utf8's two) hold what their initialisers lay (the card ties them; that nothing else writes them is the translator's report, over the pruned copy of the project).
-/
import Derived.Test.YtdnnjakggopdoaaDoorAlive
import Derived.Test.YtdnnjakggopdoaaDoorEndPure
import Derived.Test.YtdnnjakggopdoaaDoorCards
import Derived.Test.YtdnnjakggopdoaaDoorTie
import Derived.SevenTiedAt
namespace Go.Proofs.YtdnnjakggopdoaaDoor.tagEnds
open Go.ChangeShapes Go.WideShapes Go.ChangeAt Go.RowKit
open Go.ChangeMaps (open_string shut_string)
set_option linter.unusedVariables false
set_option linter.unusedSimpArgs false

theorem upb_nat (x : UInt8) : (upb x).toNat = if 97 ≤ x.toNat ∧ x.toNat ≤ 122 then x.toNat - 32 else x.toNat := by
  unfold upb
  split
  · rename_i h
    have h1 := x.toNat_lt
    rw [UInt8.toNat_sub]
    have : (32 : UInt8).toNat = 32 := rfl
    omega
  · rfl
/-- What the law's loop goes by. -/
def CRel (s : ByteArray) (w : World) (v i : Value) (wr : World) : Prop :=
  ∃ j : Nat, j ≤ s.size ∧ i = .int .i64 j ∧ wr.ownsRow w.heap.size 5 1 v j (Lib.byteCells ((s.data.toList.take j).map upb)) ∧ v ≠ .slice none 0 0 ∧ RowKit.Below w.heap.size w wr
theorem crel_next {s : ByteArray} {w w2 : World} {v : Value} {j : Nat} {c : Int} (h : j < s.size) (hc : c = ((upb (s[j]'h)).toNat : Int)) (ho : w2.ownsRow w.heap.size 5 1 v (j + 1) (Lib.byteCells ((s.data.toList.take j).map upb) ++ [.int .u8 c])) (hv : v ≠ .slice none 0 0) (hb : RowKit.Below w.heap.size w w2) :
    CRel s w v (.int .i64 ((j : Int) + 1)) w2 := by
  refine ⟨j + 1, by omega, by simp, ?_, hv, hb⟩
  rw [take_map upb s j h, Lib.byteCells_append]
  subst hc
  exact ho
theorem lst_app (a b : ByteArray) : lst (a ++ b) = lst a ++ lst b := by simp [lst]
set_option maxHeartbeats 16000000 in
set_option maxRecDepth 100000 in
theorem walk (a0 : ByteArray) (a1 : ByteArray) (a2 : ByteArray) (a3 : Int) (w0 : a0.size ≤ maxLen) (w1 : a1.size ≤ maxLen) (w2 : a2.size ≤ maxLen) (w3 : (Lit.int .i64 a3).wf = true) (w : World) (hG : Glob w) :
    Calls Tryd.prog 6 #[.string a0, .string a1, .string a2, .int .i64 a3] w fun e w' => e = .returned (.bool true) ∧ RowKit.Below w.heap.size w w' := by
  obtain ⟨i0, hi, hz0, hz1, hz2⟩ := info_parts Tryd.info5
  have mixed := Tryd.mixed
  have HG := Lib.hid (fun w' (hb : RowKit.Below w.heap.size w w') => hG.under hb)
  have HG0 := Lib.hid hG
  clear hG
  by_cases hl0 : 5000 < a0.size
  · skip
    have q0 : decide ((5000 : Int) < (a0.size : Int)) = true := by simp; omega
    go_enter Tryd.func6, Tryd.ntmps6
    go_wp2_with fail
    refine (alive_any _ HG0.out).mono ?_
    rintro e w1 ⟨rfl, hb⟩
    have B1 := Lib.hid hb
    have G1 := Lib.hid (HG.out _ B1.out)
    clear hb
    go_wp2_with fail
    go_ret
    exact ⟨rfl, B1.out⟩
  have q0 : decide ((5000 : Int) < (a0.size : Int)) = false := by simp; omega
  by_cases hl1 : 5000 < a1.size
  · skip
    have q1 : decide ((5000 : Int) < (a1.size : Int)) = true := by simp; omega
    go_enter Tryd.func6, Tryd.ntmps6
    go_wp2_with fail
    refine (alive_any _ HG0.out).mono ?_
    rintro e w1 ⟨rfl, hb⟩
    have B1 := Lib.hid hb
    have G1 := Lib.hid (HG.out _ B1.out)
    clear hb
    go_wp2_with fail
    go_ret
    exact ⟨rfl, B1.out⟩
  have q1 : decide ((5000 : Int) < (a1.size : Int)) = false := by simp; omega
  by_cases hl2 : 5000 < a2.size
  · skip
    have q2 : decide ((5000 : Int) < (a2.size : Int)) = true := by simp; omega
    go_enter Tryd.func6, Tryd.ntmps6
    go_wp2_with fail
    refine (alive_any _ HG0.out).mono ?_
    rintro e w1 ⟨rfl, hb⟩
    have B1 := Lib.hid hb
    have G1 := Lib.hid (HG.out _ B1.out)
    clear hb
    go_wp2_with fail
    go_ret
    exact ⟨rfl, B1.out⟩
  have q2 : decide ((5000 : Int) < (a2.size : Int)) = false := by simp; omega
  have hk := i64_bd w3
  have H1 := Lib.hid (fun W (hW : Glob W) => ends_any a1 (by omega) a3 hk W hW)
  have H2 := Lib.hid (fun W (hW : Glob W) => ends_any (a0 ++ a1 ++ a2) (by simp; omega) a3 hk W hW)
  have HOUT := Lib.hid (ends_out (lst a1) a3)
  have HM := Lib.hid (ends_more (lst a0) (lst a1) (lst a2) a3)
  have HUP : Hid (∀ A : ByteArray, lst A = (lst a1).map upb → ∀ W, Glob W → Calls Tryd.prog 15 #[.string A, .int .i64 a3] W fun e w' => e = .returned (.bool (endsL (lst a1) a3)) ∧ RowKit.Below W.heap.size W w') := fun A hA W hW => by
    have h := ends_any A (by rw [← lst_size, hA, List.length_map, lst_size]; omega) a3 hk W hW
    rw [hA, ends_up] at h
    exact h
  rw [lst_app, lst_app] at H2
  clear hk w0 w1 w2 w3
  generalize endsL (lst a1) a3 = v at *
  cases v
  · skip
    go_enter Tryd.func6, Tryd.ntmps6
    go_wp2_with fail
    refine (alive_any _ HG0.out).mono ?_
    rintro e w1 ⟨rfl, hb⟩
    have B1 := Lib.hid hb
    have G1 := Lib.hid (HG.out _ B1.out)
    clear hb
    go_wp2_with fail
    refine (H1.out _ G1.out).mono ?_
    rintro e w2 ⟨rfl, hb⟩
    have B2 := Lib.hid (chain (Nat.le_refl _) B1.out hb)
    have G2 := Lib.hid (HG.out _ B2.out)
    clear hb
    obtain ⟨W1, hW1⟩ : ∃ W1, W1 = w2 := ⟨_, rfl⟩
    rw [← hW1]
    have HW1 := Lib.hid hW1
    have BW : Hid (RowKit.Below w.heap.size w W1) := show RowKit.Below _ _ _ from by rw [hW1]; exact B2.out
    clear hW1 H2
    go_wp2_with fail
    go_loopw [9, 10] (fun v i wr => CRel a1 W1 v i wr) (fun _ i _ => a1.size - (intOf i).toNat)
    case atStart => exact ⟨0, Nat.zero_le _, rfl, own_empty5 _ _ (Nat.le_refl _), (fun h => by cases h), (Below.refl _ _).alloc (Nat.le_refl _) _⟩
    case round =>
      obtain ⟨j, hj, rfl, hown, hnil, hB⟩ := hrel
      have HNIL := Lib.hid hnil
      have hBz := hB.size
      clear hnil
      obtain ⟨acc, hacc⟩ : ∃ acc, acc = (a1.data.toList.take j).map upb := ⟨_, rfl⟩
      rw [← hacc] at hown
      have HACC := Lib.hid hacc
      clear hacc
      by_cases hlt : j < a1.size
      · have HN := Lib.hid (fun (w2 : World) (v : Value) (c : Int) h1 h2 h3 h4 => crel_next (s := a1) (w := W1) (w2 := w2) (v := v) (c := c) hlt h1 h2 h3 h4)
        rw [← HACC.out] at HN
        have hb := (a1[j]'hlt).toNat_lt
        clear H1 HUP HOUT HM
        by_cases hc : 97 ≤ (a1[j]'hlt).toNat ∧ (a1[j]'hlt).toNat ≤ 122
        · have HL : Hid (((a1[j]'hlt).toNat : Int) - 32 = ((upb (a1[j]'hlt)).toNat : Int)) := show ((a1[j]'hlt).toNat : Int) - 32 = ((upb (a1[j]'hlt)).toNat : Int) from by rw [upb_nat, if_pos hc]; omega
          obtain ⟨hc1, hc2⟩ := hc
          go_wp2_with (at_builtin; refine wpList_append_own _ rfl _ _ 27 rfl W1.heap.size 5 i0 (.int .u8 0) 1 1 Tryd.underlying27 hi hz0 hz1 hz2 rfl (by decide) _ _ _ rfl (hown.alloc _) ⟨wr.heap.size, 0, none⟩ 1 1 [.int .u8 (((a1[j]'hlt).toNat : Int) - 32)] rfl rfl (new1 _ _) (one1 _) (by unfold maxLen; omega) (by omega) (by simp; omega) ?_)
          intro v' w5 hown5 hgrow5 hiff5
          have hge5 := own_block_ge hown
          have HR := Lib.hid (HN.out w5 v' (((a1[j]'hlt).toNat : Int) - 32) HL.out hown5 (by first | exact hiff5 | exact fun hv => HNIL.out (hiff5.1 hv).1) ((hB.alloc hBz _).grown hgrow5 (by simp; omega) (fun k hk => (hge5 k hk).1)))
          clear hown5 hgrow5 hown hiff5 hge5
          go_wp2_with fail
          go_roundw
          case rel => exact HR.out
          case measure => simp [intOf]; omega
        · have HL : Hid (((a1[j]'hlt).toNat : Int) = ((upb (a1[j]'hlt)).toNat : Int)) := show ((a1[j]'hlt).toNat : Int) = ((upb (a1[j]'hlt)).toNat : Int) from by rw [upb_nat, if_neg hc]
          by_cases hc1 : (a1[j]'hlt).toNat < 97
          · clear hc
            go_wp2_with (at_builtin; refine wpList_append_own _ rfl _ _ 27 rfl W1.heap.size 5 i0 (.int .u8 0) 1 1 Tryd.underlying27 hi hz0 hz1 hz2 rfl (by decide) _ _ _ rfl (hown.alloc _) ⟨wr.heap.size, 0, none⟩ 1 1 [.int .u8 (((a1[j]'hlt).toNat : Int))] rfl rfl (new1 _ _) (one1 _) (by unfold maxLen; omega) (by omega) (by simp; omega) ?_)
            intro v' w5 hown5 hgrow5 hiff5
            have hge5 := own_block_ge hown
            have HR := Lib.hid (HN.out w5 v' (((a1[j]'hlt).toNat : Int)) HL.out hown5 (by first | exact hiff5 | exact fun hv => HNIL.out (hiff5.1 hv).1) ((hB.alloc hBz _).grown hgrow5 (by simp; omega) (fun k hk => (hge5 k hk).1)))
            clear hown5 hgrow5 hown hiff5 hge5
            go_wp2_with fail
            go_roundw
            case rel => exact HR.out
            case measure => simp [intOf]; omega
          · have hc2 : 122 < (a1[j]'hlt).toNat := by omega
            clear hc
            go_wp2_with (at_builtin; refine wpList_append_own _ rfl _ _ 27 rfl W1.heap.size 5 i0 (.int .u8 0) 1 1 Tryd.underlying27 hi hz0 hz1 hz2 rfl (by decide) _ _ _ rfl (hown.alloc _) ⟨wr.heap.size, 0, none⟩ 1 1 [.int .u8 (((a1[j]'hlt).toNat : Int))] rfl rfl (new1 _ _) (one1 _) (by unfold maxLen; omega) (by omega) (by simp; omega) ?_)
            intro v' w5 hown5 hgrow5 hiff5
            have hge5 := own_block_ge hown
            have HR := Lib.hid (HN.out w5 v' (((a1[j]'hlt).toNat : Int)) HL.out hown5 (by first | exact hiff5 | exact fun hv => HNIL.out (hiff5.1 hv).1) ((hB.alloc hBz _).grown hgrow5 (by simp; omega) (fun k hk => (hge5 k hk).1)))
            clear hown5 hgrow5 hown hiff5 hge5
            go_wp2_with fail
            go_roundw
            case rel => exact HR.out
            case measure => simp [intOf]; omega
      · have HL : Hid (acc = (lst a1).map upb) := show acc = (lst a1).map upb from by rw [HACC.out, List.take_of_length_le (by rw [len_list]; omega)]
        have hlen : acc.length = j := by rw [HACC.out, List.length_map, List.length_take, len_list]; omega
        have hown' : wr.ownsRow W1.heap.size 5 1 u9 acc.length (Lib.byteCells acc) := by rw [hlen]; exact hown
        have HOWN := Lib.hid hown'
        obtain ⟨gg, cc, rfl⟩ := own_shape hown HNIL.out
        obtain ⟨A, hA⟩ : ∃ A : ByteArray, A = ⟨acc.toArray⟩ := ⟨_, rfl⟩
        have hcb : (convert 27 9 (.slice (some ⟨gg, 0, none⟩) j cc)).run Tryd.prog wr = .ok (.string A) wr := by
          obtain ⟨aa, cc2, e3, h⟩ := own_string HOWN.out HNIL.out
          rw [hA]
          exact h
        have HU := Lib.hid (HUP.out A (by rw [hA, lst_mk, HL.out]))
        have HB := Lib.hid (chain (Nat.le_refl _) BW.out hB)
        have GB := Lib.hid (HG.out _ HB.out)
        clear hown hown' hlen HACC HL HOWN hB hBz hA HUP
        by_cases hk1 : 1 ≤ a3
        · by_cases hk2 : a3 ≤ 5
          · have r1 : decide (1 ≤ a3) = true := by simpa using hk1
            have r2 : decide (a3 ≤ 5) = true := by simpa using hk2
            go_wp2_with fail
            refine (HU.out _ GB.out).mono ?_
            rintro e x1 ⟨rfl, hb⟩
            have C1 := Lib.hid (chain (Nat.le_refl _) HB.out hb)
            have D1 := Lib.hid (HG.out _ C1.out)
            clear hb hcb
            go_wp2_with fail
            refine (H1.out _ D1.out).mono ?_
            rintro e x2 ⟨rfl, hb⟩
            have C2 := Lib.hid (chain (Nat.le_refl _) C1.out hb)
            have D2 := Lib.hid (HG.out _ C2.out)
            clear hb
            go_wp2_with fail
            go_ret
            exact ⟨congrArg (fun b => Ending.returned (Value.bool b)) (by simp), C2.out⟩
          · have r1 : decide (1 ≤ a3) = true := by simpa using hk1
            have r2 : decide (a3 ≤ 5) = false := by simp; omega
            go_wp2_with fail
            refine (HU.out _ GB.out).mono ?_
            rintro e x1 ⟨rfl, hb⟩
            have C1 := Lib.hid (chain (Nat.le_refl _) HB.out hb)
            have D1 := Lib.hid (HG.out _ C1.out)
            clear hb hcb
            go_wp2_with fail
            refine (H1.out _ D1.out).mono ?_
            rintro e x2 ⟨rfl, hb⟩
            have C2 := Lib.hid (chain (Nat.le_refl _) C1.out hb)
            have D2 := Lib.hid (HG.out _ C2.out)
            clear hb
            go_wp2_with fail
            refine (H1.out _ D2.out).mono ?_
            rintro e x3 ⟨rfl, hb⟩
            have C3 := Lib.hid (chain (Nat.le_refl _) C2.out hb)
            clear hb
            go_wp2_with fail
            go_ret
            exact ⟨congrArg (fun b => Ending.returned (Value.bool b)) (by simp), C3.out⟩
        · have r1 : decide (1 ≤ a3) = false := by simp; omega
          go_wp2_with fail
          refine (HU.out _ GB.out).mono ?_
          rintro e x1 ⟨rfl, hb⟩
          have C1 := Lib.hid (chain (Nat.le_refl _) HB.out hb)
          have D1 := Lib.hid (HG.out _ C1.out)
          clear hb hcb
          go_wp2_with fail
          refine (H1.out _ D1.out).mono ?_
          rintro e x2 ⟨rfl, hb⟩
          have C2 := Lib.hid (chain (Nat.le_refl _) C1.out hb)
          have D2 := Lib.hid (HG.out _ C2.out)
          clear hb
          go_wp2_with fail
          refine (H1.out _ D2.out).mono ?_
          rintro e x3 ⟨rfl, hb⟩
          have C3 := Lib.hid (chain (Nat.le_refl _) C2.out hb)
          clear hb
          go_wp2_with fail
          go_ret
          exact ⟨congrArg (fun b => Ending.returned (Value.bool b)) (by simp), C3.out⟩
  · skip
    have HM2 := Lib.hid (HM.out rfl)
    rw [HM2.out] at H2
    go_enter Tryd.func6, Tryd.ntmps6
    go_wp2_with fail
    refine (alive_any _ HG0.out).mono ?_
    rintro e w1 ⟨rfl, hb⟩
    have B1 := Lib.hid hb
    have G1 := Lib.hid (HG.out _ B1.out)
    clear hb
    go_wp2_with fail
    refine (H1.out _ G1.out).mono ?_
    rintro e w2 ⟨rfl, hb⟩
    have B2 := Lib.hid (chain (Nat.le_refl _) B1.out hb)
    have G2 := Lib.hid (HG.out _ B2.out)
    clear hb
    go_wp2_with fail
    refine (H2.out _ G2.out).mono ?_
    rintro e w3 ⟨rfl, hb⟩
    have B3 := Lib.hid (chain (Nat.le_refl _) B2.out hb)
    have G3 := Lib.hid (HG.out _ B3.out)
    clear hb
    obtain ⟨W1, hW1⟩ : ∃ W1, W1 = w3 := ⟨_, rfl⟩
    rw [← hW1]
    have HW1 := Lib.hid hW1
    have BW : Hid (RowKit.Below w.heap.size w W1) := show RowKit.Below _ _ _ from by rw [hW1]; exact B3.out
    clear hW1 H2 HM2
    go_wp2_with fail
    go_loopw [9, 10] (fun v i wr => CRel a1 W1 v i wr) (fun _ i _ => a1.size - (intOf i).toNat)
    case atStart => exact ⟨0, Nat.zero_le _, rfl, own_empty5 _ _ (Nat.le_refl _), (fun h => by cases h), (Below.refl _ _).alloc (Nat.le_refl _) _⟩
    case round =>
      obtain ⟨j, hj, rfl, hown, hnil, hB⟩ := hrel
      have HNIL := Lib.hid hnil
      have hBz := hB.size
      clear hnil
      obtain ⟨acc, hacc⟩ : ∃ acc, acc = (a1.data.toList.take j).map upb := ⟨_, rfl⟩
      rw [← hacc] at hown
      have HACC := Lib.hid hacc
      clear hacc
      by_cases hlt : j < a1.size
      · have HN := Lib.hid (fun (w2 : World) (v : Value) (c : Int) h1 h2 h3 h4 => crel_next (s := a1) (w := W1) (w2 := w2) (v := v) (c := c) hlt h1 h2 h3 h4)
        rw [← HACC.out] at HN
        have hb := (a1[j]'hlt).toNat_lt
        clear H1 HUP HOUT HM
        by_cases hc : 97 ≤ (a1[j]'hlt).toNat ∧ (a1[j]'hlt).toNat ≤ 122
        · have HL : Hid (((a1[j]'hlt).toNat : Int) - 32 = ((upb (a1[j]'hlt)).toNat : Int)) := show ((a1[j]'hlt).toNat : Int) - 32 = ((upb (a1[j]'hlt)).toNat : Int) from by rw [upb_nat, if_pos hc]; omega
          obtain ⟨hc1, hc2⟩ := hc
          go_wp2_with (at_builtin; refine wpList_append_own _ rfl _ _ 27 rfl W1.heap.size 5 i0 (.int .u8 0) 1 1 Tryd.underlying27 hi hz0 hz1 hz2 rfl (by decide) _ _ _ rfl (hown.alloc _) ⟨wr.heap.size, 0, none⟩ 1 1 [.int .u8 (((a1[j]'hlt).toNat : Int) - 32)] rfl rfl (new1 _ _) (one1 _) (by unfold maxLen; omega) (by omega) (by simp; omega) ?_)
          intro v' w5 hown5 hgrow5 hiff5
          have hge5 := own_block_ge hown
          have HR := Lib.hid (HN.out w5 v' (((a1[j]'hlt).toNat : Int) - 32) HL.out hown5 (by first | exact hiff5 | exact fun hv => HNIL.out (hiff5.1 hv).1) ((hB.alloc hBz _).grown hgrow5 (by simp; omega) (fun k hk => (hge5 k hk).1)))
          clear hown5 hgrow5 hown hiff5 hge5
          go_wp2_with fail
          go_roundw
          case rel => exact HR.out
          case measure => simp [intOf]; omega
        · have HL : Hid (((a1[j]'hlt).toNat : Int) = ((upb (a1[j]'hlt)).toNat : Int)) := show ((a1[j]'hlt).toNat : Int) = ((upb (a1[j]'hlt)).toNat : Int) from by rw [upb_nat, if_neg hc]
          by_cases hc1 : (a1[j]'hlt).toNat < 97
          · clear hc
            go_wp2_with (at_builtin; refine wpList_append_own _ rfl _ _ 27 rfl W1.heap.size 5 i0 (.int .u8 0) 1 1 Tryd.underlying27 hi hz0 hz1 hz2 rfl (by decide) _ _ _ rfl (hown.alloc _) ⟨wr.heap.size, 0, none⟩ 1 1 [.int .u8 (((a1[j]'hlt).toNat : Int))] rfl rfl (new1 _ _) (one1 _) (by unfold maxLen; omega) (by omega) (by simp; omega) ?_)
            intro v' w5 hown5 hgrow5 hiff5
            have hge5 := own_block_ge hown
            have HR := Lib.hid (HN.out w5 v' (((a1[j]'hlt).toNat : Int)) HL.out hown5 (by first | exact hiff5 | exact fun hv => HNIL.out (hiff5.1 hv).1) ((hB.alloc hBz _).grown hgrow5 (by simp; omega) (fun k hk => (hge5 k hk).1)))
            clear hown5 hgrow5 hown hiff5 hge5
            go_wp2_with fail
            go_roundw
            case rel => exact HR.out
            case measure => simp [intOf]; omega
          · have hc2 : 122 < (a1[j]'hlt).toNat := by omega
            clear hc
            go_wp2_with (at_builtin; refine wpList_append_own _ rfl _ _ 27 rfl W1.heap.size 5 i0 (.int .u8 0) 1 1 Tryd.underlying27 hi hz0 hz1 hz2 rfl (by decide) _ _ _ rfl (hown.alloc _) ⟨wr.heap.size, 0, none⟩ 1 1 [.int .u8 (((a1[j]'hlt).toNat : Int))] rfl rfl (new1 _ _) (one1 _) (by unfold maxLen; omega) (by omega) (by simp; omega) ?_)
            intro v' w5 hown5 hgrow5 hiff5
            have hge5 := own_block_ge hown
            have HR := Lib.hid (HN.out w5 v' (((a1[j]'hlt).toNat : Int)) HL.out hown5 (by first | exact hiff5 | exact fun hv => HNIL.out (hiff5.1 hv).1) ((hB.alloc hBz _).grown hgrow5 (by simp; omega) (fun k hk => (hge5 k hk).1)))
            clear hown5 hgrow5 hown hiff5 hge5
            go_wp2_with fail
            go_roundw
            case rel => exact HR.out
            case measure => simp [intOf]; omega
      · have HL : Hid (acc = (lst a1).map upb) := show acc = (lst a1).map upb from by rw [HACC.out, List.take_of_length_le (by rw [len_list]; omega)]
        have hlen : acc.length = j := by rw [HACC.out, List.length_map, List.length_take, len_list]; omega
        have hown' : wr.ownsRow W1.heap.size 5 1 u9 acc.length (Lib.byteCells acc) := by rw [hlen]; exact hown
        have HOWN := Lib.hid hown'
        obtain ⟨gg, cc, rfl⟩ := own_shape hown HNIL.out
        obtain ⟨A, hA⟩ : ∃ A : ByteArray, A = ⟨acc.toArray⟩ := ⟨_, rfl⟩
        have hcb : (convert 27 9 (.slice (some ⟨gg, 0, none⟩) j cc)).run Tryd.prog wr = .ok (.string A) wr := by
          obtain ⟨aa, cc2, e3, h⟩ := own_string HOWN.out HNIL.out
          rw [hA]
          exact h
        have HU := Lib.hid (HUP.out A (by rw [hA, lst_mk, HL.out]))
        have HB := Lib.hid (chain (Nat.le_refl _) BW.out hB)
        have GB := Lib.hid (HG.out _ HB.out)
        clear hown hown' hlen HACC HL HOWN hB hBz hA HUP
        by_cases hk1 : 1 ≤ a3
        · by_cases hk2 : a3 ≤ 5
          · have r1 : decide (1 ≤ a3) = true := by simpa using hk1
            have r2 : decide (a3 ≤ 5) = true := by simpa using hk2
            go_wp2_with fail
            refine (HU.out _ GB.out).mono ?_
            rintro e x1 ⟨rfl, hb⟩
            have C1 := Lib.hid (chain (Nat.le_refl _) HB.out hb)
            have D1 := Lib.hid (HG.out _ C1.out)
            clear hb hcb
            go_wp2_with fail
            refine (H1.out _ D1.out).mono ?_
            rintro e x2 ⟨rfl, hb⟩
            have C2 := Lib.hid (chain (Nat.le_refl _) C1.out hb)
            have D2 := Lib.hid (HG.out _ C2.out)
            clear hb
            go_wp2_with fail
            go_ret
            exact ⟨congrArg (fun b => Ending.returned (Value.bool b)) (by simp), C2.out⟩
          · exact absurd (HOUT.out (by omega)) (by simp)
        · exact absurd (HOUT.out (by omega)) (by simp)

set_option maxRecDepth 100000 in
theorem lifted (os : Os) (started : os.Started) (H : Type) (enc : TypeId × Value → H) :
    ReturnsInHanded {} Tryd.checked os 6 .any (fun w args => (Rows.tagEndsSpec.pre enc Tryd.prog Tryd.f6 [] false w args ∧ laidMetH Tryd.prog laid5 w) ∧ sizedMet enc Tryd.prog Tryd.f6 (OpenSpec.ofChange Rows.tagEndsSpec) false w args)
      (Rows.tagEndsSpec.post enc Tryd.prog Tryd.f6 false true false false) := by
  refine returns_shaped (X := fun w _ => laidMetH Tryd.prog laid5 w) (fun _ _ _ hh h => h.of_heap hh) started (by kernel_rfl) Tryd.func6
    (ChangeSpec.witness_at (enc := enc) (C := Tryd.checked) (os := os) (X := fun w _ => laidMetH Tryd.prog laid5 w) false (laidWorld os) #[.string ByteArray.empty, .string ByteArray.empty, .string ByteArray.empty, .int .i64 0] 8 rfl (by kernel_rfl) (by kernel_rfl) (by kernel_rfl) (by kernel_rfl) (by kernel_rfl) (laid_met os _)) ?_
  intro W base args ds gs before hval0 hW hL hsh
  have hval : ∀ (j : Nat) t v, Tryd.f6.params[j]? = some t → args[j]? = some v → Value.okWide Tryd.prog W .any base t v := hval0
  have hW' := hW
  obtain ⟨p, q, hA0, hV, rfl, hfz, hnd⟩ := hW
  have hA : DataW.TrodAll enc Tryd.prog W 0 (fun _ => true) true Tryd.f6.params.toList args.toList ds p := hA0
  rw [Tryd.params6] at hA hval
  obtain ⟨v0, vs0, d0, ds0, p0, q0, hargs, rfl, rfl, h0, r0⟩ := trodAll_cons hA
  obtain ⟨v1, vs1, d1, ds1, p1, q1, rfl, rfl, rfl, h1, r1⟩ := trodAll_cons r0
  obtain ⟨v2, vs2, d2, ds2, p2, q2, rfl, rfl, rfl, h2, r2⟩ := trodAll_cons r1
  obtain ⟨v3, vs3, d3, ds3, p3, q3, rfl, rfl, rfl, h3, r3⟩ := trodAll_cons r2
  obtain ⟨rfl, rfl, rfl⟩ := trodAll_nil r3
  obtain rfl : args = #[v0, v1, v2, v3] := by cases args; simp_all
  obtain ⟨rfl, rfl⟩ := trodVars_none hV
  obtain ⟨a0, rfl, rfl, rfl, w0⟩ := open_string Tryd.underlying9 (hval 0 9 v0 rfl rfl) h0
  obtain ⟨a1, rfl, rfl, rfl, w1⟩ := open_string Tryd.underlying9 (hval 1 9 v1 rfl rfl) h1
  obtain ⟨a2, rfl, rfl, rfl, w2⟩ := open_string Tryd.underlying9 (hval 2 9 v2 rfl rfl) h2
  obtain ⟨a3, rfl, rfl, rfl, w3⟩ := open_int Tryd.underlying3 (hval 3 3 v3 rfl rfl) h3
  clear hA0 hval0
  simp only [List.append_nil] at hW'
  refine (walk a0 a1 a2 a3 w0 w1 w2 w3 W (glob_of hL hsh (six hsh))).mono fun e W' ⟨he, hg⟩ => ?_
  subst he
  exact ⟨_, rfl, _, _, _, [], [], [], hW', (trodAll_cons_mk (shut_bool Tryd.underlying4 _) trodAll_mk0), (trodAll_cons_mk (shut_string Tryd.underlying9 w0) (trodAll_cons_mk (shut_string Tryd.underlying9 w1) (trodAll_cons_mk (shut_string Tryd.underlying9 w2) (trodAll_cons_mk (shut_int Tryd.underlying3 w3) trodAll_mk0)))), rfl, hg.frame _, fun h => by cases h⟩

theorem over : Rows.TagEndsSaid :=
  OpenClaim.holds_of_wide 6 Tryd.f6 rfl rfl rfl rfl rfl rfl rfl ⟨rfl, rfl, rfl, rfl, rfl⟩ rfl rfl rfl rfl rfl (by kernel_rfl) Tryd.func6 (by kernel_rfl)
    (of_decide_eq_true (by kernel_rfl)) (by unfold Func.isWrapper; first | (rw [if_pos (by decide +kernel)]; kernel_rfl) | (rw [if_neg (by decide +kernel)]; exact ⟨rfl, rfl⟩))
    (fun os started H enc _ => lifted os started H enc)

theorem proved : Rows.TagEndsCardSaid :=
  Claim7.holds_tied_plain_at .later [] [.data, .wider, .data, .data, .pinned] true (true, "983f382e791182f6ff44ae0bd4e010dfb45b40c53505750620b68fca4238e8b4") true
    over (fun _ h => by cases h) (by kernel_rfl) (fun _ h => by cases h) tagEnds_row_tie rfl ⟨rfl, rfl⟩ (by kernel_rfl) rfl
    (fun f fn hf hfn => by
      obtain rfl : f = 6 := Option.some.inj ((show Tryd.prog.funcNamed "stet/stetlaw06.TagEnds" = some 6 by kernel_rfl).symm.trans hf) |>.symm
      obtain rfl : fn = Tryd.f6 := (Option.some.inj (Tryd.func6.symm.trans hfn)).symm
      exact ⟨by kernel_rfl, fun j t ht => by
        rw [Tryd.params6] at ht
        have hm : t ∈ [9, 9, 9, 3] := by simpa using Array.mem_of_getElem? ht
        have hall : ([9, 9, 9, 3].all fun u => !Tryd.prog.wantsStandIn u) = true := by kernel_rfl
        exact (show Tryd.prog.wantsStandIn t = false by simpa using List.all_eq_true.1 hall t hm)⟩)
    (by kernel_rfl)
#print axioms proved
end Go.Proofs.YtdnnjakggopdoaaDoor.tagEnds
