/-
  PROVED: the walk of stetlaw03.ClassTags: it returns true for every text. Conditions: the tables of unicode/utf8 are laid.
-/
import Derived.Test.YtmdgjpnkaogleaaDoorBlock
import Derived.Test.YtmdgjpnkaogleaaDoorRefBlock
namespace Go.Proofs.YtmdgjpnkaogleaaDoor
open Go.ChangeShapes Go.WideShapes Go.ChangeAt Go.RowKit Go.Sort Go.Shelf
set_option linter.unusedVariables false

theorem tag_div : isTag (Lib.mapD lowR [68, 73, 86]) = true := by rw [tag_same]; decide +kernel
theorem tag_span : isTag (Lib.mapD lowR [115, 112, 97, 110]) = false := by rw [tag_same]; decide +kernel
theorem block_is (s : ByteArray) (hs : s.size ≤ 2000000) (v : Bool) (hv : isTag (Lib.mapD lowR s.data.toList) = v) (w : World) (hT : Lib.Utf8Tabs 0 1 w) :
    Calls Tryd.prog 4 #[.string s] w fun e w' => e = .returned (.bool v) ∧ Below w.heap.size w w' := by
  subst hv
  exact block_any s hs w hT
theorem refTag_is (s : ByteArray) : refTag s = isTag (Lib.mapD lowR s.data.toList) := by
  unfold refTag
  by_cases h : s.size < 20
  · rw [decide_eq_true h, Bool.true_and, tag_short _ (by rw [len_list]; exact h)]
  · rw [decide_eq_false h, tag_long _ (by rw [len_list]; exact h)]; rfl
theorem upb_nat (x : UInt8) : (upb x).toNat = if 97 ≤ x.toNat ∧ x.toNat ≤ 122 then x.toNat - 32 else x.toNat := by
  unfold upb
  split
  · rename_i h
    have h1 := x.toNat_lt
    rw [UInt8.toNat_sub]
    have : (32 : UInt8).toNat = 32 := rfl
    omega
  · rfl

/-- What the law's loop goes by. -/
def URel (s : ByteArray) (w : World) (v i : Value) (wr : World) : Prop :=
  ∃ j : Nat, j ≤ s.size ∧ i = .int .i64 j ∧ wr.ownsRow w.heap.size 5 1 v j (Lib.byteCells ((s.data.toList.take j).map upb)) ∧ v ≠ .slice none 0 0 ∧ Below w.heap.size w wr
theorem urel_next {s : ByteArray} {w w2 : World} {v : Value} {j : Nat} {c : Int} (h : j < s.size) (hc : c = ((upb (s[j]'h)).toNat : Int)) (ho : w2.ownsRow w.heap.size 5 1 v (j + 1) (Lib.byteCells ((s.data.toList.take j).map upb) ++ [.int .u8 c])) (hv : v ≠ .slice none 0 0) (hb : Below w.heap.size w w2) :
    URel s w v (.int .i64 ((j : Int) + 1)) w2 := by
  refine ⟨j + 1, by omega, by simp, ?_, hv, hb⟩
  rw [take_map upb s j h, Lib.byteCells_append]
  subst hc
  exact ho

set_option maxHeartbeats 4000000 in
set_option maxRecDepth 100000 in
theorem tags_walk (a0 : ByteArray) (w0 : a0.size ≤ maxLen) (w : World) (hT : Lib.Utf8Tabs 0 1 w) :
    Calls Tryd.prog 3 #[.string a0] w fun e w' => e = .returned (.bool true) ∧ Below w.heap.size w w' := by
  obtain ⟨i0, hi, hz0, hz1, hz2⟩ := info_parts Tryd.info5
  have D1 := Lib.hid (fun W hW => block_is ⟨#[68, 73, 86]⟩ (by decide) true tag_div W hW)
  have D2 := Lib.hid (fun W hW => block_is ⟨#[115, 112, 97, 110]⟩ (by decide) false tag_span W hW)
  have HT := Lib.hid (fun w' (hb : Below w.heap.size w w') => Utf8Tabs_below hT hb)
  have HT0 := Lib.hid hT
  clear hT
  by_cases hl : 1000 < a0.size
  · go_enter Tryd.func3, Tryd.ntmps3
    go_wp2_with fail
    refine (D1.out _ HT0.out).mono ?_
    rintro e w1 ⟨rfl, hb1⟩
    go_wp2_with fail
    refine (D2.out _ (HT.out _ hb1)).mono ?_
    rintro e w2 ⟨rfl, hb2⟩
    have hB := chain (Nat.le_refl _) hb1 hb2
    clear hb1 hb2 D1 D2 HT HT0
    go_wp2_with fail
    go_ret
    exact ⟨rfl, hB⟩
  · obtain ⟨t, ht⟩ : ∃ t, isTag (Lib.mapD lowR a0.data.toList) = t := ⟨_, rfl⟩
    have HB1 := Lib.hid (fun W hW => block_is a0 (by omega) t ht W hW)
    have HB2 : Hid (∀ W, Calls Tryd.prog 5 #[.string a0] W fun e w' => e = .returned (.bool t) ∧ Below W.heap.size W w') := fun W => by
      have h := refBlock_any a0 (by omega) W
      rw [refTag_is, ht] at h
      exact h
    have HB3 : Hid (∀ W, Lib.Utf8Tabs 0 1 W → Calls Tryd.prog 4 #[.string ⟨(a0.data.toList.map upb).toArray⟩] W fun e w' => e = .returned (.bool t) ∧ Below W.heap.size W w') := fun W hW =>
      block_is ⟨(a0.data.toList.map upb).toArray⟩ (by show (a0.data.toList.map upb).toArray.size ≤ 2000000; simp; show a0.data.size ≤ 2000000; have : a0.data.size = a0.size := rfl; omega) t (by rw [show (ByteArray.mk (a0.data.toList.map upb).toArray).data.toList = a0.data.toList.map upb from by simp, tag_up]; exact ht) W hW
    clear ht
    go_enter Tryd.func3, Tryd.ntmps3
    go_wp2_with fail
    refine (D1.out _ HT0.out).mono ?_
    rintro e w1 ⟨rfl, hb1⟩
    go_wp2_with fail
    refine (D2.out _ (HT.out _ hb1)).mono ?_
    rintro e W1 ⟨rfl, hb2⟩
    have hW := chain (Nat.le_refl _) hb1 hb2
    have HW := Lib.hid hW
    clear hb1 hb2 D1 D2 hW
    go_wp2_with fail
    go_loopw [3, 4] (fun v i wr => URel a0 W1 v i wr) (fun _ i _ => a0.size - (intOf i).toNat)
    case atStart => exact ⟨0, Nat.zero_le _, rfl, own_empty5 _ _ (Nat.le_refl _), (fun h => by cases h), (Below.refl _ _).alloc (Nat.le_refl _) _⟩
    case round =>
      obtain ⟨j, hj, rfl, hown, hnil, hB⟩ := hrel
      have HNIL := Lib.hid hnil
      have hBz := hB.size
      clear hnil
      obtain ⟨acc, hacc⟩ : ∃ acc, acc = (a0.data.toList.take j).map upb := ⟨_, rfl⟩
      rw [← hacc] at hown
      have HACC := Lib.hid hacc
      clear hacc
      by_cases hlt : j < a0.size
      · have HN := Lib.hid (fun (w2 : World) (v : Value) (c : Int) h1 h2 h3 h4 => urel_next (s := a0) (w := W1) (w2 := w2) (v := v) (c := c) hlt h1 h2 h3 h4)
        rw [← HACC.out] at HN
        have hb := (a0[j]'hlt).toNat_lt
        by_cases hc : 97 ≤ (a0[j]'hlt).toNat ∧ (a0[j]'hlt).toNat ≤ 122
        · have HL : Hid (((a0[j]'hlt).toNat : Int) - 32 = ((upb (a0[j]'hlt)).toNat : Int)) := show ((a0[j]'hlt).toNat : Int) - 32 = ((upb (a0[j]'hlt)).toNat : Int) from by rw [upb_nat, if_pos hc]; omega
          obtain ⟨hc1, hc2⟩ := hc
          go_wp2_with (at_builtin; refine wpList_append_own _ rfl _ _ 23 rfl W1.heap.size 5 i0 (.int .u8 0) 1 1 Tryd.underlying23 hi hz0 hz1 hz2 rfl (by decide) _ _ _ rfl (hown.alloc _) ⟨wr.heap.size, 0, none⟩ 1 1 [.int .u8 (((a0[j]'hlt).toNat : Int) - 32)] rfl rfl (new1 _ _) (one1 _) (by unfold maxLen; omega) (by omega) (by simp; omega) ?_)
          intro v' w5 hown5 hgrow5 hiff5
          have hge5 := own_block_ge hown
          have HR := Lib.hid (HN.out w5 v' (((a0[j]'hlt).toNat : Int) - 32) HL.out hown5 (by first | exact hiff5 | exact fun hv => HNIL.out (hiff5.1 hv).1) ((hB.alloc hBz _).grown hgrow5 (by simp; omega) (fun k hk => (hge5 k hk).1)))
          clear hown5 hgrow5 hown hiff5 hge5
          go_wp2_with fail
          go_roundw
          case rel => exact HR.out
          case measure => simp [intOf]; omega
        · have HL : Hid (((a0[j]'hlt).toNat : Int) = ((upb (a0[j]'hlt)).toNat : Int)) := show ((a0[j]'hlt).toNat : Int) = ((upb (a0[j]'hlt)).toNat : Int) from by rw [upb_nat, if_neg hc]
          by_cases hc1 : (a0[j]'hlt).toNat < 97
          · clear hc
            go_wp2_with (at_builtin; refine wpList_append_own _ rfl _ _ 23 rfl W1.heap.size 5 i0 (.int .u8 0) 1 1 Tryd.underlying23 hi hz0 hz1 hz2 rfl (by decide) _ _ _ rfl (hown.alloc _) ⟨wr.heap.size, 0, none⟩ 1 1 [.int .u8 ((a0[j]'hlt).toNat : Int)] rfl rfl (new1 _ _) (one1 _) (by unfold maxLen; omega) (by omega) (by simp; omega) ?_)
            intro v' w5 hown5 hgrow5 hiff5
            have hge5 := own_block_ge hown
            have HR := Lib.hid (HN.out w5 v' ((a0[j]'hlt).toNat : Int) HL.out hown5 (by first | exact hiff5 | exact fun hv => HNIL.out (hiff5.1 hv).1) ((hB.alloc hBz _).grown hgrow5 (by simp; omega) (fun k hk => (hge5 k hk).1)))
            clear hown5 hgrow5 hown hiff5 hge5
            go_wp2_with fail
            go_roundw
            case rel => exact HR.out
            case measure => simp [intOf]; omega
          · have hc2 : 122 < (a0[j]'hlt).toNat := by omega
            clear hc
            go_wp2_with (at_builtin; refine wpList_append_own _ rfl _ _ 23 rfl W1.heap.size 5 i0 (.int .u8 0) 1 1 Tryd.underlying23 hi hz0 hz1 hz2 rfl (by decide) _ _ _ rfl (hown.alloc _) ⟨wr.heap.size, 0, none⟩ 1 1 [.int .u8 ((a0[j]'hlt).toNat : Int)] rfl rfl (new1 _ _) (one1 _) (by unfold maxLen; omega) (by omega) (by simp; omega) ?_)
            intro v' w5 hown5 hgrow5 hiff5
            have hge5 := own_block_ge hown
            have HR := Lib.hid (HN.out w5 v' ((a0[j]'hlt).toNat : Int) HL.out hown5 (by first | exact hiff5 | exact fun hv => HNIL.out (hiff5.1 hv).1) ((hB.alloc hBz _).grown hgrow5 (by simp; omega) (fun k hk => (hge5 k hk).1)))
            clear hown5 hgrow5 hown hiff5 hge5
            go_wp2_with fail
            go_roundw
            case rel => exact HR.out
            case measure => simp [intOf]; omega
      · have HL : Hid (acc = a0.data.toList.map upb) := show acc = a0.data.toList.map upb from by rw [HACC.out, List.take_of_length_le (by rw [len_list]; omega)]
        have hlen : acc.length = j := by rw [HACC.out, List.length_map, List.length_take, len_list]; omega
        have hown' : wr.ownsRow W1.heap.size 5 1 u3 acc.length (Lib.byteCells acc) := by rw [hlen]; exact hown
        have HOWN := Lib.hid hown'
        obtain ⟨gg, cc, rfl⟩ := own_shape hown HNIL.out
        obtain ⟨A, hA⟩ : ∃ A : ByteArray, A = ⟨acc.toArray⟩ := ⟨_, rfl⟩
        have HCV : Hid (∀ W, Below wr.heap.size wr W → (convert 23 9 (.slice (some ⟨gg, 0, none⟩) j cc)).run Tryd.prog W = .ok (.string A) W) := fun W hW => by
          obtain ⟨aa, cc2, e3, h⟩ := own_string (own_below HOWN.out hW) HNIL.out
          rw [hA]
          exact h
        rw [← HL.out] at HB3
        have HB3' := Lib.hid HB3.out
        rw [← hA] at HB3'
        clear hown hown' hlen HB3 hA HACC
        go_wp2_with fail
        refine (HB1.out _ (HT.out _ (chain (Nat.le_refl _) HW.out (hB.mono (Nat.le_refl _))))).mono ?_
        rintro e w3 ⟨rfl, hb3⟩
        have hB3 : Below w.heap.size w w3 := chain (Nat.le_refl _) (chain (Nat.le_refl _) HW.out hB) hb3
        have HR3 := Lib.hid hb3
        clear hb3
        go_wp2_with fail
        refine (HB2.out _).mono ?_
        rintro e w4 ⟨rfl, hb4⟩
        have hB4 : Below w.heap.size w w4 := chain (Nat.le_refl _) hB3 hb4
        have hconv := HCV.out w4 (chain (Nat.le_refl _) HR3.out hb4)
        clear hb4 HB2 HR3 hB3
        go_wp2_with fail
        refine (HB3'.out _ (HT.out _ hB4)).mono ?_
        rintro e w5 ⟨rfl, hb5⟩
        have hB5 : Below w.heap.size w w5 := chain (Nat.le_refl _) hB4 hb5
        clear hb5 hB4 hconv
        go_wp2_with fail
        refine (HB1.out _ (HT.out _ hB5)).mono ?_
        rintro e w6 ⟨rfl, hb6⟩
        have hB6 : Below w.heap.size w w6 := chain (Nat.le_refl _) hB5 hb6
        clear hb6 hB5
        go_wp2_with fail
        go_ret
        exact ⟨rfl, hB6⟩
end Go.Proofs.YtmdgjpnkaogleaaDoor
