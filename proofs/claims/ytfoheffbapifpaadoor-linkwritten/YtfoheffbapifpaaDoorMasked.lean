/-
  PROVED: contract of the law's own masked: a text whose plain marks all have a backslash ahead ('marksL'). Conditions: the text has at most 2000000 bytes.
-/
import Derived.Test.YtfoheffbapifpaaDoorRefText
import Derived.Test.YtfoheffbapifpaaDoorLawPure
namespace Go.Proofs.YtfoheffbapifpaaDoor
open Go.ChangeShapes Go.WideShapes Go.ChangeAt Go.RowKit Go.Sort
set_option linter.unusedVariables false

set_option maxHeartbeats 8000000 in
set_option maxRecDepth 100000 in
theorem masked_any (s : ByteArray) (hs : s.size ≤ 2000000) (w : World) : Calls Tryd.prog 18 #[.string s] w fun e w' => e = .returned (.string ⟨(marksL (lst s)).toArray⟩) ∧ Below w.heap.size w w' := by
  obtain ⟨i0, hi, hz0, hz1, hz2⟩ := info_parts Tryd.info5
  go_enter Tryd.func18, Tryd.ntmps18
  go_wp2_with fail
  go_loopw [3, 4] (fun v i wr => BRel marksL s w v i wr) (fun _ i _ => s.size - (intOf i).toNat)
  case atStart => exact ⟨0, [], Nat.zero_le _, rfl, rfl, by simp, own_empty5 _ _ (Nat.le_refl _), (fun h => by cases h), (Below.refl _ _).alloc (Nat.le_refl _) _⟩
  case round =>
    obtain ⟨p, acc, hp, rfl, hacc, hal, hown0, hnil, hB0⟩ := hrel
    have hBz := hB0.size
    have HNIL := Lib.hid hnil
    by_cases hlt : p < s.size
    · have hn := (s[p]'hlt).toNat_lt
      have hx := (m1_len (s[p]'hlt)).2
      have HS := Lib.hid (fun (w2 : World) (v : Value) (x : List UInt8) (hxx : m1 (s[p]'hlt) = x) (ho : w2.ownsRow w.heap.size 5 1 v (acc.length + x.length) (Lib.byteCells acc ++ Lib.byteCells x)) (hv : v ≠ .slice none 0 0) (hb : Below w.heap.size w w2) => brel_step (f := marksL) (n := 1) (x := x) rfl (by omega) (by rw [← hxx]; omega) hacc hal (by rw [lst_at s p hlt, marksL_cons, hxx]) ho hv hb)
      have hP := fun W => plain_any ((s[p]'hlt).toNat : Int) (by omega) (by omega) W
      clear hacc hnil hx
      cases hpl : pl (s[p]'hlt) with
      | true =>
        have HX : Hid (m1 (s[p]'hlt) = [92, s[p]'hlt]) := show m1 (s[p]'hlt) = _ from by unfold m1; rw [if_pos hpl]
        have HP : Hid (∀ W, Calls Tryd.prog 45 #[.int .u8 (s[p]'hlt).toNat] W (Grows (.bool true) W)) := fun W => by
          have := hP W
          rw [show inSps ((s[p]'hlt).toNat : Int) plainL = true from hpl] at this
          exact this
        clear hP hpl
        go_wp2_with fail
        refine (HP.out _).mono ?_
        rintro e w2 hG
        obtain ⟨rfl, hb⟩ := hG.below
        have hown := own_below hown0 hb
        have hB1 : Below w.heap.size w w2 := hB0.trans (hb.mono hBz)
        have hz2' := hB1.size
        clear hG hb HP hown0 hB0
        go_wp2_with (at_builtin; refine wpList_append_own _ rfl _ _ 43 rfl w.heap.size 5 i0 (.int .u8 0) 1 1 Tryd.underlying43 hi hz0 hz1 hz2 rfl (by decide) _ _ _ rfl (hown.alloc _) ⟨w2.heap.size, 0, none⟩ 1 1 (Lib.byteCells [92]) rfl rfl (newsB _ [92]) (bytes_one _) (by unfold maxLen; omega) (by omega) (by simp; omega) ?_)
        intro v' w3 hown3 hgrow hiff
        have hge := own_block_ge hown
        have HN3 : Hid (v' ≠ .slice none 0 0) := by first | exact hiff | exact fun hv => HNIL.out (hiff.1 hv).1
        have hB3 : Below w.heap.size w w3 := (hB1.alloc (by omega) _).grown hgrow (by simp; omega) (fun k hk => (hge k hk).1)
        have hz3 := hB3.size
        clear hgrow hown hiff hge hB1
        go_wp2_with (at_builtin; refine wpList_append_own _ rfl _ _ 43 rfl w.heap.size 5 i0 (.int .u8 0) 1 1 Tryd.underlying43 hi hz0 hz1 hz2 rfl (by decide) _ _ _ rfl (hown3.alloc _) ⟨w3.heap.size, 0, none⟩ 1 1 (Lib.byteCells [s[p]'hlt]) rfl rfl (newsB _ [s[p]'hlt]) (bytes_one _) (by unfold maxLen; omega) (by omega) (by simp; omega) ?_)
        intro v4 w4 hown4 hgrow hiff
        have hge := own_block_ge hown3
        have HR := Lib.hid (HS.out w4 v4 _ HX.out (by first | exact hown4 | (rw [List.append_assoc] at hown4; exact hown4)) (by first | exact hiff | exact fun hv => HN3.out (hiff.1 hv).1) ((hB3.alloc (by omega) _).grown hgrow (by simp; omega) (fun k hk => (hge k hk).1)))
        clear hown4 hgrow hown3 hiff hge hB3 HS
        go_wp2_with fail
        go_roundw
        case rel => exact HR.out
        case measure => simp [intOf]; omega
      | false =>
        have HX : Hid (m1 (s[p]'hlt) = [s[p]'hlt]) := show m1 (s[p]'hlt) = _ from by unfold m1; rw [if_neg (by rw [hpl]; simp)]
        have HP : Hid (∀ W, Calls Tryd.prog 45 #[.int .u8 (s[p]'hlt).toNat] W (Grows (.bool false) W)) := fun W => by
          have := hP W
          rw [show inSps ((s[p]'hlt).toNat : Int) plainL = false from hpl] at this
          exact this
        clear hP hpl
        go_wp2_with fail
        refine (HP.out _).mono ?_
        rintro e w2 hG
        obtain ⟨rfl, hb⟩ := hG.below
        have hown := own_below hown0 hb
        have hB1 : Below w.heap.size w w2 := hB0.trans (hb.mono hBz)
        have hz2' := hB1.size
        clear hG hb HP hown0 hB0
        go_wp2_with (at_builtin; refine wpList_append_own _ rfl _ _ 43 rfl w.heap.size 5 i0 (.int .u8 0) 1 1 Tryd.underlying43 hi hz0 hz1 hz2 rfl (by decide) _ _ _ rfl (hown.alloc _) ⟨w2.heap.size, 0, none⟩ 1 1 (Lib.byteCells [s[p]'hlt]) rfl rfl (newsB _ [s[p]'hlt]) (bytes_one _) (by unfold maxLen; omega) (by omega) (by simp; omega) ?_)
        intro v' w3 hown3 hgrow hiff
        have hge := own_block_ge hown
        have HR := Lib.hid (HS.out w3 v' _ HX.out hown3 (by first | exact hiff | exact fun hv => HNIL.out (hiff.1 hv).1) ((hB1.alloc (by omega) _).grown hgrow (by simp; omega) (fun k hk => (hge k hk).1)))
        clear hown3 hgrow hown hiff hge hB1 HS
        go_wp2_with fail
        go_roundw
        case rel => exact HR.out
        case measure => simp [intOf]; omega
    · obtain ⟨a, c, rfl, hconv⟩ := own_string hown0 hnil
      have h1 := hacc
      rw [lst_out s p (by omega), marksL_nil, List.append_nil] at h1
      have H1 := Lib.hid h1
      have HB0 := Lib.hid hB0
      clear h1 hacc hnil hB0 hown0
      go_wp2_with fail
      go_ret
      rw [← H1.out]
      exact ⟨rfl, HB0.out⟩
end Go.Proofs.YtfoheffbapifpaaDoor
