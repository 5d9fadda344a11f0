/-
  PROVED: contract of the document's own Show: a number's decimal digits. Conditions: the number is an integer of 64 bits.
-/
import Derived.Test.YtdfhgcknelgdmaaDoorBts
import Derived.Lib.ItoaLen
namespace Go.Proofs.YtdfhgcknelgdmaaDoor
open Go.ChangeShapes Go.WideShapes Go.ChangeAt Go.RowKit Go.Sort
set_option linter.unusedVariables false

theorem neg_mod (u : Nat) : (-(u : Int)).tmod 10 = -((u % 10 : Nat) : Int) := by rw [Int.neg_tmod, Int.tmod_eq_emod_of_nonneg (by omega)]; omega
theorem neg_div (u : Nat) : (-(u : Int)).tdiv 10 = -((u / 10 : Nat) : Int) := by rw [Int.neg_tdiv, Int.tdiv_eq_ediv_of_nonneg (by omega)]; omega
theorem dig_byte (u : Nat) : (UInt8.ofNat (48 + u % 10)).toNat = 48 + u % 10 := by
  rw [UInt8.toNat_ofNat']; omega
theorem digR_len (v : Int) (h1 : -9223372036854775808 ≤ v) (h2 : v ≤ 9223372036854775807) : (digR v.natAbs).length ≤ 100 := by
  have h := Lib.itoa_length_le v h1 h2
  rw [itoa_rev] at h
  simp at h
  omega

theorem dig_cells (u : Nat) : [Value.int .u8 (48 + (u : Int) % 10)] = Lib.byteCells [UInt8.ofNat (48 + u % 10)] := by
  show _ = [Value.int .u8 ((UInt8.ofNat (48 + u % 10)).toNat)]
  rw [dig_byte]
  have : (48 + (u : Int) % 10) = ((48 + u % 10 : Nat) : Int) := by omega
  rw [this]
theorem new1 (w : World) (a : Value) : ∀ j u, [a][j]? = some u → (w.alloc (.cells #[a] 5)).cell? ((⟨w.heap.size, 0, none⟩ : Addr).add j) = some u := by
  intro j u hj
  match j, hj with
  | 0, hj => simp at hj; subst hj; simp [Addr.add]
theorem one1 (a : Int) : ∀ u ∈ [Value.int .u8 a], u.oneCell' = true := by
  intro u hu
  simp at hu
  subst hu; rfl
/-- What the loop over the digits goes by. -/
def DgRel (V : Nat) (w : World) (n v : Value) (wr : World) : Prop :=
  ∃ (u : Nat) (acc : List UInt8), n = .int .i64 (-(u : Int)) ∧ u ≤ V ∧ acc ++ digR u = digR V ∧ wr.ownsRow w.heap.size 5 1 v acc.length (Lib.byteCells acc) ∧ v ≠ .slice none 0 0 ∧ Below w.heap.size w wr
/-- The loop that turns them round. -/
def TRel (L : List UInt8) (W : World) (v i : Value) (wr : World) : Prop :=
  ∃ (k : Nat), k ≤ L.length ∧ i = .int .i64 ((k : Int) - 1) ∧ wr.ownsRow W.heap.size 5 1 v (L.drop k).reverse.length (Lib.byteCells (L.drop k).reverse) ∧ v ≠ .slice none 0 0 ∧ Below W.heap.size W wr
theorem drop_rev (L : List UInt8) (k : Nat) (h : k < L.length) : (L.drop k).reverse = (L.drop (k + 1)).reverse ++ [L[k]'h] := by
  rw [List.drop_eq_getElem_cons h, List.reverse_cons]

set_option maxRecDepth 100000 in
set_option maxHeartbeats 8000000 in
theorem refItoa_any (v : Int) (h1 : -9223372036854775808 ≤ v) (h2 : v ≤ 9223372036854775807) (w : World) : Calls Tryd.prog 35 #[.int .i64 v] w fun e w' => e = .returned (.string ⟨(Lib.itoa v).toArray⟩) ∧ Below w.heap.size w w' := by
  obtain ⟨i0, hi, hz0, hz1, hz2⟩ := info_parts Tryd.info5
  have hV100 := digR_len v h1 h2
  have HI := Lib.hid (itoa_rev v)
  obtain ⟨V, hV⟩ : ∃ V, V = v.natAbs := ⟨_, rfl⟩
  rw [← hV] at HI hV100
  have hVb : V ≤ 9223372036854775808 := by omega
  by_cases hp : 0 < v
  · have hn : -v = -(V : Int) := by omega
    have HN := Lib.hid hn
    go_enter Tryd.func35, Tryd.ntmps35
    go_wp2_with fail
    go_loopw [3, 4] (fun n v wr => DgRel V w n v wr) (fun n _ _ => (intOf n).natAbs)
    case atStart => exact ⟨V, [], by go_num, Nat.le_refl _, rfl, own_empty w w.heap.size 5 1 (Nat.le_refl _), (fun h => by cases h), (Below.refl _ _).alloc (Nat.le_refl _) _⟩
    case round =>
      obtain ⟨u, acc, rfl, hu, hacc, hown, hnil, hB⟩ := hrel
      have hal : acc.length ≤ 100 := by have := congrArg List.length hacc; rw [List.length_append] at this; omega
      have hBz := hB.size
      have m1 := neg_mod u
      have m2 := neg_div u
      have HNIL := Lib.hid hnil
      have HACC := Lib.hid hacc
      have HB := Lib.hid hB
      clear hacc hnil hB
      go_wp2_with (at_builtin; refine wpList_append_own _ rfl _ _ 56 rfl w.heap.size 5 i0 (.int .u8 0) 1 1 Tryd.underlying56 hi hz0 hz1 hz2 rfl (by decide) _ _ _ rfl (hown.alloc _) ⟨wr.heap.size, 0, none⟩ 1 1 [.int .u8 (48 + (u : Int) % 10)] rfl rfl (new1 _ _) (one1 _) (by unfold maxLen; omega) (by omega) (by simp; omega) ?_)
      intro v' w3 hown' hgrow hiff
      have hge := own_block_ge hown
      rw [dig_cells, ← Lib.byteCells_append] at hown'
      have HO := Lib.hid hown'
      have HB3 := Lib.hid ((HB.out.alloc (by omega) _).grown hgrow (by simp; omega) (fun k hk => (hge k hk).1))
      have HN3 : Hid (v' ≠ .slice none 0 0) := by first | exact hiff | exact fun hv => HNIL.out (hiff.1 hv).1
      clear hown' hgrow hown hiff hge HNIL HB
      by_cases hz : u / 10 = 0
      · have q0 : (-((u : Int) / 10) == 0) = true := by rw [beq_iff_eq]; omega
        have HE : Hid (acc ++ [UInt8.ofNat (48 + u % 10)] = digR V) := by
          show _ = _
          rw [← HACC.out, digR_any u, if_pos hz]
        have HO2 : Hid (w3.ownsRow w.heap.size 5 1 v' (digR V).length (Lib.byteCells (digR V))) := by show World.ownsRow _ _ _ _ _ _ _; rw [← HE.out, List.length_append]; exact HO.out
        clear HO HE HACC hal
        obtain ⟨L, hL⟩ : ∃ L, L = digR V := ⟨_, rfl⟩
        rw [← hL] at HO2 HI hV100
        have hbz3 := HB3.out.size
        clear hL
        obtain ⟨gd, cd, rfl, _, hgl, hcd⟩ := own_at HO2.out HN3.out
        have HD := Lib.hid hcd
        have HBW := HB3
        have HF : Hid (Lib.itoa v = L.reverse) := by show _ = _; rw [HI.out, if_neg (by omega), List.append_nil]
        clear hcd
        go_wp2_with fail
        go_loopw [5, 6] (fun v i wr => TRel L w3 v i wr) (fun _ i _ => (intOf i + 1).toNat)
        case atStart => exact ⟨L.length, Nat.le_refl _, by go_num, by rw [List.drop_length]; exact own_empty w3 w3.heap.size 5 1 (Nat.le_refl _), (fun h => by cases h), (Below.refl _ _).alloc (Nat.le_refl _) _⟩
        case round =>
          obtain ⟨k, hk, rfl, hown, hnil, hB⟩ := hrel
          have hBz := hB.size
          have HNIL := Lib.hid hnil
          have HB := Lib.hid hB
          clear hnil hB
          rcases Nat.eq_zero_or_pos k with rfl | hk0
          · rw [List.drop_zero] at hown
            obtain ⟨R, hR⟩ : ∃ R, R = L.reverse := ⟨_, rfl⟩
            rw [← hR] at hown
            have HR := Lib.hid hR
            clear hR
            obtain ⟨a, c, rfl, hconv⟩ := own_string hown HNIL.out
            go_wp2_with fail
            go_ret
            exact ⟨by rw [HF.out, HR.out]; rfl, HBW.out.trans (HB.out.mono (by omega))⟩
          · obtain ⟨m, rfl⟩ : ∃ m, k = m + 1 := ⟨k - 1, by omega⟩
            obtain ⟨x, hx⟩ : ∃ x, x = L[m]'(by omega) := ⟨_, rfl⟩
            have cx : wr.cell? ⟨gd, m, none⟩ = some (.int .u8 x.toNat) := by rw [hx]; exact (HB.out.cell (p := ⟨gd, m, none⟩) hgl).trans (HD.out m (by omega))
            have hlr : (L.drop (m + 1)).reverse.length ≤ 200 := by simp; omega
            have HX : Hid ((L.drop (m + 1)).reverse ++ [x] = (L.drop m).reverse) := by show _ = _; rw [drop_rev L m (by omega), hx]
            have hs1 : ((m + 1 : Nat) : Int) - 1 = (m : Int) := by omega
            rw [hs1]
            clear hx
            generalize (L.drop (m + 1)).reverse = R at *
            go_wp2_with (at_builtin; refine wpList_append_own _ rfl _ _ 56 rfl w3.heap.size 5 i0 (.int .u8 0) 1 1 Tryd.underlying56 hi hz0 hz1 hz2 rfl (by decide) _ _ _ rfl (hown.alloc _) ⟨wr.heap.size, 0, none⟩ 1 1 [.int .u8 x.toNat] rfl rfl (new1 _ _) (one1 _) (by unfold maxLen; omega) (by omega) (by simp; omega) ?_)
            intro v' w5 hown' hgrow hiff
            have hge := own_block_ge hown
            rw [show [Value.int .u8 x.toNat] = Lib.byteCells [x] from rfl, ← Lib.byteCells_append] at hown'
            have HO5 : Hid (w5.ownsRow w3.heap.size 5 1 v' (L.drop m).reverse.length (Lib.byteCells (L.drop m).reverse)) := by show World.ownsRow _ _ _ _ _ _ _; rw [← HX.out, List.length_append]; exact hown'
            have HB5 := Lib.hid ((HB.out.alloc (by omega) _).grown hgrow (by simp; omega) (fun k hk => (hge k hk).1))
            have HN5 : Hid (v' ≠ .slice none 0 0) := by first | exact hiff | exact fun hv => HNIL.out (hiff.1 hv).1
            clear hown' hgrow hown hiff hge HNIL HB cx
            go_wp2_with fail
            go_roundw
            case rel => exact ⟨m, by omega, by go_num, HO5.out, HN5.out, HB5.out⟩
            case measure => first | (simp [intOf]; done) | (simp [intOf]; omega)
      · have q0 : (-((u : Int) / 10) == 0) = false := by rw [beq_eq_false_iff_ne]; omega
        have HE : Hid (acc ++ [UInt8.ofNat (48 + u % 10)] ++ digR (u / 10) = digR V) := by
          show _ = _
          rw [← HACC.out, digR_any u, if_neg hz]
          simp
        go_wp2_with fail
        go_roundw
        case rel => exact ⟨u / 10, _, by go_num, by omega, HE.out, by have := HO.out; rwa [List.length_append] , HN3.out, HB3.out⟩
        case measure => simp [intOf]; omega
  by_cases hm : v < 0
  · have hn : Hid (v = -(V : Int)) := show v = -(V : Int) from by omega
    clear hV
    go_enter Tryd.func35, Tryd.ntmps35
    go_wp2_with fail
    go_loopw [3, 4] (fun n v wr => DgRel V w n v wr) (fun n _ _ => (intOf n).natAbs)
    case atStart => exact ⟨V, [], by rw [← hn.out], Nat.le_refl _, rfl, own_empty w w.heap.size 5 1 (Nat.le_refl _), (fun h => by cases h), (Below.refl _ _).alloc (Nat.le_refl _) _⟩
    case round =>
      obtain ⟨u, acc, rfl, hu, hacc, hown, hnil, hB⟩ := hrel
      have hal : acc.length ≤ 100 := by have := congrArg List.length hacc; rw [List.length_append] at this; omega
      have hBz := hB.size
      have m1 := neg_mod u
      have m2 := neg_div u
      have HNIL := Lib.hid hnil
      have HACC := Lib.hid hacc
      have HB := Lib.hid hB
      clear hacc hnil hB
      go_wp2_with (at_builtin; refine wpList_append_own _ rfl _ _ 56 rfl w.heap.size 5 i0 (.int .u8 0) 1 1 Tryd.underlying56 hi hz0 hz1 hz2 rfl (by decide) _ _ _ rfl (hown.alloc _) ⟨wr.heap.size, 0, none⟩ 1 1 [.int .u8 (48 + (u : Int) % 10)] rfl rfl (new1 _ _) (one1 _) (by unfold maxLen; omega) (by omega) (by simp; omega) ?_)
      intro v' w3 hown' hgrow hiff
      have hge := own_block_ge hown
      rw [dig_cells, ← Lib.byteCells_append] at hown'
      have HO := Lib.hid hown'
      have HB3 := Lib.hid ((HB.out.alloc (by omega) _).grown hgrow (by simp; omega) (fun k hk => (hge k hk).1))
      have HN3 : Hid (v' ≠ .slice none 0 0) := by first | exact hiff | exact fun hv => HNIL.out (hiff.1 hv).1
      clear hown' hgrow hown hiff hge HNIL HB
      by_cases hz : u / 10 = 0
      · have q0 : (-((u : Int) / 10) == 0) = true := by rw [beq_iff_eq]; omega
        have HE : Hid (acc ++ [UInt8.ofNat (48 + u % 10)] = digR V) := by
          show _ = _
          rw [← HACC.out, digR_any u, if_pos hz]
        have HO2 : Hid (w3.ownsRow w.heap.size 5 1 v' (digR V).length (Lib.byteCells (digR V))) := by show World.ownsRow _ _ _ _ _ _ _; rw [← HE.out, List.length_append]; exact HO.out
        clear HO HE HACC hal
        obtain ⟨L, hL⟩ : ∃ L, L = digR V := ⟨_, rfl⟩
        rw [← hL] at HO2 HI hV100
        have hbz3 := HB3.out.size
        clear hL
        have hown := HO2.out
        go_wp2_with (at_builtin; refine wpList_append_own _ rfl _ _ 56 rfl w.heap.size 5 i0 (.int .u8 0) 1 1 Tryd.underlying56 hi hz0 hz1 hz2 rfl (by decide) _ _ _ rfl (hown.alloc _) ⟨w3.heap.size, 0, none⟩ 1 1 [.int .u8 45] rfl rfl (new1 _ _) (one1 _) (by unfold maxLen; omega) (by omega) (by simp; omega) ?_)
        intro v4 w4 hown' hgrow hiff
        have hge := own_block_ge hown
        have HO4 : Hid (w4.ownsRow w.heap.size 5 1 v4 (L ++ [45]).length (Lib.byteCells (L ++ [45]))) := by show World.ownsRow _ _ _ _ _ _ _; rw [Lib.byteCells_append, List.length_append]; exact hown'
        have HB4 := Lib.hid ((HB3.out.alloc (by omega) _).grown hgrow (by simp; omega) (fun k hk => (hge k hk).1))
        have HN4 : Hid (v4 ≠ .slice none 0 0) := by first | exact hiff | exact fun hv => HN3.out (hiff.1 hv).1
        have HF : Hid (Lib.itoa v = (L ++ [45]).reverse) := by show _ = _; rw [HI.out, if_pos (by omega)]
        have hl4 : (L ++ [45]).length ≤ 101 := by simp; omega
        have hbz4 := HB4.out.size
        clear hown' hgrow hown hiff hge HN3 HB3 HO2 HI hV100
        generalize L ++ [45] = L at *
        obtain ⟨gd, cd, rfl, _, hgl, hcd⟩ := own_at HO4.out HN4.out
        have HD := Lib.hid hcd
        have HBW := HB4
        clear hcd
        go_wp2_with fail
        go_loopw [5, 6] (fun v i wr => TRel L w4 v i wr) (fun _ i _ => (intOf i + 1).toNat)
        case atStart => exact ⟨L.length, Nat.le_refl _, by go_num, by rw [List.drop_length]; exact own_empty w4 w4.heap.size 5 1 (Nat.le_refl _), (fun h => by cases h), (Below.refl _ _).alloc (Nat.le_refl _) _⟩
        case round =>
          obtain ⟨k, hk, rfl, hown, hnil, hB⟩ := hrel
          have hBz := hB.size
          have HNIL := Lib.hid hnil
          have HB := Lib.hid hB
          clear hnil hB
          rcases Nat.eq_zero_or_pos k with rfl | hk0
          · rw [List.drop_zero] at hown
            obtain ⟨R, hR⟩ : ∃ R, R = L.reverse := ⟨_, rfl⟩
            rw [← hR] at hown
            have HR := Lib.hid hR
            clear hR
            obtain ⟨a, c, rfl, hconv⟩ := own_string hown HNIL.out
            go_wp2_with fail
            go_ret
            exact ⟨by rw [HF.out, HR.out]; rfl, HBW.out.trans (HB.out.mono (by omega))⟩
          · obtain ⟨m, rfl⟩ : ∃ m, k = m + 1 := ⟨k - 1, by omega⟩
            obtain ⟨x, hx⟩ : ∃ x, x = L[m]'(by omega) := ⟨_, rfl⟩
            have cx : wr.cell? ⟨gd, m, none⟩ = some (.int .u8 x.toNat) := by rw [hx]; exact (HB.out.cell (p := ⟨gd, m, none⟩) hgl).trans (HD.out m (by omega))
            have hlr : (L.drop (m + 1)).reverse.length ≤ 200 := by simp; omega
            have HX : Hid ((L.drop (m + 1)).reverse ++ [x] = (L.drop m).reverse) := by show _ = _; rw [drop_rev L m (by omega), hx]
            have hs1 : ((m + 1 : Nat) : Int) - 1 = (m : Int) := by omega
            rw [hs1]
            clear hx
            generalize (L.drop (m + 1)).reverse = R at *
            go_wp2_with (at_builtin; refine wpList_append_own _ rfl _ _ 56 rfl w4.heap.size 5 i0 (.int .u8 0) 1 1 Tryd.underlying56 hi hz0 hz1 hz2 rfl (by decide) _ _ _ rfl (hown.alloc _) ⟨wr.heap.size, 0, none⟩ 1 1 [.int .u8 x.toNat] rfl rfl (new1 _ _) (one1 _) (by unfold maxLen; omega) (by omega) (by simp; omega) ?_)
            intro v' w5 hown' hgrow hiff
            have hge := own_block_ge hown
            rw [show [Value.int .u8 x.toNat] = Lib.byteCells [x] from rfl, ← Lib.byteCells_append] at hown'
            have HO5 : Hid (w5.ownsRow w4.heap.size 5 1 v' (L.drop m).reverse.length (Lib.byteCells (L.drop m).reverse)) := by show World.ownsRow _ _ _ _ _ _ _; rw [← HX.out, List.length_append]; exact hown'
            have HB5 := Lib.hid ((HB.out.alloc (by omega) _).grown hgrow (by simp; omega) (fun k hk => (hge k hk).1))
            have HN5 : Hid (v' ≠ .slice none 0 0) := by first | exact hiff | exact fun hv => HNIL.out (hiff.1 hv).1
            clear hown' hgrow hown hiff hge HNIL HB cx
            go_wp2_with fail
            go_roundw
            case rel => exact ⟨m, by omega, by go_num, HO5.out, HN5.out, HB5.out⟩
            case measure => first | (simp [intOf]; done) | (simp [intOf]; omega)
      · have q0 : (-((u : Int) / 10) == 0) = false := by rw [beq_eq_false_iff_ne]; omega
        have HE : Hid (acc ++ [UInt8.ofNat (48 + u % 10)] ++ digR (u / 10) = digR V) := by
          show _ = _
          rw [← HACC.out, digR_any u, if_neg hz]
          simp
        go_wp2_with fail
        go_roundw
        case rel => exact ⟨u / 10, _, by go_num, by omega, HE.out, by have := HO.out; rwa [List.length_append] , HN3.out, HB3.out⟩
        case measure => simp [intOf]; omega
  · have hn : Hid (v = -(V : Int)) := show v = -(V : Int) from by omega
    clear hV
    go_enter Tryd.func35, Tryd.ntmps35
    go_wp2_with fail
    go_loopw [3, 4] (fun n v wr => DgRel V w n v wr) (fun n _ _ => (intOf n).natAbs)
    case atStart => exact ⟨V, [], by rw [← hn.out], Nat.le_refl _, rfl, own_empty w w.heap.size 5 1 (Nat.le_refl _), (fun h => by cases h), (Below.refl _ _).alloc (Nat.le_refl _) _⟩
    case round =>
      obtain ⟨u, acc, rfl, hu, hacc, hown, hnil, hB⟩ := hrel
      have hal : acc.length ≤ 100 := by have := congrArg List.length hacc; rw [List.length_append] at this; omega
      have hBz := hB.size
      have m1 := neg_mod u
      have m2 := neg_div u
      have HNIL := Lib.hid hnil
      have HACC := Lib.hid hacc
      have HB := Lib.hid hB
      clear hacc hnil hB
      go_wp2_with (at_builtin; refine wpList_append_own _ rfl _ _ 56 rfl w.heap.size 5 i0 (.int .u8 0) 1 1 Tryd.underlying56 hi hz0 hz1 hz2 rfl (by decide) _ _ _ rfl (hown.alloc _) ⟨wr.heap.size, 0, none⟩ 1 1 [.int .u8 (48 + (u : Int) % 10)] rfl rfl (new1 _ _) (one1 _) (by unfold maxLen; omega) (by omega) (by simp; omega) ?_)
      intro v' w3 hown' hgrow hiff
      have hge := own_block_ge hown
      rw [dig_cells, ← Lib.byteCells_append] at hown'
      have HO := Lib.hid hown'
      have HB3 := Lib.hid ((HB.out.alloc (by omega) _).grown hgrow (by simp; omega) (fun k hk => (hge k hk).1))
      have HN3 : Hid (v' ≠ .slice none 0 0) := by first | exact hiff | exact fun hv => HNIL.out (hiff.1 hv).1
      clear hown' hgrow hown hiff hge HNIL HB
      by_cases hz : u / 10 = 0
      · have q0 : (-((u : Int) / 10) == 0) = true := by rw [beq_iff_eq]; omega
        have HE : Hid (acc ++ [UInt8.ofNat (48 + u % 10)] = digR V) := by
          show _ = _
          rw [← HACC.out, digR_any u, if_pos hz]
        have HO2 : Hid (w3.ownsRow w.heap.size 5 1 v' (digR V).length (Lib.byteCells (digR V))) := by show World.ownsRow _ _ _ _ _ _ _; rw [← HE.out, List.length_append]; exact HO.out
        clear HO HE HACC hal
        obtain ⟨L, hL⟩ : ∃ L, L = digR V := ⟨_, rfl⟩
        rw [← hL] at HO2 HI hV100
        have hbz3 := HB3.out.size
        clear hL
        obtain ⟨gd, cd, rfl, _, hgl, hcd⟩ := own_at HO2.out HN3.out
        have HD := Lib.hid hcd
        have HBW := HB3
        have HF : Hid (Lib.itoa v = L.reverse) := by show _ = _; rw [HI.out, if_neg (by omega), List.append_nil]
        clear hcd
        go_wp2_with fail
        go_loopw [5, 6] (fun v i wr => TRel L w3 v i wr) (fun _ i _ => (intOf i + 1).toNat)
        case atStart => exact ⟨L.length, Nat.le_refl _, by go_num, by rw [List.drop_length]; exact own_empty w3 w3.heap.size 5 1 (Nat.le_refl _), (fun h => by cases h), (Below.refl _ _).alloc (Nat.le_refl _) _⟩
        case round =>
          obtain ⟨k, hk, rfl, hown, hnil, hB⟩ := hrel
          have hBz := hB.size
          have HNIL := Lib.hid hnil
          have HB := Lib.hid hB
          clear hnil hB
          rcases Nat.eq_zero_or_pos k with rfl | hk0
          · rw [List.drop_zero] at hown
            obtain ⟨R, hR⟩ : ∃ R, R = L.reverse := ⟨_, rfl⟩
            rw [← hR] at hown
            have HR := Lib.hid hR
            clear hR
            obtain ⟨a, c, rfl, hconv⟩ := own_string hown HNIL.out
            go_wp2_with fail
            go_ret
            exact ⟨by rw [HF.out, HR.out]; rfl, HBW.out.trans (HB.out.mono (by omega))⟩
          · obtain ⟨m, rfl⟩ : ∃ m, k = m + 1 := ⟨k - 1, by omega⟩
            obtain ⟨x, hx⟩ : ∃ x, x = L[m]'(by omega) := ⟨_, rfl⟩
            have cx : wr.cell? ⟨gd, m, none⟩ = some (.int .u8 x.toNat) := by rw [hx]; exact (HB.out.cell (p := ⟨gd, m, none⟩) hgl).trans (HD.out m (by omega))
            have hlr : (L.drop (m + 1)).reverse.length ≤ 200 := by simp; omega
            have HX : Hid ((L.drop (m + 1)).reverse ++ [x] = (L.drop m).reverse) := by show _ = _; rw [drop_rev L m (by omega), hx]
            have hs1 : ((m + 1 : Nat) : Int) - 1 = (m : Int) := by omega
            rw [hs1]
            clear hx
            generalize (L.drop (m + 1)).reverse = R at *
            go_wp2_with (at_builtin; refine wpList_append_own _ rfl _ _ 56 rfl w3.heap.size 5 i0 (.int .u8 0) 1 1 Tryd.underlying56 hi hz0 hz1 hz2 rfl (by decide) _ _ _ rfl (hown.alloc _) ⟨wr.heap.size, 0, none⟩ 1 1 [.int .u8 x.toNat] rfl rfl (new1 _ _) (one1 _) (by unfold maxLen; omega) (by omega) (by simp; omega) ?_)
            intro v' w5 hown' hgrow hiff
            have hge := own_block_ge hown
            rw [show [Value.int .u8 x.toNat] = Lib.byteCells [x] from rfl, ← Lib.byteCells_append] at hown'
            have HO5 : Hid (w5.ownsRow w3.heap.size 5 1 v' (L.drop m).reverse.length (Lib.byteCells (L.drop m).reverse)) := by show World.ownsRow _ _ _ _ _ _ _; rw [← HX.out, List.length_append]; exact hown'
            have HB5 := Lib.hid ((HB.out.alloc (by omega) _).grown hgrow (by simp; omega) (fun k hk => (hge k hk).1))
            have HN5 : Hid (v' ≠ .slice none 0 0) := by first | exact hiff | exact fun hv => HNIL.out (hiff.1 hv).1
            clear hown' hgrow hown hiff hge HNIL HB cx
            go_wp2_with fail
            go_roundw
            case rel => exact ⟨m, by omega, by go_num, HO5.out, HN5.out, HB5.out⟩
            case measure => first | (simp [intOf]; done) | (simp [intOf]; omega)
      · have q0 : (-((u : Int) / 10) == 0) = false := by rw [beq_eq_false_iff_ne]; omega
        have HE : Hid (acc ++ [UInt8.ofNat (48 + u % 10)] ++ digR (u / 10) = digR V) := by
          show _ = _
          rw [← HACC.out, digR_any u, if_neg hz]
          simp
        go_wp2_with fail
        go_roundw
        case rel => exact ⟨u / 10, _, by go_num, by omega, HE.out, by have := HO.out; rwa [List.length_append] , HN3.out, HB3.out⟩
        case measure => simp [intOf]; omega
end Go.Proofs.YtdfhgcknelgdmaaDoor
