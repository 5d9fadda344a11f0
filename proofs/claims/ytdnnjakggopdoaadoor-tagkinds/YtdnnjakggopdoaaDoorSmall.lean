/-
  PROVED: contracts of tag.small and of the document's small: a text with its letters small. Conditions: the text has at most 1000000 bytes.
-/
import Derived.Test.YtdnnjakggopdoaaDoorRefBlock
import Derived.Lib.ConvBytes
namespace Go.Proofs.YtdnnjakggopdoaaDoor
open Go.ChangeShapes Go.WideShapes Go.ChangeAt Go.RowKit Go.Sort
set_option linter.unusedVariables false
set_option linter.unusedSimpArgs false

/-- What the loop of tag.small goes by. -/
def SRel (s : ByteArray) (w : World) (v : Value) (wr : World) : Prop :=
  ∃ j : Nat, j ≤ s.size ∧ v = .int .i64 j ∧ (∀ i (h : i < s.size), wr.cell? ⟨w.heap.size, i, none⟩ = some (.int .u8 (((if i < j then lowb (s[i]'h) else (s[i]'h))).toNat : Int)) ∧ wr.frozen? ⟨w.heap.size, i, none⟩ = false) ∧ RowKit.Below w.heap.size w wr ∧ w.drawn ≤ wr.drawn
theorem bytes_get (s : ByteArray) (j : Nat) (h : j < s.size) : s.data.toList.getD j 0 = s[j]'h := by
  rw [List.getD, Lib.data_getElem? s j h]
  rfl
theorem bytes_soft (w : World) (s : ByteArray) (i : Nat) (h : i < s.size) : (Lib.bytesWorld w 5 s).frozen? ⟨w.heap.size, i, none⟩ = false := by
  have h2 : s.size ≤ (Lib.bytesCells w 5 s).size := by
    unfold Lib.bytesCells
    simp
  simp [World.frozen?, Lib.bytesWorld_at_new]
  omega
theorem bytes_below (w : World) (s : ByteArray) : RowKit.Below w.heap.size w (Lib.bytesWorld w 5 s) :=
  ⟨rfl, rfl, rfl, by rw [Lib.bytesWorld_size]; omega, fun k hk => Lib.bytesWorld_at_old w 5 s k hk⟩
theorem srel_start (s : ByteArray) (w : World) : SRel s w (.int .i64 0) (Lib.bytesWorld w 5 s) :=
  ⟨0, Nat.zero_le _, rfl, fun i h => ⟨by rw [Lib.bytesWorld_cell w 5 s i h, bytes_get s i h, if_neg (by omega)], bytes_soft w s i h⟩, bytes_below w s, Nat.le_succ _⟩

/-- Old blocks as they were, and some draws: blocks were laid, nothing else. -/
theorem grows_of {w w' : World} (hB : RowKit.Below w.heap.size w w') (hD : w.drawn ≤ w'.drawn) : ∃ q os, w' = grow (w.drewN q) os := by
  obtain ⟨h, tp, d, os, out⟩ := w
  obtain ⟨h', tp', d', os', out'⟩ := w'
  obtain ⟨e1, e2, e3, e4, e5⟩ := hB
  simp only at e1 e2 e3 e4 e5 hD
  subst e1 e2 e3
  refine ⟨d' - d, h'.extract h.size h'.size, ?_⟩
  unfold grow World.drewN
  simp only [World.mk.injEq, true_and, and_true]
  refine ⟨?_, by omega⟩
  apply Array.ext_getElem?
  intro i
  rw [Array.getElem?_append]
  by_cases hi : i < h.size
  · rw [if_pos hi, e5 i hi]
  · rw [if_neg hi, Array.getElem?_extract]
    by_cases hi2 : i < h'.size
    · rw [if_pos (by omega)]
      congr 1
      omega
    · rw [if_neg (by omega), Array.getElem?_eq_none (by omega)]
theorem srel_keep {s : ByteArray} {w wr : World} {j : Nat} (hlt : j < s.size) (hl : lowb (s[j]'hlt) = (s[j]'hlt)) (hcs : ∀ i (h : i < s.size), wr.cell? ⟨w.heap.size, i, none⟩ = some (.int .u8 (((if i < j then lowb (s[i]'h) else (s[i]'h))).toNat : Int)) ∧ wr.frozen? ⟨w.heap.size, i, none⟩ = false) (hB : RowKit.Below w.heap.size w wr) (hD : w.drawn ≤ wr.drawn) :
    SRel s w (.int .i64 ((j : Int) + 1)) wr := by
  refine ⟨j + 1, by omega, by simp, fun i h => ⟨?_, (hcs i h).2⟩, hB, hD⟩
  rw [(hcs i h).1]
  by_cases e : i = j
  · subst e
    rw [if_neg (by omega), if_pos (by omega), hl]
  · by_cases e2 : i < j
    · rw [if_pos e2, if_pos (by omega)]
    · rw [if_neg e2, if_neg (by omega)]
theorem srel_put {s : ByteArray} {w wr : World} {j : Nat} {c : Int} (hlt : j < s.size) (hl : c = ((lowb (s[j]'hlt)).toNat : Int)) (hcs : ∀ i (h : i < s.size), wr.cell? ⟨w.heap.size, i, none⟩ = some (.int .u8 (((if i < j then lowb (s[i]'h) else (s[i]'h))).toNat : Int)) ∧ wr.frozen? ⟨w.heap.size, i, none⟩ = false) (hB : RowKit.Below w.heap.size w wr) (hD : w.drawn ≤ wr.drawn) :
    SRel s w (.int .i64 ((j : Int) + 1)) (wr.setCell ⟨w.heap.size, j, none⟩ (.int .u8 c)) := by
  refine ⟨j + 1, by omega, by simp, fun i h => ⟨?_, by rw [World.frozen?_setCell]; exact (hcs i h).2⟩, hB.setCell (Nat.le_refl _) _, hD⟩
  by_cases e : i = j
  · subst e
    rw [World.cell?_setCell_same _ _ _ (hcs i h).1, if_pos (by omega), hl]
  · rw [World.cell?_setCell_other _ _ _ _ (by intro h; cases h; exact e rfl), (hcs i h).1]
    by_cases e2 : i < j
    · rw [if_pos e2, if_pos (by omega)]
    · rw [if_neg e2, if_neg (by omega)]
theorem low_same (x : UInt8) (h : ¬ (65 ≤ x.toNat ∧ x.toNat ≤ 90)) : lowb x = x := by unfold lowb; rw [if_neg h]
theorem small_back (s : ByteArray) (w : World) (g cap : Nat) (hcs : ∀ i (h : i < s.size), w.cell? ⟨g, i, none⟩ = some (.int .u8 ((lowb (s[i]'h)).toNat : Int))) :
    (convert 27 9 (.slice (some ⟨g, 0, none⟩) s.size cap)).run Tryd.prog w = .ok (.string ⟨((lst s).map lowb).toArray⟩) w := by
  have h := run_convert_bytes_back (P := Tryd.prog) w 27 9 5 ⟨g, 0, none⟩ cap ((lst s).map lowb) Tryd.underlying27 Tryd.underlying5 Tryd.underlying9 (fun i hi => by
    have hi' : i < s.size := by rw [List.length_map, lst_size] at hi; exact hi
    have e : ((lst s).map lowb)[i] = lowb (s[i]'hi') := by rw [List.getElem_map]; congr 1
    rw [e]
    rw [← hcs i hi']
    congr 1
    unfold Addr.add
    split
    · rename_i h0; rw [h0]
    · simp)
  rw [List.length_map, lst_size] at h
  exact h

set_option maxHeartbeats 4000000 in
theorem smallP_grows (s : ByteArray) (hs : s.size ≤ 1000000) (w : World) : Calls Tryd.prog 51 #[.string s] w (Grows (.string ⟨((lst s).map lowb).toArray⟩) w) := by
  have hc := Lib.run_convert_string_bytes (P := Tryd.prog) w 9 27 5 s Tryd.underlying9 Tryd.underlying27 Tryd.underlying5
  have HS := Lib.hid (srel_start s w)
  generalize grownCap w s.size 0 5 = cap at *
  generalize Lib.bytesWorld w 5 s = W at *
  obtain ⟨g, hg⟩ : ∃ g, g = w.heap.size := ⟨_, rfl⟩
  rw [← hg] at hc
  have HG := Lib.hid hg
  clear hg
  obtain ⟨A, hA⟩ : ∃ A : ByteArray, A = ⟨((lst s).map lowb).toArray⟩ := ⟨_, rfl⟩
  rw [← hA]
  have HA := Lib.hid hA
  clear hA
  go_enter Tryd.func51, Tryd.ntmps51
  go_wp2_with fail
  go_loopw [10] (fun v wr => SRel s w v wr) (fun v _ => s.size - (intOf v).toNat)
  case atStart => exact HS.out
  case round =>
    obtain ⟨j, hj, rfl, hcs, hB, hD⟩ := hrel
    have HD := Lib.hid hD
    clear hD
    have HC := Lib.hid hcs
    have HB := Lib.hid hB
    clear hcs hB hc HS
    by_cases hlt : j < s.size
    · obtain ⟨c0, z0⟩ := HC.out j hlt
      rw [if_neg (by omega)] at c0
      rw [← HG.out] at c0 z0
      have hu := (s[j]'hlt).toNat_lt
      by_cases hu1 : 65 ≤ (s[j]'hlt).toNat
      · by_cases hu2 : (s[j]'hlt).toNat ≤ 90
        · have HR : Hid (SRel s w (.int .i64 ((j : Int) + 1)) (wr.setCell ⟨g, j, none⟩ (.int .u8 (((s[j]'hlt).toNat : Int) + 97 - 65)))) := by
            have := srel_put (c := ((s[j]'hlt).toNat : Int) + 97 - 65) hlt (by rw [lowb_nat, if_pos ⟨hu1, hu2⟩]; omega) HC.out HB.out HD.out
            rw [← HG.out] at this
            exact this
          go_wp2_with fail
          go_roundw
          case rel => exact HR.out
          case measure => simp [intOf]; omega
        · have HR := Lib.hid (srel_keep hlt (low_same _ (by omega)) HC.out HB.out HD.out)
          go_wp2_with fail
          go_roundw
          case rel => exact HR.out
          case measure => simp [intOf]; omega
      · have HR := Lib.hid (srel_keep hlt (low_same _ (by omega)) HC.out HB.out HD.out)
        go_wp2_with fail
        go_roundw
        case rel => exact HR.out
        case measure => simp [intOf]; omega
    · have hcb : (convert 27 9 (.slice (some ⟨g, 0, none⟩) s.size cap)).run Tryd.prog wr = .ok (.string A) wr := by
        rw [HA.out, HG.out]
        exact small_back s wr w.heap.size cap (fun i h => by rw [(HC.out i h).1, if_pos (by omega)])
      clear HC
      go_wp2_with fail
      go_ret
      exact ⟨rfl, grows_of HB.out HD.out⟩
theorem smallP_any (s : ByteArray) (hs : s.size ≤ 1000000) (w : World) : Calls Tryd.prog 51 #[.string s] w fun e w' => e = .returned (.string ⟨((lst s).map lowb).toArray⟩) ∧ RowKit.Below w.heap.size w w' := (smallP_grows s hs w).mono fun e w' h => h.below

/-- What the loop of the document's small goes by. -/
def VRel (s : ByteArray) (w : World) (v i : Value) (wr : World) : Prop :=
  ∃ j : Nat, j ≤ s.size ∧ i = .int .i64 j ∧ wr.ownsRow w.heap.size 5 1 v j (Lib.byteCells ((s.data.toList.take j).map lowb)) ∧ v ≠ .slice none 0 0 ∧ RowKit.Below w.heap.size w wr
theorem vrel_next {s : ByteArray} {w w2 : World} {v : Value} {j : Nat} {c : Int} (h : j < s.size) (hc : c = ((lowb (s[j]'h)).toNat : Int)) (ho : w2.ownsRow w.heap.size 5 1 v (j + 1) (Lib.byteCells ((s.data.toList.take j).map lowb) ++ [.int .u8 c])) (hv : v ≠ .slice none 0 0) (hb : RowKit.Below w.heap.size w w2) :
    VRel s w v (.int .i64 ((j : Int) + 1)) w2 := by
  refine ⟨j + 1, by omega, by simp, ?_, hv, hb⟩
  rw [take_map lowb s j h, Lib.byteCells_append]
  subst hc
  exact ho
set_option maxHeartbeats 4000000 in
set_option maxRecDepth 100000 in
theorem refSmall_any (s : ByteArray) (hs : s.size ≤ 1000000) (w : World) : Calls Tryd.prog 35 #[.string s] w fun e w' => e = .returned (.string ⟨((lst s).map lowb).toArray⟩) ∧ RowKit.Below w.heap.size w w' := by
  obtain ⟨i0, hi, hz0, hz1, hz2⟩ := info_parts Tryd.info5
  have mixed := Tryd.mixed
  obtain ⟨A, hA⟩ : ∃ A : ByteArray, A = ⟨((lst s).map lowb).toArray⟩ := ⟨_, rfl⟩
  rw [← hA]
  have HA := Lib.hid hA
  clear hA
  go_enter Tryd.func35, Tryd.ntmps35
  go_wp2_with fail
  go_loopw [3, 4] (fun v i wr => VRel s w v i wr) (fun _ i _ => s.size - (intOf i).toNat)
  case atStart => exact ⟨0, Nat.zero_le _, rfl, own_empty5 _ _ (Nat.le_refl _), (fun h => by cases h), (Below.refl _ _).alloc (Nat.le_refl _) _⟩
  case round =>
    obtain ⟨j, hj, rfl, hown, hnil, hB⟩ := hrel
    have HNIL := Lib.hid hnil
    have hBz := hB.size
    clear hnil
    obtain ⟨acc, hacc⟩ : ∃ acc, acc = (s.data.toList.take j).map lowb := ⟨_, rfl⟩
    rw [← hacc] at hown
    have HACC := Lib.hid hacc
    clear hacc
    by_cases hlt : j < s.size
    · have HN := Lib.hid (fun (w2 : World) (v : Value) (c : Int) h1 h2 h3 h4 => vrel_next (s := s) (w := w) (w2 := w2) (v := v) (c := c) hlt h1 h2 h3 h4)
      rw [← HACC.out] at HN
      have hb := (s[j]'hlt).toNat_lt
      by_cases hc : 65 ≤ (s[j]'hlt).toNat ∧ (s[j]'hlt).toNat ≤ 90
      · have HL : Hid (((s[j]'hlt).toNat : Int) + 32 = ((lowb (s[j]'hlt)).toNat : Int)) := show ((s[j]'hlt).toNat : Int) + 32 = ((lowb (s[j]'hlt)).toNat : Int) from by rw [lowb_nat, if_pos hc]; omega
        obtain ⟨hc1, hc2⟩ := hc
        go_wp2_with (at_builtin; refine wpList_append_own _ rfl _ _ 27 rfl w.heap.size 5 i0 (.int .u8 0) 1 1 Tryd.underlying27 hi hz0 hz1 hz2 rfl (by decide) _ _ _ rfl (hown.alloc _) ⟨wr.heap.size, 0, none⟩ 1 1 [.int .u8 (((s[j]'hlt).toNat : Int) + 32)] rfl rfl (new1 _ _) (one1 _) (by unfold maxLen; omega) (by omega) (by simp; omega) ?_)
        intro v' w5 hown5 hgrow5 hiff5
        have hge5 := own_block_ge hown
        have HR := Lib.hid (HN.out w5 v' (((s[j]'hlt).toNat : Int) + 32) HL.out hown5 (by first | exact hiff5 | exact fun hv => HNIL.out (hiff5.1 hv).1) ((hB.alloc hBz _).grown hgrow5 (by simp; omega) (fun k hk => (hge5 k hk).1)))
        clear hown5 hgrow5 hown hiff5 hge5
        go_wp2_with fail
        go_roundw
        case rel => exact HR.out
        case measure => simp [intOf]; omega
      · have HL : Hid (((s[j]'hlt).toNat : Int) = ((lowb (s[j]'hlt)).toNat : Int)) := show ((s[j]'hlt).toNat : Int) = ((lowb (s[j]'hlt)).toNat : Int) from by rw [lowb_nat, if_neg hc]
        by_cases hc1 : (s[j]'hlt).toNat < 65
        · clear hc
          go_wp2_with (at_builtin; refine wpList_append_own _ rfl _ _ 27 rfl w.heap.size 5 i0 (.int .u8 0) 1 1 Tryd.underlying27 hi hz0 hz1 hz2 rfl (by decide) _ _ _ rfl (hown.alloc _) ⟨wr.heap.size, 0, none⟩ 1 1 [.int .u8 (((s[j]'hlt).toNat : Int))] rfl rfl (new1 _ _) (one1 _) (by unfold maxLen; omega) (by omega) (by simp; omega) ?_)
          intro v' w5 hown5 hgrow5 hiff5
          have hge5 := own_block_ge hown
          have HR := Lib.hid (HN.out w5 v' (((s[j]'hlt).toNat : Int)) HL.out hown5 (by first | exact hiff5 | exact fun hv => HNIL.out (hiff5.1 hv).1) ((hB.alloc hBz _).grown hgrow5 (by simp; omega) (fun k hk => (hge5 k hk).1)))
          clear hown5 hgrow5 hown hiff5 hge5
          go_wp2_with fail
          go_roundw
          case rel => exact HR.out
          case measure => simp [intOf]; omega
        · have hc2 : 90 < (s[j]'hlt).toNat := by omega
          clear hc
          go_wp2_with (at_builtin; refine wpList_append_own _ rfl _ _ 27 rfl w.heap.size 5 i0 (.int .u8 0) 1 1 Tryd.underlying27 hi hz0 hz1 hz2 rfl (by decide) _ _ _ rfl (hown.alloc _) ⟨wr.heap.size, 0, none⟩ 1 1 [.int .u8 (((s[j]'hlt).toNat : Int))] rfl rfl (new1 _ _) (one1 _) (by unfold maxLen; omega) (by omega) (by simp; omega) ?_)
          intro v' w5 hown5 hgrow5 hiff5
          have hge5 := own_block_ge hown
          have HR := Lib.hid (HN.out w5 v' (((s[j]'hlt).toNat : Int)) HL.out hown5 (by first | exact hiff5 | exact fun hv => HNIL.out (hiff5.1 hv).1) ((hB.alloc hBz _).grown hgrow5 (by simp; omega) (fun k hk => (hge5 k hk).1)))
          clear hown5 hgrow5 hown hiff5 hge5
          go_wp2_with fail
          go_roundw
          case rel => exact HR.out
          case measure => simp [intOf]; omega
    · have HL : Hid (acc = (lst s).map lowb) := show acc = (lst s).map lowb from by rw [HACC.out, List.take_of_length_le (by rw [len_list]; omega)]
      have hlen : acc.length = j := by rw [HACC.out, List.length_map, List.length_take, len_list]; omega
      have hown' : wr.ownsRow w.heap.size 5 1 u3 acc.length (Lib.byteCells acc) := by rw [hlen]; exact hown
      have HOWN := Lib.hid hown'
      obtain ⟨gg, cc, rfl⟩ := own_shape hown HNIL.out
      have hcb : (convert 27 9 (.slice (some ⟨gg, 0, none⟩) j cc)).run Tryd.prog wr = .ok (.string A) wr := by
        obtain ⟨aa, cc2, e3, h⟩ := own_string HOWN.out HNIL.out
        rw [HA.out, ← HL.out]
        exact h
      have HB := Lib.hid hB
      clear hown hown' hlen HACC HL HOWN hB hBz
      go_wp2_with fail
      go_ret
      exact ⟨rfl, HB.out⟩
end Go.Proofs.YtdnnjakggopdoaaDoor
