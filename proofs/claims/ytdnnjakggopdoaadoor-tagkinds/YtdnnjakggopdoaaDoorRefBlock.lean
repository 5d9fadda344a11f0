/-
  PROVED: contract of the document's own Block: is the text, in small letters, a block tag? Conditions: the text has at most 2000000 bytes.
-/
import Derived.Test.YtdnnjakggopdoaaDoorTagPure
import Derived.Test.YtdnnjakggopdoaaDoorLit
import Derived.Lib.AppendStr
import Derived.Lib.UnsafeStr
import Derived.Laws.IdiomStrings
namespace Go.Proofs.YtdnnjakggopdoaaDoor
open Go.ChangeShapes Go.WideShapes Go.ChangeAt Go.RowKit Go.Sort
set_option linter.unusedVariables false

theorem Tryd.mixed : Tryd.prog.follows .mixedOrders = true := by kernel_rfl
theorem Tryd.info5 : (Tryd.prog.info? 5).map (fun i => (i.zero, i.size, i.bytes)) = some (some (.int .u8 0), 1, 1) := by kernel_rfl
theorem own_below {w w' : World} {base e size n : Nat} {v : Value} {xs : List Value} (h : w.ownsRow base e size v n xs) (hb : Below w.heap.size w w') : w'.ownsRow base e size v n xs := by
  obtain ⟨h1, h2⟩ := h
  refine ⟨h1, ?_⟩
  rcases h2 with h2 | ⟨g, cap, cur, hv, hg, hh, r⟩
  · exact Or.inl h2
  · have hlt : g < w.heap.size := (Array.getElem?_eq_some_iff.1 hh).1
    exact Or.inr ⟨g, cap, cur, hv, hg, (hb.block g hlt).trans hh, r⟩
theorem own_block_ge {w : World} {base e size n : Nat} {v : Value} {xs : List Value} (h : w.ownsRow base e size v n xs) : ∀ g, v.ownBlock = some g → base ≤ g ∧ g < w.heap.size := by
  intro g hv
  rcases h.2 with ⟨rfl, _⟩ | ⟨g', cap, cur, rfl, hb, hh, _⟩
  · cases hv
  · have hv' : some g' = some g := hv
    cases hv'
    exact ⟨hb, (Array.getElem?_eq_some_iff.1 hh).1⟩
theorem own_empty5 (w : World) (base : Nat) (hb : base ≤ w.heap.size) : (w.alloc (.cells #[] 5)).ownsRow base 5 1 (.slice (some ⟨w.heap.size, 0, none⟩) 0 0) 0 [] := by
  refine ⟨by simp, Or.inr ⟨w.heap.size, 0, #[], rfl, hb, heap_alloc_new w _, Nat.le_refl _, Nat.zero_le _, by simp, by simp⟩⟩
theorem own_shape {w : World} {B n : Nat} {v : Value} {xs : List Value} (h : w.ownsRow B 5 1 v n xs) (hv : v ≠ .slice none 0 0) : ∃ g c, v = .slice (some ⟨g, 0, none⟩) n c := by
  rcases h.2 with ⟨rfl, _⟩ | ⟨g, cap, cur, rfl, hb, hh, hc, hm, hz, ht⟩
  · exact absurd rfl hv
  · exact ⟨g, cap, rfl⟩
theorem own_string {w : World} {B : Nat} {v : Value} {l : List UInt8} (h : w.ownsRow B 5 1 v l.length (Lib.byteCells l)) (hv : v ≠ .slice none 0 0) : ∃ a c, v = .slice (some a) l.length c ∧ (convert 27 9 v).run Tryd.prog w = .ok (.string ⟨l.toArray⟩) w := by
  rcases h.2 with ⟨rfl, _⟩ | ⟨g, cap, cur, rfl, hb, hh, hc, hm, hz, ht⟩
  · exact absurd rfl hv
  · refine ⟨⟨g, 0, none⟩, cap, rfl, ?_⟩
    refine run_convert_bytes_back w 27 9 5 ⟨g, 0, none⟩ cap l Tryd.underlying27 Tryd.underlying5 Tryd.underlying9 ?_
    intro j hj
    exact h.cells (g := g) rfl j _ (by unfold Lib.byteCells; rw [List.getElem?_map, List.getElem?_eq_getElem hj]; rfl)
theorem new1 (w : World) (a : Value) : ∀ j u, [a][j]? = some u → (w.alloc (.cells #[a] 5)).cell? ((⟨w.heap.size, 0, none⟩ : Addr).add j) = some u := by
  intro j u hj
  match j, hj with
  | 0, hj => simp at hj; subst hj; simp [Addr.add]
theorem one1 (a : Int) : ∀ u ∈ [Value.int .u8 a], u.oneCell' = true := by
  intro u hu
  simp at hu
  subst hu; rfl
theorem bytes_one (l : List UInt8) : ∀ u ∈ Lib.byteCells l, u.oneCell' = true := by
  intro u hu
  unfold Lib.byteCells at hu
  obtain ⟨x, _, rfl⟩ := List.mem_map.1 hu
  rfl


def tagC : Array Value := (tagL.map fun t => Value.string ⟨t.toArray⟩).toArray
theorem len_list (a : ByteArray) : a.data.toList.length = a.size := by rw [Array.length_toList]; rfl
theorem get_list (s : ByteArray) (j : Nat) (h : j < s.size) : s.data.toList[j]'(by rw [len_list]; exact h) = s[j]'h := by
  simp [ByteArray.getElem_eq_getElem_data]
theorem take_map (f : UInt8 → UInt8) (s : ByteArray) (j : Nat) (h : j < s.size) : (s.data.toList.take (j + 1)).map f = (s.data.toList.take j).map f ++ [f (s[j]'h)] := by
  rw [List.take_succ_eq_append_getElem (by rw [len_list]; exact h), List.map_append, get_list s j h]
  rfl

/-- What the first loop of the document's Block goes by. -/
def BRel (s : ByteArray) (w : World) (v i : Value) (wr : World) : Prop :=
  ∃ j : Nat, j ≤ s.size ∧ j ≤ 20 ∧ i = .int .i64 j ∧ wr.ownsRow w.heap.size 5 1 v j (Lib.byteCells ((s.data.toList.take j).map lowb)) ∧ v ≠ .slice none 0 0 ∧ Below w.heap.size w wr
theorem brel_next {s : ByteArray} {w w2 : World} {v : Value} {j : Nat} {c : Int} (h : j < s.size) (h2 : j < 20) (hc : c = ((lowb (s[j]'h)).toNat : Int)) (ho : w2.ownsRow w.heap.size 5 1 v (j + 1) (Lib.byteCells ((s.data.toList.take j).map lowb) ++ [.int .u8 c])) (hv : v ≠ .slice none 0 0) (hb : Below w.heap.size w w2) :
    BRel s w v (.int .i64 ((j : Int) + 1)) w2 := by
  refine ⟨j + 1, by omega, by omega, by simp, ?_, hv, hb⟩
  rw [take_map lowb s j h, Lib.byteCells_append]
  subst hc
  exact ho
/-- What its second loop goes by. -/
def TRel (s : ByteArray) (L : List UInt8) (w : World) (i : Value) (wr : World) : Prop :=
  ∃ j : Nat, j ≤ 52 ∧ i = .int .i64 j ∧ (s.size < 20 → ∀ t ∈ tagL.take j, t ≠ L) ∧ Below w.heap.size w wr

def refTag (s : ByteArray) : Bool := decide (s.size < 20) && isTag ((s.data.toList.take 20).map lowb)

set_option maxHeartbeats 4000000 in
set_option maxRecDepth 100000 in
theorem refBlock_any (s : ByteArray) (hs : s.size ≤ 2000000) (w : World) : Calls Tryd.prog 36 #[.string s] w fun e w' => e = .returned (.bool (refTag s)) ∧ Below w.heap.size w w' := by
  obtain ⟨i0, hi, hz0, hz1, hz2⟩ := info_parts Tryd.info5
  have mixed := Tryd.mixed
  obtain ⟨C1, h1⟩ : ∃ C, C = tagC := ⟨_, rfl⟩
  have H1 := Lib.hid h1
  clear h1
  obtain ⟨v, hv⟩ : ∃ v, v = refTag s := ⟨_, rfl⟩
  rw [← hv]
  have HV := Lib.hid hv
  clear hv
  go_enter Tryd.func36, Tryd.ntmps36
  go_wp2_with (refine wpList_lit 57 _ 8 3 C1 rfl rfl rfl rfl rfl rfl rfl rfl (by rw [H1.out]; kernel_rfl) _ Tryd.zeroValue57 (by rw [H1.out]; kernel_rfl) (by rw [H1.out]; kernel_rfl) (by rw [H1.out]; kernel_rfl) (fun _ => rfl) (fun _ => rfl) ?_)
  have hW : Below w.heap.size w (w.alloc (.cells C1 57)) := (Below.refl _ _).alloc (Nat.le_refl _) _
  have hzW : (w.alloc (.cells C1 57)).heap.size = w.heap.size + 1 := by simp
  have HC1 : Hid (∀ j t, tagL[j]? = some t → (w.alloc (.cells C1 57)).cell? ⟨w.heap.size, j, none⟩ = some (.string ⟨t.toArray⟩)) := by
    intro j t ht
    rw [H1.out]
    simp [tagC, ht]
  rw [← hzW]
  generalize w.alloc (.cells C1 57) = W1 at *
  have HZW := Lib.hid hzW
  clear H1 hzW
  go_loopw [4, 5] (fun v i wr => BRel s W1 v i wr) (fun _ i _ => 20 - (intOf i).toNat)
  case atStart => exact ⟨0, Nat.zero_le _, Nat.zero_le _, rfl, own_empty5 _ _ (Nat.le_refl _), (fun h => by cases h), (Below.refl _ _).alloc (Nat.le_refl _) _⟩
  case round =>
    obtain ⟨j, hj, hj2, rfl, hown, hnil, hB⟩ := hrel
    have HNIL := Lib.hid hnil
    have hBz := hB.size
    clear hnil
    obtain ⟨acc, hacc⟩ : ∃ acc, acc = (s.data.toList.take j).map lowb := ⟨_, rfl⟩
    rw [← hacc] at hown
    have HACC := Lib.hid hacc
    clear hacc
    by_cases hlt : j < s.size
    · by_cases hlt2 : j < 20
      · have HN := Lib.hid (fun (w2 : World) (v : Value) (c : Int) h1 h2 h3 h4 => brel_next (s := s) (w := W1) (w2 := w2) (v := v) (c := c) hlt hlt2 h1 h2 h3 h4)
        rw [← HACC.out] at HN
        have hb := (s[j]'hlt).toNat_lt
        by_cases hc : 65 ≤ (s[j]'hlt).toNat ∧ (s[j]'hlt).toNat ≤ 90
        · have HL : Hid (((s[j]'hlt).toNat : Int) + 32 = ((lowb (s[j]'hlt)).toNat : Int)) := show ((s[j]'hlt).toNat : Int) + 32 = ((lowb (s[j]'hlt)).toNat : Int) from by rw [lowb_nat, if_pos hc]; omega
          obtain ⟨hc1, hc2⟩ := hc
          go_wp2_with (at_builtin; refine wpList_append_own _ rfl _ _ 27 rfl W1.heap.size 5 i0 (.int .u8 0) 1 1 Tryd.underlying27 hi hz0 hz1 hz2 rfl (by decide) _ _ _ rfl (hown.alloc _) ⟨wr.heap.size, 0, none⟩ 1 1 [.int .u8 (((s[j]'hlt).toNat : Int) + 32)] rfl rfl (new1 _ _) (one1 _) (by unfold maxLen; omega) (by omega) (by simp; omega) ?_)
          intro v' w5 hown5 hgrow5 hiff5
          have hge5 := own_block_ge hown
          have HR := Lib.hid (HN.out w5 v' (((s[j]'hlt).toNat : Int) + 32) HL.out hown5 (by first | exact hiff5 | exact fun hv => HNIL.out (hiff5.1 hv).1) ((hB.alloc hBz _).grown hgrow5 (by simp; omega) (fun k hk => (hge5 k hk).1)))
          clear hown5 hgrow5 hown hiff5 hge5
          go_wp2_with fail
          go_roundw
          case rel => exact HR.out
          case measure => simp [intOf]; omega
        · have HL : Hid (((s[j]'hlt).toNat : Int) = ((lowb (s[j]'hlt)).toNat : Int)) := show ((s[j]'hlt).toNat : Int) = ((lowb (s[j]'hlt)).toNat : Int) from by rw [lowb_nat, if_neg hc]
          by_cases hc1 : (s[j]'hlt).toNat < 65
          · clear hc
            go_wp2_with (at_builtin; refine wpList_append_own _ rfl _ _ 27 rfl W1.heap.size 5 i0 (.int .u8 0) 1 1 Tryd.underlying27 hi hz0 hz1 hz2 rfl (by decide) _ _ _ rfl (hown.alloc _) ⟨wr.heap.size, 0, none⟩ 1 1 [.int .u8 ((s[j]'hlt).toNat : Int)] rfl rfl (new1 _ _) (one1 _) (by unfold maxLen; omega) (by omega) (by simp; omega) ?_)
            intro v' w5 hown5 hgrow5 hiff5
            have hge5 := own_block_ge hown
            have HR := Lib.hid (HN.out w5 v' ((s[j]'hlt).toNat : Int) HL.out hown5 (by first | exact hiff5 | exact fun hv => HNIL.out (hiff5.1 hv).1) ((hB.alloc hBz _).grown hgrow5 (by simp; omega) (fun k hk => (hge5 k hk).1)))
            clear hown5 hgrow5 hown hiff5 hge5
            go_wp2_with fail
            go_roundw
            case rel => exact HR.out
            case measure => simp [intOf]; omega
          · have hc2 : 90 < (s[j]'hlt).toNat := by omega
            clear hc
            go_wp2_with (at_builtin; refine wpList_append_own _ rfl _ _ 27 rfl W1.heap.size 5 i0 (.int .u8 0) 1 1 Tryd.underlying27 hi hz0 hz1 hz2 rfl (by decide) _ _ _ rfl (hown.alloc _) ⟨wr.heap.size, 0, none⟩ 1 1 [.int .u8 ((s[j]'hlt).toNat : Int)] rfl rfl (new1 _ _) (one1 _) (by unfold maxLen; omega) (by omega) (by simp; omega) ?_)
            intro v' w5 hown5 hgrow5 hiff5
            have hge5 := own_block_ge hown
            have HR := Lib.hid (HN.out w5 v' ((s[j]'hlt).toNat : Int) HL.out hown5 (by first | exact hiff5 | exact fun hv => HNIL.out (hiff5.1 hv).1) ((hB.alloc hBz _).grown hgrow5 (by simp; omega) (fun k hk => (hge5 k hk).1)))
            clear hown5 hgrow5 hown hiff5 hge5
            go_wp2_with fail
            go_roundw
            case rel => exact HR.out
            case measure => simp [intOf]; omega
      · have hj3 : j = 20 := by omega
        have hlt2' : ¬ ((j : Int) < 20) := by omega
        have HL : Hid (acc = (s.data.toList.take 20).map lowb) := show acc = (s.data.toList.take 20).map lowb from by
          rw [HACC.out]
          congr 1
          rw [hj3]
        have hlen : acc.length = j := by rw [HACC.out, List.length_map, List.length_take, len_list]; omega
        have HJ3 := Lib.hid hj3
        clear hj3
        obtain ⟨w2, hw2⟩ : ∃ w2, w2 = wr := ⟨wr, rfl⟩
        rw [← hw2] at hown hB hBz ⊢
        have HW2 := Lib.hid hw2
        clear hw2
        have hown' : w2.ownsRow W1.heap.size 5 1 u4 acc.length (Lib.byteCells acc) := by rw [hlen]; exact hown
        have HOWN := Lib.hid hown'
        have HLEN := Lib.hid hlen
        obtain ⟨gg, cc, rfl⟩ := own_shape hown HNIL.out
        clear hown hown' hlen HACC
        go_wp2_with fail
        go_loopw [7] (fun i wr => TRel s acc w2 i wr) (fun i _ => 52 - (intOf i).toNat)
        case atStart => exact ⟨0, Nat.zero_le _, rfl, fun _ t ht => by simp at ht, Below.refl _ _⟩
        case round =>
          obtain ⟨k, hk, rfl, hn, hB2⟩ := hrel
          have HNN := Lib.hid hn
          clear hn
          by_cases hk2 : k < 52
          · have hkl : k < tagL.length := hk2
            have c1 := HC1.out k tagL[k] (List.getElem?_eq_getElem hkl)
            obtain ⟨y, hy⟩ : ∃ y, y = tagL[k] := ⟨_, rfl⟩
            rw [← hy] at c1
            have HY := Lib.hid hy
            clear hy
            obtain ⟨Y, hY⟩ : ∃ Y : ByteArray, Y = ⟨y.toArray⟩ := ⟨_, rfl⟩
            rw [← hY] at c1
            have HYL : Hid (Y.data.toList = y) := show Y.data.toList = y from by rw [hY]
            clear hY
            have c2 : wr.cell? ⟨w.heap.size, k, none⟩ = some (.string Y) := (hB2.cell (p := ⟨w.heap.size, k, none⟩) (by show w.heap.size < w2.heap.size; have := HZW.out; omega)).trans ((hB.cell (p := ⟨w.heap.size, k, none⟩) (by show w.heap.size < W1.heap.size; have := HZW.out; omega)).trans c1)
            clear c1
            have hB3 : ∀ n, Below w2.heap.size w2 (wr.drewN n) := fun n => below_drewN hB2 n
            have HB3 := Lib.hid hB3
            clear hB3
            obtain ⟨A, hA⟩ : ∃ A : ByteArray, A = ⟨acc.toArray⟩ := ⟨_, rfl⟩
            have hconv : ∀ n, (convert 27 9 (.slice (some ⟨gg, 0, none⟩) j cc)).run Tryd.prog (wr.drewN n) = .ok (.string A) (wr.drewN n) := fun n => by
              obtain ⟨aa, cc2, e3, h⟩ := own_string (own_below HOWN.out (below_drewN hB2 n)) HNIL.out
              rw [hA]
              exact h
            have HAL : Hid (A.data.toList = acc) := show A.data.toList = acc from by rw [hA]
            clear hA
            have HSTEP : Hid ((s.size < 20 → y ≠ acc) → s.size < 20 → ∀ t ∈ tagL.take (k + 1), t ≠ acc) := by
              intro h1 h2 t ht
              rw [List.take_succ_eq_append_getElem hkl] at ht
              rcases List.mem_append.1 ht with ht | ht
              · exact HNN.out h2 t ht
              · simp at ht
                rw [ht, ← HY.out]
                exact h1 h2
            by_cases he : y = acc
            · have hq : (Y.toList == A.toList) = true := by rw [Lib.toList_data, Lib.toList_data, HYL.out, HAL.out]; simpa using he
              by_cases hsz : s.size < 20
              · exact absurd hsz (by omega)
              · have HR : Hid (s.size < 20 → ∀ t ∈ tagL.take (k + 1), t ≠ acc) := HSTEP.out (fun h => absurd h hsz)
                have hq2 : decide (s.size < 20) = false := decide_eq_false hsz
                clear he
                go_wp2_with fail
                go_quiet (fail)
                have hB4 := HB3.out nq
                go_wp2_with fail
                go_roundw
                case rel => exact ⟨k + 1, by omega, by simp, HR.out, hB4⟩
                case measure => simp [intOf]; omega
            · have hq : (Y.toList == A.toList) = false := by rw [Lib.toList_data, Lib.toList_data, HYL.out, HAL.out]; simpa using he
              have HR : Hid (s.size < 20 → ∀ t ∈ tagL.take (k + 1), t ≠ acc) := HSTEP.out (fun _ => he)
              clear he
              go_wp2_with fail
              go_quiet (fail)
              have hB4 := HB3.out nq
              go_wp2_with fail
              go_roundw
              case rel => exact ⟨k + 1, by omega, by simp, HR.out, hB4⟩
              case measure => simp [intOf]; omega
          · have HVF : Hid (v = false) := show v = false from by
              rw [HV.out]
              unfold refTag
              by_cases hsz : s.size < 20
              · have h := HNN.out hsz
                rw [List.take_of_length_le (by show tagL.length ≤ k; have : tagL.length = 52 := rfl; omega)] at h
                rw [← HL.out]
                have : isTag acc = false := by
                  unfold isTag
                  rw [List.any_eq_false]
                  intro t ht
                  simpa using h t ht
                rw [this, Bool.and_false]
              · rw [decide_eq_false hsz]; rfl
            go_wp2_with fail
            go_ret
            exact ⟨by rw [HVF.out]; rfl, hW.trans ((hB.trans (hB2.mono hBz)).mono (by have := HZW.out; omega))⟩
    · have hj3 : j = s.size := by omega
      have HL : Hid (acc = (s.data.toList.take 20).map lowb) := show acc = (s.data.toList.take 20).map lowb from by
        rw [HACC.out]
        congr 1
        rw [List.take_of_length_le (by rw [len_list]; omega), List.take_of_length_le (by rw [len_list]; omega)]
      have hlen : acc.length = j := by rw [HACC.out, List.length_map, List.length_take, len_list]; omega
      have HJ3 := Lib.hid hj3
      clear hj3
      obtain ⟨w2, hw2⟩ : ∃ w2, w2 = wr := ⟨wr, rfl⟩
      rw [← hw2] at hown hB hBz ⊢
      have HW2 := Lib.hid hw2
      clear hw2
      have hown' : w2.ownsRow W1.heap.size 5 1 u4 acc.length (Lib.byteCells acc) := by rw [hlen]; exact hown
      have HOWN := Lib.hid hown'
      have HLEN := Lib.hid hlen
      obtain ⟨gg, cc, rfl⟩ := own_shape hown HNIL.out
      clear hown hown' hlen HACC
      go_wp2_with fail
      go_loopw [7] (fun i wr => TRel s acc w2 i wr) (fun i _ => 52 - (intOf i).toNat)
      case atStart => exact ⟨0, Nat.zero_le _, rfl, fun _ t ht => by simp at ht, Below.refl _ _⟩
      case round =>
        obtain ⟨k, hk, rfl, hn, hB2⟩ := hrel
        have HNN := Lib.hid hn
        clear hn
        by_cases hk2 : k < 52
        · have hkl : k < tagL.length := hk2
          have c1 := HC1.out k tagL[k] (List.getElem?_eq_getElem hkl)
          obtain ⟨y, hy⟩ : ∃ y, y = tagL[k] := ⟨_, rfl⟩
          rw [← hy] at c1
          have HY := Lib.hid hy
          clear hy
          obtain ⟨Y, hY⟩ : ∃ Y : ByteArray, Y = ⟨y.toArray⟩ := ⟨_, rfl⟩
          rw [← hY] at c1
          have HYL : Hid (Y.data.toList = y) := show Y.data.toList = y from by rw [hY]
          clear hY
          have c2 : wr.cell? ⟨w.heap.size, k, none⟩ = some (.string Y) := (hB2.cell (p := ⟨w.heap.size, k, none⟩) (by show w.heap.size < w2.heap.size; have := HZW.out; omega)).trans ((hB.cell (p := ⟨w.heap.size, k, none⟩) (by show w.heap.size < W1.heap.size; have := HZW.out; omega)).trans c1)
          clear c1
          have hB3 : ∀ n, Below w2.heap.size w2 (wr.drewN n) := fun n => below_drewN hB2 n
          have HB3 := Lib.hid hB3
          clear hB3
          obtain ⟨A, hA⟩ : ∃ A : ByteArray, A = ⟨acc.toArray⟩ := ⟨_, rfl⟩
          have hconv : ∀ n, (convert 27 9 (.slice (some ⟨gg, 0, none⟩) j cc)).run Tryd.prog (wr.drewN n) = .ok (.string A) (wr.drewN n) := fun n => by
            obtain ⟨aa, cc2, e3, h⟩ := own_string (own_below HOWN.out (below_drewN hB2 n)) HNIL.out
            rw [hA]
            exact h
          have HAL : Hid (A.data.toList = acc) := show A.data.toList = acc from by rw [hA]
          clear hA
          have HSTEP : Hid ((s.size < 20 → y ≠ acc) → s.size < 20 → ∀ t ∈ tagL.take (k + 1), t ≠ acc) := by
            intro h1 h2 t ht
            rw [List.take_succ_eq_append_getElem hkl] at ht
            rcases List.mem_append.1 ht with ht | ht
            · exact HNN.out h2 t ht
            · simp at ht
              rw [ht, ← HY.out]
              exact h1 h2
          by_cases he : y = acc
          · have hq : (Y.toList == A.toList) = true := by rw [Lib.toList_data, Lib.toList_data, HYL.out, HAL.out]; simpa using he
            by_cases hsz : s.size < 20
            · have HVT : Hid (v = true) := show v = true from by
                rw [HV.out]
                unfold refTag
                rw [decide_eq_true hsz, ← HL.out, ← he, Bool.true_and]
                exact List.any_eq_true.2 ⟨y, by rw [HY.out]; exact List.getElem_mem hkl, by simp⟩
              have hq2 : decide (s.size < 20) = true := decide_eq_true hsz
              clear he
              go_wp2_with fail
              go_quiet (fail)
              have hB4 := HB3.out nq
              go_wp2_with fail
              go_ret
              exact ⟨by rw [HVT.out]; rfl, hW.trans ((hB.trans (hB4.mono hBz)).mono (by have := HZW.out; omega))⟩
            · have HR : Hid (s.size < 20 → ∀ t ∈ tagL.take (k + 1), t ≠ acc) := HSTEP.out (fun h => absurd h hsz)
              have hq2 : decide (s.size < 20) = false := decide_eq_false hsz
              clear he
              go_wp2_with fail
              go_quiet (fail)
              have hB4 := HB3.out nq
              go_wp2_with fail
              go_roundw
              case rel => exact ⟨k + 1, by omega, by simp, HR.out, hB4⟩
              case measure => simp [intOf]; omega
          · have hq : (Y.toList == A.toList) = false := by rw [Lib.toList_data, Lib.toList_data, HYL.out, HAL.out]; simpa using he
            have HR : Hid (s.size < 20 → ∀ t ∈ tagL.take (k + 1), t ≠ acc) := HSTEP.out (fun _ => he)
            clear he
            go_wp2_with fail
            go_quiet (fail)
            have hB4 := HB3.out nq
            go_wp2_with fail
            go_roundw
            case rel => exact ⟨k + 1, by omega, by simp, HR.out, hB4⟩
            case measure => simp [intOf]; omega
        · have HVF : Hid (v = false) := show v = false from by
            rw [HV.out]
            unfold refTag
            by_cases hsz : s.size < 20
            · have h := HNN.out hsz
              rw [List.take_of_length_le (by show tagL.length ≤ k; have : tagL.length = 52 := rfl; omega)] at h
              rw [← HL.out]
              have : isTag acc = false := by
                unfold isTag
                rw [List.any_eq_false]
                intro t ht
                simpa using h t ht
              rw [this, Bool.and_false]
            · rw [decide_eq_false hsz]; rfl
          go_wp2_with fail
          go_ret
          exact ⟨by rw [HVF.out]; rfl, hW.trans ((hB.trans (hB2.mono hBz)).mono (by have := HZW.out; omega))⟩
end Go.Proofs.YtdnnjakggopdoaaDoor
