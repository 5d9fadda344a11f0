/-
  PROVED: plain facts on block tags: a text in small letters, by its characters and by its bytes; that capital letters make no difference. No program in it. Conditions: none.
-/
import Derived.Test.YtdnnjakggopdoaaDoorSpans
import Derived.Lib.MapU
import Derived.Lib.MapLaws
import Derived.Lib.TrimUEq
namespace Go.Proofs.YtdnnjakggopdoaaDoor
set_option linter.unusedVariables false

/-- The block tags, as the document lists them. -/
def tagL : List (List UInt8) := [[97, 100, 100, 114, 101, 115, 115], [97, 114, 116, 105, 99, 108, 101], [97, 115, 105, 100, 101], [98, 108, 111, 99, 107, 113, 117, 111, 116, 101], [98, 111, 100, 121], [99, 101, 110, 116, 101, 114], [99, 111, 108], [100, 100], [100, 101, 116, 97, 105, 108, 115], [100, 105, 97, 108, 111, 103], [100, 105, 114], [100, 105, 118], [100, 108], [100, 116], [102, 105, 101, 108, 100, 115, 101, 116], [102, 105, 103, 117, 114, 101], [102, 111, 111, 116, 101, 114], [102, 111, 114, 109], [102, 114, 97, 109, 101], [104, 49], [104, 50], [104, 51], [104, 52], [104, 53], [104, 54], [104, 101, 97, 100], [104, 101, 97, 100, 101, 114], [104, 114], [104, 116, 109, 108], [105, 102, 114, 97, 109, 101], [108, 101, 103, 101, 110, 100], [108, 105], [108, 105, 110, 107], [109, 97, 105, 110], [109, 101, 110, 117], [110, 97, 118], [111, 108], [111, 112, 116, 105, 111, 110], [112], [112, 97, 114, 97, 109], [115, 101, 99, 116, 105, 111, 110], [115, 117, 109, 109, 97, 114, 121], [116, 97, 98, 108, 101], [116, 98, 111, 100, 121], [116, 100], [116, 102, 111, 111, 116], [116, 104], [116, 104, 101, 97, 100], [116, 105, 116, 108, 101], [116, 114], [116, 114, 97, 99, 107], [117, 108]]
def isTag (l : List UInt8) : Bool := tagL.any fun t => t == l
/-- A character, a byte in small letters; a byte in capital ones. -/
def lowR (r : Int) : Int := if 65 ≤ r ∧ r ≤ 90 then r + 32 else r
def lowb (x : UInt8) : UInt8 := if 65 ≤ x.toNat ∧ x.toNat ≤ 90 then x + 32 else x
def upb (x : UInt8) : UInt8 := if 97 ≤ x.toNat ∧ x.toNat ≤ 122 then x - 32 else x
theorem lowb_nat (x : UInt8) : (lowb x).toNat = if 65 ≤ x.toNat ∧ x.toNat ≤ 90 then x.toNat + 32 else x.toNat := by
  unfold lowb
  split
  · rw [UInt8.toNat_add]
    have : (32 : UInt8).toNat = 32 := rfl
    omega
  · rfl
theorem low_up (x : UInt8) : lowb (upb x) = lowb x := by
  have key : ∀ n : Fin 256, lowb (upb (UInt8.ofNat n.val)) = lowb (UInt8.ofNat n.val) := by decide +kernel
  have h := key ⟨x.toNat, x.toNat_lt⟩
  rw [UInt8.ofNat_toNat] at h
  exact h
theorem low_up_all (l : List UInt8) : (l.map upb).map lowb = l.map lowb := by
  rw [List.map_map]
  exact List.map_congr_left fun x _ => low_up x
theorem enc_ascii (r : Int) (h0 : 0 ≤ r) (h1 : r ≤ 127) : Lib.encodeRune r = [r.toNat.toUInt8] := by
  unfold Lib.encodeRune
  rw [Lib.encodeRuneZ_one h0 h1]
  rfl
theorem dec_ascii (x : UInt8) (l : List UInt8) (h : x.toNat < 128) : Lib.decodeL (x :: l) = (x.toNat, 1) := by
  rw [Lib.decodeL_N]
  exact Lib.decodeN_ascii _ _ _ _ _ h
theorem dec_high (x : UInt8) (l : List UInt8) (h : ¬ x.toNat < 128) : 128 ≤ (Lib.decodeL (x :: l)).1 := by
  rw [Lib.decodeL_N]
  have e : (x :: l).getD 0 0 = x := rfl
  rw [e]
  generalize x.toNat = b0 at h
  generalize ((x :: l).getD 1 0).toNat = b1
  generalize ((x :: l).getD 2 0).toNat = b2
  generalize ((x :: l).getD 3 0).toNat = b3
  unfold Lib.decodeN
  rw [if_neg h]
  repeat' split
  all_goals simp only []
  all_goals omega
theorem enc_high (r : Int) (h : 128 ≤ r) : ∃ y ∈ Lib.encodeRune r, ¬ y.toNat < 128 := by
  unfold Lib.encodeRune Lib.encodeRuneZ
  rw [if_neg (by omega)]
  have bt : ∀ z : Int, 128 ≤ z → z < 256 → ¬ (z.toNat.toUInt8).toNat < 128 := by
    intro z h0 h1
    have : (z.toNat.toUInt8).toNat = z.toNat := by rw [UInt8.toNat_ofNat']; exact Nat.mod_eq_of_lt (by omega)
    omega
  split
  · exact ⟨_, List.mem_map.2 ⟨_, List.mem_cons_self .., rfl⟩, bt _ (by omega) (by omega)⟩
  · split
    · exact ⟨_, List.mem_map.2 ⟨_, List.mem_cons_self .., rfl⟩, bt _ (by omega) (by omega)⟩
    · split
      · exact ⟨_, List.mem_map.2 ⟨_, List.mem_cons_self .., rfl⟩, bt _ (by omega) (by omega)⟩
      · exact ⟨_, List.mem_map.2 ⟨_, List.mem_cons_self .., rfl⟩, bt _ (by omega) (by omega)⟩
theorem lowR_ge (r : Int) (h : 0 ≤ r) : 0 ≤ lowR r := by unfold lowR; split <;> omega
theorem map_low : ∀ (n : Nat) (l : List UInt8), l.length ≤ n → (∀ x ∈ l, x.toNat < 128) → Lib.mapGoD lowR n l = l.map lowb
  | 0, l, h, _ => by
    have : l = [] := List.length_eq_zero_iff.1 (by omega)
    subst this; rfl
  | n + 1, [], _, _ => by simp [Lib.mapGoD]
  | n + 1, x :: l, h, hx => by
    have h1 := hx x (List.mem_cons_self ..)
    have ih := map_low n l (by simpa using h) (fun y hy => hx y (List.mem_cons_of_mem _ hy))
    rw [Lib.mapGoD, if_neg (by simp), dec_ascii x l h1]
    simp only [List.drop_succ_cons, List.drop_zero]
    rw [ih, if_pos (lowR_ge _ (by omega)), List.map_cons]
    have e : Lib.encodeRune (lowR (x.toNat : Int)) = [lowb x] := by
      rw [enc_ascii _ (lowR_ge _ (by omega)) (by unfold lowR; split <;> omega)]
      congr 1
      apply UInt8.toNat_inj.1
      rw [lowb_nat, UInt8.toNat_ofNat']
      unfold lowR
      split
      · rw [if_pos (by omega), Nat.mod_eq_of_lt (by omega)]; omega
      · rw [if_neg (by omega), Nat.mod_eq_of_lt (by omega)]; omega
    rw [e]
    rfl
theorem map_high : ∀ (n : Nat) (l : List UInt8), l.length ≤ n → (∃ x ∈ l, ¬ x.toNat < 128) → ∃ y ∈ Lib.mapGoD lowR n l, ¬ y.toNat < 128
  | 0, l, h, ⟨x, hx, _⟩ => by
    have : l = [] := List.length_eq_zero_iff.1 (by omega)
    subst this; cases hx
  | n + 1, [], _, ⟨x, hx, _⟩ => by cases hx
  | n + 1, z :: l, h, ⟨x, hx, hh⟩ => by
    rw [Lib.mapGoD, if_neg (by simp)]
    by_cases hz : z.toNat < 128
    · have hxl : x ∈ l := by
        rcases List.mem_cons.1 hx with rfl | hx
        · exact absurd hz hh
        · exact hx
      obtain ⟨y, hy, hy2⟩ := map_high n l (by simpa using h) ⟨x, hxl, hh⟩
      rw [dec_ascii z l hz]
      exact ⟨y, List.mem_append_right _ hy, hy2⟩
    · have hd := dec_high z l hz
      obtain ⟨y, hy, hy2⟩ := enc_high ((Lib.decodeL (z :: l)).1 : Int) (by omega)
      have e : lowR ((Lib.decodeL (z :: l)).1 : Int) = ((Lib.decodeL (z :: l)).1 : Int) := by unfold lowR; rw [if_neg (by omega)]
      rw [e, if_pos (by omega)]
      exact ⟨y, List.mem_append_left _ hy, hy2⟩
theorem tag_ascii (l : List UInt8) (h : isTag l = true) : (∀ x ∈ l, x.toNat < 128) ∧ l.length ≤ 10 := by
  unfold isTag at h
  obtain ⟨t, ht, e⟩ := List.any_eq_true.1 h
  have : t = l := by simpa using e
  subst this
  have key : ∀ t ∈ tagL, (∀ x ∈ t, x.toNat < 128) ∧ t.length ≤ 10 := by decide +kernel
  exact key t ht
theorem not_tag (l : List UInt8) (h : ∃ x ∈ l, ¬ x.toNat < 128) : isTag l = false := by
  cases hh : isTag l with
  | false => rfl
  | true => obtain ⟨x, hx, hx2⟩ := h; exact absurd ((tag_ascii l hh).1 x hx) hx2
/-- The text in small letters is a tag, by its characters or by its bytes. -/
theorem tag_same (l : List UInt8) : isTag (Lib.mapD lowR l) = isTag (l.map lowb) := by
  unfold Lib.mapD
  by_cases h : ∃ x ∈ l, ¬ x.toNat < 128
  · rw [not_tag _ (map_high _ l (Nat.le_refl _) h)]
    obtain ⟨x, hx, hx2⟩ := h
    rw [not_tag _ ⟨lowb x, List.mem_map.2 ⟨x, hx, rfl⟩, by rw [lowb_nat]; split <;> omega⟩]
  · rw [map_low _ l (Nat.le_refl _) (fun x hx => by by_cases hc : x.toNat < 128; exact hc; exact absurd ⟨x, hx, hc⟩ h)]
theorem tag_up (l : List UInt8) : isTag (Lib.mapD lowR (l.map upb)) = isTag (Lib.mapD lowR l) := by
  rw [tag_same, tag_same, low_up_all]
theorem tag_long (l : List UInt8) (h : ¬ l.length < 20) : isTag (Lib.mapD lowR l) = false := by
  rw [tag_same]
  cases hh : isTag (l.map lowb) with
  | false => rfl
  | true => have := (tag_ascii _ hh).2; rw [List.length_map] at this; omega
theorem tag_short (l : List UInt8) (h : l.length < 20) : isTag (Lib.mapD lowR l) = isTag ((l.take 20).map lowb) := by
  rw [tag_same, List.take_of_length_le (by omega)]
end Go.Proofs.YtdnnjakggopdoaaDoor
