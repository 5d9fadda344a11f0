/-
  PROVED: contract of the document's own Entity: the entity's text at a place ('entAt'). Conditions: the text has at most 2000000 bytes.
-/
import Derived.Test.YtfoheffbapifpaaDoorRefNum
import Derived.Test.YtfoheffbapifpaaDoorRefEntity
namespace Go.Proofs.YtfoheffbapifpaaDoor
open Go.ChangeShapes Go.WideShapes Go.ChangeAt Go.RowKit Go.Sort Go.Maps
set_option linter.unusedVariables false

theorem numG_bd (b : Nat) (hb : b ≤ 16) (m : Nat) (hm : m ≤ 8) (l : List UInt8) (u : Int) (n : Nat) (h : numG b m l 0 0 = (u, n)) : 0 ≤ u ∧ u ≤ 4294967296 ∧ n ≤ m := by
  obtain ⟨ds, r, u', h1, h2, h3, h4⟩ := numG_eq b m l 0 0
  rw [h] at h2
  injection h2 with h5 h6
  subst h5
  have h7 := val_bd b hb ds 0 0 u (by omega) (by decide) h3
  have h8 := bd_top (0 + ds.length) (by omega)
  omega
theorem refEnt_out (s : ByteArray) (a : Int) (h : a < 0 ∨ (s.size : Int) ≤ a) (hs : s.size ≤ 2000000) (w : World) : Calls Tryd.prog 59 #[.string s, .int .i64 a] w (EntPost none w) := by
  rcases h with h | h
  · go_enter Tryd.func59, Tryd.ntmps59
    go_wp2_with fail
    go_ret2
    exact post_none _
  · go_enter Tryd.func59, Tryd.ntmps59
    go_wp2_with fail
    go_ret2
    exact post_none _
theorem lst_three (s : ByteArray) (p : Nat) (h : p + 3 ≤ s.size) : (lst s).drop p = (s[p]'(by omega)) :: (s[p + 1]'(by omega)) :: (s[p + 2]'(by omega)) :: (lst s).drop (p + 3) := by
  rw [lst_at s p (by omega), lst_at s (p + 1) (by omega), lst_at s (p + 2) (by omega)]
theorem drop_get (s : ByteArray) (k n : Nat) : ((lst s).drop k)[n]? = (lst s)[k + n]? := List.getElem?_drop
theorem get_in (s : ByteArray) (k : Nat) (h : k < s.size) : (lst s)[k]? = some (s[k]'h) := Lib.data_getElem? s k h
theorem get_out (s : ByteArray) (k : Nat) (h : s.size ≤ k) : (lst s)[k]? = none := List.getElem?_eq_none (by rw [lst_size]; exact h)
theorem post_some {o : Option (Int × Nat)} {v : Int} {n : Nat} {z : Int} (h : o = some (v, n)) (hz : z = n) {w w' : World} (hb : Below w.heap.size w w') : EntPost o w (.returned (.tuple #[.string ⟨(chr v).toArray⟩, .int .i64 z])) w' := by
  subst h
  subst hz
  exact ⟨rfl, hb⟩
theorem post_nothing {o : Option (Int × Nat)} (h : o = none) {w w' : World} (hb : Below w.heap.size w w') : EntPost o w (.returned (.tuple #[.string { data := #[] }, .int .i64 0])) w' := by
  subst h
  exact ⟨rfl, hb⟩
set_option maxHeartbeats 4000000 in
theorem refEnt_x (s : ByteArray) (p : Nat) (h3 : p + 3 ≤ s.size) (hs : s.size ≤ 2000000) (h38 : (s[p]'(by omega)) = 38) (h35 : (s[p + 1]'(by omega)) = 35) (hx : (s[p + 2]'(by omega)) = 120) (w : World) : Calls Tryd.prog 59 #[.string s, .int .i64 p] w (EntPost (entAt ((lst s).drop p)) w) := by
  have hp : p < s.size := by omega
  have hp1 : p + 1 < s.size := by omega
  have hp2 : p + 2 < s.size := by omega
  have c0 : (((s[p]'hp).toNat : Int) != 38) = false := by rw [h38]; decide
  have c1 : (((s[p + 1]'hp1).toNat : Int) == 35) = true := by rw [h35]; decide
  have c2 : (((s[p + 2]'hp2).toNat : Int) == 120) = true := by rw [hx]; decide
  have hN := fun W => number_16_6 s (p + 3) (by omega) (by omega) W
  cases hq : numG 16 6 ((lst s).drop (p + 3)) 0 0 with
  | mk u n =>
  rw [hq] at hN
  obtain ⟨hu0, hu1, hn⟩ := numG_bd 16 (by decide) 6 (by decide) _ u n hq
  have hent : entAt ((lst s).drop p) = if n ≠ 0 ∧ (lst s)[p + 3 + n]? = some 59 then some (u, n + 4) else none := by
    rw [lst_three s p h3, h38, h35, ent_hex _ (Or.inl hx) _ u n hq, drop_get]
  have HN := Lib.hid hN
  generalize entAt ((lst s).drop p) = o at *
  clear hN hq h38 h35 hx
  simp only [] at HN
  by_cases hn0 : n = 0
  · have HO : Hid (o = none) := show o = none from by rw [hent, if_neg (fun h => h.1 hn0)]
    have q0 : ((n : Int) == 0) = true := by rw [hn0]; rfl
    clear hent hn0
    go_enter Tryd.func59, Tryd.ntmps59
    go_wp2_with fail
    refine (HN.out _).mono ?_
    rintro e w1 ⟨rfl, rfl⟩
    clear HN
    go_wp2_with fail
    go_ret2
    exact post_nothing HO.out (Below.refl _ _)
  have q0 : ((n : Int) == 0) = false := by rw [beq_eq_false_iff_ne]; omega
  by_cases hlt : p + 3 + n < s.size
  · rw [get_in s _ hlt] at hent
    by_cases h59 : (s[p + 3 + n]'hlt) = 59
    · have HO : Hid (o = some (u, n + 4)) := show o = _ from by rw [hent, if_pos ⟨hn0, by rw [h59]⟩]
      have q1 : (((s[p + 3 + n]'hlt).toNat : Int) != 59) = false := by rw [h59]; decide
      have HK := Lib.hid (fun W => refChar_any u hu0 hu1 W)
      clear hent hn0 h59
      go_enter Tryd.func59, Tryd.ntmps59
      go_wp2_with fail
      refine (HN.out _).mono ?_
      rintro e w1 ⟨rfl, rfl⟩
      clear HN
      go_wp2_with fail
      refine (HK.out _).mono ?_
      rintro e w2 ⟨rfl, hb⟩
      have HB := Lib.hid hb
      clear HK hb
      go_wp2_with fail
      go_ret2
      exact post_some HO.out (by omega) HB.out
    · have HO : Hid (o = none) := show o = none from by rw [hent, if_neg (fun h => h59 (by injection h.2))]
      have q1 : (((s[p + 3 + n]'hlt).toNat : Int) != 59) = true := by have := ne_u8 _ 59 (by decide) h59; rw [bne_iff_ne]; omega
      clear hent hn0 h59
      go_enter Tryd.func59, Tryd.ntmps59
      go_wp2_with fail
      refine (HN.out _).mono ?_
      rintro e w1 ⟨rfl, rfl⟩
      clear HN
      go_wp2_with fail
      go_ret2
      exact post_nothing HO.out (Below.refl _ _)
  · rw [get_out s _ (by omega)] at hent
    have HO : Hid (o = none) := show o = none from by rw [hent, if_neg (fun h => by cases h.2)]
    clear hent hn0
    go_enter Tryd.func59, Tryd.ntmps59
    go_wp2_with fail
    refine (HN.out _).mono ?_
    rintro e w1 ⟨rfl, rfl⟩
    clear HN
    go_wp2_with fail
    go_ret2
    exact post_nothing HO.out (Below.refl _ _)
set_option maxHeartbeats 4000000 in
theorem refEnt_X (s : ByteArray) (p : Nat) (h3 : p + 3 ≤ s.size) (hs : s.size ≤ 2000000) (h38 : (s[p]'(by omega)) = 38) (h35 : (s[p + 1]'(by omega)) = 35) (hx : (s[p + 2]'(by omega)) = 88) (w : World) : Calls Tryd.prog 59 #[.string s, .int .i64 p] w (EntPost (entAt ((lst s).drop p)) w) := by
  have hp : p < s.size := by omega
  have hp1 : p + 1 < s.size := by omega
  have hp2 : p + 2 < s.size := by omega
  have c0 : (((s[p]'hp).toNat : Int) != 38) = false := by rw [h38]; decide
  have c1 : (((s[p + 1]'hp1).toNat : Int) == 35) = true := by rw [h35]; decide
  have c2 : (((s[p + 2]'hp2).toNat : Int) == 120) = false := by rw [hx]; decide
  have c3 : (((s[p + 2]'hp2).toNat : Int) == 88) = true := by rw [hx]; decide
  have hN := fun W => number_16_6 s (p + 3) (by omega) (by omega) W
  cases hq : numG 16 6 ((lst s).drop (p + 3)) 0 0 with
  | mk u n =>
  rw [hq] at hN
  obtain ⟨hu0, hu1, hn⟩ := numG_bd 16 (by decide) 6 (by decide) _ u n hq
  have hent : entAt ((lst s).drop p) = if n ≠ 0 ∧ (lst s)[p + 3 + n]? = some 59 then some (u, n + 4) else none := by
    rw [lst_three s p h3, h38, h35, ent_hex _ (Or.inr hx) _ u n hq, drop_get]
  have HN := Lib.hid hN
  generalize entAt ((lst s).drop p) = o at *
  clear hN hq h38 h35 hx
  simp only [] at HN
  by_cases hn0 : n = 0
  · have HO : Hid (o = none) := show o = none from by rw [hent, if_neg (fun h => h.1 hn0)]
    have q0 : ((n : Int) == 0) = true := by rw [hn0]; rfl
    clear hent hn0
    go_enter Tryd.func59, Tryd.ntmps59
    go_wp2_with fail
    refine (HN.out _).mono ?_
    rintro e w1 ⟨rfl, rfl⟩
    clear HN
    go_wp2_with fail
    go_ret2
    exact post_nothing HO.out (Below.refl _ _)
  have q0 : ((n : Int) == 0) = false := by rw [beq_eq_false_iff_ne]; omega
  by_cases hlt : p + 3 + n < s.size
  · rw [get_in s _ hlt] at hent
    by_cases h59 : (s[p + 3 + n]'hlt) = 59
    · have HO : Hid (o = some (u, n + 4)) := show o = _ from by rw [hent, if_pos ⟨hn0, by rw [h59]⟩]
      have q1 : (((s[p + 3 + n]'hlt).toNat : Int) != 59) = false := by rw [h59]; decide
      have HK := Lib.hid (fun W => refChar_any u hu0 hu1 W)
      clear hent hn0 h59
      go_enter Tryd.func59, Tryd.ntmps59
      go_wp2_with fail
      refine (HN.out _).mono ?_
      rintro e w1 ⟨rfl, rfl⟩
      clear HN
      go_wp2_with fail
      refine (HK.out _).mono ?_
      rintro e w2 ⟨rfl, hb⟩
      have HB := Lib.hid hb
      clear HK hb
      go_wp2_with fail
      go_ret2
      exact post_some HO.out (by omega) HB.out
    · have HO : Hid (o = none) := show o = none from by rw [hent, if_neg (fun h => h59 (by injection h.2))]
      have q1 : (((s[p + 3 + n]'hlt).toNat : Int) != 59) = true := by have := ne_u8 _ 59 (by decide) h59; rw [bne_iff_ne]; omega
      clear hent hn0 h59
      go_enter Tryd.func59, Tryd.ntmps59
      go_wp2_with fail
      refine (HN.out _).mono ?_
      rintro e w1 ⟨rfl, rfl⟩
      clear HN
      go_wp2_with fail
      go_ret2
      exact post_nothing HO.out (Below.refl _ _)
  · rw [get_out s _ (by omega)] at hent
    have HO : Hid (o = none) := show o = none from by rw [hent, if_neg (fun h => by cases h.2)]
    clear hent hn0
    go_enter Tryd.func59, Tryd.ntmps59
    go_wp2_with fail
    refine (HN.out _).mono ?_
    rintro e w1 ⟨rfl, rfl⟩
    clear HN
    go_wp2_with fail
    go_ret2
    exact post_nothing HO.out (Below.refl _ _)
set_option maxHeartbeats 4000000 in
theorem refEnt_dec (s : ByteArray) (p : Nat) (h3 : p + 3 ≤ s.size) (hs : s.size ≤ 2000000) (h38 : (s[p]'(by omega)) = 38) (h35 : (s[p + 1]'(by omega)) = 35) (hx : (s[p + 2]'(by omega)) ≠ 120) (hx2 : (s[p + 2]'(by omega)) ≠ 88) (w : World) : Calls Tryd.prog 59 #[.string s, .int .i64 p] w (EntPost (entAt ((lst s).drop p)) w) := by
  have hp : p < s.size := by omega
  have hp1 : p + 1 < s.size := by omega
  have hp2 : p + 2 < s.size := by omega
  have c0 : (((s[p]'hp).toNat : Int) != 38) = false := by rw [h38]; decide
  have c1 : (((s[p + 1]'hp1).toNat : Int) == 35) = true := by rw [h35]; decide
  have c2 : (((s[p + 2]'hp2).toNat : Int) == 120) = false := by have := ne_u8 _ 120 (by decide) hx; rw [beq_eq_false_iff_ne]; omega
  have c3 : (((s[p + 2]'hp2).toNat : Int) == 88) = false := by have := ne_u8 _ 88 (by decide) hx2; rw [beq_eq_false_iff_ne]; omega
  have hN := fun W => number_10_7 s (p + 2) (by omega) (by omega) W
  cases hq : numG 10 7 ((lst s).drop (p + 2)) 0 0 with
  | mk u n =>
  rw [hq] at hN
  obtain ⟨hu0, hu1, hn⟩ := numG_bd 10 (by decide) 7 (by decide) _ u n hq
  have hent : entAt ((lst s).drop p) = if n ≠ 0 ∧ (lst s)[p + 2 + n]? = some 59 then some (u, n + 3) else none := by
    rw [lst_at s p hp, lst_at s (p + 1) hp1, h38, h35, ent_dec _ (by rw [lst_at s (p + 2) hp2]; exact fun h => h.elim (fun h => hx (Option.some.inj h)) (fun h => hx2 (Option.some.inj h))) u n hq, drop_get]
  have HN := Lib.hid hN
  generalize entAt ((lst s).drop p) = o at *
  clear hN hq h38 h35 hx hx2
  simp only [] at HN
  by_cases hn0 : n = 0
  · have HO : Hid (o = none) := show o = none from by rw [hent, if_neg (fun h => h.1 hn0)]
    have q0 : ((n : Int) == 0) = true := by rw [hn0]; rfl
    clear hent hn0
    go_enter Tryd.func59, Tryd.ntmps59
    go_wp2_with fail
    refine (HN.out _).mono ?_
    rintro e w1 ⟨rfl, rfl⟩
    clear HN
    go_wp2_with fail
    go_ret2
    exact post_nothing HO.out (Below.refl _ _)
  have q0 : ((n : Int) == 0) = false := by rw [beq_eq_false_iff_ne]; omega
  by_cases hlt : p + 2 + n < s.size
  · rw [get_in s _ hlt] at hent
    by_cases h59 : (s[p + 2 + n]'hlt) = 59
    · have HO : Hid (o = some (u, n + 3)) := show o = _ from by rw [hent, if_pos ⟨hn0, by rw [h59]⟩]
      have q1 : (((s[p + 2 + n]'hlt).toNat : Int) != 59) = false := by rw [h59]; decide
      have HK := Lib.hid (fun W => refChar_any u hu0 hu1 W)
      clear hent hn0 h59
      go_enter Tryd.func59, Tryd.ntmps59
      go_wp2_with fail
      refine (HN.out _).mono ?_
      rintro e w1 ⟨rfl, rfl⟩
      clear HN
      go_wp2_with fail
      refine (HK.out _).mono ?_
      rintro e w2 ⟨rfl, hb⟩
      have HB := Lib.hid hb
      clear HK hb
      go_wp2_with fail
      go_ret2
      exact post_some HO.out (by omega) HB.out
    · have HO : Hid (o = none) := show o = none from by rw [hent, if_neg (fun h => h59 (by injection h.2))]
      have q1 : (((s[p + 2 + n]'hlt).toNat : Int) != 59) = true := by have := ne_u8 _ 59 (by decide) h59; rw [bne_iff_ne]; omega
      clear hent hn0 h59
      go_enter Tryd.func59, Tryd.ntmps59
      go_wp2_with fail
      refine (HN.out _).mono ?_
      rintro e w1 ⟨rfl, rfl⟩
      clear HN
      go_wp2_with fail
      go_ret2
      exact post_nothing HO.out (Below.refl _ _)
  · rw [get_out s _ (by omega)] at hent
    have HO : Hid (o = none) := show o = none from by rw [hent, if_neg (fun h => by cases h.2)]
    clear hent hn0
    go_enter Tryd.func59, Tryd.ntmps59
    go_wp2_with fail
    refine (HN.out _).mono ?_
    rintro e w1 ⟨rfl, rfl⟩
    clear HN
    go_wp2_with fail
    go_ret2
    exact post_nothing HO.out (Below.refl _ _)
end Go.Proofs.YtfoheffbapifpaaDoor
