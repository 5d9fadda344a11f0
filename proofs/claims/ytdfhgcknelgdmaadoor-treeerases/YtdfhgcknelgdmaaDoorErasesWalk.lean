/-
  PROVED: the walk of TreeErases: true, whatever the tree. Conditions: the lengths and numbers are a machine's; the tables lie as their initialisers lay them.
-/
import Derived.Test.YtdfhgcknelgdmaaDoorAlive
import Derived.Test.YtdfhgcknelgdmaaDoorWeigh
import Derived.Test.YtdfhgcknelgdmaaDoorEraPure
import Derived.Test.YtdfhgcknelgdmaaDoorRefErase
namespace Go.Proofs.YtdfhgcknelgdmaaDoor
open Go.ChangeShapes Go.WideShapes Go.ChangeAt Go.RowKit Go.Sort
set_option linter.unusedVariables false

theorem bd_era {T : List Nd} (h : Bd T) : Bd (T.map era) := by
  refine ⟨by rw [List.length_map]; exact h.1, fun n hn => ?_⟩
  obtain ⟨m, hm, rfl⟩ := List.mem_map.1 hn
  obtain ⟨a1, a2, a3, a4, a5⟩ := h.2 m hm
  exact ⟨a1, a2, a3, a4, Nat.zero_le _⟩
theorem num_era {T : List Nd} (h : ∀ n ∈ T, NumN n) : ∀ n ∈ T.map era, NumN n := by
  intro n hn
  obtain ⟨m, hm, rfl⟩ := List.mem_map.1 hn
  exact ⟨⟨show (-9223372036854775808 : Int) ≤ 0 by decide, show (0 : Int) ≤ 9223372036854775807 by decide⟩, ⟨show (-9223372036854775808 : Int) ≤ 0 by decide, show (0 : Int) ≤ 9223372036854775807 by decide⟩, (h m hm).2.2⟩

set_option maxRecDepth 100000 in
set_option maxHeartbeats 16000000 in
theorem erases_walk (A : Option Addr) (c : Nat) (T : List Nd) (hW : Wide T) (hN : ∀ n ∈ T, NumN n) (w : World) (h : Tr w w.heap.size A T) (hg : Glob w) :
    Calls Tryd.prog 5 #[.agg #[.slice A T.length c]] w fun e w' => e = .returned (.bool true) ∧ Below w.heap.size w w' := by
  have HA := Lib.hid h
  have HGl := Lib.hid hg
  have HN := Lib.hid hN
  have HWt : Hid (∀ W, Below w.heap.size w W → Calls Tryd.prog 9 #[.agg #[.slice A T.length c], .int .i64 2000] W fun e w' => e = .returned (.int .i64 (wgt 2000 0 T)) ∧ Below W.heap.size W w') := fun W hb => weigh_any A c 2000 (by omega) T hW W ((h.below hb).more hb.size)
  obtain ⟨V, hV⟩ : ∃ V, V = wgt 2000 0 T := ⟨_, rfl⟩
  rw [← hV] at HWt
  have HV := Lib.hid hV
  clear h hg hV hW hN
  have H0 : Hid (Holds (w.alloc (.cells #[.slice A T.length c] 24)) w.heap.size 24 #[.slice A T.length c]) := Holds.made w 24 _
  have HB0 : Hid (Below w.heap.size w (w.alloc (.cells #[.slice A T.length c] 24))) := (Below.refl _ _).alloc (Nat.le_refl _) _
  go_enter Tryd.func5, Tryd.ntmps5
  go_wp2_with fail
  refine (alive_any _ (HGl.out.on HB0.out)).mono ?_
  rintro e w1 ⟨rfl, hb⟩
  have H1 := Lib.hid (H0.out.under hb H0.out.lt)
  have B1 : Hid (Below w.heap.size w w1) := HB0.out.trans (hb.mono (by simp))
  have a1 : w1.cell? ⟨w.heap.size, 0, none⟩ = some (.slice A T.length c) := H1.out.at 0
  clear hb H0 HB0
  go_wp2_with fail
  refine (HWt.out _ B1.out).mono ?_
  rintro e w2 ⟨rfl, hb⟩
  have H2 := Lib.hid (H1.out.under hb H1.out.lt)
  have B2 := Lib.hid (chain (Nat.le_refl _) B1.out hb)
  have a2 : w2.cell? ⟨w.heap.size, 0, none⟩ = some (.slice A T.length c) := H2.out.at 0
  clear hb H1 a1 HWt
  by_cases hv : 2000 < V
  · have hvz : (2000 : Int) < (V : Int) := by omega
    go_wp2_with fail
    go_ret
    exact ⟨rfl, B2.out⟩
  · have hvz : ¬ (2000 : Int) < (V : Int) := by omega
    obtain ⟨hBd, hT4⟩ := wgt_bd (m := 2000) (T := T) (by rw [← HV.out]; omega) (by omega)
    have HBd := Lib.hid hBd
    clear hBd
    go_wp2_with fail
    refine (copyTree_any A c T HBd.out w2 ((HA.out.below B2.out).more B2.out.size)).mono ?_
    rintro e w3 ⟨v3, S3, rfl, hO, hb⟩
    obtain ⟨A3, c3, rfl, _, _, hT3⟩ := hO.tr
    have B3 := Lib.hid (chain (Nat.le_refl _) B2.out hb)
    obtain ⟨W4, hW4⟩ : ∃ W4, W4 = w3.alloc (.cells #[.slice A3 T.length c3] 24) := ⟨_, rfl⟩
    have b4 : Below w3.heap.size w3 W4 := by rw [hW4]; exact (Below.refl _ _).alloc (Nat.le_refl _) _
    have J1 := Lib.hid ((H2.out.under hb H2.out.lt).under b4 (H2.out.under hb H2.out.lt).lt)
    have J3 : Hid (Holds W4 w3.heap.size 24 #[.slice A3 T.length c3]) := by show Holds _ _ _ _; rw [hW4]; exact Holds.made w3 24 _
    have TB : Hid (Tr W4 W4.heap.size A3 T) := hT3.on b4
    have B4 := Lib.hid (chain (Nat.le_refl _) B3.out b4)
    have HW4 := Lib.hid hW4
    have y3 : (w3.alloc (.cells #[.slice A3 T.length c3] 24)).cell? ⟨w3.heap.size, 0, none⟩ = some (.slice A3 T.length c3) := by rw [← hW4]; exact J3.out.at 0
    obtain ⟨E, hE⟩ : ∃ E, E = T.map era := ⟨_, rfl⟩
    have HBE : Hid (Bd E) := by show Bd E; rw [hE]; exact bd_era HBd.out
    have HNE : Hid (∀ n ∈ E, NumN n) := by show ∀ n ∈ E, NumN n; rw [hE]; exact num_era HN.out
    have C19 : Hid (Calls Tryd.prog 19 #[.agg #[.slice A3 T.length c3]] W4 (CopT W4 E)) := by show Calls _ _ _ _ _; rw [hE]; exact erase_any A3 c3 T HBd.out W4 TB.out
    have HE := Lib.hid hE
    clear hb hO hT3 H2 a2 hW4 b4 hE
    go_wp2_with fail
    rw [← HW4.out]
    refine C19.out.mono ?_
    rintro e w5 ⟨v5, S5, rfl, hO, hb⟩
    obtain ⟨A5, c5, rfl, _, _, hT5⟩ := hO.tr
    have B5 := Lib.hid (chain (Nat.le_refl _) B4.out hb)
    obtain ⟨W6, hW6⟩ : ∃ W6, W6 = w5.alloc (.cells #[.slice A5 E.length c5] 24) := ⟨_, rfl⟩
    have b6 : Below w5.heap.size w5 W6 := by rw [hW6]; exact (Below.refl _ _).alloc (Nat.le_refl _) _
    have K1 := Lib.hid ((J1.out.under hb J1.out.lt).under b6 (J1.out.under hb J1.out.lt).lt)
    have K3 := Lib.hid ((J3.out.under hb J3.out.lt).under b6 (J3.out.under hb J3.out.lt).lt)
    have K5 : Hid (Holds W6 w5.heap.size 24 #[.slice A5 E.length c5]) := by show Holds _ _ _ _; rw [hW6]; exact Holds.made w5 24 _
    have TB6 : Hid (Tr W6 W6.heap.size A3 T) := (TB.out.on hb).on b6
    have TE6 : Hid (Tr W6 W6.heap.size A5 E) := hT5.on b6
    have B6 := Lib.hid (chain (Nat.le_refl _) B5.out b6)
    have TA6 : Hid (Tr W6 W6.heap.size A T) := (HA.out.below B6.out).more B6.out.size
    have HW6 := Lib.hid hW6
    have KL1 : w.heap.size < W6.heap.size := K1.out.lt
    have KL3 : w3.heap.size < W6.heap.size := K3.out.lt
    have KL5 : w5.heap.size < W6.heap.size := K5.out.lt
    have x0 : W6.cell? ⟨w.heap.size, 0, none⟩ = some (.slice A T.length c) := K1.out.at 0
    have x1 : W6.cell? ⟨w3.heap.size, 0, none⟩ = some (.slice A3 T.length c3) := K3.out.at 0
    have x2 : W6.cell? ⟨w5.heap.size, 0, none⟩ = some (.slice A5 E.length c5) := K5.out.at 0
    have C20 : Hid (∀ W, Below W6.heap.size W6 W → Calls Tryd.prog 20 #[.agg #[.slice A T.length c]] W (CopT W E)) := fun W hb => by
      have := rerase_any A c T HBd.out W (TA6.out.on hb)
      rw [← HE.out] at this
      exact this
    have C16 : Hid (∀ W, Below W6.heap.size W6 W → Calls Tryd.prog 16 #[.agg #[.slice A3 T.length c3], .agg #[.slice A T.length c], .bool true] W fun e w' => e = .returned (.bool true) ∧ Below W.heap.size W w') := fun W hb => (sameTree_yes A3 A c3 c T HBd.out W (TB6.out.on hb) (TA6.out.on hb)).mono fun e w' h => h.below
    clear hb hO hT5 hW6 b6 y3 J1 J3 C19
    go_wp2_with fail
    rw [← HW6.out]
    go_region_held3 (fun w' => w'.cell? ⟨w.heap.size, 0, none⟩ = some (.slice A T.length c) ∧ w'.cell? ⟨w3.heap.size, 0, none⟩ = some (.slice A3 T.length c3) ∧ w'.cell? ⟨w5.heap.size, 0, none⟩ = some (.slice A5 E.length c5)) (first | exact ⟨x0, x1, x2⟩ | (refine ⟨?_, ?_, ?_⟩ <;> assumption))
      (first
        | (go_at_call 20; ((with_reducible refine (C20.out _ ((Below.refl W6.heap.size W6).drew)).mono ?_)); rintro e wA ⟨vA, SA, rfl, hOA, hh⟩; obtain ⟨A7, c7, rfl, _, _, hT7⟩ := hOA.tr; have hx : Below W6.heap.size W6 wA := (Below.refl W6.heap.size W6).drew.trans hh; have HHA := Lib.hid hx; have T7 := Lib.hid hT7; have p0 : wA.cell? ⟨w.heap.size, 0, none⟩ = some (.slice A T.length c) := (K1.out.under hx KL1).at 0; have p1 : wA.cell? ⟨w3.heap.size, 0, none⟩ = some (.slice A3 T.length c3) := (K3.out.under hx KL3).at 0; have p2 : wA.cell? ⟨w5.heap.size, 0, none⟩ = some (.slice A5 E.length c5) := (K5.out.under hx KL5).at 0; clear hx hh hOA hT7)
        | (go_at_call 16; ((with_reducible refine ((sameTree_yes A5 A7 c5 c7 E HBE.out wA (TE6.out.on HHA.out) T7.out)).mono ?_)); rintro e wB hG; obtain ⟨rfl, hh⟩ := hG.below; clear hG; have hx : Below W6.heap.size W6 wB := HHA.out.trans (hh.mono (by have := HHA.out.size; omega)); have HHB := Lib.hid hx; have q0 : wB.cell? ⟨w.heap.size, 0, none⟩ = some (.slice A T.length c) := (K1.out.under hx KL1).at 0; have q1 : wB.cell? ⟨w3.heap.size, 0, none⟩ = some (.slice A3 T.length c3) := (K3.out.under hx KL3).at 0; have q2 : wB.cell? ⟨w5.heap.size, 0, none⟩ = some (.slice A5 E.length c5) := (K5.out.under hx KL5).at 0; clear hx hh)
        | (go_at_call 16; ((with_reducible refine (C16.out _ HHB.out).mono ?_)); rintro e wC ⟨rfl, hh⟩; have hx : Below W6.heap.size W6 wC := HHB.out.trans (hh.mono (by have := HHB.out.size; omega)); have HHC := Lib.hid hx; have r0 : wC.cell? ⟨w.heap.size, 0, none⟩ = some (.slice A T.length c) := (K1.out.under hx KL1).at 0; have r1 : wC.cell? ⟨w3.heap.size, 0, none⟩ = some (.slice A3 T.length c3) := (K3.out.under hx KL3).at 0; have r2 : wC.cell? ⟨w5.heap.size, 0, none⟩ = some (.slice A5 E.length c5) := (K5.out.under hx KL5).at 0; clear hx hh))
    have M1 := Lib.hid (K1.out.under HHC.out KL1)
    have M5 := Lib.hid (K5.out.under HHC.out KL5)
    have BC := Lib.hid (chain (Nat.le_refl _) B6.out HHC.out)
    have TE := Lib.hid (TE6.out.on HHC.out)
    clear p0 p1 p2 q0 q1 q2 r1 r2 x0 x1 x2 HHA HHB HHC T7 C20 C16 K1 K3 K5 TB6 TE6 TA6
    go_wp2_with fail
    refine (copyTree_any A c T HBd.out wC ((HA.out.below BC.out).more BC.out.size)).mono ?_
    rintro e w8 ⟨v8, S8, rfl, hO, hb⟩
    obtain ⟨A8, c8, rfl, _, _, hT8⟩ := hO.tr
    have B8 := Lib.hid (chain (Nat.le_refl _) BC.out hb)
    have N1 := Lib.hid (M1.out.under hb M1.out.lt)
    have N5 := Lib.hid (M5.out.under hb M5.out.lt)
    have TE8 := Lib.hid (TE.out.on hb)
    have T8 := Lib.hid hT8
    clear hb hO hT8 M1 M5 TE r0
    go_wp2_with fail
    refine (right_any A8 c8 T HBd.out w8 T8.out).mono ?_
    rintro e w9 ⟨rfl, hb⟩
    have B9 := Lib.hid (chain (Nat.le_refl _) B8.out hb)
    have P1 := Lib.hid (N1.out.under hb N1.out.lt)
    have P5 := Lib.hid (N5.out.under hb N5.out.lt)
    have TE9 := Lib.hid (TE8.out.on hb)
    have a9 : w9.cell? ⟨w.heap.size, 0, none⟩ = some (.slice A T.length c) := P1.out.at 0
    clear hb N1 N5 TE8 T8
    by_cases hr : parP T = []
    · have q : decide (0 < (parP T).length) = false := by rw [hr]; rfl
      rw [q]
      clear q hr
      go_wp2_with fail
      go_ret
      exact ⟨rfl, B9.out⟩
    · have q : decide (0 < (parP T).length) = true := decide_eq_true (List.length_pos_iff.2 hr)
      rw [q]
      obtain ⟨X, hX⟩ : ∃ X : ByteArray, X = ⟨(showL T false).toArray⟩ := ⟨_, rfl⟩
      have CS1 : Hid (∀ (W : World) (A' : Option Addr) (c' : Nat), Tr W W.heap.size A' T → Glob W → Calls Tryd.prog 17 #[.agg #[.slice A' T.length c'], .bool false] W fun e w' => e = .returned (.tuple #[.string X, .int .i64 0]) ∧ Below W.heap.size W w') := fun W A' c' hT hG => by
        refine (show_any A' c' T HBd.out HN.out false W hT hG).mono fun e w' h => ?_
        obtain ⟨h1, h2⟩ := h
        rw [if_neg hr, if_neg hr, ← hX] at h1
        exact ⟨h1, h2⟩
      have CS2 : Hid (∀ (W : World) (A' : Option Addr) (c' : Nat), Tr W W.heap.size A' E → Glob W → Calls Tryd.prog 17 #[.agg #[.slice A' E.length c'], .bool false] W fun e w' => e = .returned (.tuple #[.string X, .int .i64 0]) ∧ Below W.heap.size W w') := fun W A' c' hT hG => by
        refine (show_any A' c' E HBE.out HNE.out false W hT hG).mono fun e w' h => ?_
        obtain ⟨h1, h2⟩ := h
        rw [HE.out, if_neg (by rw [par_era hr]; exact hr), if_neg (by rw [par_era hr]; exact hr), show_era hr, ← hX] at h1
        exact ⟨h1, h2⟩
      clear q hr hX
      go_wp2_with fail
      refine (copyTree_any A c T HBd.out w9 ((HA.out.below B9.out).more B9.out.size)).mono ?_
      rintro e w10 ⟨v10, S10, rfl, hO, hb⟩
      obtain ⟨A10, c10, rfl, _, _, hT10⟩ := hO.tr
      have B10 := Lib.hid (chain (Nat.le_refl _) B9.out hb)
      have Q5 := Lib.hid (P5.out.under hb P5.out.lt)
      have TE10 := Lib.hid (TE9.out.on hb)
      have T10 := Lib.hid hT10
      clear hb hO hT10 P1 P5 TE9 a9
      go_wp2_with fail
      refine (CS1.out w10 A10 c10 T10.out (HGl.out.on B10.out)).mono ?_
      rintro e w11 ⟨rfl, hb⟩
      have B11 := Lib.hid (chain (Nat.le_refl _) B10.out hb)
      have R5 := Lib.hid (Q5.out.under hb Q5.out.lt)
      have TE11 := Lib.hid (TE10.out.on hb)
      have a11 : w11.cell? ⟨w5.heap.size, 0, none⟩ = some (.slice A5 E.length c5) := R5.out.at 0
      clear hb Q5 TE10 T10
      go_wp2_with fail
      refine (CS2.out w11 A5 c5 TE11.out (HGl.out.on B11.out)).mono ?_
      rintro e w12 ⟨rfl, hb⟩
      have B12 := Lib.hid (chain (Nat.le_refl _) B11.out hb)
      clear hb R5 TE11 a11
      go_wp2_with fail
      go_ret
      exact ⟨rfl, B12.out⟩
end Go.Proofs.YtdfhgcknelgdmaaDoor
