/-
  PROVED: the walk of TreeShows: true, whatever the tree. Conditions: the lengths and numbers are a machine's; the tables lie as their initialisers lay them.
-/
import Derived.Test.YtdfhgcknelgdmaaDoorAlive
import Derived.Test.YtdfhgcknelgdmaaDoorWeigh
import Derived.Test.YtdfhgcknelgdmaaDoorRefShow
namespace Go.Proofs.YtdfhgcknelgdmaaDoor
open Go.ChangeShapes Go.WideShapes Go.ChangeAt Go.RowKit Go.Sort
set_option linter.unusedVariables false

set_option maxRecDepth 100000 in
set_option maxHeartbeats 16000000 in
theorem shows_walk (A : Option Addr) (c : Nat) (T : List Nd) (hW : Wide T) (hN : ∀ n ∈ T, NumN n) (sp : Bool) (w : World) (h : Tr w w.heap.size A T) (hg : Glob w) :
    Calls Tryd.prog 4 #[.agg #[.slice A T.length c], .bool sp] w fun e w' => e = .returned (.bool true) ∧ Below w.heap.size w w' := by
  have HA := Lib.hid h
  have HGl := Lib.hid hg
  have HN := Lib.hid hN
  have HWt : Hid (∀ W, Below w.heap.size w W → Calls Tryd.prog 9 #[.agg #[.slice A T.length c], .int .i64 2000] W fun e w' => e = .returned (.int .i64 (wgt 2000 0 T)) ∧ Below W.heap.size W w') := fun W hb => weigh_any A c 2000 (by omega) T hW W ((h.below hb).more hb.size)
  obtain ⟨V, hV⟩ : ∃ V, V = wgt 2000 0 T := ⟨_, rfl⟩
  rw [← hV] at HWt
  have HV := Lib.hid hV
  clear h hg hV hW hN
  have H0 : Hid (Holds (w.alloc (.cells #[.slice A T.length c] 24)) w.heap.size 24 #[.slice A T.length c]) := Holds.made w 24 _
  have HB0 : Hid (Below w.heap.size w (w.alloc (.cells #[.slice A T.length c] 24))) := (Below.refl _ _).alloc (Nat.le_refl _) _
  go_enter Tryd.func4, Tryd.ntmps4
  go_wp2_with fail
  refine (alive_any _ (HGl.out.on HB0.out)).mono ?_
  rintro e w1 ⟨rfl, hb⟩
  have H1 := Lib.hid (H0.out.under hb H0.out.lt)
  have B1 : Hid (Below w.heap.size w w1) := HB0.out.trans (hb.mono (by simp))
  have a1 : w1.cell? ⟨w.heap.size, 0, none⟩ = some (.slice A T.length c) := H1.out.at 0
  clear hb H0 HB0
  go_wp2_with fail
  refine (HWt.out _ B1.out).mono ?_
  rintro e w2 ⟨rfl, hb⟩
  have H2 := Lib.hid (H1.out.under hb H1.out.lt)
  have B2 := Lib.hid (chain (Nat.le_refl _) B1.out hb)
  have a2 : w2.cell? ⟨w.heap.size, 0, none⟩ = some (.slice A T.length c) := H2.out.at 0
  clear hb H1 a1 HWt
  by_cases hv : 2000 < V
  · have hvz : (2000 : Int) < (V : Int) := by omega
    go_wp2_with fail
    go_ret
    exact ⟨rfl, B2.out⟩
  · have hvz : ¬ (2000 : Int) < (V : Int) := by omega
    obtain ⟨hBd, hT4⟩ := wgt_bd (m := 2000) (T := T) (by rw [← HV.out]; omega) (by omega)
    have HBd := Lib.hid hBd
    obtain ⟨X, hX⟩ : ∃ X : ByteArray, X = ⟨(if parP T = [] then [] else showL T sp).toArray⟩ := ⟨_, rfl⟩
    obtain ⟨E, hE⟩ : ∃ E : Int, E = if parP T = [] then 30 else 0 := ⟨_, rfl⟩
    have C17 : Hid (∀ (W : World) (A' : Option Addr) (c' : Nat), Tr W W.heap.size A' T → Glob W → Calls Tryd.prog 17 #[.agg #[.slice A' T.length c'], .bool sp] W fun e w' => e = .returned (.tuple #[.string X, .int .i64 E]) ∧ Below W.heap.size W w') := fun W A' c' hT hG => by
      refine (show_any A' c' T hBd HN.out sp W hT hG).mono fun e w' h => ?_
      obtain ⟨h1, h2⟩ := h
      rw [← hX, ← hE] at h1
      exact ⟨h1, h2⟩
    have C18 : Hid (∀ (W : World) (A' : Option Addr) (c' : Nat), Tr W W.heap.size A' T → Calls Tryd.prog 18 #[.agg #[.slice A' T.length c'], .bool sp] W fun e w' => e = .returned (.tuple #[.string X, .int .i64 E]) ∧ Below W.heap.size W w') := fun W A' c' hT => by
      refine (refShow_any A' c' T hBd (by omega) HN.out sp W hT).mono fun e w' h => ?_
      obtain ⟨h1, h2⟩ := h
      rw [← hX, ← hE] at h1
      exact ⟨h1, h2⟩
    clear hBd hX hE
    go_wp2_with fail
    refine (copyTree_any A c T HBd.out w2 ((HA.out.below B2.out).more B2.out.size)).mono ?_
    rintro e w3 ⟨v3, S3, rfl, hO, hb⟩
    obtain ⟨A3, c3, rfl, _, _, hT3⟩ := hO.tr
    have B3 := Lib.hid (chain (Nat.le_refl _) B2.out hb)
    have H3 := Lib.hid (H2.out.under hb H2.out.lt)
    have T3 := Lib.hid hT3
    clear hb hO hT3 H2 a2
    go_wp2_with fail
    refine (C17.out w3 A3 c3 T3.out (HGl.out.on B3.out)).mono ?_
    rintro e w4 ⟨rfl, hb⟩
    have B4 := Lib.hid (chain (Nat.le_refl _) B3.out hb)
    have H4 := Lib.hid (H3.out.under hb H3.out.lt)
    have a4 : w4.cell? ⟨w.heap.size, 0, none⟩ = some (.slice A T.length c) := H4.out.at 0
    clear hb H3 T3 C17
    go_wp2_with fail
    refine (C18.out w4 A c ((HA.out.below B4.out).more B4.out.size)).mono ?_
    rintro e w5 ⟨rfl, hb⟩
    have B5 := Lib.hid (chain (Nat.le_refl _) B4.out hb)
    clear hb H4 a4 C18
    go_wp2_with fail
    go_ret
    exact ⟨rfl, B5.out⟩
end Go.Proofs.YtdfhgcknelgdmaaDoor
