/-
  PROVED: contracts of SameInts, SamePieces, SameNode, SameTree where both are the same: true. Conditions: as each says.
-/
import Derived.Test.YtdfhgcknelgdmaaDoorMem
namespace Go.Proofs.YtdfhgcknelgdmaaDoor
open Go.ChangeShapes Go.WideShapes Go.ChangeAt Go.RowKit Go.Sort
set_option linter.unusedVariables false

theorem Tryd.mixed : Tryd.prog.follows .mixedOrders = true := by kernel_rfl
theorem Gr.drewN (w : World) (n : Nat) : Gr w (w.drewN n) := ⟨n, #[], by simp⟩
theorem Gr.is {w w' : World} {A : Option Addr} {L : List Int} (g : Gr w w') (h : Is w w.heap.size A L) : Is w' w'.heap.size A L := h.on g.below
theorem Gr.qs {w w' : World} {A : Option Addr} {L : List (Int × Int)} (g : Gr w w') (h : Qs w w.heap.size A L) : Qs w' w'.heap.size A L := h.on g.below
theorem Gr.tr {w w' : World} {A : Option Addr} {L : List Nd} (g : Gr w w') (h : Tr w w.heap.size A L) : Tr w' w'.heap.size A L := h.on g.below

set_option maxHeartbeats 1000000 in
theorem sameInts_yes (A A' : Option Addr) (c c' : Nat) (L : List Int) (hl : L.length ≤ 1000000) (w : World) (h : Is w w.heap.size A L) (h' : Is w w.heap.size A' L) :
    Calls Tryd.prog 13 #[.slice A L.length c, .slice A' L.length c'] w (Grows (.bool true) w) := by
  go_enter Tryd.func13, Tryd.ntmps13
  go_wp2_with fail
  go_loopw [5] (fun v wr => ∃ i n : Nat, i ≤ L.length ∧ v = .int .i64 i ∧ wr = w.drewN n) (fun v _ => L.length - (intOf v).toNat)
  case atStart => exact ⟨0, 0, Nat.zero_le _, rfl, rfl⟩
  case round =>
    obtain ⟨i, n, hi, rfl, rfl⟩ := hrel
    by_cases hlt : i < L.length
    · obtain ⟨b, o, rfl, hb, r0⟩ := h i L[i] (List.getElem?_eq_getElem hlt)
      obtain ⟨b', o', rfl, hb', k0⟩ := h' i L[i] (List.getElem?_eq_getElem hlt)
      generalize L[i] = l at *
      go_wp2_with fail
      go_quiet (fail)
      go_wp2_with fail
      go_roundw
      case rel => exact ⟨i + 1, n + nq, by omega, by go_num, rfl⟩
      case measure => simp [intOf]; omega
    · go_wp2_with fail
      go_ret
      exact ⟨rfl, Gr.drewN w n⟩

set_option maxHeartbeats 1000000 in
theorem samePieces_yes (A A' : Option Addr) (c c' : Nat) (L : List (Int × Int)) (hl : L.length ≤ 1000000) (w : World) (h : Qs w w.heap.size A L) (h' : Qs w w.heap.size A' L) :
    Calls Tryd.prog 46 #[.slice A L.length c, .slice A' L.length c'] w (Grows (.bool true) w) := by
  go_enter Tryd.func46, Tryd.ntmps46
  go_wp2_with fail
  go_loopw [5] (fun v wr => ∃ i n : Nat, i ≤ L.length ∧ v = .int .i64 i ∧ wr = w.drewN n) (fun v _ => L.length - (intOf v).toNat)
  case atStart => exact ⟨0, 0, Nat.zero_le _, rfl, rfl⟩
  case round =>
    obtain ⟨i, n, hi, rfl, rfl⟩ := hrel
    by_cases hlt : i < L.length
    · obtain ⟨b, o, rfl, hb, r0, r1⟩ := h i L[i] (List.getElem?_eq_getElem hlt)
      obtain ⟨b', o', rfl, hb', k0, k1⟩ := h' i L[i] (List.getElem?_eq_getElem hlt)
      generalize L[i] = l at *
      obtain ⟨x, y⟩ := l
      simp only at r0 r1 k0 k1
      go_wp2_with fail
      go_quiet (fail)
      go_wp2_with fail
      go_roundw
      case rel => exact ⟨i + 1, n + nq, by omega, by go_num, rfl⟩
      case measure => simp [intOf]; omega
    · go_wp2_with fail
      go_ret
      exact ⟨rfl, Gr.drewN w n⟩

set_option maxHeartbeats 4000000 in
theorem sameNode_yes (n : Nd) (KA KA' PA PA' : Option Addr) (kc kc' pc pc' : Nat) (hk : n.ks.length ≤ 1000000) (hp : n.ps.length ≤ 1000000) (w : World)
    (h1 : Is w w.heap.size KA n.ks) (h2 : Is w w.heap.size KA' n.ks) (h3 : Qs w w.heap.size PA n.ps) (h4 : Qs w w.heap.size PA' n.ps) :
    Calls Tryd.prog 28 #[nagg n (.slice KA n.ks.length kc) (.slice PA n.ps.length pc), nagg n (.slice KA' n.ks.length kc') (.slice PA' n.ps.length pc'), .bool true] w (Grows (.bool true) w) := by
  have HQ : Hid (∀ W, Gr w W → Calls Tryd.prog 46 #[.slice PA n.ps.length pc, .slice PA' n.ps.length pc'] W (Grows (.bool true) W)) := fun W g => samePieces_yes PA PA' pc pc' n.ps hp W (g.qs h3) (g.qs h4)
  have HI : Hid (∀ W, Gr w W → Calls Tryd.prog 13 #[.slice KA n.ks.length kc, .slice KA' n.ks.length kc'] W (Grows (.bool true) W)) := fun W g => sameInts_yes KA KA' kc kc' n.ks hk W (g.is h1) (g.is h2)
  obtain ⟨k, f, t, l, x, u, h, g, ks, ps⟩ := n
  simp only at HQ HI hk hp
  clear h1 h2 h3 h4
  have e1 : (x.toList == x.toList) = true := by simp
  have e2 : (u.toList == u.toList) = true := by simp
  have e3 : (h.toList == h.toList) = true := by simp
  have G0 : Hid (Gr w ((w.alloc (.cells #[.int .i64 k, .int .i64 f, .int .i64 t, .int .i64 l, .string x, .string u, .string h, .bool g, .slice KA ks.length kc, .slice PA ps.length pc] 39)).alloc (.cells #[.int .i64 k, .int .i64 f, .int .i64 t, .int .i64 l, .string x, .string u, .string h, .bool g, .slice KA' ks.length kc', .slice PA' ps.length pc'] 39))) := (Gr.alloc _ _).trans (Gr.alloc _ _)
  have H0 : Hid (BoxN ((w.alloc (.cells #[.int .i64 k, .int .i64 f, .int .i64 t, .int .i64 l, .string x, .string u, .string h, .bool g, .slice KA ks.length kc, .slice PA ps.length pc] 39)).alloc (.cells #[.int .i64 k, .int .i64 f, .int .i64 t, .int .i64 l, .string x, .string u, .string h, .bool g, .slice KA' ks.length kc', .slice PA' ps.length pc'] 39)) w.heap.size ⟨k, f, t, l, x, u, h, g, ks, ps⟩ (.slice KA ks.length kc) (.slice PA ps.length pc)) := (Gr.alloc _ _).holds (Holds.made w 39 _)
  have J0 : Hid (BoxN ((w.alloc (.cells #[.int .i64 k, .int .i64 f, .int .i64 t, .int .i64 l, .string x, .string u, .string h, .bool g, .slice KA ks.length kc, .slice PA ps.length pc] 39)).alloc (.cells #[.int .i64 k, .int .i64 f, .int .i64 t, .int .i64 l, .string x, .string u, .string h, .bool g, .slice KA' ks.length kc', .slice PA' ps.length pc'] 39)) (w.heap.size + 1) ⟨k, f, t, l, x, u, h, g, ks, ps⟩ (.slice KA' ks.length kc') (.slice PA' ps.length pc')) := by
    have := Holds.made (w.alloc (.cells #[.int .i64 k, .int .i64 f, .int .i64 t, .int .i64 l, .string x, .string u, .string h, .bool g, .slice KA ks.length kc, .slice PA ps.length pc] 39)) 39 #[.int .i64 k, .int .i64 f, .int .i64 t, .int .i64 l, .string x, .string u, .string h, .bool g, .slice KA' ks.length kc', .slice PA' ps.length pc']
    simp only [World.alloc, Array.size_push] at this
    exact this
  go_enter Tryd.func28, Tryd.ntmps28
  go_wp2_with fail
  refine (HQ.out _ G0.out).mono ?_
  rintro e y ⟨rfl, hy⟩
  have H1 := Lib.hid (Gr.holds hy H0.out)
  have J1 := Lib.hid (Gr.holds hy J0.out)
  have G1 := Lib.hid (Gr.trans G0.out hy)
  clear hy H0 J0 G0
  have a0 : y.cell? ⟨w.heap.size, 0, none⟩ = some (.int .i64 k) := H1.out.at 0
  have a3 : y.cell? ⟨w.heap.size, 3, none⟩ = some (.int .i64 l) := H1.out.at 3
  have a4 : y.cell? ⟨w.heap.size, 4, none⟩ = some (.string x) := H1.out.at 4
  have a5 : y.cell? ⟨w.heap.size, 5, none⟩ = some (.string u) := H1.out.at 5
  have a6 : y.cell? ⟨w.heap.size, 6, none⟩ = some (.string h) := H1.out.at 6
  have a7 : y.cell? ⟨w.heap.size, 7, none⟩ = some (.bool g) := H1.out.at 7
  have a8 : y.cell? ⟨w.heap.size, 8, none⟩ = some (.slice KA ks.length kc) := H1.out.at 8
  have b0 : y.cell? ⟨w.heap.size + 1, 0, none⟩ = some (.int .i64 k) := J1.out.at 0
  have b3 : y.cell? ⟨w.heap.size + 1, 3, none⟩ = some (.int .i64 l) := J1.out.at 3
  have b4 : y.cell? ⟨w.heap.size + 1, 4, none⟩ = some (.string x) := J1.out.at 4
  have b5 : y.cell? ⟨w.heap.size + 1, 5, none⟩ = some (.string u) := J1.out.at 5
  have b6 : y.cell? ⟨w.heap.size + 1, 6, none⟩ = some (.string h) := J1.out.at 6
  have b7 : y.cell? ⟨w.heap.size + 1, 7, none⟩ = some (.bool g) := J1.out.at 7
  have b8 : y.cell? ⟨w.heap.size + 1, 8, none⟩ = some (.slice KA' ks.length kc') := J1.out.at 8
  go_wp2_with fail
  refine (HI.out _ G1.out).mono ?_
  rintro e z ⟨rfl, hz⟩
  have G2 := Lib.hid (Gr.trans G1.out hz)
  clear hz
  go_wp2_with fail
  go_ret
  exact ⟨rfl, G2.out⟩

/-! ### SameTree -/
def SRel (T : List Nd) (w : World) (v : Value) (wr : World) : Prop := ∃ i : Nat, i ≤ T.length ∧ v = .int .i64 i ∧ Gr w wr

/-- The bounds of a small tree. -/
def Bd (T : List Nd) : Prop := T.length ≤ 10000 ∧ ∀ n ∈ T, n.x.size ≤ 10000 ∧ n.u.size ≤ 10000 ∧ n.h.size ≤ 10000 ∧ n.ks.length ≤ 10000 ∧ n.ps.length ≤ 10000

set_option maxHeartbeats 4000000 in
theorem sameTree_yes (A A' : Option Addr) (c c' : Nat) (T : List Nd) (hT : Bd T) (w : World) (h : Tr w w.heap.size A T) (h' : Tr w w.heap.size A' T) :
    Calls Tryd.prog 16 #[.agg #[.slice A T.length c], .agg #[.slice A' T.length c'], .bool true] w (Grows (.bool true) w) := by
  have hl : T.length ≤ 10000 := hT.1
  have HT := Lib.hid hT
  have HA := Lib.hid h
  have HA' := Lib.hid h'
  clear hT h h'
  have G0 : Hid (Gr w ((w.alloc (.cells #[.slice A T.length c] 24)).alloc (.cells #[.slice A' T.length c'] 24))) := (Gr.alloc _ _).trans (Gr.alloc _ _)
  have H0 : Hid (Holds ((w.alloc (.cells #[.slice A T.length c] 24)).alloc (.cells #[.slice A' T.length c'] 24)) w.heap.size 24 #[.slice A T.length c]) := (Gr.alloc _ _).holds (Holds.made w 24 _)
  have J0 : Hid (Holds ((w.alloc (.cells #[.slice A T.length c] 24)).alloc (.cells #[.slice A' T.length c'] 24)) (w.heap.size + 1) 24 #[.slice A' T.length c']) := by
    have := Holds.made (w.alloc (.cells #[.slice A T.length c] 24)) 24 #[.slice A' T.length c']
    simp only [World.alloc, Array.size_push] at this
    exact this
  go_enter Tryd.func16, Tryd.ntmps16
  go_wp2_with fail
  go_loopw [7] (fun v wr => SRel T ((w.alloc (.cells #[.slice A T.length c] 24)).alloc (.cells #[.slice A' T.length c'] 24)) v wr) (fun v _ => T.length - (intOf v).toNat)
  case atStart => exact ⟨0, Nat.zero_le _, rfl, Gr.refl _⟩
  case round =>
    obtain ⟨i, hi, rfl, hG⟩ := hrel
    have GR := Lib.hid (Gr.trans G0.out hG)
    have HR := Lib.hid (Gr.holds hG H0.out)
    have JR := Lib.hid (Gr.holds hG J0.out)
    have HG := Lib.hid hG
    clear hG
    have a0 : wr.cell? ⟨w.heap.size, 0, none⟩ = some (.slice A T.length c) := HR.out.at 0
    have b0 : wr.cell? ⟨w.heap.size + 1, 0, none⟩ = some (.slice A' T.length c') := JR.out.at 0
    have z1 : w.heap.size < wr.heap.size := HR.out.lt
    have z2 : w.heap.size + 1 < wr.heap.size := JR.out.lt
    by_cases hlt : i < T.length
    · have hti := List.getElem?_eq_getElem hlt
      obtain ⟨b, o, kv, pv, rfl, hb, hK, KA, kc, PA, pc, rfl, e2, e3, rfl, e5, e6⟩ := GR.out.tr HA.out i _ hti
      obtain ⟨b', o', kv', pv', rfl, hb', hK', KA', kc', PA', pc', rfl, e2', e3', rfl, e5', e6'⟩ := GR.out.tr HA'.out i _ hti
      obtain ⟨m1, m2, m3, m4, m5⟩ := HT.out.2 _ (List.getElem_mem hlt)
      clear hti
      generalize T[i] = n at *
      have HN : Hid (∀ W, Gr wr W → Calls Tryd.prog 28 #[nagg n (.slice KA n.ks.length kc) (.slice PA n.ps.length pc), nagg n (.slice KA' n.ks.length kc') (.slice PA' n.ps.length pc'), .bool true] W (Grows (.bool true) W)) :=
        fun W g => sameNode_yes n KA KA' PA PA' kc kc' pc pc' (by omega) (by omega) W (g.is e3) (g.is e3') (g.qs e6) (g.qs e6')
      clear e2 e3 e5 e6 e2' e3' e5' e6' m1 m2 m3 m4 m5
      have p0 := cell_grown z1 a0
      have q0 := cell_grown z2 b0
      have r0 := hK.c0
      have s0 := hK'.c0
      have t0 := cell_grown hb r0
      have u0 := cell_grown hb' s0
      have r1 := hK.c1
      have s1 := hK'.c1
      have t1 := cell_grown hb r1
      have u1 := cell_grown hb' s1
      have r2 := hK.c2
      have s2 := hK'.c2
      have t2 := cell_grown hb r2
      have u2 := cell_grown hb' s2
      have r3 := hK.c3
      have s3 := hK'.c3
      have t3 := cell_grown hb r3
      have u3 := cell_grown hb' s3
      have r4 := hK.c4
      have s4 := hK'.c4
      have t4 := cell_grown hb r4
      have u4 := cell_grown hb' s4
      have r5 := hK.c5
      have s5 := hK'.c5
      have t5 := cell_grown hb r5
      have u5 := cell_grown hb' s5
      have r6 := hK.c6
      have s6 := hK'.c6
      have t6 := cell_grown hb r6
      have u6 := cell_grown hb' s6
      have r7 := hK.c7
      have s7 := hK'.c7
      have t7 := cell_grown hb r7
      have u7 := cell_grown hb' s7
      have r8 := hK.c8
      have s8 := hK'.c8
      have t8 := cell_grown hb r8
      have u8 := cell_grown hb' s8
      have r9 := hK.c9
      have s9 := hK'.c9
      have t9 := cell_grown hb r9
      have u9 := cell_grown hb' s9
      clear hK hK'
      go_wp2_with fail
      have hm := Tryd.mixed
      go_quiet_grown (first | (go_at_call 28; refine Calls.grown_of (HN.out _ ⟨_, _, rfl⟩)))
      have G2 : Hid (Gr wr (grow (wr.drewN nq) osq)) := ⟨nq, osq, rfl⟩
      generalize grow (wr.drewN nq) osq = w2 at G2 ⊢
      clear p0 q0 t0 u0 r0 s0 t1 u1 r1 s1 t2 u2 r2 s2 t3 u3 r3 s3 t4 u4 r4 s4 t5 u5 r5 s5 t6 u6 r6 s6 t7 u7 r7 s7 t8 u8 r8 s8 t9 u9 r9 s9
      go_wp2_with fail
      go_roundw
      case rel => exact ⟨i + 1, by omega, by go_num, Gr.trans HG.out G2.out⟩
      case measure => simp [intOf]; omega
    · go_wp2_with fail
      go_ret
      exact ⟨rfl, GR.out⟩
end Go.Proofs.YtdfhgcknelgdmaaDoor
