/-
  PROVED: the walk of TreeParts: true, whatever the tree. Conditions: the lengths and numbers are a machine's; the tables lie as their initialisers lay them.
-/
import Derived.Test.YtdfhgcknelgdmaaDoorAlive
import Derived.Test.YtdfhgcknelgdmaaDoorWeigh
namespace Go.Proofs.YtdfhgcknelgdmaaDoor
open Go.ChangeShapes Go.WideShapes Go.ChangeAt Go.RowKit Go.Sort
set_option linter.unusedVariables false

theorem cnt_one {l : List Int} {i : Int} (h : l.Pairwise (· < ·)) (hm : i ∈ l) : l.count i = 1 := by
  induction l with
  | nil => simp at hm
  | cons a l ih =>
    obtain ⟨h1, h2⟩ := List.pairwise_cons.1 h
    rcases List.mem_cons.1 hm with rfl | hm
    · rw [List.count_cons_self, List.count_eq_zero.2 (fun hx => by have := h1 i hx; omega)]
    · have := h1 i hm
      rw [List.count_cons_of_ne (by omega), ih h2 hm]
theorem cnt_step {l : List Int} {x y : Int} {k : Nat} (hk : k < l.length) (hy : l[k]? = some y) : (l.take (k + 1)).count x = (l.take k).count x + (if y = x then 1 else 0) := by
  have e : l[k] = y := by rw [List.getElem?_eq_getElem hk] at hy; exact Option.some.inj hy
  rw [List.take_succ_eq_append_getElem hk, List.count_append, e]
  by_cases h : y = x
  · subst h; simp
  · rw [if_neg h, List.count_cons_of_ne h]; simp

/-- The parent of a node of a right tree. -/
theorem right_parent {T : List Nd} (h : parP T ≠ []) {i : Nat} (hi : 0 < i) (hl : i < T.length) : ∃ (j : Nat) (n q : Nd), T[i]? = some n ∧ (parP T)[i]? = some (j : Int) ∧ j < i ∧ T[j]? = some q ∧ q.f ≤ n.f ∧ n.t ≤ q.t ∧ q.ks.count (i : Int) = 1 := by
  have hn := List.getElem?_eq_getElem hl
  obtain ⟨_, _, _, h4⟩ := right_node h hn
  obtain ⟨j, q, hp, hj, hq, hin, hm⟩ := h4 hi
  obtain ⟨hg, hlen, _, _⟩ := parP_right h
  obtain ⟨q', hq', hpw, _⟩ := (gone_facts hg).1 j (Nat.zero_le _) (by omega)
  rw [hq] at hq'
  obtain rfl := Option.some.inj hq'
  unfold inB at hin
  simp only [Bool.and_eq_true, decide_eq_true_eq] at hin
  exact ⟨j, _, q, hn, hp, hj, hq, hin.1, hin.2.1, cnt_one hpw hm⟩

def TPRel (T : List Nd) (w : World) (v : Value) (wr : World) : Prop := ∃ i : Nat, 1 ≤ i ∧ i ≤ T.length ∧ v = .int .i64 i ∧ Gr w wr
def TPIn (ks : List Int) (x : Int) (w : World) (s5 s6 : Value) (wr : World) : Prop := ∃ k : Nat, k ≤ ks.length ∧ s6 = .int .i64 k ∧ s5 = .int .i64 ((ks.take k).count x) ∧ Gr w wr

set_option maxRecDepth 100000 in
set_option maxHeartbeats 16000000 in
theorem parts_walk (A : Option Addr) (c : Nat) (T : List Nd) (hW : Wide T) (w : World) (h : Tr w w.heap.size A T) (hg : Glob w) :
    Calls Tryd.prog 6 #[.agg #[.slice A T.length c]] w fun e w' => e = .returned (.bool true) ∧ Below w.heap.size w w' := by
  have HA := Lib.hid h
  have HGl := Lib.hid hg
  have HWt : Hid (∀ W, Below w.heap.size w W → Calls Tryd.prog 9 #[.agg #[.slice A T.length c], .int .i64 4000] W fun e w' => e = .returned (.int .i64 (wgt 4000 0 T)) ∧ Below W.heap.size W w') := fun W hb => weigh_any A c 4000 (by omega) T hW W ((h.below hb).more hb.size)
  obtain ⟨V, hV⟩ : ∃ V, V = wgt 4000 0 T := ⟨_, rfl⟩
  rw [← hV] at HWt
  have HV := Lib.hid hV
  clear h hg hV hW
  have H0 : Hid (Holds (w.alloc (.cells #[.slice A T.length c] 24)) w.heap.size 24 #[.slice A T.length c]) := Holds.made w 24 _
  have HB0 : Hid (Below w.heap.size w (w.alloc (.cells #[.slice A T.length c] 24))) := (Below.refl _ _).alloc (Nat.le_refl _) _
  go_enter Tryd.func6, Tryd.ntmps6
  go_wp2_with fail
  refine (alive_any _ (HGl.out.on HB0.out)).mono ?_
  rintro e w1 ⟨rfl, hb⟩
  have H1 := Lib.hid (H0.out.under hb H0.out.lt)
  have B1 : Hid (Below w.heap.size w w1) := HB0.out.trans (hb.mono (by simp))
  have a1 : w1.cell? ⟨w.heap.size, 0, none⟩ = some (.slice A T.length c) := H1.out.at 0
  clear hb H0 HB0
  go_wp2_with fail
  refine (HWt.out _ B1.out).mono ?_
  rintro e w2 ⟨rfl, hb⟩
  have H2 := Lib.hid (H1.out.under hb H1.out.lt)
  have B2 := Lib.hid (chain (Nat.le_refl _) B1.out hb)
  have a2 : w2.cell? ⟨w.heap.size, 0, none⟩ = some (.slice A T.length c) := H2.out.at 0
  clear hb H1 a1 HWt
  by_cases hv : 4000 < V
  · have hvz : (4000 : Int) < (V : Int) := by omega
    go_wp2_with fail
    go_ret
    exact ⟨rfl, B2.out⟩
  · have hvz : ¬ (4000 : Int) < (V : Int) := by omega
    obtain ⟨hBd, hT4⟩ := wgt_bd (m := 4000) (T := T) (by rw [← HV.out]; omega) (by omega)
    have HBd := Lib.hid hBd
    clear hBd
    go_wp2_with fail
    refine (copyTree_any A c T HBd.out w2 ((HA.out.below B2.out).more B2.out.size)).mono ?_
    rintro e w3 ⟨v3, S3, rfl, hO, hb⟩
    obtain ⟨A3, c3, rfl, _, _, hT3⟩ := hO.tr
    have HT3 := Lib.hid hT3
    have H3 := Lib.hid (H2.out.under hb H2.out.lt)
    have B3 := Lib.hid (chain (Nat.le_refl _) B2.out hb)
    clear hb hO hT3 H2 a2
    go_wp2_with fail
    refine (right_any A3 c3 T HBd.out w3 HT3.out).mono ?_
    rintro e w4 ⟨rfl, hb⟩
    have H4 := Lib.hid (H3.out.under hb H3.out.lt)
    have B4 := Lib.hid (chain (Nat.le_refl _) B3.out hb)
    have a4 : w4.cell? ⟨w.heap.size, 0, none⟩ = some (.slice A T.length c) := H4.out.at 0
    clear hb H3 HT3
    by_cases hr : parP T = []
    · have q : decide (0 < (parP T).length) = false := by rw [hr]; rfl
      rw [q]
      clear q hr
      go_wp2_with fail
      go_ret
      exact ⟨rfl, B4.out⟩
    · have q : decide (0 < (parP T).length) = true := decide_eq_true (List.length_pos_iff.2 hr)
      rw [q]
      have HR := Lib.hid hr
      obtain ⟨hgn, hlen, _, _⟩ := parP_right hr
      have hp0 := (gone_facts hgn).2.2
      have hTl : 0 < T.length := by rw [← hlen]; exact List.length_pos_iff.2 hr
      clear q hgn
      go_wp2_with fail
      refine (copyTree_any A c T HBd.out w4 ((HA.out.below B4.out).more B4.out.size)).mono ?_
      rintro e w5 ⟨v5, S5, rfl, hO, hb⟩
      obtain ⟨A5, c5, rfl, _, _, hT5⟩ := hO.tr
      have HT5 := Lib.hid hT5
      have H5 := Lib.hid (H4.out.under hb H4.out.lt)
      have B5 := Lib.hid (chain (Nat.le_refl _) B4.out hb)
      clear hb hO hT5 H4 a4
      go_wp2_with fail
      refine (parents_any A5 c5 T HBd.out w5 HT5.out).mono ?_
      rintro e w6 ⟨PA, pc, rfl, hI, hb⟩
      have HI := Lib.hid hI
      have H6 := Lib.hid (H5.out.under hb H5.out.lt)
      have B6 := Lib.hid (chain (Nat.le_refl _) B5.out hb)
      have z6 : w.heap.size < w6.heap.size := H6.out.lt
      have a6 : w6.cell? ⟨w.heap.size, 0, none⟩ = some (.slice A T.length c) := H6.out.at 0
      obtain ⟨pb, po, rfl, hpb, cp0⟩ := hI 0 _ hp0
      rw [Nat.add_zero] at cp0
      have HP0 := Lib.hid hp0
      clear hb hI H5 HT5 hr hp0
      have HLe := Lib.hid hlen
      have HPar : Hid (∀ i, 0 < i → i < T.length → ∃ (j : Nat) (n q : Nd), T[i]? = some n ∧ (parP T)[i]? = some (j : Int) ∧ j < i ∧ T[j]? = some q ∧ q.f ≤ n.f ∧ n.t ≤ q.t ∧ q.ks.count (i : Int) = 1) := fun i h1 h2 => right_parent HR.out h1 h2
      generalize parP T = P at *
      rw [hlen]
      clear hlen
      go_wp2_with fail
      go_loopw [4] (fun v wr => TPRel T w6 v wr) (fun v _ => T.length - (intOf v).toNat)
      case atStart => exact ⟨1, Nat.le_refl _, by omega, rfl, Gr.refl _⟩
      case round =>
        obtain ⟨i, hi1, hi, rfl, hG⟩ := hrel
        have HG := Lib.hid hG
        have a7 : wr.cell? ⟨w.heap.size, 0, none⟩ = some (.slice A T.length c) := (hG.holds H6.out).at 0
        clear hG
        by_cases hlt : i < T.length
        · obtain ⟨j, n, q, hTi, hPi, hji, hTj, hf, ht, hcn⟩ := HPar.out i (by omega) hlt
          obtain ⟨pb', po', e', _, cpi⟩ := HG.out.is HI.out i _ hPi
          injection e' with e'
          injection e' with e1 e2
          subst e1 e2
          have HTw := (HA.out.below (B6.out.trans (HG.out.below.mono (by omega))))
          obtain ⟨b, o, kv, pv, rfl, hb, hK, _⟩ := HTw i n hTi
          obtain ⟨b2, o2, kv2, pv2, e'', hb2, hK2, KA, kc, PA2, pc2, rfl, _, e3, rfl, _, _⟩ := HTw j q hTj
          injection e'' with e''
          injection e'' with e1 e2
          subst e1 e2
          have mk : q.ks.length ≤ 10000 := (HBd.out.2 q (List.mem_of_getElem? hTj)).2.2.2.1
          have HKs : Hid (Is wr w.heap.size KA q.ks) := e3
          have n1 := hK.c1
          have n2 := hK.c2
          have m1 := hK2.c1
          have m2 := hK2.c2
          have m8 := hK2.c8
          have g0 : decide ((j : Int) < 0) = false := by simp
          have g1 : decide ((i : Int) ≤ (j : Int)) = false := by simp; omega
          have g1n : ¬ i ≤ j := by omega
          have g2 : decide (n.f < q.f) = false := by simp; omega
          have g3 : decide (q.t < n.t) = false := by simp; omega
          have hjT : j < T.length := by omega
          have HCn := Lib.hid hcn
          clear hTi hPi hTj hK hK2 e3 hcn HTw
          obtain ⟨w7, hw7⟩ : ∃ w7, w7 = wr := ⟨wr, rfl⟩
          go_wp2_with fail
          go_quiet (fail)
          have G8 : Hid (Gr w6 (wr.drewN nq)) := HG.out.trans (Gr.drewN wr nq)
          have a8 : (wr.drewN nq).cell? ⟨w.heap.size, 0, none⟩ = some (.slice (some ⟨b, o, none⟩) T.length c) := a7
          have c8 : (wr.drewN nq).cell? ⟨pb, po + i, none⟩ = some (.int .i64 (j : Int)) := cpi
          have m9 : (wr.drewN nq).cell? ⟨b, o + j * 10 + 8, none⟩ = some (.slice KA q.ks.length kc) := m8
          have HK8 : Hid (Is (wr.drewN nq) w.heap.size KA q.ks) := HKs.out
          have zz : w.heap.size < (wr.drewN nq).heap.size := Nat.lt_of_lt_of_le z6 G8.out.below.size
          generalize wr.drewN nq = w8 at G8 a8 c8 m9 HK8 zz ⊢
          have l1 : w.heap.size < w8.heap.size := zz
          have l2 := World.block_lt_of_cell? _ _ c8
          have l3 := World.block_lt_of_cell? _ _ m9
          simp only at l2 l3
          clear hw7 a7 cpi m8 n1 n2 m1 m2 g0 g1 g2 g3
          go_wp2_with fail
          go_loopw [5, 6] (fun s5 s6 wx => TPIn q.ks (i : Int) w8 s5 s6 wx) (fun _ v _ => q.ks.length - (intOf v).toNat)
          case atStart => exact ⟨0, Nat.zero_le _, rfl, rfl, Gr.refl _⟩
          case round =>
            obtain ⟨k, hk, rfl, rfl, hGx⟩ := hrel
            have HGx := Lib.hid hGx
            have a9 : wr.cell? ⟨w.heap.size, 0, none⟩ = some (.slice (some ⟨b, o, none⟩) T.length c) := (hGx.below.cell (p := ⟨w.heap.size, 0, none⟩) l1).trans a8
            have c9 : wr.cell? ⟨pb, po + i, none⟩ = some (.int .i64 (j : Int)) := (hGx.below.cell (p := ⟨pb, po + i, none⟩) l2).trans c8
            have k9 : wr.cell? ⟨b, o + j * 10 + 8, none⟩ = some (.slice KA q.ks.length kc) := (hGx.below.cell (p := ⟨b, o + j * 10 + 8, none⟩) l3).trans m9
            have hcl : (q.ks.take k).count (i : Int) ≤ q.ks.length := Nat.le_trans List.count_le_length (by rw [List.length_take]; omega)
            clear hGx
            by_cases hkl : k < q.ks.length
            · obtain ⟨y, hy⟩ : ∃ y, q.ks[k]? = some y := ⟨_, List.getElem?_eq_getElem hkl⟩
              obtain ⟨bk, ok, rfl, hbk, cy⟩ := (HK8.out.below (HGx.out.below.mono (by omega))) k y hy
              have HC := Lib.hid (cnt_step (x := (i : Int)) hkl hy)
              clear hy
              generalize (q.ks.take k).count (i : Int) = C at *
              by_cases hyi : y = (i : Int)
              · have q1 : (y == (i : Int)) = true := by simp [hyi]
                rw [if_pos hyi] at HC
                clear hyi
                go_wp2_with fail
                go_quiet (fail)
                go_wp2_with fail
                go_quiet (fail)
                go_wp2_with fail
                go_roundw
                case rel => exact ⟨k + 1, by omega, by go_num, by rw [HC.out]; go_num, HGx.out.trans (Gr.drewN _ _)⟩
                case measure => simp [intOf]; omega
              · have q1 : (y == (i : Int)) = false := by simp [hyi]
                rw [if_neg hyi] at HC
                clear hyi
                go_wp2_with fail
                go_quiet (fail)
                go_wp2_with fail
                go_quiet (fail)
                go_wp2_with fail
                go_roundw
                case rel => exact ⟨k + 1, by omega, by go_num, by rw [HC.out]; rfl, HGx.out.trans (Gr.drewN _ _)⟩
                case measure => simp [intOf]; omega
            · have hc1 : (q.ks.take k).count (i : Int) = 1 := by rw [List.take_of_length_le (by omega)]; exact HCn.out
              rw [hc1]
              clear hc1 hcl
              go_wp2_with fail
              go_quiet (fail)
              go_wp2_with fail
              go_roundw
              case rel => exact ⟨i + 1, by omega, by omega, by go_num, (G8.out.trans HGx.out).trans (Gr.drewN _ _)⟩
              case measure => simp [intOf]; omega
        · go_wp2_with fail
          go_ret
          exact ⟨rfl, B6.out.trans (HG.out.below.mono (by omega))⟩
end Go.Proofs.YtdfhgcknelgdmaaDoor
