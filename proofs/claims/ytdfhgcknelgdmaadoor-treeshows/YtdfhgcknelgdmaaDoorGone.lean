/-
  PROVED: contract of tree.goneThrough: it answers 'gone'. Conditions: the tree has at most 10000 nodes, each with at most 10000 kids.
-/
import Derived.Test.YtdfhgcknelgdmaaDoorOwn
import Derived.Deep.LoopGhost
namespace Go.Proofs.YtdfhgcknelgdmaaDoor
open Go.ChangeShapes Go.WideShapes Go.ChangeAt Go.RowKit Go.Sort
set_option linter.unusedVariables false

theorem run_neg {T : List Nd} {f : Nat} {a : Int} {P D : List Int} {r : Option (List Int)} (h : run T f a P D = some r) (ha : a < 0) : r = some P := by
  cases f with
  | zero => simp [run] at h
  | succ f => rw [run, if_pos ha] at h; exact (Option.some.inj h).symm
theorem run_at {T : List Nd} {f i d : Nat} {P D : List Int} {r : Option (List Int)} {n : Nd} {p : Int} (h : run T f (i : Int) P D = some r) (hn : T[i]? = some n) (hd : D[i]? = some (d : Int)) (hp : P[i]? = some p) :
    ∃ g, f = g + 1 ∧ (d = n.ks.length → run T g p P D = some r) ∧ (d ≠ n.ks.length → ∀ c, n.ks[d]? = some c → (c ≠ (P.length : Int) ∨ c = (T.length : Int) → r = none) ∧ (c = (P.length : Int) → c ≠ (T.length : Int) → run T g c (P ++ [(i : Int)]) (D.set i ((d : Int) + 1)) = some r)) := by
  cases f with
  | zero => simp [run] at h
  | succ f =>
    refine ⟨f, rfl, fun e => ?_, fun e c hc => ⟨fun hb => ?_, fun h1 h2 => ?_⟩⟩
    · rw [run, if_neg (by omega)] at h
      simp [hn, List.getD, hd, hp, e] at h
      exact h
    · rw [run, if_neg (by omega)] at h
      have hne : ¬ (d : Int) = (n.ks.length : Int) := by omega
      simp only [Int.toNat_natCast, hn, List.getD, hd, Option.getD_some, hne, if_false, hc] at h
      rw [if_pos hb] at h
      exact (Option.some.inj h).symm
    · rw [run, if_neg (by omega)] at h
      have hne : ¬ (d : Int) = (n.ks.length : Int) := by omega
      simp only [Int.toNat_natCast, hn, List.getD, hd, Option.getD_some, hne, if_false, hc] at h
      rw [if_neg (by rintro (h | h); exact h h1; exact h2 h)] at h
      exact h

theorem made_ints (n : Nat) : (madeCells #[Value.int .i64 0] n).toList = icells (List.replicate n 0) := by
  unfold madeCells icells
  apply List.ext_getElem
  · simp
  · intro i h1 h2
    simp [Nat.mod_one]

/-- A cell of one's own row, set. -/
theorem own_put {w : World} {base g n c i : Nat} {D : List Int} {x : Int} (h : w.ownsRow base 3 1 (.slice (some ⟨g, 0, none⟩) n c) n (icells D)) (hi : i < n) : (w.setCell ⟨g, i, none⟩ (.int .i64 x)).ownsRow base 3 1 (.slice (some ⟨g, 0, none⟩) n c) n (icells (D.set i x)) := by
  obtain ⟨h1, h2⟩ := h
  refine ⟨by simpa [icells] using h1, ?_⟩
  rcases h2 with ⟨h2, _⟩ | ⟨g', cap, cur, hv, hg, hh, hc, hm, hz, ht⟩
  · cases h2
  · injection hv with hv1 hv2 hv3
    injection hv1 with hv1
    injection hv1 with hv1
    subst hv1
    refine Or.inr ⟨g, cap, cur.setIfInBounds i (.int .i64 x), by rw [hv3], hg, ?_, hc, hm, by simpa using hz, ?_⟩
    · simp [World.setCell, Array.getElem?_modify, hh]
    · have e : icells (D.set i x) = (icells D).set i (.int .i64 x) := by simp [icells, List.map_set]
      rw [e, ← ht]
      simp [List.take_set]
theorem own_cell {w : World} {base g n c i : Nat} {D : List Int} {x : Int} (h : w.ownsRow base 3 1 (.slice (some ⟨g, 0, none⟩) n c) n (icells D)) (hi : D[i]? = some x) : w.cell? ⟨g, i, none⟩ = some (.int .i64 x) ∧ w.frozen? ⟨g, i, none⟩ = false := by
  rcases h.2 with ⟨h2, _⟩ | ⟨g', cap, cur, hv, hg, hh, hc, hm, hz, ht⟩
  · cases h2
  · injection hv with hv1 hv2 hv3
    injection hv1 with hv1
    injection hv1 with hv1
    subst hv1
    have hl : D.length = n := by have := h.1; rw [icells_len, Nat.mul_one] at this; exact this
    have hil := (List.getElem?_eq_some_iff.1 hi).1
    have e : (icells D)[i]? = some (.int .i64 x) := by simp [icells, hi]
    refine ⟨?_, by simp [World.frozen?, hh]⟩
    rw [cell_of_row w g i cur 3 (0, 0) hh, ← e, ← ht, List.getElem?_take_of_lt (by omega)]
    simp

/-- What the loop keeps. -/
structure GInv (T : List Nd) (P D : List Int) (a : Int) : Prop where
  dl : D.length = T.length
  pl : P.length ≤ T.length
  lo : -1 ≤ a
  hi : a < P.length
  pp : ∀ (j : Nat) (p : Int), P[j]? = some p → -1 ≤ p ∧ p < j
  dd : ∀ (j : Nat) (x : Int), D[j]? = some x → ∃ (d : Nat) (n : Nd), x = (d : Int) ∧ T[j]? = some n ∧ d ≤ n.ks.length

def GRel (T : List Nd) (w : World) (r : Option (List Int)) (gd : Nat) (f : Nat) (v4 v6 : Value) (wr : World) : Prop :=
  ∃ (P D : List Int) (a : Int), v4 = .slice (some ⟨w.heap.size, 0, none⟩) P.length T.length ∧ v6 = .int .i64 a ∧ GInv T P D a ∧ run T f a P D = some r ∧
    wr.ownsRow w.heap.size 3 1 (.slice (some ⟨w.heap.size, 0, none⟩) P.length T.length) P.length (icells P) ∧
    wr.ownsRow w.heap.size 3 1 (.slice (some ⟨gd, 0, none⟩) T.length T.length) T.length (icells D) ∧ Below w.heap.size w wr

/-- What goneThrough answers. -/
def GoneE (w : World) (T : List Nd) (e : Ending) (w' : World) : Prop :=
  (gone T = none ∧ e = .returned (.tuple #[.slice none 0 0, .bool false]) ∧ Below w.heap.size w w') ∨
  ∃ (P : List Int) (A : Option Addr) (c : Nat), gone T = some P ∧ e = .returned (.tuple #[.slice A P.length c, .bool (decide (P.length = T.length))]) ∧ P.length ≤ T.length ∧ Is w' w'.heap.size A P ∧ (∀ (j : Nat) (p : Int), P[j]? = some p → -1 ≤ p ∧ p < j) ∧ Below w.heap.size w w'

theorem own_len {w : World} {base g n c m : Nat} {D : List Int} (h : w.ownsRow base 3 1 (.slice (some ⟨g, 0, none⟩) n c) m (icells D)) : D.length = m := by have := h.1; rw [icells_len, Nat.mul_one] at this; exact this

set_option maxHeartbeats 8000000 in
set_option maxRecDepth 100000 in
theorem gone_any (A : Option Addr) (c : Nat) (T : List Nd) (hT : Bd T) (w : World) (h : Tr w w.heap.size A T) :
    Calls Tryd.prog 25 #[.slice A T.length c] w (GoneE w T) := by
  obtain ⟨i0, hi0, hz0, hz1, hz2⟩ := info_parts Tryd.info3
  have hl : T.length ≤ 10000 := hT.1
  have HT := Lib.hid hT
  have HA := Lib.hid h
  clear hT h
  by_cases h0 : T.length = 0
  · have HE : Hid (gone T = none) := by rw [List.eq_nil_of_length_eq_zero h0]; rfl
    have q : ((T.length : Int) == 0) = true := by rw [beq_iff_eq]; omega
    generalize T.length = L at q
    clear h0
    go_enter Tryd.func25, Tryd.ntmps25
    go_wp2_with fail
    exact bodyPost_ret (v := .tuple #[.slice none 0 0, .bool false]) (by simp [results, Tryd.results25, go_sem]) rfl (Or.inl ⟨HE.out, rfl, Below.refl _ _⟩)
  · have q : ((T.length : Int) == 0) = false := by rw [beq_eq_false_iff_ne]; omega
    obtain ⟨F, hF⟩ := run_gone T (by intro e; rw [e] at h0; exact h0 rfl)
    have HF := Lib.hid hF
    clear hF
    go_enter Tryd.func25, Tryd.ntmps25
    go_wp2_with (at_make; refine wpList_make_own _ rfl _ _ 30 rfl w.heap.size 3 i0 (.int .i64 0) 1 Tryd.underlying30 hi0 hz0 hz1 .i64 .i64 _ T.length rfl rfl rfl (by rw [hz2]; omega) (by unfold maxLen; omega) (Nat.le_refl _) ?_)
    intro w1 hown1 hgrow1
    have z1 := hgrow1.size
    have B1 : Hid (Below w.heap.size w w1) := (Below.refl _ _).grown hgrow1 (Nat.le_refl _) (fun k hk => by cases hk)
    have z1' : w.heap.size < w1.heap.size := (own_block_ge hown1 w.heap.size rfl).2
    have O1 := Lib.hid hown1
    clear hown1 hgrow1
    go_wp2_with (at_builtin; refine wpList_append_fits _ rfl _ _ 30 rfl w.heap.size 3 i0 1 Tryd.underlying30 hi0 hz1 w.heap.size 0 T.length [] rfl (own_below O1.out ((Below.refl _ _).alloc (Nat.le_refl _) _)) ⟨w1.heap.size, 0, none⟩ 1 1 [.int .i64 (-1)] rfl rfl (cell_one_new _ _ _) (by intro u hu; simp at hu; subst hu; rfl) (by omega) ?_)
    intro w2 hown2 hgrow2
    have B2 : Hid (Below w.heap.size w w2) := (B1.out.alloc (by omega) _).grown hgrow2 (by simp; omega) (fun k hk => by injection hk with hk; omega)
    have z2 : w.heap.size < w2.heap.size := (own_block_ge hown2 w.heap.size rfl).2
    have O2 := Lib.hid hown2
    clear hown2 hgrow2 O1
    go_wp2_with (at_make; refine wpList_make_full _ rfl _ _ 30 rfl w.heap.size 3 i0 (.int .i64 0) 1 Tryd.underlying30 hi0 hz0 hz1 .i64 .i64 _ _ T.length rfl rfl rfl rfl (by rw [hz2]; omega) (by unfold maxLen; omega) (by omega) ?_)
    intro w3 hown3 hgrow3
    rw [made_ints] at hown3
    have B3 : Hid (Below w.heap.size w w3) := B2.out.grown hgrow3 (by omega) (fun k hk => by cases hk)
    have O3' : w3.ownsRow w.heap.size 3 1 (.slice (some ⟨w.heap.size, 0, none⟩) 1 T.length) 1 (icells [-1]) := by have := O2.out.kept hgrow3 (Or.inr (by simp [Value.ownBlock])); simpa [icells] using this
    have O3 := Lib.hid O3'
    clear O3'
    have O4 := Lib.hid hown3
    clear hown3 hgrow3 O2
    go_wp2_with fail
    go_loopg [4, 6] F (fun f v4 v6 wr => GRel T w (gone T) w2.heap.size f v4 v6 wr)
    case atStart =>
      refine ⟨[-1], List.replicate T.length 0, 0, rfl, rfl, ⟨by simp, by simp; omega, by omega, by simp, ?_, ?_⟩, HF.out, O3.out, O4.out, B3.out⟩
      · intro j p hj
        cases j with
        | zero => simp at hj; omega
        | succ j => simp at hj
      · intro j x hj
        have hjl := (List.getElem?_eq_some_iff.1 hj).1
        simp at hjl
        rw [List.getElem?_replicate, if_pos hjl] at hj
        exact ⟨0, T[j], (Option.some.inj hj).symm, List.getElem?_eq_getElem hjl, Nat.zero_le _⟩
    case round =>
      obtain ⟨P, D, a, rfl, rfl, hI, hrun, hoP, hoD, hB⟩ := hrel
      have HI := Lib.hid hI
      have HP := Lib.hid hoP
      have HD := Lib.hid hoD
      have HB := Lib.hid hB
      have hpl := hI.pl
      by_cases ha : a < 0
      · obtain rfl : a = -1 := by have := hI.lo; omega
        have HR : Hid (gone T = some P) := run_neg hrun (by omega)
        clear hI hrun hoP hoD hB ha
        have q1 : ((P.length : Int) == (T.length : Int)) = decide (P.length = T.length) := by rw [Bool.eq_iff_iff]; simp; omega
        obtain ⟨A', c', e1, _, _, e4⟩ := own_ints HP.out
        injection e1 with e1 _ e3
        have E4 := Lib.hid e4
        rw [← e1] at E4
        clear e4 e1 e3
        go_wp2_with fail
        exact bodyPost_ret (v := .tuple #[.slice (some ⟨w.heap.size, 0, none⟩) P.length T.length, .bool (decide (P.length = T.length))]) (by simp [results, Tryd.results25, go_sem]) rfl (Or.inr ⟨P, _, _, HR.out, rfl, hpl, E4.out, HI.out.pp, HB.out⟩)
      · obtain ⟨i, rfl⟩ : ∃ i : Nat, a = (i : Int) := ⟨a.toNat, by omega⟩
        have hip : i < P.length := by have := hI.hi; omega
        have hit : i < T.length := by omega
        have hid : i < D.length := by rw [hI.dl]; exact hit
        obtain ⟨x, hx⟩ : ∃ x, D[i]? = some x := ⟨_, List.getElem?_eq_getElem hid⟩
        obtain ⟨p, hp⟩ : ∃ p, P[i]? = some p := ⟨_, List.getElem?_eq_getElem hip⟩
        obtain ⟨d, n, rfl, hn, hdk⟩ := hI.dd i x hx
        obtain ⟨g, rfl, hr1, hr2⟩ := run_at hrun hn hx hp
        obtain ⟨b, o, kv, pv, rfl, hb, hK, KA, kc, PA, pc, rfl, e2, e3, rfl, e5, e6⟩ := (HA.out.below hB) i n hn
        have mk : n.ks.length ≤ 10000 := (HT.out.2 n (List.mem_of_getElem? hn)).2.2.2.1
        have k8 := hK.c8
        obtain ⟨cd, fd⟩ := own_cell hoD hx
        obtain ⟨cp, fp⟩ := own_cell hoP hp
        have zg : w2.heap.size < wr.heap.size := (own_block_ge hoD w2.heap.size rfl).2
        by_cases hdl : d = n.ks.length
        · have HR := Lib.hid (hr1 hdl)
          have HPP := Lib.hid (hI.pp i p hp)
          have q1 : ((d : Int) == (n.ks.length : Int)) = true := by rw [beq_iff_eq]; omega
          clear hI hrun hoP hoD hB ha hx hp hn hr1 hr2 hK e2 e3 e5 e6 hdl
          go_wp2_with fail
          go_roundg g
          case measure => omega
          case rel => exact ⟨P, D, p, rfl, rfl, ⟨HI.out.dl, HI.out.pl, HPP.out.1, by have := HPP.out.2; omega, HI.out.pp, HI.out.dd⟩, HR.out, HP.out, HD.out, HB.out⟩
        · have hdlt : d < n.ks.length := by omega
          obtain ⟨y, hy⟩ : ∃ y, n.ks[d]? = some y := ⟨_, List.getElem?_eq_getElem hdlt⟩
          obtain ⟨hr3, hr4⟩ := hr2 hdl y hy
          obtain ⟨bk, ok, rfl, hbk, cy⟩ := e3 d y hy
          have q1 : ((d : Int) == (n.ks.length : Int)) = false := by rw [beq_eq_false_iff_ne]; omega
          have HDS : Hid (∀ (j : Nat) (x : Int), (D.set i ((d : Int) + 1))[j]? = some x → ∃ (d : Nat) (n : Nd), x = (d : Int) ∧ T[j]? = some n ∧ d ≤ n.ks.length) := by
            intro j x hj
            by_cases hij : i = j
            · subst hij
              rw [List.getElem?_set_self hid] at hj
              injection hj with hj
              exact ⟨d + 1, n, by omega, hn, by omega⟩
            · rw [List.getElem?_set_ne hij] at hj
              exact hI.dd j x hj
          by_cases hbad : y ≠ (P.length : Int) ∨ y = (T.length : Int)
          · have HR := Lib.hid (hr3 hbad)
            clear hI hrun hoP hoD hB ha hx hp hn hr1 hr2 hr3 hr4 hK e2 e3 e5 e6 hdl hy HDS
            by_cases hb1 : y = (P.length : Int)
            · have q2 : (y != (P.length : Int)) = false := by simp [hb1]
              have q3 : (y == (T.length : Int)) = true := by rcases hbad with h | h; exact absurd hb1 h; simp [h]
              clear hb1 hbad
              go_wp2_with fail
              exact bodyPost_ret (v := .tuple #[.slice none 0 0, .bool false]) (by simp [results, Tryd.results25, go_sem]) rfl (Or.inl ⟨HR.out, rfl, HB.out⟩)
            · have q2 : (y != (P.length : Int)) = true := by simp [hb1]
              clear hb1 hbad
              go_wp2_with fail
              exact bodyPost_ret (v := .tuple #[.slice none 0 0, .bool false]) (by simp [results, Tryd.results25, go_sem]) rfl (Or.inl ⟨HR.out, rfl, HB.out⟩)
          · have hy1 : y = (P.length : Int) := Decidable.byContradiction fun h => hbad (Or.inl h)
            have hy2 : y ≠ (T.length : Int) := fun h => hbad (Or.inr h)
            have HR := Lib.hid (hr4 hy1 hy2)
            have hlt : P.length < T.length := by omega
            subst hy1
            have q3 : ((P.length : Int) == (T.length : Int)) = false := by rw [beq_eq_false_iff_ne]; exact hy2
            clear hI hrun hoP hoD hB ha hx hp hn hr1 hr2 hr3 hr4 hK e2 e3 e5 e6 hdl hy hy2 hbad
            have OD := Lib.hid (own_put (x := (d : Int) + 1) HD.out hit)
            have OP : Hid ((wr.setCell ⟨w2.heap.size, i, none⟩ (.int .i64 ((d : Int) + 1))).ownsRow w.heap.size 3 1 (.slice (some ⟨w.heap.size, 0, none⟩) P.length T.length) P.length (icells P)) := own_set HP.out (by simp [Value.ownBlock]; omega)
            have BB : Hid (Below w.heap.size w (wr.setCell ⟨w2.heap.size, i, none⟩ (.int .i64 ((d : Int) + 1)))) := HB.out.setCell (p := ⟨w2.heap.size, i, none⟩) (by show w.heap.size ≤ w2.heap.size; omega) _
            go_wp2_with (at_builtin; go_loud (refine wpList_append_fits _ rfl _ _ 30 rfl w.heap.size 3 i0 1 Tryd.underlying30 hi0 hz1 w.heap.size P.length T.length (icells P) rfl (own_below OP.out ((Below.refl _ _).alloc (Nat.le_refl _) _)) ⟨wr.heap.size, 0, none⟩ 1 1 [.int .i64 (i : Int)] rfl rfl (by have := cells_new (wr.setCell ⟨w2.heap.size, i, none⟩ (.int .i64 ((d : Int) + 1))) 3 #[.int .i64 (i : Int)]; simpa using this) (by intro u hu; simp at hu; subst hu; rfl) (by omega) ?_))
            intro w4 hown4 hgrow4
            have hWB : Below wr.heap.size (wr.setCell ⟨w2.heap.size, i, none⟩ (.int .i64 ((d : Int) + 1))) ((wr.setCell ⟨w2.heap.size, i, none⟩ (.int .i64 ((d : Int) + 1))).alloc (.cells #[.int .i64 (i : Int)] 3)) := (Below.refl _ _).alloc (by simp) _
            have OD4 : Hid (w4.ownsRow w.heap.size 3 1 (.slice (some ⟨w2.heap.size, 0, none⟩) T.length T.length) T.length (icells (D.set i ((d : Int) + 1)))) := (own_below OD.out (by simpa using hWB)).kept hgrow4 (Or.inr (by simp [Value.ownBlock]; omega))
            have BB4 : Hid (Below w.heap.size w w4) := (BB.out.alloc (by simp; omega) _).grown hgrow4 (by simp; omega) (fun k hk => by injection hk with hk; omega)
            have OP4 := Lib.hid hown4
            clear hown4 hgrow4 hWB
            go_wp2_with fail
            go_roundg g
            case measure => omega
            case rel =>
              refine ⟨P ++ [(i : Int)], D.set i ((d : Int) + 1), (P.length : Int), by simp, rfl, ⟨by simpa using HI.out.dl, by simp; omega, by omega, by simp; omega, ?_, HDS.out⟩, HR.out, ?_, OD4.out, BB4.out⟩
              · intro j p' hj
                rcases Nat.lt_or_ge j P.length with hjl | hjl
                · rw [List.getElem?_append_left hjl] at hj
                  exact HI.out.pp j p' hj
                · have hjl2 := (List.getElem?_eq_some_iff.1 hj).1
                  simp at hjl2
                  obtain rfl : j = P.length := by omega
                  simp at hj
                  omega
              · have := OP4.out
                simpa [icells] using this
end Go.Proofs.YtdfhgcknelgdmaaDoor
