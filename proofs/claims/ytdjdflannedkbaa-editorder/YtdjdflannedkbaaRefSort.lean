/-
  PROVED: contracts of the document's own before and Sorted: the edits sorted by insertion. Conditions: the slice lies in memory that holds the edits, at most 1000000 of them.
-/
import Derived.Test.YtdjdflannedkbaaMem
import Derived.Shelf.SlSortCmp.QuietGrown
namespace Go.Proofs.Ytdjdflannedkbaa
open Go.ChangeShapes Go.WideShapes Go.ChangeAt Go.RowKit Go.Sort
set_option linter.unusedVariables false

theorem Try.mixed : Try.prog.follows .mixedOrders = true := by kernel_rfl

/-- A call that draws, and lays blocks of its own. -/
def Grows (v : Value) (w : World) (e : Ending) (w' : World) : Prop := e = .returned v ∧ ∃ q os, w' = grow (w.drewN q) os
theorem Grows.below {v : Value} {w w' : World} {e : Ending} (h : Grows v w e w') : e = .returned v ∧ Below w.heap.size w w' := by
  obtain ⟨he, q, os, rfl⟩ := h
  exact ⟨he, rfl, rfl, rfl, by rw [size_grow]; exact Nat.le_add_right _ _, fun i hi => heap_grow_old (w.drewN q) os hi⟩

set_option maxHeartbeats 1000000 in
theorem before_any (a b : Ed) (w : World) : Calls Try.prog 28 #[eagg a, eagg b] w (Grows (.bool (ltE a b)) w) := by
  obtain ⟨a0, a1, a2⟩ := a
  obtain ⟨b0, b1, b2⟩ := b
  have fin : ∀ v, v = ltE ⟨a0, a1, a2⟩ ⟨b0, b1, b2⟩ → Grows (.bool (ltE ⟨a0, a1, a2⟩ ⟨b0, b1, b2⟩)) w (.returned (.bool v)) ((w.alloc (.cells #[.int .i64 a0, .int .i64 a1, .string a2] 34)).alloc (.cells #[.int .i64 b0, .int .i64 b1, .string b2] 34)) := fun v hv => ⟨by rw [hv], 0, _, by rw [alloc_eq_grow, alloc_eq_grow, grow_grow]; rfl⟩
  have FIN := Lib.hid fin
  clear fin
  by_cases h1 : a0 < b0
  · have HV : Hid (true = ltE ⟨a0, a1, a2⟩ ⟨b0, b1, b2⟩) := ((ltE_iff _ _).2 (Or.inl h1)).symm
    go_enter Try.func28, Try.ntmps28
    go_wp2_with fail
    go_ret
    exact FIN.out _ HV.out
  · by_cases h2 : a0 = b0
    · have hq : ((a0 : Int) == b0) = true := by simpa using h2
      by_cases h3 : a1 < b1
      · have HV : Hid (true = ltE ⟨a0, a1, a2⟩ ⟨b0, b1, b2⟩) := ((ltE_iff _ _).2 (Or.inr ⟨h2, h3⟩)).symm
        clear h2
        go_enter Try.func28, Try.ntmps28
        go_wp2_with fail
        go_ret
        exact FIN.out _ HV.out
      · have HV : Hid (false = ltE ⟨a0, a1, a2⟩ ⟨b0, b1, b2⟩) := ((ltE_not _ _).2 (by simp only; omega)).symm
        clear h2
        go_enter Try.func28, Try.ntmps28
        go_wp2_with fail
        go_ret
        exact FIN.out _ HV.out
    · have hq : ((a0 : Int) == b0) = false := by simpa using h2
      have HV : Hid (false = ltE ⟨a0, a1, a2⟩ ⟨b0, b1, b2⟩) := ((ltE_not _ _).2 (by simp only; omega)).symm
      clear h2
      go_enter Try.func28, Try.ntmps28
      go_wp2_with fail
      go_ret
      exact FIN.out _ HV.out

theorem newsE (w : World) (e : Ed) : ∀ j u, (ecell e)[j]? = some u → (w.alloc (.cells #[.int .i64 e.f, .int .i64 e.t, .string e.x] 34)).cell? ((⟨w.heap.size, 0, none⟩ : Addr).add j) = some u := by
  intro j u hj
  match j, hj with
  | 0, hj => simp [ecell] at hj; subst hj; simp [Addr.add]
  | 1, hj => simp [ecell] at hj; subst hj; simp [Addr.add]
  | 2, hj => simp [ecell] at hj; subst hj; simp [Addr.add]
theorem oneE (e : Ed) : ∀ u ∈ ecell e, u.oneCell' = true := by
  intro u hu
  simp [ecell] at hu
  rcases hu with rfl | rfl | rfl <;> rfl
theorem ecells_snoc (L : List Ed) (e : Ed) : ecells L ++ ecell e = ecells (L ++ [e]) := by simp [ecells]

/-- Behind an append of one edit: the row, and what lay below. -/
theorem appended {w wr w2 : World} {B : Nat} {v v' : Value} {L : List Ed} {e : Ed} {o : Obj} (hown : wr.ownsRow B 34 3 v L.length (ecells L)) (hB : Below B w wr) (hBw : B ≤ w.heap.size)
    (ho : w2.ownsRow B 34 3 v' (L.length + 1) (ecells L ++ ecell e)) (hgrow : (wr.alloc o).grownBy w2 v.ownBlock) :
    w2.ownsRow B 34 3 v' (L ++ [e]).length (ecells (L ++ [e])) ∧ Below B w w2 := by
  have hge := own_block_ge hown
  have hz := hB.size
  refine ⟨by rw [← ecells_snoc, List.length_append]; exact ho, (hB.alloc (by omega) _).grown hgrow (by simp; omega) (fun k hk => (hge k hk).1)⟩

theorem own_le {w : World} {base base' e size n : Nat} {v : Value} {xs : List Value} (h : w.ownsRow base e size v n xs) (hb : base' ≤ base) : w.ownsRow base' e size v n xs :=
  ⟨h.1, h.2.imp id fun ⟨g, cap, cur, hv, hg, r⟩ => ⟨g, cap, cur, hv, Nat.le_trans hb hg, r⟩⟩

/-- How far the inner loop has come: what it has made, whether the edit is put. -/
def InsR (e : Ed) (acc nx : List Ed) (put : Bool) (k : Nat) : Prop := if put then nx ++ acc.drop k = insE e acc else nx = acc.take k ∧ acc.take k ++ insE e (acc.drop k) = insE e acc

theorem InsR.start (e : Ed) (acc : List Ed) : InsR e acc [] false 0 := by simp [InsR]
theorem InsR.put {e : Ed} {acc nx : List Ed} {k : Nat} (h : InsR e acc nx false k) (hk : k < acc.length) (hl : ltE e acc[k] = true) : InsR e acc (nx ++ [e] ++ [acc[k]]) true (k + 1) := by
  simp only [InsR, if_true, Bool.false_eq_true, if_false] at h ⊢
  rw [← h.2, List.drop_eq_getElem_cons hk, insE, if_pos hl, h.1]; simp
theorem InsR.pass {e : Ed} {acc nx : List Ed} {k : Nat} (h : InsR e acc nx false k) (hk : k < acc.length) (hl : ltE e acc[k] = false) : InsR e acc (nx ++ [acc[k]]) false (k + 1) := by
  simp only [InsR, Bool.false_eq_true, if_false] at h ⊢
  refine ⟨by rw [h.1, List.take_succ_eq_append_getElem hk], ?_⟩
  rw [← h.2, List.drop_eq_getElem_cons hk, insE, if_neg (by rw [hl]; simp), List.take_succ_eq_append_getElem hk, List.append_assoc]; rfl
theorem InsR.on {e : Ed} {acc nx : List Ed} {k : Nat} (h : InsR e acc nx true k) (hk : k < acc.length) : InsR e acc (nx ++ [acc[k]]) true (k + 1) := by
  simp only [InsR, if_true] at h ⊢
  rw [← h, List.drop_eq_getElem_cons hk]; simp
theorem InsR.done {e : Ed} {acc nx : List Ed} (h : InsR e acc nx true acc.length) : nx = insE e acc := by
  simp only [InsR, if_true] at h
  rw [← h]; simp
theorem InsR.last {e : Ed} {acc nx : List Ed} (h : InsR e acc nx false acc.length) : nx ++ [e] = insE e acc := by
  simp only [InsR, Bool.false_eq_true, if_false] at h
  rw [← h.2, h.1]; simp [insE]
theorem InsR.len {e : Ed} {acc nx : List Ed} {put : Bool} {k : Nat} (h : InsR e acc nx put k) : nx.length ≤ acc.length + 1 := by
  cases put with
  | true =>
    simp only [InsR, if_true] at h
    have h1 := congrArg List.length h
    rw [(insE_perm e acc).length_eq] at h1
    simp at h1; omega
  | false =>
    simp only [InsR, Bool.false_eq_true, if_false] at h
    rw [h.1]; simp; omega

theorem srt_take (es : List Ed) (j : Nat) (h : j < es.length) : srtE (es.take (j + 1)) = insE es[j] (srtE (es.take j)) := by
  unfold srtE srtOn
  rw [List.take_succ_eq_append_getElem h, List.foldl_append]; rfl

/-- What the outer loop goes by. -/
def RsRel (w : World) (es : List Ed) (v i : Value) (wr : World) : Prop :=
  ∃ j : Nat, j ≤ es.length ∧ i = .int .i64 j ∧ wr.ownsRow w.heap.size 34 3 v (srtE (es.take j)).length (ecells (srtE (es.take j))) ∧ Below w.heap.size w wr
/-- What the inner loop goes by. -/
def RsIn (w1 : World) (e : Ed) (acc : List Ed) (v p i : Value) (wr : World) : Prop :=
  ∃ (k : Nat) (nx : List Ed) (put : Bool), k ≤ acc.length ∧ i = .int .i64 k ∧ p = .bool put ∧ wr.ownsRow w1.heap.size 34 3 v nx.length (ecells nx) ∧ Below w1.heap.size w1 wr ∧ InsR e acc nx put k

set_option maxHeartbeats 4000000 in
theorem refSorted_any (A : Option Addr) (c : Nat) (es : List Ed) (hl : es.length ≤ 1000000) (B : Nat) (w : World) (h : Rd w B A es) :
    Calls Try.prog 16 #[.slice A es.length c] w (OwnE w (srtE es)) := by
  obtain ⟨i0, hi, hz0, hz1, hz2⟩ := info_parts Try.info34
  have mixed := Try.mixed
  have h := h.here
  go_enter Try.func16, Try.ntmps16
  go_wp2_with fail
  go_loopw [3, 4] (fun v i wr => RsRel w es v i wr) (fun _ i _ => es.length - (intOf i).toNat)
  case atStart => exact ⟨0, Nat.zero_le _, rfl, own_empty _ _ _ _ (Nat.le_refl _), (Below.refl _ _).alloc (Nat.le_refl _) _⟩
  case round =>
    obtain ⟨j, hj, rfl, hown, hB⟩ := hrel
    obtain ⟨w1, rfl⟩ : ∃ w1, w1 = wr := ⟨wr, rfl⟩
    have hacc : (srtE (es.take j)).length ≤ 1000000 := by rw [srt_len]; simp; omega
    by_cases hlt : j < es.length
    · have HT := Lib.hid (srt_take es j hlt)
      have hed := (h.below hB) j es[j] (List.getElem?_eq_getElem hlt)
      generalize es[j] = e at HT hed
      obtain ⟨b, o, rfl, hb, c0, c1, c2⟩ := hed
      generalize srtE (es.take j) = acc at *
      obtain ⟨A3, c3, rfl, hc3, _, hr3⟩ := own_edits hown
      have hBz := hB.size
      clear hown
      go_wp2_with fail
      go_loopw [5, 6, 7] (fun v p i wr => RsIn w1 e acc v p i wr) (fun _ _ i _ => acc.length - (intOf i).toNat)
      case atStart => exact ⟨0, [], false, Nat.zero_le _, rfl, rfl, own_empty _ _ _ _ (Nat.le_refl _), (Below.refl _ _).alloc (Nat.le_refl _) _, InsR.start e acc⟩
      case round =>
        obtain ⟨k, nx, put, hk, rfl, rfl, hown, hB1, hI⟩ := hrel
        have HI := Lib.hid hI
        have hnl := hI.len
        have HO := Lib.hid hown
        have hz1' := hB1.size
        clear hI hown
        have d0 := (hB1.cell (p := ⟨b, o + j * 3, none⟩) (by simp; omega)).trans c0
        have d1 := (hB1.cell (p := ⟨b, o + j * 3 + 1, none⟩) (by simp; omega)).trans c1
        have d2 := (hB1.cell (p := ⟨b, o + j * 3 + 2, none⟩) (by simp; omega)).trans c2
        by_cases hkl : k < acc.length
        · obtain ⟨b3, o3, rfl, hb3, k0, k1, k2⟩ := hr3 k acc[k] (List.getElem?_eq_getElem hkl)
          have m0 := (hB1.cell (p := ⟨b3, o3 + k * 3, none⟩) hb3).trans k0
          have m1 := (hB1.cell (p := ⟨b3, o3 + k * 3 + 1, none⟩) hb3).trans k1
          have m2 := (hB1.cell (p := ⟨b3, o3 + k * 3 + 2, none⟩) hb3).trans k2
          have HY : Hid (∃ y, y = acc[k]) := ⟨_, rfl⟩
          obtain ⟨y, hy⟩ := HY.out
          rw [← hy] at m0 m1 m2
          cases put with
          | false =>
            cases hv : ltE e y with
            | true =>
              have HI2 : Hid (InsR e acc (nx ++ [e] ++ [y]) true (k + 1)) := by have := HI.out.put hkl (by rw [← hy]; exact hv); rw [← hy] at this; exact this
              clear hy HY k0 k1 k2
              have hbef := before_any e y
              rw [hv] at hbef
              have p0 := cell_grown (by simp; omega) d0
              have p1 := cell_grown (by simp; omega) d1
              have p2 := cell_grown (by simp; omega) d2
              have q0 := cell_grown (by simp; omega) m0
              have q1 := cell_grown (by simp; omega) m1
              have q2 := cell_grown (by simp; omega) m2
              go_wp2_with fail
              go_quiet_grown (first | (go_at_call 28; refine Calls.grown_of (hbef _)))
              have hg : Below wr.heap.size wr (grow (wr.drewN nq) osq) := ((show Grows (.bool true) wr (.returned (.bool true)) (grow (wr.drewN nq) osq) from ⟨rfl, nq, osq, rfl⟩).below).2
              have hB2 : Below w1.heap.size w1 (grow (wr.drewN nq) osq) := chain (Nat.le_refl _) hB1 hg
              have HO2 := Lib.hid (own_below HO.out hg)
              clear HO hg hbef
              have p0 := p0 nq osq
              have p1 := p1 nq osq
              have p2 := p2 nq osq
              have q0 := q0 nq osq
              have q1 := q1 nq osq
              have q2 := q2 nq osq
              generalize grow (wr.drewN nq) osq = w2 at hB2 HO2 p0 p1 p2 q0 q1 q2 ⊢
              have hzz := hB2.size
              clear nq osq d0 d1 d2 m0 m1 m2 hB1
              go_wp2_with (at_builtin; refine wpList_append_own _ rfl _ _ 22 rfl w1.heap.size 34 i0 (.agg #[.int .i64 0, .int .i64 0, .string ⟨#[]⟩]) 3 32 Try.underlying22 hi hz0 hz1 hz2 rfl (by decide) _ _ _ rfl ((HO2.out).alloc _) ⟨w2.heap.size, 0, none⟩ 1 1 (ecell e) rfl rfl (newsE _ _) (oneE _) (by unfold maxLen; omega) (by omega) (by simp; omega) ?_)
              intro v2 w3 ho3 hg3 _
              have AP := appended HO2.out hB2 (Nat.le_refl _) ho3 hg3
              clear ho3 hg3 HO2
              have m0 := (AP.2.cell (p := ⟨b3, o3 + k * 3, none⟩) hb3).trans ((hB2.cell (p := ⟨b3, o3 + k * 3, none⟩) hb3).symm.trans q0)
              have m1 := (AP.2.cell (p := ⟨b3, o3 + k * 3 + 1, none⟩) hb3).trans ((hB2.cell (p := ⟨b3, o3 + k * 3 + 1, none⟩) hb3).symm.trans q1)
              have m2 := (AP.2.cell (p := ⟨b3, o3 + k * 3 + 2, none⟩) hb3).trans ((hB2.cell (p := ⟨b3, o3 + k * 3 + 2, none⟩) hb3).symm.trans q2)
              have HO3 := Lib.hid AP.1
              have hB3 := AP.2
              have hz3 := hB3.size
              clear AP p0 p1 p2 q0 q1 q2 hB2 hzz
              go_wp2_with (at_builtin; refine wpList_append_own _ rfl _ _ 22 rfl w1.heap.size 34 i0 (.agg #[.int .i64 0, .int .i64 0, .string ⟨#[]⟩]) 3 32 Try.underlying22 hi hz0 hz1 hz2 rfl (by decide) _ _ _ rfl ((HO3.out).alloc _) ⟨w3.heap.size, 0, none⟩ 1 1 (ecell y) rfl rfl (newsE _ _) (oneE _) (by unfold maxLen; simp; omega) (by simp; omega) (by simp; omega) ?_)
              intro v4 w4 ho4 hg4 _
              have AP := appended HO3.out hB3 (Nat.le_refl _) (by rw [List.length_append]; exact ho4) hg4
              have HA := Lib.hid AP
              clear ho4 hg4 HO3 AP hB3 hz3 m0 m1 m2
              go_wp2_with fail
              go_roundw
              case rel => exact ⟨k + 1, nx ++ [e] ++ [y], true, by omega, by go_num, rfl, HA.out.1, HA.out.2, HI2.out⟩
              case measure => simp [intOf]; omega
            | false =>
              have HI2 : Hid (InsR e acc (nx ++ [y]) false (k + 1)) := by have := HI.out.pass hkl (by rw [← hy]; exact hv); rw [← hy] at this; exact this
              clear hy HY k0 k1 k2
              have hbef := before_any e y
              rw [hv] at hbef
              have p0 := cell_grown (by simp; omega) d0
              have p1 := cell_grown (by simp; omega) d1
              have p2 := cell_grown (by simp; omega) d2
              have q0 := cell_grown (by simp; omega) m0
              have q1 := cell_grown (by simp; omega) m1
              have q2 := cell_grown (by simp; omega) m2
              go_wp2_with fail
              go_quiet_grown (first | (go_at_call 28; refine Calls.grown_of (hbef _)))
              have hg : Below wr.heap.size wr (grow (wr.drewN nq) osq) := ((show Grows (.bool true) wr (.returned (.bool true)) (grow (wr.drewN nq) osq) from ⟨rfl, nq, osq, rfl⟩).below).2
              have hB2 : Below w1.heap.size w1 (grow (wr.drewN nq) osq) := chain (Nat.le_refl _) hB1 hg
              have HO2 := Lib.hid (own_below HO.out hg)
              clear HO hg hbef
              have p0 := p0 nq osq
              have p1 := p1 nq osq
              have p2 := p2 nq osq
              have q0 := q0 nq osq
              have q1 := q1 nq osq
              have q2 := q2 nq osq
              generalize grow (wr.drewN nq) osq = w2 at hB2 HO2 p0 p1 p2 q0 q1 q2 ⊢
              have hzz := hB2.size
              clear nq osq d0 d1 d2 m0 m1 m2 hB1
              go_wp2_with (at_builtin; refine wpList_append_own _ rfl _ _ 22 rfl w1.heap.size 34 i0 (.agg #[.int .i64 0, .int .i64 0, .string ⟨#[]⟩]) 3 32 Try.underlying22 hi hz0 hz1 hz2 rfl (by decide) _ _ _ rfl ((HO2.out).alloc _) ⟨w2.heap.size, 0, none⟩ 1 1 (ecell y) rfl rfl (newsE _ _) (oneE _) (by unfold maxLen; omega) (by omega) (by simp; omega) ?_)
              intro v4 w4 ho4 hg4 _
              have AP := appended HO2.out hB2 (Nat.le_refl _) ho4 hg4
              have HA := Lib.hid AP
              clear ho4 hg4 HO2 AP hB2 p0 p1 p2 q0 q1 q2
              go_wp2_with fail
              go_roundw
              case rel => exact ⟨k + 1, nx ++ [y], false, by omega, by go_num, rfl, HA.out.1, HA.out.2, HI2.out⟩
              case measure => simp [intOf]; omega
          | true =>
            have HI2 : Hid (InsR e acc (nx ++ [y]) true (k + 1)) := by have := HI.out.on hkl; rw [← hy] at this; exact this
            clear hy HY k0 k1 k2 d0 d1 d2
            go_wp2_with fail
            go_quiet (fail)
            have hB2 : Below w1.heap.size w1 (wr.drewN nq) := below_drewN hB1 nq
            have HO2 : Hid ((wr.drewN nq).ownsRow w1.heap.size 34 3 _ nx.length (ecells nx)) := HO.out
            have m0 : (wr.drewN nq).cell? ⟨b3, o3 + k * 3, none⟩ = some (.int .i64 y.f) := m0
            have m1 : (wr.drewN nq).cell? ⟨b3, o3 + k * 3 + 1, none⟩ = some (.int .i64 y.t) := m1
            have m2 : (wr.drewN nq).cell? ⟨b3, o3 + k * 3 + 2, none⟩ = some (.string y.x) := m2
            generalize wr.drewN nq = w2 at hB2 HO2 m0 m1 m2 ⊢
            have hzz := hB2.size
            clear hB1 HO
            go_wp2_with (at_builtin; refine wpList_append_own _ rfl _ _ 22 rfl w1.heap.size 34 i0 (.agg #[.int .i64 0, .int .i64 0, .string ⟨#[]⟩]) 3 32 Try.underlying22 hi hz0 hz1 hz2 rfl (by decide) _ _ _ rfl ((HO2.out).alloc _) ⟨w2.heap.size, 0, none⟩ 1 1 (ecell y) rfl rfl (newsE _ _) (oneE _) (by unfold maxLen; omega) (by omega) (by simp; omega) ?_)
            intro v4 w4 ho4 hg4 _
            have AP := appended HO2.out hB2 (Nat.le_refl _) ho4 hg4
            have HA := Lib.hid AP
            clear ho4 hg4 HO2 AP hB2 m0 m1 m2
            go_wp2_with fail
            go_roundw
            case rel => exact ⟨k + 1, nx ++ [y], true, by omega, by go_num, rfl, HA.out.1, HA.out.2, HI2.out⟩
            case measure => simp [intOf]; omega
        · obtain rfl : k = acc.length := by omega
          cases put with
          | false =>
            go_wp2_with (at_builtin; refine wpList_append_own _ rfl _ _ 22 rfl w1.heap.size 34 i0 (.agg #[.int .i64 0, .int .i64 0, .string ⟨#[]⟩]) 3 32 Try.underlying22 hi hz0 hz1 hz2 rfl (by decide) _ _ _ rfl ((HO.out).alloc _) ⟨wr.heap.size, 0, none⟩ 1 1 (ecell e) rfl rfl (newsE _ _) (oneE _) (by unfold maxLen; omega) (by omega) (by simp; omega) ?_)
            intro v4 w4 ho4 hg4 _
            have AP := appended HO.out hB1 (Nat.le_refl _) ho4 hg4
            rw [HI.out.last, ← HT.out] at AP
            have HA : Hid (RsRel w es v4 (.int .i64 (j + 1 : Nat)) w4) := ⟨j + 1, by omega, rfl, own_le AP.1 hBz, chain (Nat.le_refl _) hB AP.2⟩
            clear ho4 hg4 HO AP
            go_wp2_with fail
            go_roundw
            case rel => exact HA.out
            case measure => simp [intOf]; omega
          | true =>
            have HA : Hid (RsRel w es _ (.int .i64 (j + 1 : Nat)) wr) := ⟨j + 1, by omega, rfl, own_le (by have := HO.out; rw [HI.out.done, ← HT.out] at this; exact this) hBz, chain (Nat.le_refl _) hB hB1⟩
            clear HO
            go_wp2_with fail
            go_roundw
            case rel => exact HA.out
            case measure => simp [intOf]; omega
    · have HE : Hid (es.take j = es) := List.take_of_length_le (by omega)
      have HA : Hid (w1.ownsRow w.heap.size 34 3 _ (srtE es).length (ecells (srtE es)) ∧ RowKit.Below w.heap.size w w1) := ⟨by rw [HE.out] at hown; exact hown, hB⟩
      clear hown
      go_wp2_with fail
      go_ret
      exact ⟨_, rfl, HA.out.1, HA.out.2⟩
end Go.Proofs.Ytdjdflannedkbaa
