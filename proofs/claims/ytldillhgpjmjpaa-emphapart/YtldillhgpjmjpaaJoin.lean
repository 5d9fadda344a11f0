/-
  PROVED: contract of the binder's join: a row that closes is bound to one that it found, as far as there are marks. Conditions: the binder lies so.
-/
import Derived.Test.YtldillhgpjmjpaaOpen
import Derived.Test.YtldillhgpjmjpaaFindPure
import Derived.Deep.CutBlock
import Derived.Deep.CutRange
namespace Go.Proofs.Ytldillhgpjmjpaa
open Go.ChangeShapes Go.WideShapes Go.ChangeAt Go.RowKit Go.Sort
set_option linter.unusedVariables false

theorem take_ints (R : List Nat) (k : Nat) : (ints R).take (k * 1) = ints (R.take k) := by rw [Nat.mul_one]; unfold ints; rw [List.map_take]

set_option maxHeartbeats 8000000 in
set_option maxRecDepth 100000 in
theorem join_any (w : World) (base g : Nat) (L : List Rw) (n : Nat) (st : List Nat) (lf : Nat → Nat) (bs : List Bd) (mb k : Nat) (D : DataW Unit) (h : Bnd w base g L n st lf bs mb k D) (c : Nat) (hc : c < n) (hn : n ≤ 100000) (hstl : st.length ≤ 100000) (hbl : bs.length ≤ 1000000)
    (o : Nat) (a rest : List Nat) (hst : st = a ++ o :: rest) (hoc : o < c) (hoo : (rw L o).o = true) (hlo : lf o ≤ 1048576) (hlc : lf c ≤ 1048576) (q : Nat) (hq : q = min (lf o) (lf c)) (S : List Nat) (hS : S = if lf o - q = 0 then rest else o :: rest) :
    Calls Try.prog 27 #[ptr g, .int .i64 (rest.length : Nat), .int .i64 (c : Nat)] w fun e w' => e = .returned (.tuple #[]) ∧ Bnd w' base g L n S (upd (upd lf o (lf o - q)) c (lf c - q)) (bs ++ [(o, c, q)]) mb k D ∧ Below base w w' := by
  obtain ⟨i0, hi0, hz0, hz1, hz2⟩ := info_parts Try.info45
  obtain ⟨vR, vO, vB, h⟩ := h
  have hon : o < n := by omega
  have hl1 : rest.length < st.length := by rw [hst]; simp; omega
  have hrev : st.reverse = rest.reverse ++ o :: a.reverse := by rw [hst]; simp
  obtain ⟨qo, co, hvO, hqob, hqo, hcob, hato, hfo⟩ := own_at h.opn (by omega)
  have k1 : w.cell? ⟨qo, rest.length, none⟩ = some (.int .i64 o) := hato _ _ (by unfold ints; rw [List.getElem?_map, hrev]; simp)
  obtain ⟨qr, cr, hvR, hqrb, hqr, hcrb, _, _, _, _, o4, hfr⟩ := h.row hon
  obtain ⟨qr', cr', hvR', _, _, _, _, _, _, _, c4, _⟩ := h.row hc
  have e1 : qr' = qr := by rw [hvR] at hvR'; injection hvR' with e1 _ _; injection e1 with e1; injection e1 with e1; exact e1.symm
  subst e1
  clear hvR' hato hfo
  have p0 : w.cell? ⟨g, 0, none⟩ = some (.slice (some ⟨qr', 0, none⟩) n cr) := by rw [← hvR]; exact h.par.at 0
  have p1 : w.cell? ⟨g, 1, none⟩ = some (.slice (some ⟨qo, 0, none⟩) st.length co) := by rw [← hvO]; exact h.par.at 1
  have hg := h.par.lt
  have hgb := h.gb
  have hgr : g ≠ qr' := fun e => (h.apR (i := qr') (by rw [hvR]; rfl)).1 e.symm
  have hqor : qo ≠ qr' := fun e => (h.apO (i := qo) (by rw [hvO]; rfl)).2.1 (by rw [hvR]; subst e; rfl)
  have hne : o * 5 + 4 ≠ c * 5 + 4 := by omega
  have HQ := Lib.hid hq
  have hqo1 : q ≤ lf o := by omega
  have hqc1 : q ≤ lf c := by omega
  have HS : Hid (S = if (rw L o).o = true ∧ ¬ upd (upd lf o (lf o - q)) c (lf c - q) o = 0 then o :: rest else rest) := by
    show _ = _
    rw [hS, upd_other _ _ _ _ (by omega), upd_same]
    by_cases hz : lf o - q = 0
    · rw [if_pos hz, if_neg (by simp [hz])]
    · rw [if_neg hz, if_pos ⟨hoo, hz⟩]
  have HH := Lib.hid h
  have HRV := Lib.hid hrev
  clear h hS hrev hq hst hoo
  have HHr : Hid (wcells L (upd (upd lf o (lf o - q)) c (lf c - q)) n = ((wcells L lf n).set (o * 5 + 4) (.int .i64 (lf o - q : Nat))).set (c * 5 + 4) (.int .i64 (lf c - q : Nat))) := by
    show _ = _
    rw [wcells_set L lf n o _ hon, wcells_set L _ n c _ hc]
  obtain ⟨x, hx⟩ : ∃ x, x = lf o := ⟨_, rfl⟩
  obtain ⟨y, hy⟩ : ∃ y, y = lf c := ⟨_, rfl⟩
  have HXY : Hid (x = lf o ∧ y = lf c) := ⟨hx, hy⟩
  rw [← hx] at o4 hlo hqo1
  rw [← hy] at c4 hlc hqc1
  have hq1 : q = min x y := by rw [hx, hy]; exact HQ.out
  have hmin : (if y < x then (y : Int) else (x : Int)) = (q : Int) := by split <;> omega
  clear hx hy hq1
  have hvRo := hvR
  have hvOo := hvO
  subst hvR hvO
  have hrz : (rest.length : Int) < (st.length : Int) := by omega
  have hoz : (o : Int) < (n : Int) := by omega
  have hcz : (c : Int) < (n : Int) := by omega
  have fq := hfr (o * 5 + 4)
  have fq2 := hfr (c * 5 + 4)
  go_enter Try.func27, Try.ntmps27
  go_wp2_with fail
  go_region
  go_upto_region 3 with fail
  obtain ⟨w2, hw2⟩ : ∃ w2, w2 = (w.setCell ⟨qr', o * 5 + 4, none⟩ (.int .i64 ((x : Int) - q))).drew := ⟨_, rfl⟩
  have R2 : Hid (w2.ownsRow base 53 5 (.slice (some ⟨qr', 0, none⟩) n cr) n ((wcells L lf n).set (o * 5 + 4) (.int .i64 (x - q : Nat)))) := by
    show World.ownsRow _ _ _ _ _ _ _
    rw [hw2]
    have := (HH.out.rows.stored (o * 5 + 4) (.int .i64 ((x - q : Nat) : Int))).1.drew
    rw [show ((x - q : Nat) : Int) = (x : Int) - q by omega] at this ⊢
    exact this
  have K2 : Hid (Kept (fun j => j = qr') w w2) := by
    show Kept _ _ _
    rw [hw2]
    exact (Kept.set (fun j => j = qr') w ⟨qr', o * 5 + 4, none⟩ _ rfl).trans (Kept.drew (fun j => j = qr') _ 1) (fun _ _ => id)
  have z0 := (K2.out.holds HH.out.par hgr).at 0
  have z0 : w2.cell? ⟨g, 0, none⟩ = some (.slice (some ⟨qr', 0, none⟩) n cr) := z0
  have z4 : w2.cell? ⟨qr', c * 5 + 4, none⟩ = some (.int .i64 y) := by
    have := R2.out.cellAt (c * 5 + 4) (by omega)
    rw [this, List.getElem?_set_ne hne, wcells_at L lf n c 4 hc (by omega), HXY.out.2]
    rfl
  have zf := R2.out.frozenAt (c * 5 + 4)
  rw [← hw2]
  clear hw2 p0 k1 p1 o4 c4 fq fq2 hfr
  go_upto_region 4 with fail
  obtain ⟨w3, hw3⟩ : ∃ w3, w3 = w2.setCell ⟨qr', c * 5 + 4, none⟩ (.int .i64 ((y : Int) - q)) := ⟨_, rfl⟩
  have R3 : Hid (w3.ownsRow base 53 5 (.slice (some ⟨qr', 0, none⟩) n cr) n (wcells L (upd (upd lf o (lf o - q)) c (lf c - q)) n)) := by
    show World.ownsRow _ _ _ _ _ _ _
    rw [hw3, HHr.out, ← HXY.out.1, ← HXY.out.2]
    have := (R2.out.stored (c * 5 + 4) (.int .i64 ((y - q : Nat) : Int))).1
    rw [show ((y - q : Nat) : Int) = (y : Int) - q by omega] at this ⊢
    exact this
  have K3 : Hid (Kept (fun j => j = qr') w w3) := by
    show Kept _ _ _
    rw [hw3]
    exact K2.out.trans (Kept.set (fun j => j = qr') w2 ⟨qr', c * 5 + 4, none⟩ _ rfl) (fun _ _ => id)
  have V3 : Hid (BndV w3 base g L n st (upd (upd lf o (lf o - q)) c (lf c - q)) bs mb k D (.slice (some ⟨qr', 0, none⟩) n cr) (.slice (some ⟨qo, 0, none⟩) st.length co) vB) :=
    HH.out.putR (M := fun j => j = qr') K3.out (fun j e => Or.inr (by rw [e]; rfl)) (K3.out.holds HH.out.par hgr) R3.out
  have B3 : Hid (Below base w w3) := K3.out.below (Nat.le_trans hgb (Nat.le_of_lt hg)) (fun j hj => by rw [hj]; exact hqrb)
  rw [← hw3]
  clear hw3 R2 K2 z0 z4 zf HH HHr
  have hg3 := V3.out.par.lt
  have y3 : w3.cell? ⟨g, 3, none⟩ = some vB := V3.out.par.at 3
  have HNB := Lib.hid (fun j (hj : vB.ownBlock = some j) => (V3.out.apB hj).1)
  have HOB := Lib.hid V3.out.bnd
  obtain ⟨AB, cB, hvB⟩ := own_sl V3.out.bnd
  subst hvB
  go_wp2_with (at_builtin; refine wpList_append_lies _ rfl _ _ 39 rfl base 45 i0 (.agg #[.int .i64 0, .int .i64 0, .int .i64 0]) 3 24 Try.underlying39 hi0 hz0 hz1 hz2 rfl (by decide) (.slice AB bs.length cB) bs.length (bcells bs) rfl (HOB.out.alloc _) ⟨w3.heap.size, 0, none⟩ 1 1 (bcell (o, c, q)) rfl rfl (World.news_of_block (heap_alloc_new _ _)) (bcell_one _) (by decide) (by unfold maxLen; omega) (by omega) (by simp; omega) _ rfl ?_)
  intro gB cB' w4 hown hgrow hat hlt
  have HW := Lib.hid hown
  have K4 : Hid (Kept (fun j => (Value.slice AB bs.length cB).ownBlock = some j) w3 w4) := (Kept.alloc _ w3 _).trans (Kept.grown _ hgrow (fun _ e => e)) (fun _ _ => id)
  have H4 : Hid (Holds w4 g 41 #[.slice (some ⟨qr', 0, none⟩) n cr, .slice (some ⟨qo, 0, none⟩) st.length co, .map (some mb), .slice AB bs.length cB]) := K4.out.holds V3.out.par (fun e => HNB.out g e rfl)
  have x1 : w4.cell? ⟨g, 1, none⟩ = some (.slice (some ⟨qo, 0, none⟩) st.length co) := H4.out.at 1
  have x3 : w4.cell? ⟨g, 3, none⟩ = some (.slice AB bs.length cB) := H4.out.at 3
  have xf1 : w4.frozen? ⟨g, 1, none⟩ = false := H4.out.soft 1
  have xf3 : w4.frozen? ⟨g, 3, none⟩ = false := H4.out.soft 3
  have B4 : Hid (Below base w3 w4) := K4.out.below (Nat.le_trans hgb (Nat.le_of_lt hg3)) (fun j hj => V3.out.ge.2.2 j hj)
  have hg4 : g < w4.heap.size := H4.out.lt
  clear hown hgrow hat y3
  go_wp2_with fail
  obtain ⟨w5, hw5⟩ : ∃ w5, w5 = (w4.setCell ⟨g, 3, none⟩ (.slice (some ⟨gB, 0, none⟩) (bs.length + 1) cB')).setCell ⟨g, 1, none⟩ (.slice (some ⟨qo, 0, none⟩) rest.length co) := ⟨_, rfl⟩
  rw [← hw5]
  have V4 : BndV w5 base g L n rest (upd (upd lf o (lf o - q)) c (lf c - q)) (bs ++ [(o, c, q)]) mb k D (.slice (some ⟨qr', 0, none⟩) n cr) (.slice (some ⟨qo, 0, none⟩) rest.length co) (.slice (some ⟨gB, 0, none⟩) (bs.length + 1) cB') := by
    have Kb : Kept (fun j => j = g ∨ (Value.slice AB bs.length cB).ownBlock = some j) w3 (w4.setCell ⟨g, 3, none⟩ (.slice (some ⟨gB, 0, none⟩) (bs.length + 1) cB')) := (K4.out.mono (fun _ _ e => Or.inr e)).trans (Kept.set _ w4 ⟨g, 3, none⟩ _ (Or.inl rfl)) (fun _ _ => id)
    have Hb := H4.out.set 3 (.slice (some ⟨gB, 0, none⟩) (bs.length + 1) cB')
    have Hb : Holds (w4.setCell ⟨g, 3, none⟩ (.slice (some ⟨gB, 0, none⟩) (bs.length + 1) cB')) g 41 #[.slice (some ⟨qr', 0, none⟩) n cr, .slice (some ⟨qo, 0, none⟩) st.length co, .map (some mb), .slice (some ⟨gB, 0, none⟩) (bs.length + 1) cB'] := by simpa using Hb
    have hnb : gB ≠ g := fun e => own_holds_ne HW.out H4.out (by decide) (by rw [e]; rfl)
    have Ob := (Kept.set (fun j => j = g) w4 ⟨g, 3, none⟩ (.slice (some ⟨gB, 0, none⟩) (bs.length + 1) cB') rfl).own HW.out (fun j hj e => by
      subst e
      exact own_holds_ne HW.out H4.out (by decide) hj)
    have Vb := V3.out.putB (vB' := .slice (some ⟨gB, 0, none⟩) (bs.length + 1) cB') (bs' := bs ++ [(o, c, q)]) Kb (fun _ e => e) Hb (by simpa [bcells] using Ob)
    rw [hw5]
    refine Vb.putO (M := fun j => j = g) (Kept.set _ _ ⟨g, 1, none⟩ _ rfl) (fun _ e => Or.inl e) ?_ ?_
    · have := Hb.set 1 (.slice (some ⟨qo, 0, none⟩) rest.length co)
      simpa using this
    · have hcut := own_cut Vb.opn rest.length (Nat.le_of_lt hl1)
      rw [take_ints, HRV.out, List.take_append_of_le_length (by simp), List.take_of_length_le (by simp)] at hcut
      exact (Kept.set (fun j => j = g) _ ⟨g, 1, none⟩ _ rfl).own hcut (fun j hj e => by
        subst e
        exact (Vb.apO hj).1 rfl)
  have B5 : Hid (Below base w w5) := by
    show Below _ _ _
    rw [hw5]
    exact ((B3.out.trans B4.out).setCell hgb _).setCell hgb _
  have hop := open_any w5 base g L n rest _ _ mb k D ⟨_, _, _, V4⟩ o hon hn (by omega) S HS.out
  have HOP := Lib.hid hop
  clear hop V4 hw5 x1 x3 xf1 xf3 HW K4 H4
  refine (HOP.out).mono ?_
  rintro e w6 ⟨rfl, hb6, hB6⟩
  have HB6 := Lib.hid (And.intro hb6 hB6)
  clear hb6 hB6
  go_wp2_with fail
  go_end0
  exact ⟨rfl, HB6.out.1, B5.out.trans HB6.out.2⟩
end Go.Proofs.Ytldillhgpjmjpaa
