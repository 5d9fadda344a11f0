/-
  PROVED: contract of emph.Left: how many marks each row has left, in new memory. Conditions: the slice lies in memory that holds the rows, at most 600 of them, each mark a byte.
-/
import Derived.Test.YtldillhgpjmjpaaLeftIt
import Derived.RangeFuncBox
namespace Go.Proofs.Ytldillhgpjmjpaa
open Go.ChangeShapes Go.WideShapes Go.ChangeAt Go.RowKit Go.Sort Go.Shelf
set_option linter.unusedVariables false
attribute [local go_sem] Oper.semAt_some

set_option maxRecDepth 100000 in
set_option maxHeartbeats 4000000 in
theorem left_made (A : Option Addr) (c : Nat) (L : List Rw) (hl : L.length ≤ 600) (hm : ∀ r ∈ L, (Lit.int .u8 r.m).wf = true) (w : World) (h : Rdc w w.heap.size A (rcells L)) :
    Calls Try.prog 14 #[.slice A L.length c] w (OwnR w 3 1 (leftM L).length (ints (leftM L))) := by
  obtain ⟨i0, hi0, hz0, hz1, hz2⟩ := info_parts Try.info3
  have HRd := Lib.hid h
  have HM := Lib.hid hm
  clear h hm
  refine (callsIn_wide (n := 3)).1 ?_
  refine callsIn_of_wp_marks Try.func14 rfl trivial ?_ rfl
  simp only [Try.ntmps14, List.size_toArray, List.length_cons, List.length_nil, Nat.reduceAdd, Nat.reduceSub, Array.replicate_succ, Array.replicate_zero, List.push_toArray, List.append_toArray, List.nil_append, List.cons_append]
  gi_wp2_with (gi_at_make; refine wpListIn_make_own _ rfl _ _ 29 rfl w.heap.size 3 i0 (.int .i64 0) 1 Try.underlying29 hi0 hz0 hz1 .i64 .i64 _ L.length rfl rfl rfl (by rw [hz2]; omega) (by unfold maxLen; omega) (Nat.le_refl _) ?_)
  intro w1 hown hgrow
  have K1 : Hid (Kept (fun _ => False) w w1) := Kept.grown _ hgrow (fun k hk => by cases hk)
  have HO1 := Lib.hid hown
  have hz1' : w.heap.size < w1.heap.size := (own_block_ge hown _ rfl).2
  clear hown hgrow
  obtain ⟨w2, hw2⟩ : ∃ w2, w2 = w1.alloc (.cells #[.slice (some ⟨w.heap.size, 0, none⟩) 0 L.length] 29) := ⟨_, rfl⟩
  have hB2 : Below w.heap.size w w2 := by
    rw [hw2]
    exact (K1.out.below (Nat.le_refl _) (fun _ h => h.elim)).alloc (by omega) _
  have B2 := Lib.hid hB2
  have X2 : Hid (Boxed w2 w1.heap.size 29 (.slice (some ⟨w.heap.size, 0, none⟩) 0 L.length)) := by rw [hw2]; exact Boxed.new w1 29 _
  have O2 : Hid (w2.ownsRow w.heap.size 3 1 (.slice (some ⟨w.heap.size, 0, none⟩) 0 L.length) 0 []) := by
    show World.ownsRow _ _ _ _ _ _ _
    rw [hw2]; exact HO1.out.alloc _
  have HRd2 : Hid (Rdc w2 w2.heap.size A (rcells L)) := (HRd.out.below hB2).here
  gi_wp2
  rw [← hw2]
  clear hw2 hB2 HO1 K1
  obtain ⟨Bx, hBx⟩ : ∃ Bx, Bx = w1.heap.size := ⟨_, rfl⟩
  rw [← hBx] at X2 hz1' ⊢
  clear hBx
  refine ⟨trivial, (callsIn_wide.2 (bind_any A c L hl HM.out w2 HRd2.out)).mono ?_⟩
  rintro e w3 ⟨g, mb, k, D, rfl, ⟨vR, vO, vB, hV⟩, hb3⟩
  have HV := Lib.hid hV
  have B3 := Lib.hid hb3
  clear hV hb3
  gi_wp2
  refine ⟨trivial, (callsIn_wide.2 (left_any g w3)).mono ?_⟩
  rintro e w4 ⟨rfl, hw4⟩
  have hb4 : Below w3.heap.size w3 w4 := by rw [hw4]; exact (Below.refl _ _).alloc (Nat.le_refl _) _
  have hBn : w4.cell? ⟨w3.heap.size, 0, none⟩ = some (ptr g) := by rw [hw4]; exact (Holds.made w3 42 #[ptr g]).at 0
  have hz4 : w3.heap.size < w4.heap.size := by rw [hw4]; simp
  clear hw4
  have V4 := Lib.hid (HV.out.under hb4)
  have X4 : Hid (Boxed w4 Bx 29 (.slice (some ⟨w.heap.size, 0, none⟩) 0 L.length)) := by
    have h1 := (B3.out.block Bx X2.out.lt).trans X2.out
    exact (hb4.block Bx (by have := B3.out.size; have := X2.out.lt; omega)).trans h1
  have O4 : Hid (w4.ownsRow w.heap.size 3 1 (.slice (some ⟨w.heap.size, 0, none⟩) 0 L.length) 0 []) := own_below (own_below O2.out B3.out) hb4
  have B4 : Hid (Below w.heap.size w w4) := chain (Nat.le_refl _) (chain (Nat.le_refl _) B2.out B3.out) hb4
  obtain ⟨AR, cR, hvR⟩ := own_sl V4.out.rows
  subst hvR
  have hg4 := V4.out.par.lt
  have g0 : w4.cell? ⟨g, 0, none⟩ = some (.slice AR L.length cR) := V4.out.par.at 0
  have HLf : Hid (leftM L = leftXs (runM L L.length).2.1 L.length) := rfl
  have hsz4 := B4.out.size
  clear hb4 X2 O2 B2 B3 HV
  gi_wp2
  refine wpIn_rangeFunc_ownF rfl (by omega) (gf := 24) (lb := #[.pointer (some ⟨w3.heap.size, 0, none⟩)]) rfl trivial (enters_of Try.func24 (by kernel_rfl) rfl)
    (left_stops Fence.wide _ trivial rfl (by omega) w3.heap.size w2.heap.size g L.length L (runM L L.length).2.1 AR cR w4 (by omega) hz4 hg4 hBn g0 V4.out.rows) KpR.trans
    (fun W l o o' hl hh h1 h2 q hq => by
      have hlt : q < w4.heap.size := (own_block_ge V4.out.rows q hq).2
      exact (grownBy_putObj' W l o').block q (by have := (Array.getElem?_eq_some_iff.1 hh).1; omega) (fun e => by have := Option.some.inj e; omega)) (Below.refl _ _) (fun _ => rfl)
    (fun pre W => (∃ v, Boxed W Bx 29 v ∧ W.ownsRow w.heap.size 3 1 v pre.length (ints pre) ∧ True) ∧ W.ownsRow w2.heap.size 53 5 (.slice AR L.length cR) L.length (wcells L (runM L L.length).2.1 L.length) ∧ Below w.heap.size w W)
    (fun _ _ _ => False)
    (OwnFrom.and (Own.from (holdsRow_own w.heap.size Bx 29 3 1 (fun pre => pre.length) (fun pre => ints pre) (fun _ _ => True)) _) (OwnFrom.and (Own.from (rows_own _ _ _ _ _ _) _) (ownFrom_below (Nat.le_refl _) hsz4)))
    (fun _ _ _ _ _ hs _ _ => hs)
    ⟨⟨_, X4.out, O4.out, trivial⟩, V4.out.rows, B4.out⟩
    (fun x => { tmps := #[.slice A L.length c, undef, .slice none 0 0, .pointer (some ⟨Bx, 0, none⟩), .int .i64 (x : Nat), .slice A L.length c, .int .i64 (L.length : Nat), .slice (some ⟨w.heap.size, 0, none⟩) 0 L.length, .slice A L.length c, ptr g, .func (.func 24) #[] #[.pointer (some ⟨w3.heap.size, 0, none⟩)], .int .i64 (x : Nat), undef, undef, undef, undef, undef], defers := [] }) ?assign ?body ?done ?stop
  case assign =>
    intro l x W K hK
    gi_wp2
    exact hK
  case body =>
    rintro l pre x W ⟨⟨v, hv, hrow, _⟩, hro, hB⟩ hlt
    have hc := hv.cell
    gi_wp2_with (gi_at_builtin; refine wpListIn_append_own _ rfl _ _ 29 rfl w.heap.size 3 i0 (.int .i64 0) 1 8 Try.underlying29 hi0 hz0 hz1 hz2 rfl (by decide) _ _ _ rfl (hrow.alloc _) ⟨W.heap.size, 0, none⟩ 1 1 [.int .i64 (x : Nat)] rfl rfl (cell_one_new _ _ _) (by simp [Value.oneCell']) (by unfold maxLen; omega) (by omega) (by have := hB.size; simp; omega) ?_; intro v' w1 hown' hgrow _; obtain ⟨g', cap', rfl⟩ := ownsRow_succ hown'; obtain ⟨hv1, hv2, hr2, hk2, hb2⟩ := hv.appended (by decide) hrow hB.size (Nat.le_of_lt hz1') hown' hgrow; have hc1 := hv1.cell; have hf1 := hv1.frozen; have HG := Lib.hid hgrow; clear hgrow)
    have hkp : KpR (.slice AR L.length cR) W (w1.setCell ⟨Bx, 0, none⟩ (.slice (some ⟨g', 0, none⟩) (pre.length + 1) cap')) := fun q hq => by
      have hlt : q < W.heap.size := (own_block_ge hro q hq).2
      refine (Below.heap_setCell w1 ⟨Bx, 0, none⟩ _ q (fun e => hv.not_row (by decide) hro (by rw [hq, e]))).trans ?_
      exact (HG.out.block q (by rw [World.size_alloc]; omega) (fun e => own_type hro hrow (by decide) q hq e.symm)).trans (heap_alloc_old W _ hlt)
    refine ⟨hk2, hkp, ⟨_, hv2, ?_, trivial⟩, hkp.own hro, hB.trans hb2⟩
    rw [ints_app, List.length_append]
    exact hr2
  case done =>
    rintro D ys W hD rfl ⟨⟨v, hv, hrow, _⟩, hro, hB⟩ hK
    have hc := hv.cell
    gi_wp2
    refine ⟨by simp, .inl ⟨_, _, rfl, run_takeDeferred hK, ?_⟩⟩
    refine ⟨_, results_tmp rfl _ _ _, v, rfl, ?_, hB.trans (belowK_b (w := w) (Nat.le_refl _) W D _ _ (by omega) hK rfl rfl)⟩
    rw [HLf.out]
    exact ownsRow_putObj hrow _ hK rfl
  case stop =>
    rintro D c pre W _ _ h _
    exact h.elim
end Go.Proofs.Ytldillhgpjmjpaa
