/-
  PROVED: contract of the program's bind: the binder behind all rows is the model's. Conditions: the slice lies in memory that holds the rows, at most 600 of them, each mark a byte.
-/
import Derived.Test.YtldillhgpjmjpaaClose
import Derived.Test.YtldillhgpjmjpaaRunPure
import Derived.Deep.RegionLaw
namespace Go.Proofs.Ytldillhgpjmjpaa
open Go.ChangeShapes Go.WideShapes Go.ChangeAt Go.RowKit Go.Sort
set_option linter.unusedVariables false

/-- What bind comes to. -/
def BDid (L : List Rw) (w : World) (e : Ending) (w' : World) : Prop :=
  ∃ g mb k D, e = .returned (ptr g) ∧ Bnd w' w.heap.size g L L.length (runM L L.length).1 (runM L L.length).2.1 (runM L L.length).2.2 mb k D ∧ Below w.heap.size w w'
/-- What the loop of bind goes by. -/
structure BRel (w0 : World) (L : List Rw) (g mb : Nat) (i : Nat) (wr : World) (k : Nat) (D : DataW Unit) : Prop where
  ly : Bnd wr w0.heap.size g L i (runM L i).1 (runM L i).2.1 (runM L i).2.2 mb k D
  me : Memo L (runM L i).1 i D
  kb : k ≤ i
  bl : Below w0.heap.size w0 wr

/-- A row more. -/
theorem BndV.more {w5 w6 : World} {base g : Nat} {L : List Rw} {i : Nat} {st : List Nat} {lf : Nat → Nat} {bs : List Bd} {mb k : Nat} {D : DataW Unit} {vR vO vB : Value} (h : BndV w5 base g L i st lf bs mb k D vR vO vB) {gR cR : Nat} {cells : List Value} (hc : wcell L lf i = cells)
    (hk : Kept (fun j => vR.ownBlock = some j) w5 w6) (ho : w6.ownsRow base 53 5 (.slice (some ⟨gR, 0, none⟩) (i + 1) cR) (i + 1) (wcells L lf i ++ cells)) :
    BndV (w6.setCell ⟨g, 0, none⟩ (.slice (some ⟨gR, 0, none⟩) (i + 1) cR)) base g L (i + 1) st lf bs mb k D (.slice (some ⟨gR, 0, none⟩) (i + 1) cR) vO vB := by
  have H6 := hk.holds h.par (fun e => (h.apR e).1 rfl)
  refine h.putR (M := fun j => j = g ∨ vR.ownBlock = some j) ((hk.mono (fun _ _ e => Or.inr e)).trans (Kept.set (fun j => j = g ∨ vR.ownBlock = some j) w6 ⟨g, 0, none⟩ _ (Or.inl rfl)) (fun _ _ => id)) (fun _ e => e) ?_ ?_
  · have := H6.set 0 (.slice (some ⟨gR, 0, none⟩) (i + 1) cR)
    simpa using this
  · rw [wcells_succ, hc]
    exact (Kept.set (fun j => j = g) w6 ⟨g, 0, none⟩ _ rfl).own ho (fun j hj e => by
      subst e
      exact own_holds_ne ho H6 (by decide) hj)
theorem BndV.drew {w : World} {base g : Nat} {L : List Rw} {i : Nat} {st : List Nat} {lf : Nat → Nat} {bs : List Bd} {mb k : Nat} {D : DataW Unit} {vR vO vB : Value} (h : BndV w base g L i st lf bs mb k D vR vO vB) : BndV w.drew base g L i st lf bs mb k D vR vO vB := h.under ((Below.refl _ w).drew)

set_option maxHeartbeats 8000000 in
theorem bind_any (A : Option Addr) (c : Nat) (L : List Rw) (hl : L.length ≤ 600) (hm : ∀ r ∈ L, (Lit.int .u8 r.m).wf = true) (w : World) (h : Rdc w w.heap.size A (rcells L)) :
    Calls Try.prog 17 #[.slice A L.length c] w (BDid L w) := by
  obtain ⟨i0, hi0, hz0, hz1, hz2⟩ := info_parts Try.info53
  have HM := Lib.hid hm
  have HR := Lib.hid h
  have hmm := @run_makeMap Try.prog
  clear h hm
  go_enter Try.func17, Try.ntmps17
  go_wp2_with (at_make; refine wpList_make_own _ rfl _ _ 37 rfl w.heap.size 53 i0 (.agg #[.int .u8 0, .int .i64 0, .bool false, .bool false, .int .i64 0]) 5 Try.underlying37 hi0 hz0 hz1 .i64 .i64 _ L.length rfl rfl rfl (by rw [hz2]; omega) (by unfold maxLen; omega) (Nat.le_refl _) ?_)
  intro w1 hown hgrow
  have K1 : Hid (Kept (fun _ => False) w w1) := Kept.grown _ hgrow (fun k hk => by cases hk)
  have HO1 := Lib.hid hown
  have z1 := hgrow.size
  have hz1' : w.heap.size < w1.heap.size := (own_block_ge hown _ rfl).2
  clear hown hgrow z1
  obtain ⟨w3, hw3⟩ : ∃ w3, w3 = (w1.alloc (.map #[] 0)).alloc (.cells #[.slice (some ⟨w.heap.size, 0, none⟩) 0 L.length, .slice none 0 0, .map (some w1.heap.size), .slice none 0 0] 41) := ⟨_, rfl⟩
  have V3 : Hid (Bnd w3 w.heap.size (w1.heap.size + 1) L 0 [] (fun i => num (rw L i)) [] w1.heap.size 0 (.map [])) := by
    have hm1 : (w1.alloc (.map #[] 0)).ownsMap Try.prog 60 (plainElem (H := Unit) Try.prog 3) w1.heap.size 0 (.map []) := World.ownsMap_made _ _ _ _
    have hz : (w1.alloc (.map #[] 0)).heap.size = w1.heap.size + 1 := by simp
    have hh := Holds.made (w1.alloc (.map #[] 0)) 41 #[.slice (some ⟨w.heap.size, 0, none⟩) 0 L.length, .slice none 0 0, .map (some w1.heap.size), .slice none 0 0]
    rw [hz, ← hw3] at hh
    refine ⟨_, _, _, ⟨by omega, hh, ?_, World.ownsRow_nil _ _ _ _, World.ownsRow_nil _ _ _ _, by omega, ?_⟩⟩
    · rw [hw3]; exact (HO1.out.alloc _).alloc _
    · rw [hw3]; exact hm1.alloc _
  have B3 : Hid (Below w.heap.size w w3) := by
    show Below _ _ _
    rw [hw3]
    exact ((K1.out.below (Nat.le_refl _) (fun _ h => h.elim)).alloc (by omega) _).alloc (by simp; omega) _
  go_wp2_with fail
  rw [← hw3]
  clear hw3 HO1 K1
  obtain ⟨g, hg⟩ : ∃ g, g = w1.heap.size + 1 := ⟨_, rfl⟩
  obtain ⟨mb, hmb⟩ : ∃ mb, mb = w1.heap.size := ⟨_, rfl⟩
  rw [← hg, ← hmb] at V3
  rw [← hg]
  clear hg hmb hz1'
  go_loopw [14] (fun v wr => ∃ (i k : Nat) (D : DataW Unit), v = .int .i64 i ∧ i ≤ L.length ∧ BRel w L g mb i wr k D) (fun v _ => L.length - (intOf v).toNat)
  case atStart => exact ⟨0, 0, .map [], rfl, Nat.zero_le _, ⟨V3.out, Memo.start L, Nat.le_refl _, B3.out⟩⟩
  case round =>
    obtain ⟨i, k, D, rfl, hi, hr⟩ := hrel
    have HB := Lib.hid hr
    clear V3 B3
    by_cases hlt : i < L.length
    · obtain ⟨b, o, rfl, hb, r0, r1, r2, r3⟩ := (HR.out.below hr.bl).run (List.getElem?_eq_getElem hlt)
      have hrw : rw L i = L[i] := by unfold rw; simp [List.getD, List.getElem?_eq_getElem hlt]
      rw [← hrw] at r0 r1 r2 r3
      have hmi : (Lit.int .u8 (rw L i).m).wf = true := by rw [hrw]; exact HM.out _ (List.getElem_mem hlt)
      obtain ⟨vR, vO, vB, h⟩ := hr.ly
      have HV := Lib.hid h
      have hg := h.par.lt
      have hgb := h.gb
      have g0 : wr.cell? ⟨g, 0, none⟩ = some vR := h.par.at 0
      have gf : wr.frozen? ⟨g, 0, none⟩ = false := h.par.soft 0
      have hkb := hr.kb
      obtain ⟨AR, cR, hvR⟩ := own_sl h.rows
      subst hvR
      have HMk : Hid (∀ W, Calls Try.prog 20 #[.agg #[.int .u8 (rw L i).m, .int .i64 (rw L i).n, .bool (rw L i).o, .bool (rw L i).c]] W fun e w' => e = .returned (.int .i64 (num (rw L i))) ∧ Below W.heap.size W w') := fun W => marks_any (rw L i) W
      have HNg : Hid (∀ j, (Value.slice AR i cR).ownBlock = some j → j ≠ g) := fun j hj => (h.apR hj).1
      obtain ⟨N, hN⟩ : ∃ N, N = num (rw L i) := ⟨_, rfl⟩
      rw [← hN] at HMk
      obtain ⟨m, hmm⟩ : ∃ m, m = (rw L i).m := ⟨_, rfl⟩
      obtain ⟨nn, hnn⟩ : ∃ nn, nn = (rw L i).n := ⟨_, rfl⟩
      obtain ⟨oo, hoo⟩ : ∃ oo, oo = (rw L i).o := ⟨_, rfl⟩
      obtain ⟨cc, hcc⟩ : ∃ cc, cc = (rw L i).c := ⟨_, rfl⟩
      rw [← hmm] at r0 HMk
      rw [← hnn] at r1 HMk
      rw [← hoo] at r2 HMk
      rw [← hcc] at r3 HMk
      have HX : Hid (wcell L (runM L i).2.1 i = [.int .u8 m, .int .i64 nn, .bool oo, .bool cc, .int .i64 N]) := by
        show _ = _
        unfold wcell
        rw [run_far L i i (Nat.le_refl _), hmm, hnn, hoo, hcc, hN]
      clear hr h hN hmm hnn hoo hcc hrw
      go_wp2_with fail
      obtain ⟨w4, hw4⟩ : ∃ w4, w4 = wr.alloc (.cells #[.int .u8 m, .int .i64 nn, .bool oo, .bool cc] 35) := ⟨_, rfl⟩
      obtain ⟨bt, hbt⟩ : ∃ bt, bt = wr.heap.size := ⟨_, rfl⟩
      have hh4 : Holds w4 bt 35 #[.int .u8 m, .int .i64 nn, .bool oo, .bool cc] := by rw [hw4, hbt]; exact Holds.made wr 35 _
      have hb4 : Below wr.heap.size wr w4 := by rw [hw4]; exact (Below.refl _ _).alloc (Nat.le_refl _) _
      have B4 := Lib.hid hb4
      have H4 := Lib.hid hh4
      have hg4 : g < w4.heap.size := by have := hb4.size; omega
      have hbtl : bt < w4.heap.size := hh4.lt
      have g04 := (hb4.cell (p := ⟨g, 0, none⟩) hg).trans g0
      have gf4 : w4.frozen? ⟨g, 0, none⟩ = false := (HV.out.under hb4).par.soft 0
      have s0 : w4.cell? ⟨bt, 0, none⟩ = some (.int .u8 m) := hh4.at 0
      have s1 : w4.cell? ⟨bt, 1, none⟩ = some (.int .i64 nn) := hh4.at 1
      have s2 : w4.cell? ⟨bt, 2, none⟩ = some (.bool oo) := hh4.at 2
      have s3 : w4.cell? ⟨bt, 3, none⟩ = some (.bool cc) := hh4.at 3
      have ne1 : bt ≠ g := by omega
      have ne2 : g ≠ bt := by omega
      rw [← hw4, ← hbt]
      clear hw4 hh4 hb4 r0 r1 r2 r3 g0 gf hbt
      have hone : ∀ u ∈ [Value.int .u8 m, .int .i64 nn, .bool oo, .bool cc, .int .i64 N], u.oneCell' = true := by
        intro u hu
        simp at hu
        rcases hu with rfl | rfl | rfl | rfl | rfl <;> rfl
      have hmax : i + 1 ≤ maxLen := by unfold maxLen; omega
      have hbyt : (i + 1) * 32 ≤ 140737488355328 := by omega
      go_cut [] from 19 to 31 (fun wx => ∃ gR cR', BndV wx w.heap.size g L (i + 1) (runM L i).1 (runM L i).2.1 (runM L i).2.2 mb k D (.slice (some ⟨gR, 0, none⟩) (i + 1) cR') vO vB ∧ Below w.heap.size wr wx)
      case first =>
        go_region_law (first
            | (refine step_append_lies _ rfl _ _ 37 rfl w.heap.size 53 i0 (.agg #[.int .u8 0, .int .i64 0, .bool false, .bool false, .int .i64 0]) 5 32 Try.underlying37 hi0 hz0 hz1 hz2 rfl (by decide) (.slice AR i cR) i (wcells L (runM L i).2.1 i) rfl (R5.out.alloc _) ⟨w5.heap.size, 0, none⟩ 1 1 [.int .u8 m, .int .i64 nn, .bool oo, .bool cc, .int .i64 N] rfl rfl (World.news_of_block (heap_alloc_new _ _)) hone (by decide) hmax hbyt (hsz5 _) _ rfl ?_; intro gR cR' w6 hown6 hgrow6 hat6 hlt6;
               have K6 : Hid (Kept (fun j => (Value.slice AR i cR).ownBlock = some j) w5 w6) := ((Kept.alloc _ w5 _).trans (Kept.grown _ hgrow6 (fun _ e => e)) (fun _ _ => id));
               have HO6 := Lib.hid hown6;
               have H6 := Lib.hid (K6.out.holds V5.out.par (fun e => HNg.out g e rfl));
               have H7 := Lib.hid (K6.out.holds (H4.out.under B5.out hbtl) (fun e => own_holds_ne V5.out.rows (H4.out.under B5.out hbtl) (by decide) e));
               have u0 : w6.cell? ⟨bt, 0, none⟩ = some (.int .u8 m) := H7.out.at 0; have u1 : w6.cell? ⟨bt, 1, none⟩ = some (.int .i64 nn) := H7.out.at 1; have u2 : w6.cell? ⟨bt, 2, none⟩ = some (.bool oo) := H7.out.at 2; have u3 : w6.cell? ⟨bt, 3, none⟩ = some (.bool cc) := H7.out.at 3;
               have g06 : w6.cell? ⟨g, 0, none⟩ = some (.slice AR i cR) := H6.out.at 0; have gf6 : w6.frozen? ⟨g, 0, none⟩ = false := H6.out.soft 0; clear hown6 hgrow6 hat6)
            | (go_simp; go_at_call 20; ((with_reducible refine (HMk.out _).mono ?_)); rintro e w5 ⟨rfl, hb5⟩; have hx : Below w4.heap.size w4 w5 := (Below.refl w4.heap.size w4).drew.trans hb5; have B5 := Lib.hid hx; have t0 := (hx.cell (p := ⟨bt, 0, none⟩) hbtl).trans s0; have t1 := (hx.cell (p := ⟨bt, 1, none⟩) hbtl).trans s1; have t2 := (hx.cell (p := ⟨bt, 2, none⟩) hbtl).trans s2; have t3 := (hx.cell (p := ⟨bt, 3, none⟩) hbtl).trans s3; have g05 := (hx.cell (p := ⟨g, 0, none⟩) hg4).trans g04; have hbt5 : bt < w5.heap.size := Nat.lt_of_lt_of_le hbtl hx.size; have hg5 : g < w5.heap.size := Nat.lt_of_lt_of_le hg4 hx.size; have V5 := Lib.hid ((HV.out.under B4.out).under hx); have R5 := Lib.hid V5.out.rows; have hsz5 : ∀ ob : Obj, w.heap.size ≤ (w5.alloc ob).heap.size := (fun ob => Nat.le_trans hgb (Nat.le_trans (Nat.le_of_lt hg5) (by rw [World.size_alloc]; first | done | exact Nat.le_succ _))); clear hx hb5))
        all_goals
          go_wp2_with fail
          go_meet
          first
            | exact ⟨gR, cR', V5.out.more HX.out K6.out HO6.out, ((((B4.out.mono (by omega)).trans (B5.out.mono (by omega))).trans (K6.out.below (by omega) (fun j hj => V5.out.ge.1 j hj))).setCell hgb _)⟩
            | exact ⟨gR, cR', (V5.out.more HX.out K6.out HO6.out).drew, ((((B4.out.mono (by omega)).trans (B5.out.mono (by omega))).trans (K6.out.below (by omega) (fun j hj => V5.out.ge.1 j hj))).setCell hgb _).drew⟩
      case rest =>
        obtain ⟨gR, cR', v6, b6⟩ := hcut
        have hok := run_ok L i
        have hlen := run_len L 601 i (by omega)
        have HCl := Lib.hid (close_any _ w.heap.size g L (i + 1) (runM L i).1 (runM L i).2.1 (runM L i).2.2 mb k D ⟨_, _, _, v6⟩ i (by omega) (by omega) (by omega) (by have : i * 602 ≤ 600 * 602 := Nat.mul_le_mul_right _ (by omega); omega) hok HB.out.me hmi _ rfl)
        have B6 := Lib.hid b6
        obtain ⟨R, hR⟩ : ∃ R, R = clsM L i ((runM L i).1, (runM L i).2.1, (runM L i).2.2) := ⟨_, rfl⟩
        rw [← hR] at HCl
        have HRR : Hid (runM L (i + 1) = (if (rw L i).o = true ∧ ¬ R.2.1 i = 0 then i :: R.1 else R.1, R.2.1, (runM L i).2.2 ++ R.2.2)) := by
          show runM L (i + 1) = _
          rw [hR]
          rfl
        clear v6 b6 hok hlen hR
        go_wp2_with fail
        refine (HCl.out).mono ?_
        rintro e w7 ⟨rfl, k7, D7, hk7, hb7, hok7, hme7, hB7⟩
        obtain ⟨S, hS⟩ : ∃ S, S = if (rw L i).o = true ∧ ¬ R.2.1 i = 0 then i :: R.1 else R.1 := ⟨_, rfl⟩
        have HOp := Lib.hid (open_any w7 w.heap.size g L (i + 1) R.1 R.2.1 _ mb k7 D7 hb7 i (by omega) (by omega) (by have := ok_len hok7; omega) S hS)
        have HMe : Hid (Memo L S (i + 1) D7) := by
          show Memo _ _ _ _
          rw [hS]
          split
          · exact hme7.push.up (by omega)
          · exact hme7.up (by omega)
        have HSS : Hid (runM L (i + 1) = (S, R.2.1, (runM L i).2.2 ++ R.2.2)) := by
          show runM L (i + 1) = _
          rw [HRR.out, hS]
        have B7 := Lib.hid hB7
        clear hb7 hok7 hme7 hB7 hS HCl HRR
        go_wp2_with fail
        refine (HOp.out).mono ?_
        rintro e w8 ⟨rfl, hb8, hB8⟩
        have HB8 := Lib.hid (And.intro hb8 hB8)
        clear hb8 hB8 HOp
        go_wp2_with fail
        go_roundw
        case rel =>
          refine ⟨i + 1, k7, D7, by go_num, by omega, ?_, ?_, by omega, (((HB.out.bl).trans B6.out).trans B7.out).trans HB8.out.2⟩
          · rw [HSS.out]; exact HB8.out.1
          · rw [HSS.out]; exact HMe.out
        case measure => simp [intOf]; omega
    · have hi2 : i = L.length := by omega
      subst hi2
      go_wp2_with fail
      go_ret
      exact ⟨g, mb, k, D, rfl, HB.out.ly, HB.out.bl⟩
end Go.Proofs.Ytldillhgpjmjpaa
