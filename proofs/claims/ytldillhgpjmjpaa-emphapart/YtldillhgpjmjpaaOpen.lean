/-
  PROVED: contract of the binder's open: a row that may open and has marks is put behind those that may be found. Conditions: the binder lies so.
-/
import Derived.Test.YtldillhgpjmjpaaBnd
namespace Go.Proofs.Ytldillhgpjmjpaa
open Go.ChangeShapes Go.WideShapes Go.ChangeAt Go.RowKit Go.Sort
set_option linter.unusedVariables false

set_option maxHeartbeats 4000000 in
theorem open_any (w : World) (base g : Nat) (L : List Rw) (n : Nat) (st : List Nat) (lf : Nat → Nat) (bs : List Bd) (mb k : Nat) (D : DataW Unit) (h : Bnd w base g L n st lf bs mb k D) (i : Nat) (hi : i < n) (hn : n ≤ 100000) (hst : st.length ≤ 100000) (S : List Nat) (hS : S = if (rw L i).o = true ∧ ¬ lf i = 0 then i :: st else st) :
    Calls Try.prog 22 #[ptr g, .int .i64 i] w fun e w' => e = .returned (.tuple #[]) ∧ Bnd w' base g L n S lf bs mb k D ∧ Below base w w' := by
  obtain ⟨i0, hi0, hz0, hz1, hz2⟩ := info_parts Try.info3
  obtain ⟨vR, vO, vB, h⟩ := h
  obtain ⟨q, c, hv, hqb, hq, hnc, c0, c1, c2, c3, c4, hf⟩ := h.row hi
  have HH := Lib.hid h
  have HV := Lib.hid hv
  have HS := Lib.hid hS
  have p0 : w.cell? ⟨g, 0, none⟩ = some (.slice (some ⟨q, 0, none⟩) n c) := by rw [← hv]; exact h.par.at 0
  have p1 : w.cell? ⟨g, 1, none⟩ = some vO := h.par.at 1
  have hg := h.par.lt
  have hgb := h.gb
  have HO := Lib.hid h.opn
  obtain ⟨AO, cO, hvO⟩ := own_sl h.opn
  have hne : ∀ j, vO.ownBlock = some j → j ≠ g := fun j hj => (h.apO hj).1
  have HN := Lib.hid hne
  clear h hv hS c0 c1 c3 hf hne
  cases ho : (rw L i).o with
  | false =>
    rw [ho] at c2
    have hSs : S = st := by rw [HS.out, ho]; simp
    subst hSs
    clear HS ho HO c4
    go_enter Try.func22, Try.ntmps22
    go_wp2_with fail
    go_end0
    exact ⟨rfl, ⟨vR, vO, vB, HH.out⟩, Below.refl _ _⟩
  | true =>
    rw [ho] at c2
    by_cases hz : lf i = 0
    · have hSs : S = st := by rw [HS.out, hz]; simp
      subst hSs
      rw [hz] at c4
      clear HS ho HO hz
      go_enter Try.func22, Try.ntmps22
      go_wp2_with fail
      go_end0
      exact ⟨rfl, ⟨vR, vO, vB, HH.out⟩, Below.refl _ _⟩
    · have hSs : S = i :: st := by rw [HS.out, if_pos ⟨ho, hz⟩]
      subst hSs
      obtain ⟨y, hy⟩ : ∃ y, y = lf i := ⟨_, rfl⟩
      rw [← hy] at c4
      have hy0 : 0 < y := by omega
      have hyz : (0 : Int) < (y : Int) := by omega
      have HVO := Lib.hid hvO
      subst hvO
      clear HS ho hz hy
      go_enter Try.func22, Try.ntmps22
      go_wp2_with (at_builtin; refine wpList_append_lies _ rfl _ _ 29 rfl base 3 i0 (.int .i64 0) 1 8 Try.underlying29 hi0 hz0 hz1 hz2 rfl (by decide) (.slice AO st.length cO) st.length (ints st.reverse) rfl (HO.out.alloc _) ⟨w.heap.size, 0, none⟩ 1 1 [.int .i64 i] rfl rfl (World.news_of_block (heap_alloc_new _ _)) (by intro u hu; simp at hu; subst hu; rfl) (by decide) (by unfold maxLen; omega) (by omega) (by simp; omega) _ rfl ?_)
      intro gO cO' w2 hown hgrow hat hlt
      have HW := Lib.hid hown
      have K2 : Hid (Kept (fun j => (Value.slice AO st.length cO).ownBlock = some j) w w2) := (Kept.alloc _ w _).trans (Kept.grown _ hgrow (fun _ e => e)) (fun _ _ => id)
      have H2 : Hid (Holds w2 g 41 #[vR, .slice AO st.length cO, .map (some mb), vB]) := K2.out.holds HH.out.par (fun e => HN.out g e rfl)
      have x1 : w2.cell? ⟨g, 1, none⟩ = some (.slice AO st.length cO) := H2.out.at 1
      have xf : w2.frozen? ⟨g, 1, none⟩ = false := H2.out.soft 1
      have B2 : Hid (Below base w w2) := K2.out.below (Nat.le_trans hgb (Nat.le_of_lt hg)) (fun j hj => HH.out.ge.2.1 j hj)
      clear hown hgrow hat
      go_wp2_with fail
      go_end0
      refine ⟨rfl, ⟨vR, .slice (some ⟨gO, 0, none⟩) (st.length + 1) cO', vB, ?_⟩, B2.out.setCell hgb _⟩
      refine HH.out.putO (M := fun j => j = g ∨ (Value.slice AO st.length cO).ownBlock = some j) ((K2.out.mono (fun _ _ e => Or.inr e)).trans (Kept.set _ w2 ⟨g, 1, none⟩ _ (Or.inl rfl)) (fun _ _ => id)) (fun _ e => e) ?_ ?_
      · have := H2.out.set 1 (.slice (some ⟨gO, 0, none⟩) (st.length + 1) cO')
        simpa using this
      · have h1 := (Kept.set (fun j => j = g) w2 ⟨g, 1, none⟩ (.slice (some ⟨gO, 0, none⟩) (st.length + 1) cO') rfl).own HW.out (fun j hj e => by
          subst e
          exact own_holds_ne HW.out H2.out (by decide) hj)
        simpa [ints] using h1
end Go.Proofs.Ytldillhgpjmjpaa
