/-
  PROVED: how the program's binder lies in memory, and that it lies so behind stores and appends of its rows. Conditions: as each says.
-/
import Derived.Test.YtldillhgpjmjpaaKeys
import Derived.Laws.OwnMore
import Derived.Deep.AppendLies
import Derived.BigRegion
namespace Go.Proofs.Ytldillhgpjmjpaa
open Go.ChangeShapes Go.WideShapes Go.ChangeAt Go.RowKit Go.Sort
set_option linter.unusedVariables false

abbrev ptr (b : Nat) : Value := .pointer (some ⟨b, 0, none⟩)
theorem Try.info53 : (Try.prog.info? 53).map (fun i => (i.zero, i.size, i.bytes)) = some (some (.agg #[.int .u8 0, .int .i64 0, .bool false, .bool false, .int .i64 0]), 5, 32) := by kernel_rfl
theorem Try.info45 : (Try.prog.info? 45).map (fun i => (i.zero, i.size, i.bytes)) = some (some (.agg #[.int .i64 0, .int .i64 0, .int .i64 0]), 3, 24) := by kernel_rfl

def wcell (L : List Rw) (lf : Nat → Nat) (i : Nat) : List Value := [.int .u8 (rw L i).m, .int .i64 (rw L i).n, .bool (rw L i).o, .bool (rw L i).c, .int .i64 (lf i)]
def wcells (L : List Rw) (lf : Nat → Nat) (n : Nat) : List Value := (List.range n).flatMap (wcell L lf)
theorem wcell_len (L : List Rw) (lf : Nat → Nat) (i : Nat) : (wcell L lf i).length = 5 := rfl
theorem wcells_len (L : List Rw) (lf : Nat → Nat) (n : Nat) : (wcells L lf n).length = n * 5 := by unfold wcells; rw [fm_len (wcell_len L lf)]; simp
theorem wcells_at (L : List Rw) (lf : Nat → Nat) (n i j : Nat) (hi : i < n) (hj : j < 5) : (wcells L lf n)[i * 5 + j]? = (wcell L lf i)[j]? := fm_at (wcell_len L lf) _ _ _ _ (by simp [hi]) hj
theorem wcells_succ (L : List Rw) (lf : Nat → Nat) (n : Nat) : wcells L lf (n + 1) = wcells L lf n ++ wcell L lf n := by simp [wcells, List.range_succ]
theorem wcell_one (L : List Rw) (lf : Nat → Nat) (i : Nat) : ∀ u ∈ wcell L lf i, u.oneCell' = true := by
  intro u hu
  simp [wcell] at hu
  rcases hu with rfl | rfl | rfl | rfl | rfl <;> rfl
theorem wcells_set (L : List Rw) (lf : Nat → Nat) (n i v : Nat) (hi : i < n) : (wcells L lf n).set (i * 5 + 4) (.int .i64 v) = wcells L (upd lf i v) n := by
  apply List.ext_getElem?
  intro j
  by_cases hj : j < n * 5
  · obtain ⟨a, b, rfl, hb⟩ : ∃ a b, j = a * 5 + b ∧ b < 5 := ⟨j / 5, j % 5, by omega, by omega⟩
    have ha : a < n := by omega
    rw [wcells_at L (upd lf i v) n a b ha hb]
    by_cases e : i * 5 + 4 = a * 5 + b
    · obtain ⟨rfl, rfl⟩ : i = a ∧ b = 4 := ⟨by omega, by omega⟩
      rw [List.getElem?_set_self (by rw [wcells_len]; omega)]
      simp [wcell, upd_same]
    · rw [List.getElem?_set_ne e, wcells_at L lf n a b ha hb]
      by_cases e2 : a = i
      · subst e2
        have : b = 0 ∨ b = 1 ∨ b = 2 ∨ b = 3 := by omega
        rcases this with rfl | rfl | rfl | rfl <;> rfl
      · unfold wcell
        rw [upd_other _ _ _ _ e2]
  · rw [List.getElem?_eq_none (by rw [List.length_set, wcells_len]; omega), List.getElem?_eq_none (by rw [wcells_len]; omega)]

/-- The binder in the block g: the first n rows. -/
structure BndV (w : World) (base g : Nat) (L : List Rw) (n : Nat) (st : List Nat) (lf : Nat → Nat) (bs : List Bd) (mb k : Nat) (D : DataW Unit) (vR vO vB : Value) : Prop where
  gb : base ≤ g
  par : Holds w g 41 #[vR, vO, .map (some mb), vB]
  rows : w.ownsRow base 53 5 vR n (wcells L lf n)
  opn : w.ownsRow base 3 1 vO st.length (ints st.reverse)
  bnd : w.ownsRow base 45 3 vB bs.length (bcells bs)
  mbb : base ≤ mb
  map : w.ownsMap Try.prog 60 (plainElem Try.prog 3) mb k D
def Bnd (w : World) (base g : Nat) (L : List Rw) (n : Nat) (st : List Nat) (lf : Nat → Nat) (bs : List Bd) (mb k : Nat) (D : DataW Unit) : Prop := ∃ vR vO vB, BndV w base g L n st lf bs mb k D vR vO vB

theorem own_block {w : World} {base e size n : Nat} {v : Value} {xs : List Value} (h : w.ownsRow base e size v n xs) : ∀ k, v.ownBlock = some k → ∃ cs, Holds w k e cs := by
  intro k hk
  rcases h.2 with ⟨rfl, _⟩ | ⟨g1, cap, cur, rfl, hb, h1, r⟩
  · simp [Value.ownBlock] at hk
  · simp [Value.ownBlock] at hk
    subst hk
    exact ⟨cur, h1⟩
theorem map_block {w : World} {P : Program} {kt : TypeId} {R : Value → Option (DataW Unit × List MemPlace)} {b n : Nat} {D : DataW Unit} (h : w.ownsMap P kt R b n D) {e : TypeId} {cs : Array Value} : ¬ Holds w b e cs := by
  obtain ⟨es, clock, hb, _⟩ := h
  intro hh
  unfold Holds at hh
  rw [hb] at hh
  cases hh
theorem map_kept {w w' : World} {P : Program} {kt : TypeId} {R : Value → Option (DataW Unit × List MemPlace)} {b n : Nat} {D : DataW Unit} (h : w.ownsMap P kt R b n D) (hb : w'.heap[b]? = w.heap[b]?) : w'.ownsMap P kt R b n D := by
  obtain ⟨es, clock, h1, r⟩ := h
  exact ⟨es, clock, hb.trans h1, r⟩

section
variable {w w' : World} {base g : Nat} {L : List Rw} {n : Nat} {st : List Nat} {lf : Nat → Nat} {bs : List Bd} {mb k : Nat} {D : DataW Unit} {vR vO vB : Value}
theorem BndV.apR (h : BndV w base g L n st lf bs mb k D vR vO vB) {i : Nat} (hi : vR.ownBlock = some i) : i ≠ g ∧ vO.ownBlock ≠ some i ∧ vB.ownBlock ≠ some i ∧ i ≠ mb := by
  obtain ⟨cs, hh⟩ := own_block h.rows i hi
  refine ⟨fun e => ?_, own_type h.rows h.opn (by decide) i hi, own_type h.rows h.bnd (by decide) i hi, fun e => ?_⟩
  · subst e; have := hh.type h.par; cases this
  · subst e; exact map_block h.map hh
theorem BndV.apO (h : BndV w base g L n st lf bs mb k D vR vO vB) {i : Nat} (hi : vO.ownBlock = some i) : i ≠ g ∧ vR.ownBlock ≠ some i ∧ vB.ownBlock ≠ some i ∧ i ≠ mb := by
  obtain ⟨cs, hh⟩ := own_block h.opn i hi
  refine ⟨fun e => ?_, own_type h.opn h.rows (by decide) i hi, own_type h.opn h.bnd (by decide) i hi, fun e => ?_⟩
  · subst e; have := hh.type h.par; cases this
  · subst e; exact map_block h.map hh
theorem BndV.apB (h : BndV w base g L n st lf bs mb k D vR vO vB) {i : Nat} (hi : vB.ownBlock = some i) : i ≠ g ∧ vR.ownBlock ≠ some i ∧ vO.ownBlock ≠ some i ∧ i ≠ mb := by
  obtain ⟨cs, hh⟩ := own_block h.bnd i hi
  refine ⟨fun e => ?_, own_type h.bnd h.rows (by decide) i hi, own_type h.bnd h.opn (by decide) i hi, fun e => ?_⟩
  · subst e; have := hh.type h.par; cases this
  · subst e; exact map_block h.map hh
theorem BndV.gm (h : BndV w base g L n st lf bs mb k D vR vO vB) : mb ≠ g := by
  intro e
  subst e
  exact map_block h.map h.par
theorem BndV.under (h : BndV w base g L n st lf bs mb k D vR vO vB) (hb : Below w.heap.size w w') : BndV w' base g L n st lf bs mb k D vR vO vB :=
  ⟨h.gb, h.par.under hb h.par.lt, own_below h.rows hb, own_below h.opn hb, own_below h.bnd hb, h.mbb, map_kept h.map (hb.block mb h.map.lt)⟩
theorem Bnd.under (h : Bnd w base g L n st lf bs mb k D) (hb : Below w.heap.size w w') : Bnd w' base g L n st lf bs mb k D := by
  obtain ⟨vR, vO, vB, h⟩ := h
  exact ⟨vR, vO, vB, h.under hb⟩
/-- The rows that may be found are others. -/
theorem BndV.putO (h : BndV w base g L n st lf bs mb k D vR vO vB) {M : Nat → Prop} (hk : Kept M w w') (hM : ∀ i, M i → i = g ∨ vO.ownBlock = some i) {vO' : Value} {st' : List Nat} (hp : Holds w' g 41 #[vR, vO', .map (some mb), vB]) (ho : w'.ownsRow base 3 1 vO' st'.length (ints st'.reverse)) :
    BndV w' base g L n st' lf bs mb k D vR vO' vB := by
  refine ⟨h.gb, hp, hk.own h.rows ?_, ho, hk.own h.bnd ?_, h.mbb, map_kept h.map (hk.block mb h.map.lt ?_)⟩
  · intro i hi hm
    rcases hM i hm with e | e
    · exact (h.apR hi).1 e
    · exact (h.apR hi).2.1 e
  · intro i hi hm
    rcases hM i hm with e | e
    · exact (h.apB hi).1 e
    · exact (h.apB hi).2.2.1 e
  · intro hm
    rcases hM mb hm with e | e
    · exact h.gm e
    · exact (h.apO e).2.2.2 rfl
/-- The bonds are others. -/
theorem BndV.putB (h : BndV w base g L n st lf bs mb k D vR vO vB) {M : Nat → Prop} (hk : Kept M w w') (hM : ∀ i, M i → i = g ∨ vB.ownBlock = some i) {vB' : Value} {bs' : List Bd} (hp : Holds w' g 41 #[vR, vO, .map (some mb), vB']) (ho : w'.ownsRow base 45 3 vB' bs'.length (bcells bs')) :
    BndV w' base g L n st lf bs' mb k D vR vO vB' := by
  refine ⟨h.gb, hp, hk.own h.rows ?_, hk.own h.opn ?_, ho, h.mbb, map_kept h.map (hk.block mb h.map.lt ?_)⟩
  · intro i hi hm
    rcases hM i hm with e | e
    · exact (h.apR hi).1 e
    · exact (h.apR hi).2.2.1 e
  · intro i hi hm
    rcases hM i hm with e | e
    · exact (h.apO hi).1 e
    · exact (h.apO hi).2.2.1 e
  · intro hm
    rcases hM mb hm with e | e
    · exact h.gm e
    · exact (h.apB e).2.2.2 rfl
/-- The rows are others. -/
theorem BndV.putR (h : BndV w base g L n st lf bs mb k D vR vO vB) {M : Nat → Prop} (hk : Kept M w w') (hM : ∀ i, M i → i = g ∨ vR.ownBlock = some i) {vR' : Value} {n' : Nat} {lf' : Nat → Nat} (hp : Holds w' g 41 #[vR', vO, .map (some mb), vB]) (ho : w'.ownsRow base 53 5 vR' n' (wcells L lf' n')) :
    BndV w' base g L n' st lf' bs mb k D vR' vO vB := by
  refine ⟨h.gb, hp, ho, hk.own h.opn ?_, hk.own h.bnd ?_, h.mbb, map_kept h.map (hk.block mb h.map.lt ?_)⟩
  · intro i hi hm
    rcases hM i hm with e | e
    · exact (h.apO hi).1 e
    · exact (h.apO hi).2.1 e
  · intro i hi hm
    rcases hM i hm with e | e
    · exact (h.apB hi).1 e
    · exact (h.apB hi).2.1 e
  · intro hm
    rcases hM mb hm with e | e
    · exact h.gm e
    · exact (h.apR e).2.2.2 rfl
/-- The map is another. -/
theorem BndV.putM (h : BndV w base g L n st lf bs mb k D vR vO vB) {M : Nat → Prop} (hk : Kept M w w') (hM : ∀ i, M i → i = mb) {k' : Nat} {D' : DataW Unit} (ho : w'.ownsMap Try.prog 60 (plainElem Try.prog 3) mb k' D') :
    BndV w' base g L n st lf bs mb k' D' vR vO vB := by
  refine ⟨h.gb, hk.holds h.par (fun hm => h.gm (hM g hm).symm), hk.own h.rows ?_, hk.own h.opn ?_, hk.own h.bnd ?_, h.mbb, ho⟩
  · intro i hi hm; exact (h.apR hi).2.2.2 (hM i hm)
  · intro i hi hm; exact (h.apO hi).2.2.2 (hM i hm)
  · intro i hi hm; exact (h.apB hi).2.2.2 (hM i hm)
/-- Each block of its own lies at base or above. -/
theorem BndV.ge (h : BndV w base g L n st lf bs mb k D vR vO vB) : (∀ i, vR.ownBlock = some i → base ≤ i) ∧ (∀ i, vO.ownBlock = some i → base ≤ i) ∧ (∀ i, vB.ownBlock = some i → base ≤ i) :=
  ⟨fun i hi => (own_block_ge h.rows i hi).1, fun i hi => (own_block_ge h.opn i hi).1, fun i hi => (own_block_ge h.bnd i hi).1⟩
/-- One row's cells. -/
theorem BndV.row (h : BndV w base g L n st lf bs mb k D vR vO vB) {i : Nat} (hi : i < n) :
    ∃ q c, vR = .slice (some ⟨q, 0, none⟩) n c ∧ base ≤ q ∧ q < w.heap.size ∧ n ≤ c ∧ w.cell? ⟨q, i * 5, none⟩ = some (.int .u8 (rw L i).m) ∧ w.cell? ⟨q, i * 5 + 1, none⟩ = some (.int .i64 (rw L i).n) ∧ w.cell? ⟨q, i * 5 + 2, none⟩ = some (.bool (rw L i).o) ∧ w.cell? ⟨q, i * 5 + 3, none⟩ = some (.bool (rw L i).c) ∧ w.cell? ⟨q, i * 5 + 4, none⟩ = some (.int .i64 (lf i)) ∧ ∀ j, w.frozen? ⟨q, j, none⟩ = false := by
  obtain ⟨q, c, hv, hb, hq, hc, hat, hf⟩ := own_at h.rows (by omega)
  refine ⟨q, c, hv, hb, hq, hc, hat _ _ (wcells_at L lf n i 0 hi (by omega)), hat _ _ (wcells_at L lf n i 1 hi (by omega)), hat _ _ (wcells_at L lf n i 2 hi (by omega)), hat _ _ (wcells_at L lf n i 3 hi (by omega)), hat _ _ (wcells_at L lf n i 4 hi (by omega)), hf⟩
end
end Go.Proofs.Ytldillhgpjmjpaa
