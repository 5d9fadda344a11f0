/-
  PROVED: how the document's own pairs, marks left and dead rows lie in memory, and that they lie so behind stores and appends. Conditions: as each says.
-/
import Derived.Test.YtldillhgpjmjpaaSmall
import Derived.Test.YtldillhgpjmjpaaFindPure
import Derived.Test.YtldillhgpjmjpaaRunLen
import Derived.Laws.OwnMore
import Derived.Deep.AppendLies
namespace Go.Proofs.Ytldillhgpjmjpaa
open Go.ChangeShapes Go.WideShapes Go.ChangeAt Go.RowKit Go.Sort
set_option linter.unusedVariables false

theorem Try.info4 : (Try.prog.info? 4).map (fun i => (i.zero, i.size, i.bytes)) = some (some (.bool false), 1, 1) := by kernel_rfl
def lefts (lf : Nat → Nat) (n : Nat) : List Value := (List.range n).map fun i => Value.int .i64 (lf i : Int)
def deads (d : Nat → Bool) (n : Nat) : List Value := (List.range n).map fun i => Value.bool (d i)
theorem lefts_at (lf : Nat → Nat) (n i : Nat) (hi : i < n) : (lefts lf n)[i]? = some (.int .i64 (lf i)) := by simp [lefts, hi]
theorem deads_at (d : Nat → Bool) (n i : Nat) (hi : i < n) : (deads d n)[i]? = some (.bool (d i)) := by simp [deads, hi]
theorem lefts_succ (lf : Nat → Nat) (n : Nat) : lefts lf (n + 1) = lefts lf n ++ [.int .i64 (lf n)] := by simp [lefts, List.range_succ]
theorem lefts_set (lf : Nat → Nat) (n i v : Nat) (hi : i < n) : (lefts lf n).set i (.int .i64 v) = lefts (upd lf i v) n := by
  apply List.ext_getElem?
  intro j
  by_cases hj : j < n
  · rw [lefts_at _ _ _ hj]
    by_cases e : i = j
    · subst e
      rw [List.getElem?_set_self (by simp [lefts, hi]), upd_same]
    · rw [List.getElem?_set_ne e, lefts_at _ _ _ hj, upd_other _ _ _ _ (fun h => e h.symm)]
  · rw [List.getElem?_eq_none (by simp [lefts]; omega), List.getElem?_eq_none (by simp [lefts]; omega)]
def updB (d : Nat → Bool) (i : Nat) : Nat → Bool := fun j => if j = i then true else d j
theorem deads_set (d : Nat → Bool) (n i : Nat) (hi : i < n) : (deads d n).set i (.bool true) = deads (updB d i) n := by
  apply List.ext_getElem?
  intro j
  by_cases hj : j < n
  · rw [deads_at _ _ _ hj]
    by_cases e : i = j
    · subst e
      rw [List.getElem?_set_self (by simp [deads, hi])]
      simp [updB]
    · rw [List.getElem?_set_ne e, deads_at _ _ _ hj]
      unfold updB
      rw [if_neg (fun h => e h.symm)]
  · rw [List.getElem?_eq_none (by simp [deads]; omega), List.getElem?_eq_none (by simp [deads]; omega)]

/-- The document's own state: pairs, marks left (of the first m rows), dead rows. -/
structure SR (w0 wr : World) (n m : Nat) (P : List Bd) (lf : Nat → Nat) (d : Nat → Bool) (vP vL vD : Value) : Prop where
  oP : wr.ownsRow w0.heap.size 33 3 vP P.length (bcells P)
  oL : wr.ownsRow w0.heap.size 3 1 vL m (lefts lf m)
  oD : wr.ownsRow w0.heap.size 4 1 vD n (deads d n)
  bl : Below w0.heap.size w0 wr
section
variable {w0 wr w' : World} {n m : Nat} {P : List Bd} {lf : Nat → Nat} {d : Nat → Bool} {vP vL vD : Value}
theorem SR.under (h : SR w0 wr n m P lf d vP vL vD) (hb : Below wr.heap.size wr w') : SR w0 w' n m P lf d vP vL vD :=
  ⟨own_below h.oP hb, own_below h.oL hb, own_below h.oD hb, chain (Nat.le_refl _) h.bl hb⟩
theorem SR.putP (h : SR w0 wr n m P lf d vP vL vD) {vP' : Value} {P' : List Bd} (hk : Kept (fun j => vP.ownBlock = some j) wr w') (ho : w'.ownsRow w0.heap.size 33 3 vP' P'.length (bcells P')) : SR w0 w' n m P' lf d vP' vL vD :=
  ⟨ho, hk.own h.oL (fun j hj e => own_type h.oL h.oP (by decide) j hj e), hk.own h.oD (fun j hj e => own_type h.oD h.oP (by decide) j hj e), h.bl.trans (hk.below h.bl.size (fun j hj => (own_block_ge h.oP j hj).1))⟩
theorem SR.putL (h : SR w0 wr n m P lf d vP vL vD) {vL' : Value} {m' : Nat} {lf' : Nat → Nat} (hk : Kept (fun j => vL.ownBlock = some j) wr w') (ho : w'.ownsRow w0.heap.size 3 1 vL' m' (lefts lf' m')) : SR w0 w' n m' P lf' d vP vL' vD :=
  ⟨hk.own h.oP (fun j hj e => own_type h.oP h.oL (by decide) j hj e), ho, hk.own h.oD (fun j hj e => own_type h.oD h.oL (by decide) j hj e), h.bl.trans (hk.below h.bl.size (fun j hj => (own_block_ge h.oL j hj).1))⟩
theorem SR.putD (h : SR w0 wr n m P lf d vP vL vD) {vD' : Value} {d' : Nat → Bool} (hk : Kept (fun j => vD.ownBlock = some j) wr w') (ho : w'.ownsRow w0.heap.size 4 1 vD' n (deads d' n)) : SR w0 w' n m P lf d' vP vL vD' :=
  ⟨hk.own h.oP (fun j hj e => own_type h.oP h.oD (by decide) j hj e), hk.own h.oL (fun j hj e => own_type h.oL h.oD (by decide) j hj e), ho, h.bl.trans (hk.below h.bl.size (fun j hj => (own_block_ge h.oD j hj).1))⟩
/-- Where the marks that are left lie. -/
theorem SR.lat (h : SR w0 wr n m P lf d vP vL vD) (hm : 0 < m) : ∃ q c, vL = .slice (some ⟨q, 0, none⟩) m c ∧ q < wr.heap.size ∧ (∀ i, i < m → wr.cell? ⟨q, i, none⟩ = some (.int .i64 (lf i))) ∧ ∀ i, wr.frozen? ⟨q, i, none⟩ = false := by
  obtain ⟨q, c, hv, _, hq, _, hat, hf⟩ := own_at h.oL hm
  exact ⟨q, c, hv, hq, fun i hi => hat i _ (lefts_at lf m i hi), hf⟩
theorem SR.dat (h : SR w0 wr n m P lf d vP vL vD) (hn : 0 < n) : ∃ q c, vD = .slice (some ⟨q, 0, none⟩) n c ∧ q < wr.heap.size ∧ (∀ i, i < n → wr.cell? ⟨q, i, none⟩ = some (.bool (d i))) ∧ ∀ i, wr.frozen? ⟨q, i, none⟩ = false := by
  obtain ⟨q, c, hv, _, hq, _, hat, hf⟩ := own_at h.oD hn
  exact ⟨q, c, hv, hq, fun i hi => hat i _ (deads_at d n i hi), hf⟩
theorem SR.setL {q c : Nat} (h : SR w0 wr n m P lf d vP (.slice (some ⟨q, 0, none⟩) m c) vD) (i v : Nat) (hi : i < m) : SR w0 (wr.setCell ⟨q, i, none⟩ (.int .i64 v)) n m P (upd lf i v) d vP (.slice (some ⟨q, 0, none⟩) m c) vD := by
  obtain ⟨h1, h2⟩ := h.oL.stored i (.int .i64 (v : Int))
  refine h.putL (Kept.grown _ h2 (fun k e => e)) ?_
  rw [lefts_set lf m i v hi] at h1
  exact h1
theorem SR.setD {q c : Nat} (h : SR w0 wr n m P lf d vP vL (.slice (some ⟨q, 0, none⟩) n c)) (i : Nat) (hi : i < n) : SR w0 (wr.setCell ⟨q, i, none⟩ (.bool true)) n m P lf (updB d i) vP vL (.slice (some ⟨q, 0, none⟩) n c) := by
  obtain ⟨h1, h2⟩ := h.oD.stored i (.bool true)
  refine h.putD (Kept.grown _ h2 (fun k e => e)) ?_
  rw [deads_set d n i hi] at h1
  exact h1
end

/-- May this row be found? -/
def alv (L : List Rw) (d : Nat → Bool) (lf : Nat → Nat) (o : Nat) : Bool := (rw L o).o && !d o && decide (¬ lf o = 0)
/-- The document's own state at step c is the model's. -/
structure SOk (L : List Rw) (c : Nat) (st : List Nat) (lf : Nat → Nat) (d : Nat → Bool) : Prop where
  st : st = al (alv L d lf) c
  dd : ∀ k, c ≤ k → d k = false
  bd : ∀ i, lf i ≤ num (rw L i)
theorem SOk.start (L : List Rw) : SOk L 0 [] (fun i => num (rw L i)) (fun _ => false) := ⟨rfl, fun _ _ => rfl, fun _ => Nat.le_refl _⟩
theorem SOk.push {L : List Rw} {c : Nat} {st : List Nat} {lf : Nat → Nat} {d : Nat → Bool} (h : SOk L c st lf d) : SOk L (c + 1) (if (rw L c).o = true ∧ ¬ lf c = 0 then c :: st else st) lf d := by
  refine ⟨?_, fun k hk => h.dd k (by omega), h.bd⟩
  rw [al, ← h.st]
  have hd := h.dd c (Nat.le_refl _)
  unfold alv
  rw [hd]
  cases (rw L c).o with
  | false => simp
  | true =>
    by_cases hz : lf c = 0
    · simp [hz]
    · simp [hz]
/-- Behind one pair. -/
theorem SOk.pair {L : List Rw} {c : Nat} {st : List Nat} {lf : Nat → Nat} {d d' : Nat → Bool} (h : SOk L c st lf d) {o : Nat} (ho : o < c) (ha : alv L d lf o = true) (k : Nat) (hk : k ≤ lf o) (hkc : k ≤ lf c)
    (hd1 : ∀ j, o < j → j < c → d' j = true) (hd2 : ∀ j, j ≤ o → d' j = d j) (hd3 : ∀ j, c ≤ j → d' j = d j) :
    SOk L c (if lf o - k = 0 then al (alv L d lf) o else o :: al (alv L d lf) o) (upd (upd lf o (lf o - k)) c (lf c - k)) d' := by
  refine ⟨?_, fun j hj => (hd3 j hj).trans (h.dd j hj), ?_⟩
  · rw [al_after (p := alv L d lf) ho]
    · have e : alv L d' (upd (upd lf o (lf o - k)) c (lf c - k)) o = decide (¬ lf o - k = 0) := by
        unfold alv at ha ⊢
        simp only [Bool.and_eq_true, Bool.not_eq_true', decide_eq_true_eq] at ha
        rw [hd2 o (Nat.le_refl _), ha.1.1, ha.1.2, upd_other _ _ _ _ (by omega), upd_same]
        simp
      rw [e]
      by_cases hz : lf o - k = 0
      · simp [hz]
      · simp [hz]
    · intro j h1 h2
      unfold alv
      rw [hd1 j h1 h2]
      simp
    · intro j hj
      unfold alv
      rw [hd2 j (by omega), upd_other _ _ _ _ (by omega), upd_other _ _ _ _ (by omega)]
  · intro i
    have h1 := h.bd i
    simp only [upd]
    split
    · subst_vars; omega
    · split
      · subst_vars; omega
      · exact h1
theorem SOk.lfc {L : List Rw} {c : Nat} {st : List Nat} {lf : Nat → Nat} {d : Nat → Bool} (h : SOk L c st lf d) {i : Nat} (hi : 0 < lf i) : 1 ≤ (rw L i).n ∧ (rw L i).n ≤ 1048576 := num_pos (Nat.lt_of_lt_of_le hi (h.bd i))
/-- What the document looks for. -/
def cnd (L : List Rw) (d : Nat → Bool) (lf : Nat → Nat) (c o : Nat) : Bool := alv L d lf o && FF L c o
theorem SOk.find {L : List Rw} {c : Nat} {st : List Nat} {lf : Nat → Nat} {d : Nat → Bool} (h : SOk L c st lf d) : st.dropWhile (fun o => !FF L c o) = match fnd (cnd L d lf c) c with | none => [] | some o => o :: al (alv L d lf) o := by
  rw [h.st]
  exact al_drop _ _ _
end Go.Proofs.Ytldillhgpjmjpaa
