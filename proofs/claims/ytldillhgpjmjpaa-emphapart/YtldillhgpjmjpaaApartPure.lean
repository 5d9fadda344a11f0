/-
  PROVED: the model's pairs of rows of one mark and, behind them, rows of another one. Conditions: as each says.
-/
import Derived.Test.YtldillhgpjmjpaaRunPure
namespace Go.Proofs.Ytldillhgpjmjpaa
set_option linter.unusedVariables false

def cmb (N : Nat) (f g : Nat → Nat) : Nat → Nat := fun i => if i < N then f i else g (i - N)
def shB (N : Nat) (b : Bd) : Bd := (b.1 + N, b.2.1 + N, b.2.2)
theorem cmb_lo {N : Nat} {f g : Nat → Nat} {i : Nat} (h : i < N) : cmb N f g i = f i := if_pos h
theorem cmb_hi (N : Nat) (f g : Nat → Nat) (i : Nat) : cmb N f g (i + N) = g i := by unfold cmb; rw [if_neg (by omega), Nat.add_sub_cancel]
theorem upd_cmb_lo {N : Nat} (f g : Nat → Nat) {i : Nat} (h : i < N) (v : Nat) : upd (cmb N f g) i v = cmb N (upd f i v) g := by
  funext j
  by_cases e : j = i
  · subst e; rw [upd_same, cmb_lo h, upd_same]
  · rw [upd_other _ _ _ _ e]
    by_cases hj : j < N
    · rw [cmb_lo hj, cmb_lo hj, upd_other _ _ _ _ e]
    · unfold cmb; rw [if_neg hj, if_neg hj]
theorem upd_cmb_hi (N : Nat) (f g : Nat → Nat) (i v : Nat) : upd (cmb N f g) (i + N) v = cmb N f (upd g i v) := by
  funext j
  by_cases hj : j < N
  · rw [upd_other _ _ _ _ (by omega), cmb_lo hj, cmb_lo hj]
  · obtain ⟨k, rfl⟩ : ∃ k, j = k + N := ⟨j - N, by omega⟩
    rw [cmb_hi]
    by_cases e : k = i
    · subst e; rw [upd_same, upd_same]
    · rw [upd_other _ _ _ _ (by omega), cmb_hi, upd_other _ _ _ _ e]
theorem dw_congr {p q : Nat → Bool} : ∀ (l : List Nat), (∀ x ∈ l, p x = q x) → l.dropWhile p = l.dropWhile q
  | [], _ => rfl
  | x :: l, h => by
    rw [List.dropWhile_cons, List.dropWhile_cons, h x (by simp), dw_congr l (fun y hy => h y (by simp [hy]))]
theorem closeM_lo {N : Nat} {F F' : Nat → Bool} (hF : ∀ o, o < N → F' o = F o) (g : Nat → Nat) {c : Nat} (hc : c < N) : ∀ (k : Nat) (st : List Nat) (lf : Nat → Nat), (∀ o ∈ st, o < N) →
    closeM F' c k st (cmb N lf g) = ((closeM F c k st lf).1, cmb N (closeM F c k st lf).2.1 g, (closeM F c k st lf).2.2) := by
  intro k
  induction k with
  | zero => intro st lf _; rfl
  | succ k ih =>
    intro st lf hst
    by_cases h0 : lf c = 0
    · rw [closeM_done (by rw [cmb_lo hc]; exact h0), closeM_done h0]
    · have hd' : st.dropWhile (fun o => !F' o) = st.dropWhile (fun o => !F o) := dw_congr st (fun x hx => by rw [hF x (hst x hx)])
      cases hd : st.dropWhile (fun o => !F o) with
      | nil => rw [closeM_none (hd'.trans hd), closeM_none hd]
      | cons o rest =>
        obtain ⟨a, e, _⟩ := dropWhile_sub (p := fun o => !F o) st
        rw [hd] at e
        have ho : o < N := hst o (by rw [e]; simp)
        rw [closeM_some (by rw [cmb_lo hc]; exact h0) (hd'.trans hd) k _ rfl, closeM_some h0 hd k _ rfl]
        rw [cmb_lo hc, cmb_lo ho, upd_cmb_lo _ _ ho, upd_cmb_lo _ _ hc]
        have hs : ∀ x ∈ (if lf o - min (lf o) (lf c) = 0 then rest else o :: rest), x < N := by
          intro x hx
          refine hst x ?_
          rw [e]
          split at hx
          · simp [hx]
          · rcases List.mem_cons.1 hx with rfl | hx
            · simp
            · simp [hx]
        rw [ih _ _ hs]
theorem dw_hi {N : Nat} {F F' : Nat → Bool} (hF : ∀ o, F' (o + N) = F o) (sX : List Nat) (hX : ∀ o ∈ sX, F' o = false) : ∀ (s : List Nat),
    (s.map (· + N) ++ sX).dropWhile (fun o => !F' o) = match s.dropWhile (fun o => !F o) with | [] => [] | o :: r => (o + N) :: (r.map (· + N) ++ sX)
  | [] => by
    have : ∀ l : List Nat, (∀ o ∈ l, F' o = false) → l.dropWhile (fun o => !F' o) = [] := by
      intro l
      induction l with
      | nil => intro _; rfl
      | cons x l ih => intro h; rw [List.dropWhile_cons, if_pos (by rw [h x (by simp)]; rfl)]; exact ih (fun y hy => h y (by simp [hy]))
    simpa using this sX hX
  | x :: s => by
    rw [List.map_cons, List.cons_append, List.dropWhile_cons, List.dropWhile_cons, hF x]
    cases F x with
    | true => simp
    | false => simpa using dw_hi hF sX hX s
theorem closeM_hi {N : Nat} {F F' : Nat → Bool} (hF : ∀ o, F' (o + N) = F o) (sX : List Nat) (hX : ∀ o ∈ sX, F' o = false) (f : Nat → Nat) (c : Nat) : ∀ (k : Nat) (s : List Nat) (lf : Nat → Nat),
    closeM F' (c + N) k (s.map (· + N) ++ sX) (cmb N f lf) = ((closeM F c k s lf).1.map (· + N) ++ sX, cmb N f (closeM F c k s lf).2.1, (closeM F c k s lf).2.2.map (shB N)) := by
  intro k
  induction k with
  | zero => intro s lf; rfl
  | succ k ih =>
    intro s lf
    by_cases h0 : lf c = 0
    · rw [closeM_done (by rw [cmb_hi]; exact h0), closeM_done h0]; rfl
    · have hd' := dw_hi hF sX hX s
      cases hd : s.dropWhile (fun o => !F o) with
      | nil =>
        rw [hd] at hd'
        rw [closeM_none hd', closeM_none hd]
        rfl
      | cons o rest =>
        rw [hd] at hd'
        have hd2 : (s.map (· + N) ++ sX).dropWhile (fun o => !F' o) = (o + N) :: (rest.map (· + N) ++ sX) := hd'
        rw [closeM_some (by rw [cmb_hi]; exact h0) hd2 k _ rfl, closeM_some h0 hd k _ rfl]
        rw [cmb_hi, cmb_hi, upd_cmb_hi, upd_cmb_hi]
        have hs : (if lf o - min (lf o) (lf c) = 0 then rest.map (· + N) ++ sX else (o + N) :: (rest.map (· + N) ++ sX)) = (if lf o - min (lf o) (lf c) = 0 then rest else o :: rest).map (· + N) ++ sX := by
          split <;> simp
        rw [hs, ih]
        rfl
theorem rw_lo (X Y : List Rw) (i : Nat) (h : i < X.length) : rw (X ++ Y) i = rw X i := by unfold rw; simp [List.getD, List.getElem?_append_left h]
theorem rw_hi (X Y : List Rw) (i : Nat) : rw (X ++ Y) (i + X.length) = rw Y i := by
  unfold rw
  simp only [List.getD]
  rw [List.getElem?_append_right (by omega), Nat.add_sub_cancel]
theorem run_lo (X Y : List Rw) : ∀ n, n ≤ X.length → runM (X ++ Y) n = ((runM X n).1, cmb X.length (runM X n).2.1 (fun i => num (rw Y i)), (runM X n).2.2)
  | 0, _ => by
    show ([], _, []) = _
    refine Prod.ext rfl (Prod.ext ?_ rfl)
    funext i
    show num (rw (X ++ Y) i) = cmb X.length (fun i => num (rw X i)) (fun i => num (rw Y i)) i
    unfold cmb
    by_cases h : i < X.length
    · rw [if_pos h, rw_lo X Y i h]
    · rw [if_neg h]
      obtain ⟨j, rfl⟩ : ∃ j, i = j + X.length := ⟨i - X.length, by omega⟩
      rw [rw_hi, Nat.add_sub_cancel]
  | n + 1, h => by
    have hn : n < X.length := by omega
    have hok := run_ok X n
    have hcls : clsM (X ++ Y) n (runM (X ++ Y) n) = ((clsM X n (runM X n)).1, cmb X.length (clsM X n (runM X n)).2.1 (fun i => num (rw Y i)), (clsM X n (runM X n)).2.2) := by
      rw [run_lo X Y n (by omega)]
      unfold clsM
      rw [rw_lo X Y n hn]
      split
      · exact closeM_lo (F := FF X n) (F' := FF (X ++ Y) n) (fun o ho => by unfold FF; rw [rw_lo X Y n hn, rw_lo X Y o ho]) (fun i => num (rw Y i)) hn ((runM X n).1.length + 1) (runM X n).1 (runM X n).2.1 (fun o ho => by have := (hok.mem o ho).1; omega)
      · rfl
    show stepM (X ++ Y) n (runM (X ++ Y) n) = ((stepM X n (runM X n)).1, cmb X.length (stepM X n (runM X n)).2.1 _, (stepM X n (runM X n)).2.2)
    unfold stepM
    rw [hcls, rw_lo X Y n hn, run_lo X Y n (by omega)]
    simp only [cmb_lo hn]
theorem run_hi (X Y : List Rw) (hm : ∀ x ∈ X, ∀ y ∈ Y, ¬ y.m = x.m) : ∀ n, n ≤ Y.length → runM (X ++ Y) (n + X.length) = ((runM Y n).1.map (· + X.length) ++ (runM X X.length).1, cmb X.length (runM X X.length).2.1 (runM Y n).2.1, (runM X X.length).2.2 ++ (runM Y n).2.2.map (shB X.length))
  | 0, _ => by
    rw [Nat.zero_add, run_lo X Y X.length (Nat.le_refl _)]
    simp [runM]
  | n + 1, h => by
    have hn : n < Y.length := by omega
    have hokX := run_ok X X.length
    have hokY := run_ok Y n
    have hcls : clsM (X ++ Y) (n + X.length) (runM (X ++ Y) (n + X.length)) = ((clsM Y n (runM Y n)).1.map (· + X.length) ++ (runM X X.length).1, cmb X.length (runM X X.length).2.1 (clsM Y n (runM Y n)).2.1, (clsM Y n (runM Y n)).2.2.map (shB X.length)) := by
      rw [run_hi X Y hm n (by omega)]
      unfold clsM
      rw [rw_hi]
      split
      · have h1 := closeM_hi (N := X.length) (F := FF Y n) (F' := FF (X ++ Y) (n + X.length)) (fun o => by unfold FF; rw [rw_hi, rw_hi]) (runM X X.length).1 (fun o ho => by
          have hol := (hokX.mem o ho).1
          unfold FF fit
          rw [rw_hi, rw_lo X Y o hol]
          have : decide ((rw Y n).m = (rw X o).m) = false := by
            rw [decide_eq_false_iff_not]
            refine hm _ ?_ _ ?_
            · unfold rw; simp [List.getD, List.getElem?_eq_getElem hol]
            · unfold rw; simp [List.getD, List.getElem?_eq_getElem hn]
          rw [this]
          rfl) (runM X X.length).2.1 n (((runM Y n).1.map (· + X.length) ++ (runM X X.length).1).length + 1) (runM Y n).1 (runM Y n).2.1
        have h2 := closeM_fuel (FF Y n) n (((runM Y n).1.map (· + X.length) ++ (runM X X.length).1).length + 1) ((runM Y n).1.length + 1) (runM Y n).1 (runM Y n).2.1 (Or.inl (by simp; omega)) (Or.inl (by omega))
        rw [h2] at h1
        exact h1
      · rfl
    have hidx : n + 1 + X.length = (n + X.length) + 1 := by omega
    rw [hidx]
    show stepM (X ++ Y) (n + X.length) (runM (X ++ Y) (n + X.length)) = ((stepM Y n (runM Y n)).1.map _ ++ _, cmb X.length _ (stepM Y n (runM Y n)).2.1, _ ++ (stepM Y n (runM Y n)).2.2.map _)
    unfold stepM
    rw [hcls, rw_hi, run_hi X Y hm n (by omega)]
    simp only [cmb_hi]
    refine Prod.ext ?_ (Prod.ext rfl ?_)
    · show (if _ then _ else _) = List.map _ (if _ then _ else _) ++ _
      split <;> simp
    · simp
theorem expB_sh (N : Nat) (b : Bd) : expB (shB N b) = (expB b).map (shB N) := by
  unfold expB shB
  simp [List.map_map, Function.comp_def]
theorem expand_sh (N : Nat) : ∀ (l : List Bd), expand (l.map (shB N)) = (expand l).map (shB N)
  | [] => rfl
  | b :: l => by rw [List.map_cons, expand_cons, expand_cons, List.map_append, expB_sh, expand_sh N l]
/-- Rows of unlike marks behind one another make what each makes by itself. -/
theorem pairs_apart (X Y : List Rw) (hm : ∀ x ∈ X, ∀ y ∈ Y, ¬ y.m = x.m) : pairsM (X ++ Y) = pairsM X ++ (pairsM Y).map (shB X.length) := by
  unfold pairsM
  have h := run_hi X Y hm Y.length (Nat.le_refl _)
  rw [List.length_append, Nat.add_comm X.length Y.length, h, expand_app, expand_sh]

def setM (mk : Int) (r : Rw) : Rw := { r with m := mk }
/-- The first k marks set. -/
def mkM (mk : Int) (k : Nat) (L : List Rw) : List Rw := (L.take k).map (setM mk) ++ L.drop k
theorem mkM_len (mk : Int) (k : Nat) (L : List Rw) : (mkM mk k L).length = L.length := by unfold mkM; simp; omega
theorem mkM_zero (mk : Int) (L : List Rw) : mkM mk 0 L = L := by simp [mkM]
theorem mkM_all (mk : Int) (L : List Rw) : mkM mk L.length L = L.map (setM mk) := by simp [mkM]
theorem mkM_at (mk : Int) (k : Nat) (L : List Rw) (h : k < L.length) : (mkM mk k L)[k]? = L[k]? := by
  unfold mkM
  rw [List.getElem?_append_right (by simp; omega)]
  simp
  congr 1
  omega
theorem mkM_step (mk : Int) (k : Nat) (L : List Rw) (h : k < L.length) : mkM mk (k + 1) L = (mkM mk k L).set k (setM mk L[k]) := by
  unfold mkM
  rw [List.take_succ_eq_append_getElem h, List.map_append, List.append_assoc, List.set_append_right _ _ (by simp; omega)]
  have e : L.drop k = L[k] :: L.drop (k + 1) := List.drop_eq_getElem_cons h
  rw [e]
  have : k - ((L.take k).map (setM mk)).length = 0 := by simp; omega
  rw [this]
  rfl
end Go.Proofs.Ytldillhgpjmjpaa
