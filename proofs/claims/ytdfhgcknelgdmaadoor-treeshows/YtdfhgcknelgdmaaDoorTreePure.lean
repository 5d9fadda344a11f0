/-
  PROVED: plain facts on nodes and their numbers: going through them by a walk and by a machine comes to the same; what a tree that was gone through is. Conditions: as each says; no program is named.
-/
import Derived.Laws.RangeAny
namespace Go.Proofs.YtdfhgcknelgdmaaDoor
set_option linter.unusedVariables false

/-- A node. -/
structure Nd where
  k : Int
  f : Int
  t : Int
  l : Int
  x : ByteArray
  u : ByteArray
  h : ByteArray
  g : Bool
  ks : List Int
  ps : List (Int × Int)

/-! ### The walk -/
/-- The kids of node i, one by one: Q holds the parents of the nodes that were met. -/
def wkL (rec : Int → List Int → Option (List Int)) (i : Nat) : List Int → List Int → Option (List Int)
  | [], Q => some Q
  | c :: ks, Q => if c = (Q.length : Int) then (match rec (i : Int) Q with | none => none | some Q' => wkL rec i ks Q') else none
/-- The node whose number is P's length, below p. -/
def wk (T : List Nd) (ck : Nd → Int → Bool) : Nat → Int → List Int → Option (List Int)
  | 0, _, _ => none
  | d + 1, p, P => match T[P.length]? with
    | none => none
    | some n => if ck n p = true then wkL (wk T ck d) P.length n.ks (P ++ [p]) else none

def tt : Nd → Int → Bool := fun _ _ => true

theorem wkL_cons {rec : Int → List Int → Option (List Int)} {i : Nat} {c : Int} {ks Q : List Int} :
    wkL rec i (c :: ks) Q = if c = (Q.length : Int) then (match rec (i : Int) Q with | none => none | some Q' => wkL rec i ks Q') else none := rfl

theorem wk_pre (T : List Nd) (ck : Nd → Int → Bool) : ∀ (d : Nat) (p : Int) (P P' : List Int), wk T ck d p P = some P' → P ++ [p] <+: P'
  | 0, p, P, P', h => by simp [wk] at h
  | d + 1, p, P, P', h => by
    rw [wk] at h
    split at h
    · cases h
    · split at h
      · rename_i n hn hc
        have go : ∀ (ks Q Q' : List Int), wkL (wk T ck d) P.length ks Q = some Q' → Q <+: Q' := by
          intro ks
          induction ks with
          | nil => intro Q Q' h; simp [wkL] at h; subst h; exact List.prefix_rfl
          | cons c ks ih =>
            intro Q Q' h
            rw [wkL_cons] at h
            split at h
            · split at h
              · cases h
              · rename_i Q1 h1
                exact ((List.prefix_append Q _).trans (wk_pre T ck d _ _ _ h1)).trans (ih _ _ h)
            · cases h
        exact go _ _ _ h
      · cases h
theorem wkL_pre (T : List Nd) (ck : Nd → Int → Bool) (d i : Nat) : ∀ (ks Q Q' : List Int), wkL (wk T ck d) i ks Q = some Q' → Q <+: Q'
  | [], Q, Q', h => by simp [wkL] at h; subst h; exact List.prefix_rfl
  | c :: ks, Q, Q', h => by
    rw [wkL_cons] at h
    split at h
    · split at h
      · cases h
      · rename_i Q1 h1
        exact ((List.prefix_append Q _).trans (wk_pre T ck d _ _ _ h1)).trans (wkL_pre T ck d i ks _ _ h)
    · cases h

theorem pre_get {Q Q' : List Int} {m : Nat} {v : Int} (h : Q <+: Q') (hm : Q[m]? = some v) : Q'[m]? = some v := by
  obtain ⟨R, rfl⟩ := h
  rw [List.getElem?_append_left (List.getElem?_eq_some_iff.1 hm).1]
  exact hm
theorem pre_len {Q Q' : List Int} (h : Q <+: Q') : Q.length ≤ Q'.length := h.length_le
theorem pre_last {Q Q' : List Int} {v : Int} (h : Q ++ [v] <+: Q') : Q'[Q.length]? = some v := pre_get h (by simp)

/-! ### With and without looks at the nodes -/
/-- Each node from a on is well, with its parent. -/
def okF (T : List Nd) (ck : Nd → Int → Bool) (a : Nat) (P : List Int) : Prop := ∀ c, a ≤ c → c < P.length → ∃ n p, T[c]? = some n ∧ P[c]? = some p ∧ ck n p = true

theorem okF_pre {T : List Nd} {ck : Nd → Int → Bool} {a : Nat} {P P' : List Int} (h : okF T ck a P) (hp : P <+: P') (h' : okF T ck P.length P') : okF T ck a P' := by
  intro c h1 h2
  rcases Nat.lt_or_ge c P.length with q | q
  · obtain ⟨n, p, e1, e2, e3⟩ := h c h1 q
    exact ⟨n, p, e1, pre_get hp e2, e3⟩
  · exact h' c q h2

theorem wk_ck (T : List Nd) (ck : Nd → Int → Bool) : ∀ (d : Nat), (∀ (p : Int) (P P' : List Int), wk T ck d p P = some P' → wk T tt d p P = some P' ∧ okF T ck P.length P')
  | 0 => fun p P P' h => by simp [wk] at h
  | d + 1 => by
    have ihd := wk_ck T ck d
    have go : ∀ (i : Nat) (ks Q Q' : List Int), wkL (wk T ck d) i ks Q = some Q' → wkL (wk T tt d) i ks Q = some Q' ∧ okF T ck Q.length Q' := by
      intro i ks
      induction ks with
      | nil => intro Q Q' h; simp [wkL] at h; subst h; exact ⟨rfl, fun c h1 h2 => absurd h2 (by omega)⟩
      | cons c ks ih =>
        intro Q Q' h
        rw [wkL_cons] at h ⊢
        split at h
        · rename_i hc
          rw [if_pos hc]
          split at h
          · cases h
          · rename_i Q1 h1
            obtain ⟨e1, o1⟩ := ihd _ _ _ h1
            obtain ⟨e2, o2⟩ := ih _ _ h
            rw [e1]
            exact ⟨e2, okF_pre o1 (wkL_pre T ck d i _ _ _ h) o2⟩
        · cases h
    intro p P P' h
    rw [wk] at h ⊢
    split at h
    · cases h
    · rename_i n hn
      split at h
      · rename_i hc
        obtain ⟨e1, o1⟩ := go _ _ _ _ h
        simp only [tt, if_true]
        refine ⟨e1, fun c h1 h2 => ?_⟩
        rcases Nat.lt_or_ge P.length c with q | q
        · exact o1 c (by simp; omega) h2
        · obtain rfl : c = P.length := by omega
          exact ⟨n, p, hn, pre_last (wkL_pre T ck d _ _ _ _ h), hc⟩
      · cases h

theorem wk_tt (T : List Nd) (ck : Nd → Int → Bool) : ∀ (d : Nat), (∀ (p : Int) (P P' : List Int), wk T tt d p P = some P' → okF T ck P.length P' → wk T ck d p P = some P')
  | 0 => fun p P P' h _ => by simp [wk] at h
  | d + 1 => by
    have ihd := wk_tt T ck d
    have go : ∀ (i : Nat) (ks Q Q' : List Int), wkL (wk T tt d) i ks Q = some Q' → okF T ck Q.length Q' → wkL (wk T ck d) i ks Q = some Q' := by
      intro i ks
      induction ks with
      | nil => intro Q Q' h _; exact h
      | cons c ks ih =>
        intro Q Q' h ho
        rw [wkL_cons] at h ⊢
        split at h
        · rename_i hc
          rw [if_pos hc]
          split at h
          · cases h
          · rename_i Q1 h1
            have hp := wkL_pre T tt d i _ _ _ h
            have hq := pre_len (wk_pre T tt d _ _ _ h1)
            simp at hq
            have e1 := ihd _ _ _ h1 (fun c h1 h2 => by
              obtain ⟨n, p, a1, a2, a3⟩ := ho c h1 (by have := pre_len hp; omega)
              refine ⟨n, p, a1, ?_, a3⟩
              obtain ⟨R, rfl⟩ := hp
              rw [List.getElem?_append_left h2] at a2
              exact a2)
            rw [e1]
            exact ih _ _ h (fun c h1 h2 => ho c (by omega) h2)
        · cases h
    intro p P P' h ho
    rw [wk] at h ⊢
    split at h
    · cases h
    · rename_i n hn
      simp only [tt, if_true] at h
      have hp := wkL_pre T tt d _ _ _ _ h
      have hl := pre_len hp
      simp at hl
      obtain ⟨n', p', a1, a2, a3⟩ := ho P.length (Nat.le_refl _) (by omega)
      rw [hn] at a1
      obtain rfl := Option.some.inj a1
      rw [pre_last hp] at a2
      obtain rfl := Option.some.inj a2
      simp only [a3, if_true]
      exact go _ _ _ _ h (fun c h1 h2 => ho c (by simp at h1; omega) h2)

/-! ### What was gone through -/
/-- Of the nodes from a on: their kids stand behind them, in order, and are told of them. -/
def setF (T : List Nd) (a : Nat) (P : List Int) : Prop :=
  ∀ j, a ≤ j → j < P.length → ∃ n, T[j]? = some n ∧ n.ks.Pairwise (· < ·) ∧ ∀ c ∈ n.ks, ∃ m : Nat, c = (m : Int) ∧ j < m ∧ m < P.length ∧ P[m]? = some (j : Int)
/-- Each node from a on is the kid of one from b on. -/
def kidF (T : List Nd) (b a : Nat) (P : List Int) : Prop :=
  ∀ m, a ≤ m → m < P.length → ∃ (j : Nat) (n : Nd), b ≤ j ∧ j < m ∧ P[m]? = some (j : Int) ∧ T[j]? = some n ∧ (m : Int) ∈ n.ks

theorem setF_pre {T : List Nd} {a : Nat} {P P' : List Int} (h : setF T a P) (hp : P <+: P') (h' : setF T P.length P') : setF T a P' := by
  intro j h1 h2
  rcases Nat.lt_or_ge j P.length with q | q
  · obtain ⟨n, e1, e2, e3⟩ := h j h1 q
    refine ⟨n, e1, e2, fun c hc => ?_⟩
    obtain ⟨m, a1, a2, a3, a4⟩ := e3 c hc
    exact ⟨m, a1, a2, by have := pre_len hp; omega, pre_get hp a4⟩
  · exact h' j q h2

theorem wk_facts (T : List Nd) : ∀ (d : Nat) (p : Int) (P P' : List Int), wk T tt d p P = some P' → setF T P.length P' ∧ kidF T P.length (P.length + 1) P'
  | 0, p, P, P', h => by simp [wk] at h
  | d + 1, p, P, P', h => by
    rw [wk] at h
    split at h
    · cases h
    · rename_i n hn
      simp only [tt, if_true] at h
      have ihd := wk_facts T d
      have go : ∀ (ks Q Q' : List Int), P.length < Q.length → (∀ c ∈ ks, c ∈ n.ks) → wkL (wk T tt d) P.length ks Q = some Q' →
          setF T Q.length Q' ∧ kidF T P.length Q.length Q' ∧ ks.Pairwise (· < ·) ∧ ∀ c ∈ ks, ∃ m : Nat, c = (m : Int) ∧ Q.length ≤ m ∧ m < Q'.length ∧ Q'[m]? = some (P.length : Int) := by
        intro ks
        induction ks with
        | nil =>
          intro Q Q' hq _ h
          simp [wkL] at h; subst h
          exact ⟨fun j h1 h2 => absurd h2 (by omega), fun j h1 h2 => absurd h2 (by omega), List.Pairwise.nil, fun c hc => by simp at hc⟩
        | cons c ks ih =>
          intro Q Q' hq hmem h
          rw [wkL_cons] at h
          split at h
          · rename_i hc
            split at h
            · cases h
            · rename_i Q1 h1
              obtain ⟨s1, k1⟩ := ihd _ _ _ h1
              have p1 := wk_pre T tt d _ _ _ h1
              have l1 := pre_len p1
              simp at l1
              obtain ⟨s2, k2, o2, m2⟩ := ih _ _ (by omega) (fun c hc => hmem c (List.mem_cons_of_mem _ hc)) h
              have p2 := wkL_pre T tt d P.length _ _ _ h
              have l2 := pre_len p2
              refine ⟨setF_pre s1 p2 s2, ?_, ?_, ?_⟩
              · intro m h1 h2
                rcases Nat.lt_or_ge m Q1.length with q | q
                · rcases Nat.lt_or_ge Q.length m with q' | q'
                  · obtain ⟨j, n', a1, a2, a3, a4, a5⟩ := k1 m (by omega) q
                    exact ⟨j, n', by omega, a2, pre_get p2 a3, a4, a5⟩
                  · obtain rfl : m = Q.length := by omega
                    exact ⟨P.length, n, Nat.le_refl _, hq, pre_get p2 (pre_last p1), hn, hmem _ (by rw [← hc]; exact List.mem_cons_self)⟩
                · exact k2 m q h2
              · refine List.pairwise_cons.2 ⟨fun b hb => ?_, o2⟩
                obtain ⟨m, e1, e2, e3, e4⟩ := m2 b hb
                omega
              · intro b hb
                rcases List.mem_cons.1 hb with rfl | hb
                · exact ⟨Q.length, hc, Nat.le_refl _, by omega, pre_get p2 (pre_last p1)⟩
                · obtain ⟨m, e1, e2, e3, e4⟩ := m2 b hb
                  exact ⟨m, e1, by omega, e3, e4⟩
          · cases h
      obtain ⟨s, k, o, m⟩ := go n.ks (P ++ [p]) P' (by simp) (fun c hc => hc) h
      have hl := pre_len (wkL_pre T tt d _ _ _ _ h)
      simp at hl s k m
      refine ⟨fun j h1 h2 => ?_, k⟩
      rcases Nat.lt_or_ge P.length j with q | q
      · exact s j (by omega) h2
      · obtain rfl : j = P.length := by omega
        exact ⟨n, hn, o, fun c hc => by
          obtain ⟨m', e1, e2, e3, e4⟩ := m c hc
          exact ⟨m', e1, by omega, e3, e4⟩⟩

theorem wk_bound (T : List Nd) (ck : Nd → Int → Bool) : ∀ (d : Nat) (p : Int) (P P' : List Int), wk T ck d p P = some P' → P'.length ≤ T.length
  | 0, p, P, P', h => by simp [wk] at h
  | d + 1, p, P, P', h => by
    rw [wk] at h
    split at h
    · cases h
    · rename_i n hn
      have hlt := (List.getElem?_eq_some_iff.1 hn).1
      have go : ∀ (ks Q Q' : List Int), Q.length ≤ T.length → wkL (wk T ck d) P.length ks Q = some Q' → Q'.length ≤ T.length := by
        intro ks
        induction ks with
        | nil => intro Q Q' hq h; simp [wkL] at h; subst h; exact hq
        | cons c ks ih =>
          intro Q Q' hq h
          rw [wkL_cons] at h
          split at h
          · split at h
            · cases h
            · rename_i Q1 h1
              exact ih _ _ (wk_bound T ck d _ _ _ h1) h
          · cases h
      split at h
      · exact go _ _ _ (by simp; omega) h
      · cases h

/-! ### The machine -/
def run (T : List Nd) : Nat → Int → List Int → List Int → Option (Option (List Int))
  | 0, _, _, _ => none
  | f + 1, a, P, D => if a < 0 then some (some P) else
    match T[a.toNat]? with
    | none => none
    | some n =>
      if D.getD a.toNat 0 = (n.ks.length : Int) then run T f (P.getD a.toNat 0) P D
      else if n.ks.getD (D.getD a.toNat 0).toNat 0 ≠ (P.length : Int) ∨ n.ks.getD (D.getD a.toNat 0).toNat 0 = (T.length : Int) then some none
      else run T f (n.ks.getD (D.getD a.toNat 0).toNat 0) (P ++ [a]) (D.set a.toNat (D.getD a.toNat 0 + 1))

theorem run_pop {T : List Nd} {f : Nat} {i : Nat} {n : Nd} {P D : List Int} {v : Int} (hn : T[i]? = some n) (hd : D[i]? = some (n.ks.length : Int)) (hp : P[i]? = some v) :
    run T (f + 1) (i : Int) P D = run T f v P D := by
  rw [run, if_neg (by omega)]
  simp [hn, List.getD, hd, hp]
theorem run_bad {T : List Nd} {f : Nat} {i : Nat} {n : Nd} {P D pre ks : List Int} {c : Int} (hn : T[i]? = some n) (hk : n.ks = pre ++ c :: ks) (hd : D[i]? = some (pre.length : Int)) (hb : c ≠ (P.length : Int) ∨ c = (T.length : Int)) :
    run T (f + 1) (i : Int) P D = some none := by
  rw [run, if_neg (by omega)]
  have hne : ¬ (pre.length : Int) = (n.ks.length : Int) := by rw [hk]; simp; omega
  simp only [Int.toNat_natCast, hn, List.getD, hd, Option.getD_some, hne, if_false]
  have hc : n.ks[pre.length]? = some c := by rw [hk]; simp
  rw [hc, Option.getD_some, if_pos hb]
theorem run_push {T : List Nd} {f : Nat} {i : Nat} {n : Nd} {P D pre ks : List Int} {c : Int} (hn : T[i]? = some n) (hk : n.ks = pre ++ c :: ks) (hd : D[i]? = some (pre.length : Int)) (h1 : c = (P.length : Int)) (h2 : c ≠ (T.length : Int)) :
    run T (f + 1) (i : Int) P D = run T f c (P ++ [(i : Int)]) (D.set i ((pre.length : Int) + 1)) := by
  rw [run, if_neg (by omega)]
  have hne : ¬ (pre.length : Int) = (n.ks.length : Int) := by rw [hk]; simp; omega
  simp only [Int.toNat_natCast, hn, List.getD, hd, Option.getD_some, hne, if_false]
  have hc : n.ks[pre.length]? = some c := by rw [hk]; simp
  rw [hc, Option.getD_some, if_neg (by rintro (h | h); exact h h1; exact h2 h)]

theorem run_wkL (T : List Nd) : ∀ (d : Nat) (ks pre Q D : List Int) (i : Nat) (n : Nd), T[i]? = some n → i < Q.length → n.ks = pre ++ ks → D.length = T.length → D[i]? = some (pre.length : Int) →
    (∀ j, Q.length ≤ j → j < T.length → D[j]? = some 0) → Q.length ≤ T.length → T.length ≤ Q.length + d →
    (∀ Q', wkL (wk T tt d) i ks Q = some Q' → ∃ f D', D'.length = T.length ∧ D'[i]? = some (n.ks.length : Int) ∧ (∀ j, j < Q.length → j ≠ i → D'[j]? = D[j]?) ∧ (∀ j, Q'.length ≤ j → D'[j]? = D[j]?) ∧ ∀ g, run T (f + g) (i : Int) Q D = run T g (i : Int) Q' D') ∧
    (wkL (wk T tt d) i ks Q = none → ∃ f, run T f (i : Int) Q D = some none)
  | d, [], pre, Q, D, i, n, hn, hi, hk, hl, hd, h0, hq, hf => by
    refine ⟨fun Q' h => ?_, fun h => by simp [wkL] at h⟩
    simp [wkL] at h; subst h
    refine ⟨0, D, hl, ?_, fun _ _ _ => rfl, fun _ _ => rfl, fun g => by rw [Nat.zero_add]⟩
    rw [hd, hk]; simp
  | d, c :: ks, pre, Q, D, i, n, hn, hi, hk, hl, hd, h0, hq, hf => by
    rw [wkL_cons]
    by_cases hc : c = (Q.length : Int)
    · rw [if_pos hc]
      by_cases hT : Q.length = T.length
      · -- there is no such node
        have e : wk T tt d (i : Int) Q = none := by
          cases d with
          | zero => rfl
          | succ d => rw [wk, List.getElem?_eq_none (by omega)]
        rw [e]
        exact ⟨fun Q' h => by simp at h, fun _ => ⟨1, run_bad hn hk hd (Or.inr (by omega))⟩⟩
      · match d, hf with
        | 0, hf => omega
        | d + 1, hf =>
          have hlt : Q.length < T.length := by omega
          have hni : i ≠ Q.length := by omega
          have hiT : i < D.length := (List.getElem?_eq_some_iff.1 hd).1
          have hn' : T[Q.length]? = some T[Q.length] := List.getElem?_eq_getElem hlt
          have e : wk T tt (d + 1) (i : Int) Q = wkL (wk T tt d) Q.length T[Q.length].ks (Q ++ [(i : Int)]) := by
            rw [wk, hn']; simp [tt]
          have hstep : ∀ g, run T (g + 1) (i : Int) Q D = run T g (Q.length : Int) (Q ++ [(i : Int)]) (D.set i ((pre.length : Int) + 1)) := fun g => by
            rw [run_push hn hk hd hc (by omega), hc]
          obtain ⟨A, B⟩ := run_wkL T d T[Q.length].ks [] (Q ++ [(i : Int)]) (D.set i ((pre.length : Int) + 1)) Q.length T[Q.length] hn' (by simp) rfl (by simpa using hl)
            (by rw [List.getElem?_set_ne hni]; exact h0 _ (Nat.le_refl _) hlt)
            (fun j h1 h2 => by simp at h1; rw [List.getElem?_set_ne (by omega)]; exact h0 j (by omega) h2) (by simp; omega) (by simp; omega)
          rw [e]
          cases hw : wkL (wk T tt d) Q.length T[Q.length].ks (Q ++ [(i : Int)]) with
          | none =>
            obtain ⟨f, hf'⟩ := B hw
            exact ⟨fun Q' h => by simp at h, fun _ => ⟨f + 1, by rw [hstep, hf']⟩⟩
          | some Q1 =>
            obtain ⟨f, D1, l1, d1, u1, v1, r1⟩ := A Q1 hw
            have p1 := wkL_pre T tt d _ _ _ _ hw
            have len1 := pre_len p1
            simp at len1
            have hb1 : Q1.length ≤ T.length := wk_bound T tt (d + 1) (i : Int) Q Q1 (by rw [e]; exact hw)
            have hi1 : D1[i]? = some ((pre ++ [c]).length : Int) := by
              rw [u1 i (by simp; omega) hni, List.getElem?_set_self hiT]; simp
            obtain ⟨A2, B2⟩ := run_wkL T (d + 1) ks (pre ++ [c]) Q1 D1 i n hn (by omega) (by rw [hk]; simp) l1 hi1
              (fun j h1 h2 => by rw [v1 j h1, List.getElem?_set_ne (by omega)]; exact h0 j (by omega) h2) hb1 (by omega)
            have hback : ∀ g, run T (f + 1 + g + 1) (i : Int) Q D = run T g (i : Int) Q1 D1 := fun g => by
              rw [hstep, show f + 1 + g = f + (g + 1) by omega, r1, run_pop hn' d1 (pre_last p1)]
            refine ⟨fun Q' h => ?_, fun h => ?_⟩
            · obtain ⟨f2, D2, l2, d2, u2, v2, r2⟩ := A2 Q' h
              have len2 := pre_len (wkL_pre T tt _ _ _ _ _ h)
              refine ⟨f + 1 + f2 + 1, D2, l2, d2, fun j h1 h2 => ?_, fun j h1 => ?_, fun g => ?_⟩
              · rw [u2 j (by omega) h2, u1 j (by simp; omega) (by omega), List.getElem?_set_ne (by omega)]
              · rw [v2 j h1, v1 j (by omega), List.getElem?_set_ne (by omega)]
              · rw [show f + 1 + f2 + 1 + g = f + 1 + (f2 + g) + 1 by omega, hback, r2]
            · obtain ⟨f2, r2⟩ := B2 h
              exact ⟨f + 1 + f2 + 1, by rw [hback, r2]⟩
    · rw [if_neg hc]
      exact ⟨fun Q' h => by simp at h, fun _ => ⟨1, run_bad hn hk hd (Or.inl hc)⟩⟩
  termination_by d ks => (d, ks.length)

/-- Of each node its parent, as far as the numbers go. -/
def gone (T : List Nd) : Option (List Int) := wk T tt T.length (-1) []

theorem run_gone (T : List Nd) (hT : T ≠ []) : ∃ f, run T f 0 [-1] (List.replicate T.length 0) = some (gone T) := by
  obtain ⟨n, R, rfl⟩ := List.exists_cons_of_ne_nil hT
  have hn : (n :: R)[0]? = some n := rfl
  have e : gone (n :: R) = wkL (wk (n :: R) tt R.length) 0 n.ks [-1] := by
    rw [gone, List.length_cons, wk]; simp [tt]
  obtain ⟨A, B⟩ := run_wkL (n :: R) R.length n.ks [] [-1] (List.replicate (n :: R).length 0) 0 n hn (by simp) rfl (by simp) (by simp [List.replicate_succ]) (fun j h1 h2 => by simp at h2; simp [h2]) (by simp) (by simp; omega)
  rw [e]
  cases hw : wkL (wk (n :: R) tt R.length) 0 n.ks [-1] with
  | none =>
    obtain ⟨f, hf⟩ := B hw
    exact ⟨f, hf⟩
  | some Q =>
    obtain ⟨f, D, l, d, u, v, r⟩ := A Q hw
    refine ⟨f + 2, ?_⟩
    have h := r 2
    rw [show ((0 : Nat) : Int) = 0 from rfl] at h
    rw [h]
    have := run_pop (f := 1) (P := Q) (D := D) (v := -1) hn d (pre_last (Q := []) (wkL_pre (n :: R) tt _ _ _ _ _ hw))
    rw [show ((0 : Nat) : Int) = 0 from rfl] at this
    rw [this, run, if_pos (by omega)]
end Go.Proofs.YtdfhgcknelgdmaaDoor
