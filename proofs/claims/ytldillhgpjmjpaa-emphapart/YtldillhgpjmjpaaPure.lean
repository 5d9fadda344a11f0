/-
  PROVED: the plain model of layer 12: which rows a row that closes is bound to, and what is so of its bonds. Conditions: none.
-/
namespace Go.Proofs.Ytldillhgpjmjpaa
set_option linter.unusedVariables false

/-- A row of marks: its mark, its N, may it open, may it close? -/
structure Rw where
  m : Int
  n : Int
  o : Bool
  c : Bool
deriving Inhabited, DecidableEq

def num (r : Rw) : Nat := if 1 ≤ r.n ∧ r.n ≤ 1048576 then r.n.toNat else 0
/-- Does the one that closes fit the one that opens? -/
def fit (c o : Rw) : Bool := decide (c.m = o.m) && (decide (¬ (c.n + o.n) % 3 = 0) || decide (c.n % 3 = 0) || (!c.o && !o.c))
def upd (f : Nat → Nat) (i v : Nat) : Nat → Nat := fun j => if j = i then v else f j
theorem upd_same (f : Nat → Nat) (i v : Nat) : upd f i v i = v := by simp [upd]
theorem upd_other (f : Nat → Nat) (i v j : Nat) (h : j ≠ i) : upd f i v j = f j := by simp [upd, h]

abbrev Bd := Nat × Nat × Nat
abbrev Stk := List Nat × (Nat → Nat) × List Bd

/-- One row that closes, over the rows that it may find (the last one first). -/
def closeM (F : Nat → Bool) (c : Nat) : Nat → List Nat → (Nat → Nat) → Stk
  | 0, st, lf => (st, lf, [])
  | k + 1, st, lf =>
    if lf c = 0 then (st, lf, []) else
    match st.dropWhile (fun o => !F o) with
    | [] => (st, lf, [])
    | o :: rest =>
      let q := min (lf o) (lf c)
      let r := closeM F c k (if lf o - q = 0 then rest else o :: rest) (upd (upd lf o (lf o - q)) c (lf c - q))
      (r.1, r.2.1, (o, c, q) :: r.2.2)

def rw (L : List Rw) (i : Nat) : Rw := L.getD i default
def FF (L : List Rw) (c : Nat) : Nat → Bool := fun o => fit (rw L c) (rw L o)
def clsM (L : List Rw) (c : Nat) (s : Stk) : Stk := if (rw L c).c then closeM (FF L c) c (s.1.length + 1) s.1 s.2.1 else (s.1, s.2.1, [])
def stepM (L : List Rw) (c : Nat) (s : Stk) : Stk :=
  let r := clsM L c s
  (if (rw L c).o = true ∧ ¬ r.2.1 c = 0 then c :: r.1 else r.1, r.2.1, s.2.2 ++ r.2.2)
def runM (L : List Rw) : Nat → Stk
  | 0 => ([], fun i => num (rw L i), [])
  | n + 1 => stepM L n (runM L n)

def expN : Nat → List Nat
  | 0 => []
  | 1 => [1]
  | n + 2 => 2 :: expN n
def expB (b : Bd) : List Bd := (expN b.2.2).map fun k => (b.1, b.2.1, k)
def expand (l : List Bd) : List Bd := l.flatMap expB
theorem expand_app (a b : List Bd) : expand (a ++ b) = expand a ++ expand b := by simp [expand]
theorem expand_cons (a : Bd) (b : List Bd) : expand (a :: b) = expB a ++ expand b := by simp [expand]
def pairsM (L : List Rw) : List Bd := expand (runM L L.length).2.2
def leftM (L : List Rw) : List Nat := (List.range L.length).map (runM L L.length).2.1

theorem dropWhile_sub {p : Nat → Bool} : ∀ (l : List Nat), ∃ a, l = a ++ l.dropWhile p ∧ ∀ x ∈ a, p x = true
  | [] => ⟨[], rfl, by simp⟩
  | x :: l => by
    cases h : p x with
    | true =>
      obtain ⟨a, e, ha⟩ := dropWhile_sub (p := p) l
      refine ⟨x :: a, by rw [List.dropWhile_cons, if_pos h]; simpa using e, ?_⟩
      intro y hy
      rcases List.mem_cons.1 hy with rfl | hy
      · exact h
      · exact ha y hy
    | false => exact ⟨[], by rw [List.dropWhile_cons, if_neg (by simp [h])]; rfl, by simp⟩
theorem dropWhile_head {p : Nat → Bool} : ∀ (l : List Nat) (o : Nat) (r : List Nat), l.dropWhile p = o :: r → p o = false
  | [], o, r, h => by simp at h
  | x :: l, o, r, h => by
    rw [List.dropWhile_cons] at h
    split at h
    · exact dropWhile_head l o r h
    · rename_i hx
      injection h with h1 h2
      subst h1
      simpa using hx

/-- Going on behind one pair (of two marks, or of one). -/
def resM (F : Nat → Bool) (c k : Nat) (st : List Nat) (lf : Nat → Nat) (out : List Bd) : Stk :=
  let r := closeM F c k st lf
  (r.1, r.2.1, out ++ expand r.2.2)
theorem closeM_done {F : Nat → Bool} {c : Nat} {st : List Nat} {lf : Nat → Nat} (h : lf c = 0) (k : Nat) : closeM F c k st lf = (st, lf, []) := by
  cases k with
  | zero => rfl
  | succ k => rw [closeM, if_pos h]
theorem closeM_none {F : Nat → Bool} {c : Nat} {st : List Nat} {lf : Nat → Nat} (hd : st.dropWhile (fun o => !F o) = []) (k : Nat) : closeM F c k st lf = (st, lf, []) := by
  cases k with
  | zero => rfl
  | succ k => rw [closeM, hd]; simp
theorem closeM_some {F : Nat → Bool} {c : Nat} {st : List Nat} {lf : Nat → Nat} (h : ¬ lf c = 0) {o : Nat} {rest : List Nat} (hd : st.dropWhile (fun o => !F o) = o :: rest) (k : Nat) (q : Nat) (hq : q = min (lf o) (lf c)) :
    closeM F c (k + 1) st lf = ((closeM F c k (if lf o - q = 0 then rest else o :: rest) (upd (upd lf o (lf o - q)) c (lf c - q))).1, (closeM F c k (if lf o - q = 0 then rest else o :: rest) (upd (upd lf o (lf o - q)) c (lf c - q))).2.1, (o, c, q) :: (closeM F c k (if lf o - q = 0 then rest else o :: rest) (upd (upd lf o (lf o - q)) c (lf c - q))).2.2) := by
  rw [closeM, if_neg h, hd, hq]
/-- More rounds than are wanted make no difference. -/
theorem closeM_fuel (F : Nat → Bool) (c : Nat) : ∀ (k j : Nat) (st : List Nat) (lf : Nat → Nat), (st.length < k ∨ lf c = 0) → (st.length < j ∨ lf c = 0) → closeM F c k st lf = closeM F c j st lf := by
  intro k
  induction k with
  | zero =>
    intro j st lf h1 h2
    have h0 : lf c = 0 := by omega
    rw [closeM_done h0, closeM_done h0]
  | succ k ih =>
    intro j st lf h1 h2
    by_cases h0 : lf c = 0
    · rw [closeM_done h0, closeM_done h0]
    · obtain ⟨j, rfl⟩ : ∃ j', j = j' + 1 := ⟨j - 1, by omega⟩
      cases hd : st.dropWhile (fun o => !F o) with
      | nil => rw [closeM_none hd, closeM_none hd]
      | cons o rest =>
        obtain ⟨a, e, _⟩ := dropWhile_sub (p := fun o => !F o) st
        rw [hd] at e
        have hl : rest.length + 1 ≤ st.length := by rw [e]; simp
        have hn : ∀ k', st.length < k' + 1 → ((if lf o - min (lf o) (lf c) = 0 then rest else o :: rest).length < k' ∨ (upd (upd lf o (lf o - min (lf o) (lf c))) c (lf c - min (lf o) (lf c))) c = 0) := by
          intro k' hk'
          rw [upd_same]
          by_cases hq : lf o - min (lf o) (lf c) = 0
          · left; rw [if_pos hq]; omega
          · right; omega
        rw [closeM_some h0 hd k _ rfl, closeM_some h0 hd j _ rfl]
        rw [ih j _ _ (hn k (by omega)) (hn j (by omega))]
theorem expB_one (o c : Nat) : expB (o, c, 1) = [(o, c, 1)] := rfl
theorem expB_two (o c : Nat) : expB (o, c, 2) = [(o, c, 2)] := rfl
theorem expB_more (o c q : Nat) : expB (o, c, q + 2) = (o, c, 2) :: expB (o, c, q) := rfl

/-- The document's own way: a pair at a time. -/
theorem micro (F : Nat → Bool) (c : Nat) (st : List Nat) (lf : Nat → Nat) (out : List Bd) (o : Nat) (rest : List Nat) (hd : st.dropWhile (fun o => !F o) = o :: rest) (hc : ¬ lf c = 0) (ho : ¬ lf o = 0) (hoc : o ≠ c) (k : Nat) (hk : k = if 2 ≤ lf o ∧ 2 ≤ lf c then 2 else 1) :
    resM F c (st.length + 1) st lf out = resM F c ((if lf o - k = 0 then rest else o :: rest).length + 1) (if lf o - k = 0 then rest else o :: rest) (upd (upd lf o (lf o - k)) c (lf c - k)) (out ++ [(o, c, k)]) := by
  have hF : F o = true := by have := dropWhile_head st o rest hd; simpa using this
  obtain ⟨q, hq⟩ : ∃ q, q = min (lf o) (lf c) := ⟨_, rfl⟩
  obtain ⟨a, e, _⟩ := dropWhile_sub (p := fun o => !F o) st
  rw [hd] at e
  have hl : rest.length + 1 ≤ st.length := by rw [e]; simp
  unfold resM
  rw [closeM_some hc hd st.length q hq]
  by_cases hkq : k = q
  · subst hkq
    have hf := closeM_fuel F c st.length ((if lf o - k = 0 then rest else o :: rest).length + 1) (if lf o - k = 0 then rest else o :: rest) (upd (upd lf o (lf o - k)) c (lf c - k)) (by
      rw [upd_same]
      by_cases hz : lf o - k = 0
      · left; rw [if_pos hz]; omega
      · right; omega) (Or.inl (by omega))
    rw [hf]
    have he : ∀ X, expand ((o, c, k) :: X) = [(o, c, k)] ++ expand X := by
      intro X
      rw [expand_cons]
      congr 1
      by_cases h2 : 2 ≤ lf o ∧ 2 ≤ lf c
      · rw [if_pos h2] at hk; rw [hk]; rfl
      · rw [if_neg h2] at hk; rw [hk]; rfl
    dsimp only
    rw [he]
    simp
  · have h2 : k = 2 ∧ 2 < lf o ∧ 2 < lf c := by
      by_cases h2 : 2 ≤ lf o ∧ 2 ≤ lf c
      · rw [if_pos h2] at hk; omega
      · rw [if_neg h2] at hk; omega
    obtain ⟨rfl, h3, h4⟩ := h2
    rw [if_neg (show ¬ lf o - 2 = 0 by omega)]
    have hd2 : (o :: rest).dropWhile (fun o => !F o) = o :: rest := by rw [List.dropWhile_cons, if_neg (by simp [hF])]
    have u1 : upd (upd lf o (lf o - 2)) c (lf c - 2) o = lf o - 2 := by rw [upd_other _ _ _ _ hoc, upd_same]
    have u2 : upd (upd lf o (lf o - 2)) c (lf c - 2) c = lf c - 2 := upd_same _ _ _
    have eq : q - 2 = min (upd (upd lf o (lf o - 2)) c (lf c - 2) o) (upd (upd lf o (lf o - 2)) c (lf c - 2) c) := by rw [u1, u2]; omega
    rw [closeM_some (by rw [u2]; omega) hd2 _ (q - 2) eq, u1, u2]
    have e1 : lf o - 2 - (q - 2) = lf o - q := by omega
    have e2 : lf c - 2 - (q - 2) = lf c - q := by omega
    rw [e1, e2]
    have eu : upd (upd (upd (upd lf o (lf o - 2)) c (lf c - 2)) o (lf o - q)) c (lf c - q) = upd (upd lf o (lf o - q)) c (lf c - q) := by
      funext j
      simp only [upd]
      split
      · rfl
      · split
        · rfl
        · simp [*]
    rw [eu]
    have hf := closeM_fuel F c st.length (o :: rest).length (if lf o - q = 0 then rest else o :: rest) (upd (upd lf o (lf o - q)) c (lf c - q)) (by
      rw [upd_same]
      by_cases hz : lf o - q = 0
      · left; rw [if_pos hz]; omega
      · right; omega) (by
      rw [upd_same]
      by_cases hz : lf o - q = 0
      · left; rw [if_pos hz]; simp
      · right; omega)
    rw [hf]
    dsimp only
    rw [expand_cons, expand_cons]
    obtain ⟨q', rfl⟩ : ∃ q', q = q' + 2 := ⟨q - 2, by omega⟩
    rw [expB_more, Nat.add_sub_cancel]
    simp

/-- The rows below n of which something is so, the last one first. -/
def al (p : Nat → Bool) : Nat → List Nat
  | 0 => []
  | k + 1 => if p k then k :: al p k else al p k
def fnd (p : Nat → Bool) : Nat → Option Nat
  | 0 => none
  | k + 1 => if p k then some k else fnd p k
theorem al_congr {p q : Nat → Bool} : ∀ (n : Nat), (∀ k, k < n → p k = q k) → al p n = al q n
  | 0, _ => rfl
  | n + 1, h => by rw [al, al, h n (by omega), al_congr n (fun k hk => h k (by omega))]
theorem al_drop (p F : Nat → Bool) : ∀ n, (al p n).dropWhile (fun o => !F o) = match fnd (fun o => p o && F o) n with | none => [] | some o => o :: al p o
  | 0 => rfl
  | n + 1 => by
    rw [al, fnd]
    cases hp : p n with
    | false => simpa [hp] using al_drop p F n
    | true =>
      rw [if_pos rfl, List.dropWhile_cons]
      cases hF : F n with
      | true => simp
      | false => simpa using al_drop p F n
theorem fnd_some {p : Nat → Bool} : ∀ (n o : Nat), fnd p n = some o → o < n ∧ p o = true ∧ ∀ k, o < k → k < n → p k = false
  | 0, o, h => by cases h
  | n + 1, o, h => by
    rw [fnd] at h
    split at h
    · rename_i hp
      injection h with h; subst h
      exact ⟨by omega, hp, fun k h1 h2 => by omega⟩
    · rename_i hp
      obtain ⟨h1, h2, h3⟩ := fnd_some n o h
      refine ⟨by omega, h2, fun k hk1 hk2 => ?_⟩
      by_cases e : k = n
      · subst e; simpa using hp
      · exact h3 k hk1 (by omega)
/-- Looking down from n: those from k on are none. -/
theorem fnd_down {p : Nat → Bool} : ∀ (n k : Nat), k ≤ n → (∀ j, k ≤ j → j < n → p j = false) → fnd p n = fnd p k
  | 0, k, h, _ => by rw [show k = 0 by omega]
  | n + 1, k, h, hp => by
    by_cases e : k = n + 1
    · subst e; rfl
    · rw [fnd, if_neg (by rw [hp n (by omega) (by omega)]; simp)]
      exact fnd_down n k (by omega) (fun j h1 h2 => hp j h1 (by omega))
theorem al_mem {p : Nat → Bool} : ∀ (n o : Nat), o ∈ al p n ↔ o < n ∧ p o = true
  | 0, o => by simp [al]
  | n + 1, o => by
    rw [al]
    split
    · rename_i hp
      rw [List.mem_cons, al_mem n o]
      constructor
      · rintro (rfl | ⟨h1, h2⟩)
        · exact ⟨by omega, hp⟩
        · exact ⟨by omega, h2⟩
      · rintro ⟨h1, h2⟩
        by_cases e : o = n
        · exact Or.inl e
        · exact Or.inr ⟨by omega, h2⟩
    · rename_i hp
      rw [al_mem n o]
      constructor
      · rintro ⟨h1, h2⟩; exact ⟨by omega, h2⟩
      · rintro ⟨h1, h2⟩
        refine ⟨?_, h2⟩
        by_cases e : o = n
        · subst e; exact absurd h2 hp
        · omega
/-- Behind a pair: those between are dead. -/
theorem al_after {p q : Nat → Bool} {n o : Nat} (ho : o < n) (hb : ∀ k, o < k → k < n → q k = false) (hs : ∀ k, k < o → q k = p k) : al q n = if q o then o :: al p o else al p o := by
  have h1 : al q n = al q (o + 1) := by
    obtain ⟨d, rfl⟩ : ∃ d, n = o + 1 + d := ⟨n - (o + 1), by omega⟩
    clear ho
    induction d with
    | zero => rfl
    | succ d ih =>
      have : al q (o + 1 + (d + 1)) = al q (o + 1 + d) := by
        rw [show o + 1 + (d + 1) = (o + 1 + d) + 1 by omega, al, if_neg (by rw [hb _ (by omega) (by omega)]; simp)]
      rw [this]
      exact ih (fun k h1 h2 => hb k h1 (by omega))
  rw [h1, al, al_congr o hs]
end Go.Proofs.Ytldillhgpjmjpaa
