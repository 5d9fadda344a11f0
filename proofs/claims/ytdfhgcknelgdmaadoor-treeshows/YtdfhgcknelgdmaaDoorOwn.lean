/-
  PROVED: a tree that lies in memory of one's own ('OwnT'), and contract of CopyTree: the same tree in new memory. Conditions: the tree is small ('Bd').
-/
import Derived.Test.YtdfhgcknelgdmaaDoorSame
import Derived.Lib.QuietBelow
namespace Go.Proofs.YtdfhgcknelgdmaaDoor
open Go.ChangeShapes Go.WideShapes Go.ChangeAt Go.RowKit Go.Sort
set_option linter.unusedVariables false

def ncell (n : Nd) (kv pv : Value) : List Value := [.int .i64 n.k, .int .i64 n.f, .int .i64 n.t, .int .i64 n.l, .string n.x, .string n.u, .string n.h, .bool n.g, kv, pv]
def ncells : List Nd → List (Value × Value) → List Value
  | n :: T, s :: S => ncell n s.1 s.2 ++ ncells T S
  | _, _ => []
theorem ncells_len : ∀ (T : List Nd) (S : List (Value × Value)), S.length = T.length → (ncells T S).length = T.length * 10
  | [], S, h => by cases S <;> rfl
  | n :: T, [], h => by simp at h
  | n :: T, s :: S, h => by
    rw [ncells, List.length_append, ncells_len T S (by simpa using h), List.length_cons]
    show 10 + _ = _
    omega
theorem ncells_snoc : ∀ (T : List Nd) (S : List (Value × Value)) (n : Nd) (s : Value × Value), S.length = T.length → ncells (T ++ [n]) (S ++ [s]) = ncells T S ++ ncell n s.1 s.2
  | [], [], n, s, h => by simp [ncells]
  | [], s :: S, n, _, h => by simp at h
  | n :: T, [], _, _, h => by simp at h
  | n :: T, s :: S, m, r, h => by
    rw [List.cons_append, List.cons_append, ncells, ncells, ncells_snoc T S m r (by simpa using h), List.append_assoc]
theorem ncells_at : ∀ (T : List Nd) (S : List (Value × Value)) (i j : Nat) (n : Nd) (s : Value × Value), T[i]? = some n → S[i]? = some s → j < 10 → (ncells T S)[i * 10 + j]? = (ncell n s.1 s.2)[j]?
  | [], S, i, j, n, s, h, _, _ => by simp at h
  | _ :: _, [], i, j, n, s, _, h, _ => by simp at h
  | m :: T, r :: S, 0, j, n, s, h, h', hj => by
    simp at h h'
    subst h h'
    rw [ncells, Nat.zero_mul, Nat.zero_add, List.getElem?_append_left (by exact hj)]
  | m :: T, r :: S, i + 1, j, n, s, h, h', hj => by
    have ih := ncells_at T S i j n s (by simpa using h) (by simpa using h') hj
    have e : (ncell m r.1 r.2).length = 10 := rfl
    rw [ncells, List.getElem?_append_right (by omega), e, show (i + 1) * 10 + j - 10 = i * 10 + j by omega]
    exact ih
theorem ncells_one : ∀ (T : List Nd) (S : List (Value × Value)), (∀ s ∈ S, s.1.oneCell' = true ∧ s.2.oneCell' = true) → ∀ u ∈ ncells T S, u.oneCell' = true
  | [], S, _, u, hu => by cases S <;> simp [ncells] at hu
  | n :: T, [], _, u, hu => by simp [ncells] at hu
  | n :: T, s :: S, h, u, hu => by
    rw [ncells, List.mem_append] at hu
    rcases hu with hu | hu
    · obtain ⟨h1, h2⟩ := h s (by simp)
      simp [ncell] at hu
      rcases hu with rfl | rfl | rfl | rfl | rfl | rfl | rfl | rfl | rfl | rfl <;> first | rfl | assumption
    · exact ncells_one T S (fun s hs => h s (List.mem_cons_of_mem _ hs)) u hu

/-- A tree in memory of one's own: a row of nodes, and a row for each node's kids and pieces. -/
structure OwnT (w : World) (base : Nat) (v : Value) (T : List Nd) (S : List (Value × Value)) : Prop where
  len : S.length = T.length
  row : w.ownsRow base 39 10 v T.length (ncells T S)
  sub : ∀ (i : Nat) (n : Nd) (s : Value × Value), T[i]? = some n → S[i]? = some s → w.ownsRow base 3 1 s.1 n.ks.length (icells n.ks) ∧ w.ownsRow base 42 2 s.2 n.ps.length (qcells n.ps)
  sep : ∀ (i j : Nat) (s r : Value × Value) (g : Nat), i < j → S[i]? = some s → S[j]? = some r → s.1.ownBlock = some g → r.1.ownBlock ≠ some g

theorem own_type {w : World} {base base' e e' size size' n n' : Nat} {v v' : Value} {xs xs' : List Value} (h : w.ownsRow base e size v n xs) (h' : w.ownsRow base' e' size' v' n' xs') (hne : e ≠ e') : ∀ g, v.ownBlock = some g → v'.ownBlock ≠ some g := by
  intro g hg hg'
  rcases h.2 with ⟨rfl, _⟩ | ⟨g1, cap, cur, rfl, hb, hh, r⟩
  · simp [Value.ownBlock] at hg
  · rcases h'.2 with ⟨rfl, _⟩ | ⟨g2, cap', cur', rfl, hb', hh', r'⟩
    · simp [Value.ownBlock] at hg'
    · simp [Value.ownBlock] at hg hg'
      subst hg hg'
      rw [hh] at hh'
      injection hh' with hh'
      injection hh' with _ ht
      exact hne ht
theorem own_slice {w : World} {base e size n : Nat} {v : Value} {xs : List Value} (h : w.ownsRow base e size v n xs) : v.oneCell' = true := by
  rcases h.2 with ⟨rfl, _⟩ | ⟨g, cap, cur, rfl, _⟩ <;> rfl

theorem OwnT.nil (w : World) (base : Nat) : OwnT w base (.slice none 0 0) [] [] :=
  ⟨rfl, ⟨rfl, Or.inl ⟨rfl, rfl⟩⟩, fun i n s h => by simp at h, fun i j s r g _ h => by simp at h⟩
theorem OwnT.below {w w' : World} {base : Nat} {v : Value} {T : List Nd} {S : List (Value × Value)} (h : OwnT w base v T S) (hb : Below w.heap.size w w') : OwnT w' base v T S :=
  ⟨h.len, own_below h.row hb, fun i n s h1 h2 => ⟨own_below (h.sub i n s h1 h2).1 hb, own_below (h.sub i n s h1 h2).2 hb⟩, h.sep⟩
theorem OwnT.base {w : World} {base base' : Nat} {v : Value} {T : List Nd} {S : List (Value × Value)} (h : OwnT w base v T S) (hb : base' ≤ base) : OwnT w base' v T S :=
  ⟨h.len, own_base h.row hb, fun i n s h1 h2 => ⟨own_base (h.sub i n s h1 h2).1 hb, own_base (h.sub i n s h1 h2).2 hb⟩, h.sep⟩

/-- What a tree of one's own is. -/
theorem OwnT.tr {w : World} {base : Nat} {v : Value} {T : List Nd} {S : List (Value × Value)} (h : OwnT w base v T S) :
    ∃ A c, v = .slice A T.length c ∧ T.length ≤ c ∧ (A = none → c = 0) ∧ Tr w w.heap.size A T := by
  rcases h.row.2 with ⟨hv, h0⟩ | ⟨g, cap, cur, hv, hb, hh, hc, hm, hz, ht⟩
  · have e : T = [] := List.eq_nil_of_length_eq_zero h0
    subst e
    exact ⟨none, 0, hv, Nat.le_refl _, fun _ => rfl, fun i l hi => by simp at hi⟩
  · have hlt : g < w.heap.size := (Array.getElem?_eq_some_iff.1 hh).1
    refine ⟨some ⟨g, 0, none⟩, cap, hv, hc, (fun h => by cases h), fun i n hi => ?_⟩
    have hil : i < T.length := (List.getElem?_eq_some_iff.1 hi).1
    have hsl : i < S.length := by rw [h.len]; exact hil
    obtain ⟨s, hs⟩ : ∃ s, S[i]? = some s := ⟨_, List.getElem?_eq_getElem hsl⟩
    have key : ∀ j, j < 10 → w.cell? ⟨g, 0 + i * 10 + j, none⟩ = (ncell n s.1 s.2)[j]? := by
      intro j hj
      rw [← ncells_at T S i j n s hi hs hj, ← ht, List.getElem?_take_of_lt (by omega), Nat.zero_add, cell_of_row w g (i * 10 + j) cur 39 (0, 0) hh]
      simp
    obtain ⟨o1, o2⟩ := h.sub i n s hi hs
    obtain ⟨KA, kc, hk1, _, hk2, hk3⟩ := own_ints o1
    obtain ⟨PA, pc, hp1, _, hp2, hp3⟩ := own_pieces o2
    exact ⟨g, 0, s.1, s.2, rfl, hlt, ⟨key 0 (by omega), key 1 (by omega), key 2 (by omega), key 3 (by omega), key 4 (by omega), key 5 (by omega), key 6 (by omega), key 7 (by omega), key 8 (by omega), key 9 (by omega)⟩, KA, kc, PA, pc, hk1, hk2, hk3, hp1, hp2, hp3⟩

/-- One node more. -/
theorem OwnT.snoc {w w' : World} {base : Nat} {v v' kv pv : Value} {T : List Nd} {S : List (Value × Value)} {n : Nd} (h : OwnT w base v T S) (hg : w.grownBy w' v.ownBlock)
    (hr : w'.ownsRow base 39 10 v' (T.length + 1) (ncells T S ++ ncell n kv pv)) (hk : w.ownsRow base 3 1 kv n.ks.length (icells n.ks)) (hp : w.ownsRow base 42 2 pv n.ps.length (qcells n.ps))
    (hs : ∀ (i : Nat) (s : Value × Value) (g : Nat), S[i]? = some s → s.1.ownBlock = some g → kv.ownBlock ≠ some g) : OwnT w' base v' (T ++ [n]) (S ++ [(kv, pv)]) := by
  have keep : ∀ {e size m : Nat} {u : Value} {xs : List Value}, e ≠ 39 → w.ownsRow base e size u m xs → w'.ownsRow base e size u m xs := by
    intro e size m u xs he ho
    refine ho.kept hg ?_
    cases hu : u.ownBlock with
    | none => exact Or.inl rfl
    | some g => exact Or.inr (own_type ho h.row he g hu).symm
  refine ⟨by simp [h.len], ?_, ?_, ?_⟩
  · rw [ncells_snoc T S n (kv, pv) h.len, List.length_append]; exact hr
  · intro i m s h1 h2
    rcases Nat.lt_or_ge i T.length with q | q
    · rw [List.getElem?_append_left q] at h1
      rw [List.getElem?_append_left (by rw [h.len]; exact q)] at h2
      obtain ⟨a1, a2⟩ := h.sub i m s h1 h2
      exact ⟨keep (by decide) a1, keep (by decide) a2⟩
    · have hi : i = T.length := by
        have := (List.getElem?_eq_some_iff.1 h1).1
        simp at this; omega
      subst hi
      simp at h1
      rw [show T.length = S.length from h.len.symm] at h2
      simp at h2
      subst h1 h2
      exact ⟨keep (by decide) hk, keep (by decide) hp⟩
  · intro i j s r g hij h1 h2 h3
    rcases Nat.lt_or_ge j S.length with q | q
    · rw [List.getElem?_append_left q] at h2
      rw [List.getElem?_append_left (by omega)] at h1
      exact h.sep i j s r g hij h1 h2 h3
    · have hj : j = S.length := by
        have := (List.getElem?_eq_some_iff.1 h2).1
        simp at this; omega
      subst hj
      rw [List.getElem?_append_left hij] at h1
      simp at h2
      subst h2
      exact hs i s g h1 h3

theorem own_sl {w : World} {base e size n : Nat} {v : Value} {xs : List Value} (h : w.ownsRow base e size v n xs) : ∃ A c, v = .slice A n c := by
  rcases h.2 with ⟨rfl, h0⟩ | ⟨g, cap, cur, rfl, _⟩
  · subst h0; exact ⟨_, _, rfl⟩
  · exact ⟨_, _, rfl⟩

/-! ### CopyTree -/
def CRel (T : List Nd) (A : Option Addr) (c : Nat) (w : World) (v : Value) (wr : World) : Prop :=
  ∃ (i : Nat) (u : Value) (S : List (Value × Value)), i ≤ T.length ∧ v = .int .i64 i ∧ (∃ UA uc, u = .slice UA i uc) ∧ OwnT wr w.heap.size u (T.take i) S ∧ Holds wr w.heap.size 24 #[.slice A T.length c] ∧ Holds wr (w.heap.size + 1) 24 #[.slice none 0 0] ∧ Holds wr (w.heap.size + 1 + 1) 24 #[u] ∧ Below w.heap.size w wr

/-- A call that answers a tree in new memory. -/
def CopT (w : World) (T : List Nd) (e : Ending) (w' : World) : Prop :=
  ∃ v S, e = .returned (.agg #[v]) ∧ OwnT w' w.heap.size v T S ∧ Below w.heap.size w w'

theorem grown_holds {w w' : World} {row : Option Nat} {g : Nat} {t : TypeId} {cs : Array Value} (h : w.grownBy w' row) (hh : Holds w g t cs) (hne : row ≠ some g) : Holds w' g t cs := (h.block g hh.lt (fun e => hne e.symm)).trans hh
theorem below_grown' {B : Nat} {a w w' : World} {row : Option Nat} (h : Below B a w) (hg : w.grownBy w' row) (hB : B ≤ w.heap.size) (hr : ∀ k, row = some k → B ≤ k) : Below B a w' := h.grown hg hB hr

theorem own_holds_ne {w : World} {base e size n g : Nat} {t : TypeId} {v : Value} {xs : List Value} {cs : Array Value} (h : w.ownsRow base e size v n xs) (hh : Holds w g t cs) (hne : e ≠ t) : v.ownBlock ≠ some g := by
  intro hg
  rcases h.2 with ⟨rfl, _⟩ | ⟨g1, cap, cur, rfl, hb, h1, r⟩
  · simp [Value.ownBlock] at hg
  · simp [Value.ownBlock] at hg
    subst hg
    unfold Holds at hh
    rw [h1] at hh
    injection hh with hh
    injection hh with _ ht
    exact hne ht
theorem own_set {w : World} {base e size n : Nat} {v u : Value} {xs : List Value} {p : Addr} (h : w.ownsRow base e size v n xs) (hp : v.ownBlock ≠ some p.block) : (w.setCell p u).ownsRow base e size v n xs := by
  obtain ⟨h1, h2⟩ := h
  refine ⟨h1, ?_⟩
  rcases h2 with h2 | ⟨g, cap, cur, hv, hg, hh, r⟩
  · exact Or.inl h2
  · refine Or.inr ⟨g, cap, cur, hv, hg, (Below.heap_setCell w p u g ?_).trans hh, r⟩
    rintro rfl
    exact hp (by rw [hv]; rfl)
theorem own_low {w : World} {base e size n g : Nat} {v : Value} {xs : List Value} (h : w.ownsRow base e size v n xs) (hg : g < base) : v.ownBlock ≠ some g := by
  intro hh
  have := (own_block_ge h g hh).1
  omega
theorem OwnT.set {w : World} {base g o : Nat} {v u : Value} {T : List Nd} {S : List (Value × Value)} {cs : Array Value} (h : OwnT w base v T S) (hh : Holds w g 24 cs) : OwnT (w.setCell ⟨g, o, none⟩ u) base v T S :=
  ⟨h.len, own_set h.row (own_holds_ne h.row hh (by decide)), fun i n s h1 h2 => ⟨own_set (h.sub i n s h1 h2).1 (own_holds_ne (h.sub i n s h1 h2).1 hh (by decide)), own_set (h.sub i n s h1 h2).2 (own_holds_ne (h.sub i n s h1 h2).2 hh (by decide))⟩, h.sep⟩
theorem cells_new (w : World) (t : TypeId) (cs : Array Value) : ∀ j u, cs.toList[j]? = some u → (w.alloc (.cells cs t)).cell? ((⟨w.heap.size, 0, none⟩ : Addr).add j) = some u := by
  intro j u hu
  rw [add_none, Nat.zero_add, (Holds.made w t cs).at j]
  simpa using hu
theorem ncell_one (n : Nd) (kv pv : Value) (h1 : kv.oneCell' = true) (h2 : pv.oneCell' = true) : ∀ u ∈ ncell n kv pv, u.oneCell' = true := by
  intro u hu
  simp [ncell] at hu
  rcases hu with rfl | rfl | rfl | rfl | rfl | rfl | rfl | rfl | rfl | rfl <;> first | rfl | assumption

set_option maxRecDepth 100000 in
set_option maxHeartbeats 8000000 in
theorem copyTree_any (A : Option Addr) (c : Nat) (T : List Nd) (hT : Bd T) (w : World) (h : Tr w w.heap.size A T) :
    Calls Tryd.prog 10 #[.agg #[.slice A T.length c]] w (CopT w T) := by
  obtain ⟨i0, hi0, hz0, hz1, hz2⟩ := info_parts Tryd.info39
  have hl : T.length ≤ 10000 := hT.1
  have HT := Lib.hid hT
  have HA := Lib.hid h
  clear hT h
  go_enter Tryd.func10, Tryd.ntmps10
  go_wp2_with fail
  go_loopw [4] (fun v wr => CRel T A c w v wr) (fun v _ => T.length - (intOf v).toNat)
  case atStart =>
    refine ⟨0, .slice none 0 0, [], Nat.zero_le _, rfl, ⟨none, 0, rfl⟩, OwnT.nil _ _, ?_, ?_, ?_, ?_⟩
    · exact ((Holds.made w 24 _).under ((Below.refl _ _).alloc (Nat.le_refl _) _) (by simp)).under ((Below.refl _ _).alloc (Nat.le_refl _) _) (by simp; omega)
    · have := (Holds.made (w.alloc (.cells #[.slice A T.length c] 24)) 24 #[.slice none 0 0]).under ((Below.refl _ _).alloc (Nat.le_refl _) (.cells #[.slice none 0 0] 24)) (by simp)
      simpa using this
    · have := Holds.made ((w.alloc (.cells #[.slice A T.length c] 24)).alloc (.cells #[.slice none 0 0] 24)) 24 #[.slice none 0 0]
      simpa using this
    · exact (((Below.refl _ _).alloc (Nat.le_refl _) _).alloc (by simp) _).alloc (by simp; omega) _
  case round =>
    obtain ⟨i, u, S, hi, rfl, ⟨UA, uc, rfl⟩, hO, hH0, hH1, hH2, hB⟩ := hrel
    have HO := Lib.hid hO
    have H0 := Lib.hid hH0
    have H1 := Lib.hid hH1
    have H2 := Lib.hid hH2
    have HB := Lib.hid hB
    have zz : w.heap.size + 1 + 1 < wr.heap.size := hH2.lt
    have a0 : wr.cell? ⟨w.heap.size, 0, none⟩ = some (.slice A T.length c) := hH0.at 0
    have a1 : wr.cell? ⟨w.heap.size + 1, 0, none⟩ = some (.slice none 0 0) := hH1.at 0
    have f1 : wr.frozen? ⟨w.heap.size + 1, 0, none⟩ = false := hH1.soft 0
    have a2 : wr.cell? ⟨w.heap.size + 1 + 1, 0, none⟩ = some (.slice UA i uc) := hH2.at 0
    clear hO hH0 hH1 hH2
    by_cases hlt : i < T.length
    · have hti := List.getElem?_eq_getElem hlt
      obtain ⟨b, o, kv0, pv0, rfl, hb, hK, KA, kc, PA, pc, rfl, e2, e3, rfl, e5, e6⟩ := (HA.out.below hB) i _ hti
      obtain ⟨m1, m2, m3, m4, m5⟩ := HT.out.2 _ (List.getElem_mem hlt)
      have HTk : Hid (T.take (i + 1) = T.take i ++ [T[i]]) := List.take_succ_eq_append_getElem hlt
      have HTl : Hid ((T.take i).length = i) := by show _ = _; rw [List.length_take]; omega
      clear hti hB
      generalize T[i] = n at *
      have HI : Hid (∀ W, Below w.heap.size wr W → Calls Tryd.prog 22 #[.slice KA n.ks.length kc] W (OwnI W n.ks)) := fun W hb => copyInts_any KA kc e2 n.ks (by omega) W ((e3.below hb).more (by have := hb.size; omega))
      have HQ : Hid (∀ W, Below w.heap.size wr W → Calls Tryd.prog 23 #[.slice PA n.ps.length pc] W (OwnQ W n.ps)) := fun W hb => copyPieces_any PA pc e5 n.ps (by omega) W ((e6.below hb).more (by have := hb.size; omega))
      have r0 := hK.c0
      have r1 := hK.c1
      have r2 := hK.c2
      have r3 := hK.c3
      have r4 := hK.c4
      have r5 := hK.c5
      have r6 := hK.c6
      have r7 := hK.c7
      have r8 := hK.c8
      have r9 := hK.c9
      clear hK e2 e3 e5 e6
      go_wp2_with fail
      refine (HI.out _ ((Below.refl _ _).alloc (by omega) _)).mono ?_
      rintro e w1 ⟨kv, rfl, ho1, hb1⟩
      obtain ⟨KB, kd, rfl⟩ := own_sl ho1
      have G1 : Hid (Holds w1 wr.heap.size 39 #[.int .i64 n.k, .int .i64 n.f, .int .i64 n.t, .int .i64 n.l, .string n.x, .string n.u, .string n.h, .bool n.g, .slice KA n.ks.length kc, .slice PA n.ps.length pc]) := Holds.under (Holds.made wr 39 _) hb1 (by simp)
      have K1 : Hid (Below wr.heap.size wr w1) := ((Below.refl _ _).alloc (Nat.le_refl _) _).trans (hb1.mono (by simp))
      have z1 : wr.heap.size < w1.heap.size := by have := hb1.size; simp at this; omega
      have O1 := Lib.hid ho1
      clear ho1 hb1
      have x0 : w1.cell? ⟨wr.heap.size, 0, none⟩ = some (.int .i64 n.k) := G1.out.at 0
      have x1 : w1.cell? ⟨wr.heap.size, 1, none⟩ = some (.int .i64 n.f) := G1.out.at 1
      have x2 : w1.cell? ⟨wr.heap.size, 2, none⟩ = some (.int .i64 n.t) := G1.out.at 2
      have x3 : w1.cell? ⟨wr.heap.size, 3, none⟩ = some (.int .i64 n.l) := G1.out.at 3
      have x4 : w1.cell? ⟨wr.heap.size, 4, none⟩ = some (.string n.x) := G1.out.at 4
      have x5 : w1.cell? ⟨wr.heap.size, 5, none⟩ = some (.string n.u) := G1.out.at 5
      have x6 : w1.cell? ⟨wr.heap.size, 6, none⟩ = some (.string n.h) := G1.out.at 6
      have x7 : w1.cell? ⟨wr.heap.size, 7, none⟩ = some (.bool n.g) := G1.out.at 7
      have x8 : w1.cell? ⟨wr.heap.size, 8, none⟩ = some (.slice KA n.ks.length kc) := G1.out.at 8
      have x9 : w1.cell? ⟨wr.heap.size, 9, none⟩ = some (.slice PA n.ps.length pc) := G1.out.at 9
      have v8 : w1.frozen? ⟨wr.heap.size, 8, none⟩ = false := G1.out.soft 8
      go_wp2_with fail
      refine (HQ.out _ (((K1.out.mono (by omega)).setCell (p := ⟨wr.heap.size, 8, none⟩) (by show w.heap.size ≤ wr.heap.size; omega) _))).mono ?_
      rintro e w2 ⟨pv, rfl, ho2, hb2⟩
      obtain ⟨PB, pd, rfl⟩ := own_sl ho2
      have hb2' : Below w1.heap.size (w1.setCell ⟨wr.heap.size, 8, none⟩ (.slice KB n.ks.length kd)) w2 := by have := hb2; simpa using this
      have G2 : Hid (Holds w2 wr.heap.size 39 #[.int .i64 n.k, .int .i64 n.f, .int .i64 n.t, .int .i64 n.l, .string n.x, .string n.u, .string n.h, .bool n.g, (.slice KB n.ks.length kd), .slice PA n.ps.length pc]) := Holds.under (G1.out.set 8 (.slice KB n.ks.length kd)) hb2' z1
      have K2 : Hid (Below wr.heap.size wr w2) := (K1.out.setCell (p := ⟨wr.heap.size, 8, none⟩) (Nat.le_refl _) (.slice KB n.ks.length kd)).trans (hb2'.mono (by omega))
      have z2 : wr.heap.size < w2.heap.size := G2.out.lt
      have O1a : Hid (w2.ownsRow w.heap.size 3 1 (.slice KB n.ks.length kd) n.ks.length (icells n.ks)) := own_base (own_below (own_set (u := (.slice KB n.ks.length kd)) (p := ⟨wr.heap.size, 8, none⟩) O1.out (own_low O1.out (by simp))) hb2) (by simp; omega)
      have O1b : Hid (∀ g, (Value.slice KB n.ks.length kd).ownBlock = some g → wr.heap.size < g ∧ g < w1.heap.size) := fun g hg => by have := own_block_ge O1.out g hg; simp at this; omega
      have O2 : Hid (w2.ownsRow w.heap.size 42 2 (.slice PB n.ps.length pd) n.ps.length (qcells n.ps)) := own_base ho2 (by simp; omega)
      have O2b : Hid ((Value.slice PB n.ps.length pd).ownBlock ≠ some wr.heap.size) := own_low ho2 (by simp; omega)
      have z3 : w1.heap.size ≤ w2.heap.size := by have := hb2'.size; simpa using this
      clear ho2 hb2 hb2' O1 G1 K1 x0 x1 x2 x3 x4 x5 x6 x7 x8 x9 v8 r0 r1 r2 r3 r4 r5 r6 r7 r8 r9
      have y0 : w2.cell? ⟨wr.heap.size, 0, none⟩ = some (.int .i64 n.k) := G2.out.at 0
      have y1 : w2.cell? ⟨wr.heap.size, 1, none⟩ = some (.int .i64 n.f) := G2.out.at 1
      have y2 : w2.cell? ⟨wr.heap.size, 2, none⟩ = some (.int .i64 n.t) := G2.out.at 2
      have y3 : w2.cell? ⟨wr.heap.size, 3, none⟩ = some (.int .i64 n.l) := G2.out.at 3
      have y4 : w2.cell? ⟨wr.heap.size, 4, none⟩ = some (.string n.x) := G2.out.at 4
      have y5 : w2.cell? ⟨wr.heap.size, 5, none⟩ = some (.string n.u) := G2.out.at 5
      have y6 : w2.cell? ⟨wr.heap.size, 6, none⟩ = some (.string n.h) := G2.out.at 6
      have y7 : w2.cell? ⟨wr.heap.size, 7, none⟩ = some (.bool n.g) := G2.out.at 7
      have y8 : w2.cell? ⟨wr.heap.size, 8, none⟩ = some ((.slice KB n.ks.length kd)) := G2.out.at 8
      have y9 : w2.cell? ⟨wr.heap.size, 9, none⟩ = some (.slice PA n.ps.length pc) := G2.out.at 9
      have v9 : w2.frozen? ⟨wr.heap.size, 9, none⟩ = false := G2.out.soft 9
      have a2' : w2.cell? ⟨w.heap.size + 1 + 1, 0, none⟩ = some (.slice UA i uc) := (H2.out.under K2.out zz).at 0
      clear a2 a0 a1 f1
      have HRow : Hid (∀ W, Below wr.heap.size wr W → W.ownsRow w.heap.size 39 10 (.slice UA i uc) i (ncells (T.take i) S)) := fun W hb => by have := (HO.out.below hb).row; rw [HTl.out] at this; exact this
      go_wp2_with (at_builtin; refine wpList_append_own _ rfl _ _ 22 rfl w.heap.size 39 i0 (.agg #[.int .i64 0, .int .i64 0, .int .i64 0, .int .i64 0, .string ⟨#[]⟩, .string ⟨#[]⟩, .string ⟨#[]⟩, .bool false, .slice none 0 0, .slice none 0 0]) 10 136 Tryd.underlying22 hi0 hz0 hz1 hz2 rfl (by decide) _ _ _ rfl (HRow.out _ ((K2.out.setCell (p := ⟨wr.heap.size, 9, none⟩) (Nat.le_refl _) (.slice PB n.ps.length pd)).alloc (by simp; omega) _)) ⟨w2.heap.size, 0, none⟩ 1 1 (ncell n (.slice KB n.ks.length kd) (.slice PB n.ps.length pd)) rfl rfl (by have := cells_new (w2.setCell ⟨wr.heap.size, 9, none⟩ (.slice PB n.ps.length pd)) 39 #[.int .i64 n.k, .int .i64 n.f, .int .i64 n.t, .int .i64 n.l, .string n.x, .string n.u, .string n.h, .bool n.g, (.slice KB n.ks.length kd), (.slice PB n.ps.length pd)]; simpa [ncell] using this) (ncell_one n (.slice KB n.ks.length kd) (.slice PB n.ps.length pd) (own_slice O1a.out) (own_slice O2.out)) (by have := HTl.out; unfold maxLen; omega) (by have := HTl.out; omega) (by simp; omega) ?_)
      intro v' w4 hown hgrow _
      obtain ⟨VA, vc, rfl⟩ := own_sl hown
      have hW : Below wr.heap.size wr ((w2.setCell ⟨wr.heap.size, 9, none⟩ (.slice PB n.ps.length pd)).alloc (.cells #[.int .i64 n.k, .int .i64 n.f, .int .i64 n.t, .int .i64 n.l, .string n.x, .string n.u, .string n.h, .bool n.g, .slice KB n.ks.length kd, .slice PB n.ps.length pd] 39)) := (K2.out.setCell (p := ⟨wr.heap.size, 9, none⟩) (Nat.le_refl _) _).alloc (by simp; omega) _
      have hrow := HRow.out _ hW
      have hO4 : Hid (OwnT w4 w.heap.size (.slice VA (i + 1) vc) (T.take i ++ [n]) (S ++ [(.slice KB n.ks.length kd, .slice PB n.ps.length pd)])) := by
        refine (HO.out.below hW).snoc hgrow (by rw [HTl.out]; exact hown) ?_ ?_ ?_
        · exact own_below (own_set (p := ⟨wr.heap.size, 9, none⟩) O1a.out (fun h => by have := (O1b.out _ h).1; simp at this)) ((Below.refl _ _).alloc (Nat.le_refl _) _)
        · exact own_below (own_set (p := ⟨wr.heap.size, 9, none⟩) O2.out O2b.out) ((Below.refl _ _).alloc (Nat.le_refl _) _)
        · intro j s g hs hg hg'
          have h1 := (O1b.out g hg').1
          have hj : j < (T.take i).length := by rw [← HO.out.len]; exact (List.getElem?_eq_some_iff.1 hs).1
          have h2 := (own_block_ge (HO.out.sub j _ s (List.getElem?_eq_getElem hj) hs).1 g hg).2
          omega
      have J0 := Lib.hid (grown_holds hgrow (H0.out.under hW (by omega)) (own_holds_ne hrow (H0.out.under hW (by omega)) (by decide)))
      have J1 := Lib.hid (grown_holds hgrow (H1.out.under hW (by omega)) (own_holds_ne hrow (H1.out.under hW (by omega)) (by decide)))
      have J2 := Lib.hid (grown_holds hgrow (H2.out.under hW zz) (own_holds_ne hrow (H2.out.under hW zz) (by decide)))
      have JB : Hid (Below w.heap.size w w4) := below_grown' (HB.out.trans (hW.mono (by omega))) hgrow (by have := hW.size; omega) (fun k hk => (own_block_ge hrow k hk).1)
      have b2 : w4.cell? ⟨w.heap.size + 1 + 1, 0, none⟩ = some (.slice UA i uc) := J2.out.at 0
      have f2 : w4.frozen? ⟨w.heap.size + 1 + 1, 0, none⟩ = false := J2.out.soft 0
      clear hown hgrow hW hrow a2'
      go_wp2_with fail
      go_roundw
      case rel =>
        refine ⟨i + 1, .slice VA (i + 1) vc, S ++ [(.slice KB n.ks.length kd, .slice PB n.ps.length pd)], by omega, by go_num, ⟨VA, vc, rfl⟩, ?_, J0.out.past (p := ⟨w.heap.size + 1 + 1, 0, none⟩) (by show w.heap.size ≠ w.heap.size + 1 + 1; omega) _, J1.out.past (p := ⟨w.heap.size + 1 + 1, 0, none⟩) (by show w.heap.size + 1 ≠ w.heap.size + 1 + 1; omega) _, J2.out.set 0 _, JB.out.setCell (p := ⟨w.heap.size + 1 + 1, 0, none⟩) (by show w.heap.size ≤ w.heap.size + 1 + 1; omega) _⟩
        rw [HTk.out]
        exact hO4.out.set J2.out
      case measure => simp [intOf]; omega
    · have HO2 : Hid (OwnT wr w.heap.size (.slice UA i uc) T S) := by have := HO.out; rw [List.take_of_length_le (by omega)] at this; exact this
      go_wp2_with fail
      refine bodyPost_ret (v := .agg #[.slice UA i uc]) (by simp [results, Tryd.results10, go_sem, a1]) rfl ⟨_, S, rfl, HO2.out.set H1.out, HB.out.setCell (by show _ ≤ w.heap.size + 1; omega) _⟩
end Go.Proofs.YtdfhgcknelgdmaaDoor
