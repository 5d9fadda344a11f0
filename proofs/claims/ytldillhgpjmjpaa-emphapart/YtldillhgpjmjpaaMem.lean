/-
  PROVED: how lists of rows, pairs and numbers lie in memory; contracts of the law's own great, copies and same, and of stetref00.SameInts. Conditions: the slices lie in memory that holds them.
-/
import Derived.Test.YtldillhgpjmjpaaCore
import Derived.Test.YtldillhgpjmjpaaPure
namespace Go.Proofs.Ytldillhgpjmjpaa
open Go.ChangeShapes Go.WideShapes Go.ChangeAt Go.RowKit Go.Sort
set_option linter.unusedVariables false

theorem Try.info35 : (Try.prog.info? 35).map (fun i => (i.zero, i.size, i.bytes)) = some (some (.agg #[.int .u8 0, .int .i64 0, .bool false, .bool false]), 4, 24) := by kernel_rfl
theorem Try.info3 : (Try.prog.info? 3).map (fun i => (i.zero, i.size, i.bytes)) = some (some (.int .i64 0), 1, 8) := by kernel_rfl
theorem Try.info33 : (Try.prog.info? 33).map (fun i => (i.zero, i.size, i.bytes)) = some (some (.agg #[.int .i64 0, .int .i64 0, .int .i64 0]), 3, 24) := by kernel_rfl

/-! ### rows of cells -/
theorem fm_len {α : Type} {f : α → List Value} {k : Nat} (hk : ∀ a, (f a).length = k) : ∀ (L : List α), (L.flatMap f).length = L.length * k
  | [] => by simp
  | x :: L => by rw [List.flatMap_cons, List.length_append, hk, fm_len hk L, List.length_cons, Nat.add_mul]; omega
theorem fm_at {α : Type} {f : α → List Value} {k : Nat} (hk : ∀ a, (f a).length = k) : ∀ (L : List α) (i j : Nat) (x : α), L[i]? = some x → j < k → (L.flatMap f)[i * k + j]? = (f x)[j]?
  | [], i, j, x, h, _ => by simp at h
  | y :: L, 0, j, x, h, hj => by
    simp at h
    subst h
    rw [List.flatMap_cons, Nat.zero_mul, Nat.zero_add, List.getElem?_append_left (by rw [hk]; exact hj)]
  | y :: L, i + 1, j, x, h, hj => by
    rw [List.flatMap_cons, List.getElem?_append_right (by rw [hk, Nat.add_mul]; omega), hk, show (i + 1) * k + j - k = i * k + j by rw [Nat.add_mul]; omega]
    exact fm_at hk L i j x (by simpa using h) hj
theorem fm_one {α : Type} {f : α → List Value} (h : ∀ a, ∀ u ∈ f a, u.oneCell' = true) (L : List α) : ∀ u ∈ L.flatMap f, u.oneCell' = true := by
  intro u hu
  obtain ⟨a, _, ha⟩ := List.mem_flatMap.1 hu
  exact h a u ha

def rcell (r : Rw) : List Value := [.int .u8 r.m, .int .i64 r.n, .bool r.o, .bool r.c]
def rcells (L : List Rw) : List Value := L.flatMap rcell
def bcell (b : Bd) : List Value := [.int .i64 b.1, .int .i64 b.2.1, .int .i64 b.2.2]
def bcells (L : List Bd) : List Value := L.flatMap bcell
def ints (L : List Nat) : List Value := L.map fun (n : Nat) => Value.int .i64 (n : Int)
abbrev ragg (r : Rw) : Value := .agg #[.int .u8 r.m, .int .i64 r.n, .bool r.o, .bool r.c]
abbrev bagg (b : Bd) : Value := .agg #[.int .i64 b.1, .int .i64 b.2.1, .int .i64 b.2.2]
theorem rcell_len (r : Rw) : (rcell r).length = 4 := rfl
theorem bcell_len (r : Bd) : (bcell r).length = 3 := rfl
theorem rcell_one (r : Rw) : ∀ u ∈ rcell r, u.oneCell' = true := by
  intro u hu
  simp [rcell] at hu
  rcases hu with rfl | rfl | rfl | rfl <;> rfl
theorem bcell_one (r : Bd) : ∀ u ∈ bcell r, u.oneCell' = true := by
  intro u hu
  simp [bcell] at hu
  rcases hu with rfl | rfl | rfl <;> rfl
theorem rcells_len (L : List Rw) : (rcells L).length = L.length * 4 := fm_len rcell_len L
theorem bcells_len (L : List Bd) : (bcells L).length = L.length * 3 := fm_len bcell_len L
theorem ints_len (L : List Nat) : (ints L).length = L.length := by simp [ints]
theorem rcells_one (L : List Rw) : ∀ u ∈ rcells L, u.oneCell' = true := fm_one rcell_one L
theorem rcells_app (a b : List Rw) : rcells (a ++ b) = rcells a ++ rcells b := by simp [rcells]
theorem bcells_app (a b : List Bd) : bcells (a ++ b) = bcells a ++ bcells b := by simp [bcells]
theorem ints_app (a b : List Nat) : ints (a ++ b) = ints a ++ ints b := by simp [ints]

/-- Memory at A, below block B, holds the cells xs. -/
def Rdc (w : World) (B : Nat) (A : Option Addr) (xs : List Value) : Prop := ∀ j u, xs[j]? = some u → ∃ b o, A = some ⟨b, o, none⟩ ∧ b < B ∧ w.cell? ⟨b, o + j, none⟩ = some u
theorem Rdc.below {w w' : World} {A : Option Addr} {xs : List Value} {B : Nat} (h : Rdc w B A xs) (hb : Below B w w') : Rdc w' B A xs := by
  intro j u hj
  obtain ⟨b, o, e, hlt, h0⟩ := h j u hj
  exact ⟨b, o, e, hlt, (hb.cell (p := ⟨b, o + j, none⟩) hlt).trans h0⟩
theorem Rdc.more {w : World} {A : Option Addr} {xs : List Value} {B B' : Nat} (h : Rdc w B A xs) (hb : B ≤ B') : Rdc w B' A xs := by
  intro j u hj
  obtain ⟨b, o, e, hlt, r⟩ := h j u hj
  exact ⟨b, o, e, by omega, r⟩
theorem Rdc.here {w : World} {A : Option Addr} {xs : List Value} {B : Nat} (h : Rdc w B A xs) : Rdc w w.heap.size A xs := by
  intro j u hj
  obtain ⟨b, o, e, hlt, r⟩ := h j u hj
  exact ⟨b, o, e, World.block_lt_of_cell? _ _ r, r⟩
theorem Rdc.drewN {w : World} {A : Option Addr} {xs : List Value} {B : Nat} (h : Rdc w B A xs) (n : Nat) : Rdc (w.drewN n) B A xs := h
theorem Rdc.on {w w' : World} {A : Option Addr} {xs : List Value} (h : Rdc w w.heap.size A xs) (hb : Below w.heap.size w w') : Rdc w' w'.heap.size A xs := (h.below hb).more hb.size
theorem Rdc.cells {w : World} {B : Nat} {ad : Addr} {xs : List Value} (h : Rdc w B (some ad) xs) : ∀ j u, xs[j]? = some u → w.cell? (ad.add j) = some u := by
  intro j u hu
  obtain ⟨b, o, e, _, h0⟩ := h j u hu
  injection e with e
  subst e
  have ha : (⟨b, o, none⟩ : Addr).add j = ⟨b, o + j, none⟩ := by unfold Addr.add; split <;> simp_all
  rw [ha]
  exact h0
/-- One row of four cells. -/
theorem Rdc.run {w : World} {A : Option Addr} {L : List Rw} {B : Nat} (h : Rdc w B A (rcells L)) {i : Nat} {r : Rw} (hi : L[i]? = some r) :
    ∃ b o, A = some ⟨b, o, none⟩ ∧ b < B ∧ w.cell? ⟨b, o + i * 4, none⟩ = some (.int .u8 r.m) ∧ w.cell? ⟨b, o + i * 4 + 1, none⟩ = some (.int .i64 r.n) ∧ w.cell? ⟨b, o + i * 4 + 2, none⟩ = some (.bool r.o) ∧ w.cell? ⟨b, o + i * 4 + 3, none⟩ = some (.bool r.c) := by
  obtain ⟨b, o, rfl, hb, h0⟩ := h (i * 4 + 0) _ (fm_at rcell_len L i 0 r hi (by omega))
  obtain ⟨b1, o1, e1, _, h1⟩ := h (i * 4 + 1) _ (fm_at rcell_len L i 1 r hi (by omega))
  obtain ⟨b2, o2, e2, _, h2⟩ := h (i * 4 + 2) _ (fm_at rcell_len L i 2 r hi (by omega))
  obtain ⟨b3, o3, e3, _, h3⟩ := h (i * 4 + 3) _ (fm_at rcell_len L i 3 r hi (by omega))
  cases e1; cases e2; cases e3
  refine ⟨b, o, rfl, hb, by simpa using h0, ?_, ?_, ?_⟩
  · rw [Nat.add_assoc]; exact h1
  · rw [Nat.add_assoc]; exact h2
  · rw [Nat.add_assoc]; exact h3
/-- One pair of three cells. -/
theorem Rdc.pair {w : World} {A : Option Addr} {L : List Bd} {B : Nat} (h : Rdc w B A (bcells L)) {i : Nat} {r : Bd} (hi : L[i]? = some r) :
    ∃ b o, A = some ⟨b, o, none⟩ ∧ b < B ∧ w.cell? ⟨b, o + i * 3, none⟩ = some (.int .i64 r.1) ∧ w.cell? ⟨b, o + i * 3 + 1, none⟩ = some (.int .i64 r.2.1) ∧ w.cell? ⟨b, o + i * 3 + 2, none⟩ = some (.int .i64 r.2.2) := by
  obtain ⟨b, o, rfl, hb, h0⟩ := h (i * 3 + 0) _ (fm_at bcell_len L i 0 r hi (by omega))
  obtain ⟨b1, o1, e1, _, h1⟩ := h (i * 3 + 1) _ (fm_at bcell_len L i 1 r hi (by omega))
  obtain ⟨b2, o2, e2, _, h2⟩ := h (i * 3 + 2) _ (fm_at bcell_len L i 2 r hi (by omega))
  cases e1; cases e2
  refine ⟨b, o, rfl, hb, by simpa using h0, ?_, ?_⟩
  · rw [Nat.add_assoc]; exact h1
  · rw [Nat.add_assoc]; exact h2
theorem Rdc.num {w : World} {A : Option Addr} {L : List Nat} {B : Nat} (h : Rdc w B A (ints L)) {i : Nat} {r : Nat} (hi : L[i]? = some r) :
    ∃ b o, A = some ⟨b, o, none⟩ ∧ b < B ∧ w.cell? ⟨b, o + i, none⟩ = some (.int .i64 r) := h i _ (by simp [ints, hi])

/-- A slice that owns cells. -/
theorem own_rdc {w : World} {base e size n : Nat} {v : Value} {xs : List Value} (h : w.ownsRow base e size v n xs) : ∃ A c, v = .slice A n c ∧ n ≤ c ∧ (A = none → c = 0) ∧ Rdc w w.heap.size A xs := by
  rcases h.2 with ⟨rfl, h0⟩ | ⟨g, cap, cur, rfl, hb, hh, hc, hm, hz, ht⟩
  · subst h0
    have e : xs = [] := List.eq_nil_of_length_eq_zero (by simpa using h.1)
    subst e
    exact ⟨none, 0, rfl, Nat.le_refl _, fun _ => rfl, fun i l hi => by simp at hi⟩
  · have hlt : g < w.heap.size := (Array.getElem?_eq_some_iff.1 hh).1
    refine ⟨some ⟨g, 0, none⟩, cap, rfl, hc, (fun h => by cases h), fun j u hj => ⟨g, 0, rfl, hlt, ?_⟩⟩
    rw [Nat.zero_add, cell_of_row w g j cur e (0, 0) hh]
    rw [← ht, List.getElem?_take] at hj
    split at hj
    · simpa using hj
    · cases hj
/-- A call that answers a row in new memory. -/
def OwnR (w : World) (t size n : Nat) (xs : List Value) (e : Ending) (w' : World) : Prop := ∃ v, e = .returned v ∧ w'.ownsRow w.heap.size t size v n xs ∧ Below w.heap.size w w'
theorem OwnR.rd {w w' : World} {t size n : Nat} {xs : List Value} {e : Ending} (h : OwnR w t size n xs e w') : ∃ A c, e = .returned (.slice A n c) ∧ n ≤ c ∧ (A = none → c = 0) ∧ Rdc w' w'.heap.size A xs ∧ Below w.heap.size w w' := by
  obtain ⟨v, rfl, ho, hb⟩ := h
  obtain ⟨A, c, rfl, hc, h0, hr⟩ := own_rdc ho
  exact ⟨A, c, rfl, hc, h0, hr, hb⟩
theorem chain {B : Nat} {a b c : World} (hB : B ≤ a.heap.size) (h : Below B a b) (k : Below b.heap.size b c) : Below B a c := h.trans (k.mono (Nat.le_trans hB h.size))
theorem below_drewN {B : Nat} {a w : World} (h : Below B a w) (n : Nat) : Below B a (w.drewN n) := ⟨h.os, h.tape, h.output, h.size, h.block⟩

/-! ### great -/
/-- What great answers: where it says no there are 300 rows at most. -/
def GrB (n : Nat) (e : Ending) : Prop := ∃ b : Bool, e = .returned (.bool b) ∧ (b = false → n ≤ 300)

set_option maxHeartbeats 1000000 in
theorem great_any (A : Option Addr) (c : Nat) (L : List Rw) (hl : L.length ≤ 140737488355328) (B : Nat) (w : World) (h : Rdc w B A (rcells L)) :
    Calls Try.prog 9 #[.slice A L.length c] w fun e w' => GrB L.length e ∧ w = w' := by
  by_cases h3 : 300 < L.length
  · have h3z : (300 : Int) < (L.length : Int) := by omega
    go_enter Try.func9, Try.ntmps9
    go_wp2_with fail
    go_ret
    exact ⟨⟨true, rfl, fun h => by cases h⟩, rfl⟩
  · have h3z : ¬ (300 : Int) < (L.length : Int) := by omega
    go_enter Try.func9, Try.ntmps9
    go_wp2_with fail
    go_loop [3, 4] (fun n i => ∃ (j m : Nat), j ≤ L.length ∧ m ≤ 3000 ∧ i = .int .i64 j ∧ n = .int .i64 m) (fun _ i => L.length - (intOf i).toNat)
    case atStart => exact ⟨0, 0, Nat.zero_le _, by omega, rfl, rfl⟩
    case round =>
      obtain ⟨j, m, hj, hm, rfl, rfl⟩ := hrel
      by_cases hlt : j < L.length
      · obtain ⟨b, o, rfl, hb, c0, c1, c2, c3⟩ := h.run (List.getElem?_eq_getElem hlt)
        generalize L[j].n = x at c1
        clear c0 c2 c3 h
        by_cases hx : 0 < x ∧ x ≤ 1048576
        · obtain ⟨hx1, hx2⟩ := hx
          obtain ⟨y, rfl⟩ : ∃ y : Nat, x = y := ⟨x.toNat, by omega⟩
          by_cases hm2 : m + y ≤ 3000
          · have q1 : ¬ (3000 : Int) < (m : Int) + y := by omega
            go_wp2_with fail
            go_round
            case rel => exact ⟨j + 1, m + y, by omega, by omega, by go_num, by go_num⟩
            case measure => simp [intOf]; omega
          · have q1 : (3000 : Int) < (m : Int) + y := by omega
            go_wp2_with fail
            go_ret
            exact ⟨⟨true, rfl, fun h => by cases h⟩, rfl⟩
        · have q1 : ¬ (3000 : Int) < (m : Int) := by omega
          by_cases hx1 : 0 < x
          · have hx2 : ¬ x ≤ 1048576 := fun h => hx ⟨hx1, h⟩
            clear hx
            go_wp2_with fail
            go_round
            case rel => exact ⟨j + 1, m, by omega, by omega, by go_num, by go_num⟩
            case measure => simp [intOf]; omega
          · clear hx
            go_wp2_with fail
            go_round
            case rel => exact ⟨j + 1, m, by omega, by omega, by go_num, by go_num⟩
            case measure => simp [intOf]; omega
      · go_wp2_with fail
        go_ret
        exact ⟨⟨false, rfl, fun _ => by omega⟩, rfl⟩

/-! ### copies -/
set_option maxHeartbeats 1000000 in
theorem copy_any (A : Option Addr) (c : Nat) (hA : A = none → c = 0) (L : List Rw) (hl : L.length ≤ 1000000) (B : Nat) (w : World) (h : Rdc w B A (rcells L)) :
    Calls Try.prog 10 #[.slice A L.length c] w (OwnR w 35 4 L.length (rcells L)) := by
  obtain ⟨i0, hi, hz0, hz1, hz2⟩ := info_parts Try.info35
  have h := h.here
  rcases A with _ | ad
  · have he : L = [] := by
      match L, h with
      | [], _ => rfl
      | r :: L, h => obtain ⟨b, o, e, _⟩ := h.run (i := 0) rfl; cases e
    subst he
    obtain rfl : c = 0 := hA rfl
    clear hA
    go_enter Try.func10, Try.ntmps10
    go_wp2
    go_ret
    exact ⟨_, rfl, own_empty w w.heap.size 35 4 (Nat.le_refl _), (Below.refl _ _).alloc (Nat.le_refl _) _⟩
  · have hc := (h.on ((Below.refl _ _).alloc (Nat.le_refl _) (.cells #[] 35))).cells
    have HC := Lib.hid hc
    clear hc h hA
    go_enter Try.func10, Try.ntmps10
    go_wp2_with (at_builtin; refine wpList_append_own _ rfl _ _ 22 rfl w.heap.size 35 i0 (.agg #[.int .u8 0, .int .i64 0, .bool false, .bool false]) 4 24 Try.underlying22 hi hz0 hz1 hz2 rfl (by decide) _ _ _ rfl (own_empty w w.heap.size 35 4 (Nat.le_refl _)) ad L.length c (rcells L) rfl (rcells_len L) HC.out (rcells_one L) (by unfold maxLen; omega) (by omega) (by simp) ?_)
    intro v' w2 hown' hgrow _
    have HO := Lib.hid hown'
    have HB : Hid (Below w.heap.size w w2) := ((Below.refl _ _).alloc (Nat.le_refl _) _).grown hgrow (by simp) (fun k hk => by simp [Value.ownBlock] at hk; omega)
    clear hown' hgrow HC
    go_wp2_with fail
    go_ret
    exact ⟨_, rfl, by have := HO.out; simpa using this, HB.out⟩

/-! ### same -/
set_option maxHeartbeats 1000000 in
theorem same_yes (A A' : Option Addr) (c c' : Nat) (L : List Rw) (hl : L.length ≤ 1000000) (B B' : Nat) (w : World) (h : Rdc w B A (rcells L)) (h' : Rdc w B' A' (rcells L)) :
    Calls Try.prog 16 #[.slice A L.length c, .slice A' L.length c'] w fun e w' => e = .returned (.bool true) ∧ ∃ n, w' = w.drewN n := by
  go_enter Try.func16, Try.ntmps16
  go_wp2_with fail
  go_loopw [5] (fun v wr => ∃ i n : Nat, i ≤ L.length ∧ v = .int .i64 i ∧ wr = w.drewN n) (fun v _ => L.length - (intOf v).toNat)
  case atStart => exact ⟨0, 0, Nat.zero_le _, rfl, rfl⟩
  case round =>
    obtain ⟨i, n, hi, rfl, rfl⟩ := hrel
    by_cases hlt : i < L.length
    · obtain ⟨b, o, rfl, hb, r0, r1, r2, r3⟩ := h.run (List.getElem?_eq_getElem hlt)
      obtain ⟨b', o', rfl, hb', k0, k1, k2, k3⟩ := h'.run (List.getElem?_eq_getElem hlt)
      generalize L[i] = l at *
      obtain ⟨x, y, z, t⟩ := l
      simp only at r0 r1 r2 r3 k0 k1 k2 k3
      clear h h'
      go_wp2_with fail
      go_quiet (fail)
      go_wp2_with fail
      go_roundw
      case rel => exact ⟨i + 1, n + nq, by omega, by go_num, rfl⟩
      case measure => simp [intOf]; omega
    · clear h h'
      go_wp2_with fail
      go_ret
      exact ⟨rfl, n, rfl⟩

set_option maxHeartbeats 1000000 in
theorem ints_yes (A A' : Option Addr) (c c' : Nat) (L : List Nat) (hl : L.length ≤ 1000000) (B B' : Nat) (w : World) (h : Rdc w B A (ints L)) (h' : Rdc w B' A' (ints L)) :
    Calls Try.prog 13 #[.slice A L.length c, .slice A' L.length c'] w fun e w' => e = .returned (.bool true) ∧ ∃ n, w' = w.drewN n := by
  go_enter Try.func13, Try.ntmps13
  go_wp2_with fail
  go_loopw [5] (fun v wr => ∃ i n : Nat, i ≤ L.length ∧ v = .int .i64 i ∧ wr = w.drewN n) (fun v _ => L.length - (intOf v).toNat)
  case atStart => exact ⟨0, 0, Nat.zero_le _, rfl, rfl⟩
  case round =>
    obtain ⟨i, n, hi, rfl, rfl⟩ := hrel
    by_cases hlt : i < L.length
    · obtain ⟨b, o, rfl, hb, r0⟩ := h.num (List.getElem?_eq_getElem hlt)
      obtain ⟨b', o', rfl, hb', k0⟩ := h'.num (List.getElem?_eq_getElem hlt)
      generalize L[i] = l at *
      clear h h'
      go_wp2_with fail
      go_quiet (fail)
      go_wp2_with fail
      go_roundw
      case rel => exact ⟨i + 1, n + nq, by omega, by go_num, rfl⟩
      case measure => simp [intOf]; omega
    · clear h h'
      go_wp2_with fail
      go_ret
      exact ⟨rfl, n, rfl⟩
end Go.Proofs.Ytldillhgpjmjpaa
