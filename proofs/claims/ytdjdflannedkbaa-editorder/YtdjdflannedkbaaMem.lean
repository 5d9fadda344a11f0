/-
  PROVED: how lists of edits lie in memory; contracts of the law's own great, of stetref00.CopyEdits and SameEdits, and of the document's before. Conditions: the slices lie in memory that holds the edits; texts of at most 2^47 bytes.
-/
import Derived.Test.YtdjdflannedkbaaSpec
import Derived.Test.YtdjdflannedkbaaRows
import Derived.WalkKit
import Derived.IntWalk
import Derived.WalkSpells
import Derived.WalkLawsBesides
import Derived.Deep.QuietTactic
import Derived.BigQuiet
import Derived.WalkSmall
import Derived.Lib.Strings
import Derived.Lib.Hide
import Derived.Deep.RegionHeld3
import Derived.Lib.SmallJoins
import Derived.OwnWalk
namespace Go.Proofs.Ytdjdflannedkbaa
open Go.ChangeShapes Go.WideShapes Go.ChangeAt Go.RowKit
set_option linter.unusedVariables false

theorem Try.info34 : (Try.prog.info? 34).map (fun i => (i.zero, i.size, i.bytes)) = some (some (.agg #[.int .i64 0, .int .i64 0, .string ⟨#[]⟩]), 3, 32) := by kernel_rfl

/-- An edit's cells. -/
def ecell (e : Ed) : List Value := [.int .i64 e.f, .int .i64 e.t, .string e.x]
def ecells (L : List Ed) : List Value := L.flatMap ecell
/-- An edit as a value. -/
abbrev eagg (e : Ed) : Value := .agg #[.int .i64 e.f, .int .i64 e.t, .string e.x]
theorem ecells_append (L M : List Ed) : ecells (L ++ M) = ecells L ++ ecells M := by simp [ecells]
theorem ecells_len (L : List Ed) : (ecells L).length = L.length * 3 := by
  induction L with
  | nil => rfl
  | cons x L ih =>
    have e : ecells (x :: L) = ecell x ++ ecells L := rfl
    have e3 : (ecell x).length = 3 := rfl
    rw [e, List.length_append, ih, e3, List.length_cons]; omega
theorem ecells_at : ∀ (L : List Ed) (i : Nat) (l : Ed), L[i]? = some l →
    (ecells L)[i * 3]? = some (.int .i64 l.f) ∧ (ecells L)[i * 3 + 1]? = some (.int .i64 l.t) ∧ (ecells L)[i * 3 + 2]? = some (.string l.x)
  | [], i, l, h => by simp at h
  | x :: L, 0, l, h => by
    simp at h
    subst h
    exact ⟨rfl, rfl, rfl⟩
  | x :: L, i + 1, l, h => by
    have h1 := ecells_at L i l (by simpa using h)
    have e : ecells (x :: L) = ecell x ++ ecells L := rfl
    have e3 : (ecell x).length = 3 := rfl
    refine ⟨?_, ?_, ?_⟩
    · rw [e, List.getElem?_append_right (by omega), e3, show (i + 1) * 3 - 3 = i * 3 from by omega]; exact h1.1
    · rw [e, List.getElem?_append_right (by omega), e3, show (i + 1) * 3 + 1 - 3 = i * 3 + 1 from by omega]; exact h1.2.1
    · rw [e, List.getElem?_append_right (by omega), e3, show (i + 1) * 3 + 2 - 3 = i * 3 + 2 from by omega]; exact h1.2.2
theorem ecells_one (L : List Ed) : ∀ u ∈ ecells L, u.oneCell' = true := by
  intro u hu
  obtain ⟨e, _, he⟩ := List.mem_flatMap.1 hu
  simp [ecell] at he
  rcases he with rfl | rfl | rfl <;> rfl
/-- Which cell stands at j. -/
theorem ecells_get (L : List Ed) (j : Nat) (u : Value) (h : (ecells L)[j]? = some u) : ∃ i l, L[i]? = some l ∧ i < L.length ∧ ((j = i * 3 ∧ u = .int .i64 l.f) ∨ (j = i * 3 + 1 ∧ u = .int .i64 l.t) ∨ (j = i * 3 + 2 ∧ u = .string l.x)) := by
  have hj : j < (ecells L).length := (List.getElem?_eq_some_iff.1 h).1
  rw [ecells_len] at hj
  have hi : j / 3 < L.length := by omega
  obtain ⟨a0, a1, a2⟩ := ecells_at L (j / 3) L[j / 3] (List.getElem?_eq_getElem hi)
  refine ⟨j / 3, L[j / 3], List.getElem?_eq_getElem hi, hi, ?_⟩
  have hm : j % 3 = 0 ∨ j % 3 = 1 ∨ j % 3 = 2 := by omega
  rcases hm with hm | hm | hm
  · left; rw [show j / 3 * 3 = j by omega] at a0; rw [h] at a0; exact ⟨by omega, Option.some.inj a0⟩
  · right; left; rw [show j / 3 * 3 + 1 = j by omega] at a1; rw [h] at a1; exact ⟨by omega, Option.some.inj a1⟩
  · right; right; rw [show j / 3 * 3 + 2 = j by omega] at a2; rw [h] at a2; exact ⟨by omega, Option.some.inj a2⟩

/-- Slice memory at A, below block B, holds the edits L. -/
def Rd (w : World) (B : Nat) (A : Option Addr) (L : List Ed) : Prop :=
  ∀ i l, L[i]? = some l → ∃ b o, A = some ⟨b, o, none⟩ ∧ b < B ∧ w.cell? ⟨b, o + i * 3, none⟩ = some (.int .i64 l.f) ∧ w.cell? ⟨b, o + i * 3 + 1, none⟩ = some (.int .i64 l.t) ∧ w.cell? ⟨b, o + i * 3 + 2, none⟩ = some (.string l.x)

theorem Rd.below {w w' : World} {A : Option Addr} {L : List Ed} {B : Nat} (h : Rd w B A L) (hb : Below B w w') : Rd w' B A L := by
  intro i l hi
  obtain ⟨b, o, e, hlt, h0, h1, h2⟩ := h i l hi
  exact ⟨b, o, e, hlt, (hb.cell (p := ⟨b, o + i * 3, none⟩) hlt).trans h0, (hb.cell (p := ⟨b, o + i * 3 + 1, none⟩) hlt).trans h1, (hb.cell (p := ⟨b, o + i * 3 + 2, none⟩) hlt).trans h2⟩
theorem Rd.more {w : World} {A : Option Addr} {L : List Ed} {B B' : Nat} (h : Rd w B A L) (hb : B ≤ B') : Rd w B' A L := by
  intro i l hi
  obtain ⟨b, o, e, hlt, r⟩ := h i l hi
  exact ⟨b, o, e, by omega, r⟩
theorem Rd.here {w : World} {A : Option Addr} {L : List Ed} {B : Nat} (h : Rd w B A L) : Rd w w.heap.size A L := by
  intro i l hi
  obtain ⟨b, o, e, hlt, r⟩ := h i l hi
  exact ⟨b, o, e, World.block_lt_of_cell? _ _ r.1, r⟩
theorem Rd.drewN {w : World} {A : Option Addr} {L : List Ed} {B : Nat} (h : Rd w B A L) (n : Nat) : Rd (w.drewN n) B A L := h
/-- From world to world, as far as blocks reach. -/
theorem Rd.on {w w' : World} {A : Option Addr} {L : List Ed} (h : Rd w w.heap.size A L) (hb : Below w.heap.size w w') : Rd w' w'.heap.size A L := (h.below hb).more hb.size

/-- The source of an append: its cells. -/
theorem Rd.cells {w : World} {B : Nat} {ad : Addr} {L : List Ed} (h : Rd w B (some ad) L) : ∀ j u, (ecells L)[j]? = some u → w.cell? (ad.add j) = some u := by
  intro j u hu
  obtain ⟨i, l, hi, _, hc⟩ := ecells_get L j u hu
  obtain ⟨b, o, e, _, h0, h1, h2⟩ := h i l hi
  injection e with e
  subst e
  have ha : (⟨b, o, none⟩ : Addr).add j = ⟨b, o + j, none⟩ := by unfold Addr.add; split <;> simp_all
  rw [ha]
  rcases hc with ⟨rfl, rfl⟩ | ⟨rfl, rfl⟩ | ⟨rfl, rfl⟩
  · exact h0
  · exact h1
  · exact h2

theorem own_below {w w' : World} {base e size n : Nat} {v : Value} {xs : List Value} (h : w.ownsRow base e size v n xs) (hb : Below w.heap.size w w') : w'.ownsRow base e size v n xs := by
  obtain ⟨h1, h2⟩ := h
  refine ⟨h1, ?_⟩
  rcases h2 with h2 | ⟨g, cap, cur, hv, hg, hh, r⟩
  · exact Or.inl h2
  · have hlt : g < w.heap.size := (Array.getElem?_eq_some_iff.1 hh).1
    exact Or.inr ⟨g, cap, cur, hv, hg, (hb.block g hlt).trans hh, r⟩
theorem own_block_ge {w : World} {base e size n : Nat} {v : Value} {xs : List Value} (h : w.ownsRow base e size v n xs) : ∀ g, v.ownBlock = some g → base ≤ g ∧ g < w.heap.size := by
  intro g hg
  rcases h.2 with ⟨rfl, _⟩ | ⟨g', cap, cur, rfl, hb, hh, r⟩
  · simp [Value.ownBlock] at hg
  · simp [Value.ownBlock] at hg
    subst hg
    exact ⟨hb, (Array.getElem?_eq_some_iff.1 hh).1⟩
theorem own_empty (w : World) (base e size : Nat) (hb : base ≤ w.heap.size) : (w.alloc (.cells #[] e)).ownsRow base e size (.slice (some ⟨w.heap.size, 0, none⟩) 0 0) 0 [] := by
  refine ⟨by simp, Or.inr ⟨w.heap.size, 0, #[], rfl, hb, heap_alloc_new w _, Nat.le_refl _, Nat.zero_le _, by simp, by simp⟩⟩

/-- What a slice that owns edits is. -/
theorem own_edits {w : World} {base : Nat} {v : Value} {L : List Ed} (h : w.ownsRow base 34 3 v L.length (ecells L)) :
    ∃ A c, v = .slice A L.length c ∧ L.length ≤ c ∧ (A = none → c = 0) ∧ Rd w w.heap.size A L := by
  rcases h.2 with ⟨rfl, h0⟩ | ⟨g, cap, cur, rfl, hb, hh, hc, hm, hz, ht⟩
  · have e : L = [] := List.eq_nil_of_length_eq_zero h0
    subst e
    exact ⟨none, 0, rfl, Nat.le_refl _, fun _ => rfl, fun i l hi => by simp at hi⟩
  · have hlt : g < w.heap.size := (Array.getElem?_eq_some_iff.1 hh).1
    refine ⟨some ⟨g, 0, none⟩, cap, rfl, hc, (fun h => by cases h), fun i l hi => ?_⟩
    have hil : i < L.length := (List.getElem?_eq_some_iff.1 hi).1
    have key : ∀ j, j < L.length * 3 → w.cell? ⟨g, 0 + j, none⟩ = (ecells L)[j]? := by
      intro j hj
      rw [← ht, List.getElem?_take_of_lt hj, Nat.zero_add, cell_of_row w g j cur 34 (0, 0) hh]
      simp
    have h3 := ecells_at L i l hi
    refine ⟨g, 0, rfl, hlt, ?_, ?_, ?_⟩
    · rw [key _ (by omega)]; exact h3.1
    · have := key (i * 3 + 1) (by omega)
      rw [← Nat.add_assoc] at this
      rw [this]; exact h3.2.1
    · have := key (i * 3 + 2) (by omega)
      rw [← Nat.add_assoc] at this
      rw [this]; exact h3.2.2

/-- A call that answers edits in new memory. -/
def OwnE (w : World) (L : List Ed) (e : Ending) (w' : World) : Prop :=
  ∃ v, e = .returned v ∧ w'.ownsRow w.heap.size 34 3 v L.length (ecells L) ∧ Below w.heap.size w w'
theorem OwnE.rd {w w' : World} {L : List Ed} {e : Ending} (h : OwnE w L e w') : ∃ A c, e = .returned (.slice A L.length c) ∧ L.length ≤ c ∧ (A = none → c = 0) ∧ Rd w' w'.heap.size A L ∧ Below w.heap.size w w' := by
  obtain ⟨v, rfl, ho, hb⟩ := h
  obtain ⟨A, c, rfl, hc, h0, hr⟩ := own_edits ho
  exact ⟨A, c, rfl, hc, h0, hr, hb⟩
theorem chain {B : Nat} {a b c : World} (hB : B ≤ a.heap.size) (h : Below B a b) (k : Below b.heap.size b c) : Below B a c := h.trans (k.mono (Nat.le_trans hB h.size))
theorem below_drewN {B : Nat} {a w : World} (h : Below B a w) (n : Nat) : Below B a (w.drewN n) := ⟨h.os, h.tape, h.output, h.size, h.block⟩

/-! ### great -/
def gl : Nat → List Ed → Nat
  | n, [] => n
  | n, e :: r => if n ≤ 50000 then gl (n + (e.x.size + 1)) r else n
def grt (n : Nat) (es : List Ed) : Bool := decide (50000 < gl n es) || decide (300 < es.length)

theorem gl_out : ∀ (l : List Ed) (n : Nat), 50000 < n → gl n l = n
  | [], _, _ => rfl
  | e :: r, n, h => by rw [gl, if_neg (by omega)]
theorem gl_small : ∀ (l : List Ed) (n : Nat), gl n l ≤ 50000 → n ≤ 50000 ∧ ∀ e ∈ l, n + (e.x.size + 1) ≤ 50000
  | [], n, h => ⟨h, fun e he => by simp at he⟩
  | e :: r, n, h => by
    rw [gl] at h
    split at h
    · have ih := gl_small r _ h
      refine ⟨by omega, fun a ha => ?_⟩
      rcases List.mem_cons.1 ha with rfl | ha
      · exact ih.1
      · have := ih.2 a ha; omega
    · omega

set_option maxHeartbeats 1000000 in
theorem great_any (s : ByteArray) (A : Option Addr) (c : Nat) (es : List Ed) (hs : s.size ≤ 140737488355328) (hl : es.length ≤ 140737488355328) (hx : ∀ e ∈ es, e.x.size ≤ 140737488355328) (B : Nat) (w : World) (h : Rd w B A es) :
    Calls Try.prog 9 #[.string s, .slice A es.length c] w fun e w' => e = .returned (.bool (grt s.size es)) ∧ w = w' := by
  have H : Hid (grt s.size es = (decide (50000 < gl s.size es) || decide (300 < es.length))) := rfl
  generalize grt s.size es = r at H ⊢
  go_enter Try.func9, Try.ntmps9
  go_wp2_with fail
  go_loop [5, 6] (fun n i => ∃ (j m : Nat), j ≤ es.length ∧ m ≤ 140737488955328 ∧ i = .int .i64 j ∧ n = .int .i64 m ∧ gl m (es.drop j) = gl s.size es) (fun _ i => es.length - (intOf i).toNat)
  case atStart => exact ⟨0, s.size, Nat.zero_le _, by omega, rfl, rfl, rfl⟩
  case round =>
    obtain ⟨j, m, hj, hm, rfl, rfl, hg⟩ := hrel
    have HG := Lib.hid hg
    clear hg
    by_cases hlt : j < es.length
    · by_cases hm5 : m ≤ 50000
      · obtain ⟨b, o, rfl, hb, c0, c1, c2⟩ := h j es[j] (List.getElem?_eq_getElem hlt)
        have hxl := hx es[j] (List.getElem_mem hlt)
        have HD : Hid (es.drop j = es[j] :: es.drop (j + 1)) := List.drop_eq_getElem_cons hlt
        generalize es[j] = e at *
        have hm5z : (m : Int) ≤ 50000 := by omega
        clear c0 c1
        go_wp2_with fail
        go_round
        case rel => exact ⟨j + 1, m + (e.x.size + 1), by omega, by omega, by go_num, by go_num, by rw [← HG.out, HD.out, gl, if_pos hm5]⟩
        case measure => simp [intOf]; omega
      · have hm5z : ¬ (m : Int) ≤ 50000 := by omega
        have hm6 : (50000 : Int) < (m : Int) := by omega
        have HE : Hid (gl s.size es = m) := by show _ = _; rw [← HG.out]; exact gl_out _ _ (by omega)
        clear HG
        go_wp2_with fail
        go_ret
        exact ⟨by rw [H.out, HE.out, decide_eq_true (show 50000 < m by omega)]; rfl, rfl⟩
    · have HE : Hid (gl s.size es = m) := by show _ = _; rw [← HG.out, List.drop_eq_nil_of_le (by omega)]; rfl
      clear HG
      by_cases hm5 : m ≤ 50000
      · have hm6 : ¬ (50000 : Int) < (m : Int) := by omega
        by_cases h3 : 300 < es.length
        · have h3z : (300 : Int) < (es.length : Int) := by omega
          go_wp2_with fail
          go_ret
          exact ⟨by rw [H.out, HE.out, decide_eq_true h3, Bool.or_true]; rfl, rfl⟩
        · have h3z : ¬ (300 : Int) < (es.length : Int) := by omega
          go_wp2_with fail
          go_ret
          exact ⟨by rw [H.out, HE.out, decide_eq_false h3, decide_eq_false (show ¬ 50000 < m by omega)]; rfl, rfl⟩
      · have hm6 : (50000 : Int) < (m : Int) := by omega
        go_wp2_with fail
        go_ret
        exact ⟨by rw [H.out, HE.out, decide_eq_true (show 50000 < m by omega)]; rfl, rfl⟩

/-! ### CopyEdits -/
set_option maxHeartbeats 1000000 in
theorem copy_any (A : Option Addr) (c : Nat) (hA : A = none → c = 0) (es : List Ed) (hl : es.length ≤ 1000000) (B : Nat) (w : World) (h : Rd w B A es) :
    Calls Try.prog 10 #[.slice A es.length c] w (OwnE w es) := by
  obtain ⟨i0, hi, hz0, hz1, hz2⟩ := info_parts Try.info34
  have h := h.here
  rcases A with _ | ad
  · have he : es = [] := by
      match es, h with
      | [], _ => rfl
      | e :: r, h => obtain ⟨b, o, e, _⟩ := h 0 e rfl; cases e
    subst he
    obtain rfl : c = 0 := hA rfl
    clear hA
    go_enter Try.func10, Try.ntmps10
    go_wp2
    go_ret
    exact ⟨_, rfl, own_empty w w.heap.size 34 3 (Nat.le_refl _), (Below.refl _ _).alloc (Nat.le_refl _) _⟩
  · have hc := (h.on ((Below.refl _ _).alloc (Nat.le_refl _) (.cells #[] 34))).cells
    have HC := Lib.hid hc
    clear hc h hA
    go_enter Try.func10, Try.ntmps10
    go_wp2_with (at_builtin; refine wpList_append_own _ rfl _ _ 22 rfl w.heap.size 34 i0 (.agg #[.int .i64 0, .int .i64 0, .string ⟨#[]⟩]) 3 32 Try.underlying22 hi hz0 hz1 hz2 rfl (by decide) _ _ _ rfl (own_empty w w.heap.size 34 3 (Nat.le_refl _)) ad es.length c (ecells es) rfl (ecells_len es) HC.out (ecells_one es) (by unfold maxLen; omega) (by omega) (by simp) ?_)
    intro v' w2 hown' hgrow _
    have HO := Lib.hid hown'
    have HB : Hid (Below w.heap.size w w2) := ((Below.refl _ _).alloc (Nat.le_refl _) _).grown hgrow (by simp) (fun k hk => by simp [Value.ownBlock] at hk; omega)
    clear hown' hgrow HC
    go_wp2_with fail
    go_ret
    exact ⟨_, rfl, by have := HO.out; simpa using this, HB.out⟩

/-! ### SameEdits -/
set_option maxHeartbeats 1000000 in
theorem same_yes (A A' : Option Addr) (c c' : Nat) (L : List Ed) (hl : L.length ≤ 1000000) (B B' : Nat) (w : World) (h : Rd w B A L) (h' : Rd w B' A' L) :
    Calls Try.prog 14 #[.slice A L.length c, .slice A' L.length c'] w fun e w' => e = .returned (.bool true) ∧ ∃ n, w' = w.drewN n := by
  go_enter Try.func14, Try.ntmps14
  go_wp2_with fail
  go_loopw [5] (fun v wr => ∃ i n : Nat, i ≤ L.length ∧ v = .int .i64 i ∧ wr = w.drewN n) (fun v _ => L.length - (intOf v).toNat)
  case atStart => exact ⟨0, 0, Nat.zero_le _, rfl, rfl⟩
  case round =>
    obtain ⟨i, n, hi, rfl, rfl⟩ := hrel
    by_cases hlt : i < L.length
    · obtain ⟨b, o, rfl, hb, r0, r1, r2⟩ := h i L[i] (List.getElem?_eq_getElem hlt)
      obtain ⟨b', o', rfl, hb', k0, k1, k2⟩ := h' i L[i] (List.getElem?_eq_getElem hlt)
      generalize L[i] = l at *
      obtain ⟨x, y, z⟩ := l
      simp only at r0 r1 r2 k0 k1 k2
      go_wp2_with fail
      go_quiet (fail)
      go_wp2_with fail
      go_roundw
      case rel => exact ⟨i + 1, n + nq, by omega, by go_num, rfl⟩
      case measure => simp [intOf]; omega
    · go_wp2_with fail
      go_ret
      exact ⟨rfl, n, rfl⟩
end Go.Proofs.Ytdjdflannedkbaa
