/-
  PROVED: contracts of edit.checked and edit.Check: what is wrong with edits of a text, and the edits sorted. Conditions: the slice lies in memory that holds the edits, at most 1000000 of them.
-/
import Derived.Test.YtdjdflannedkbaaSorted
namespace Go.Proofs.Ytdjdflannedkbaa
open Go.ChangeShapes Go.WideShapes Go.ChangeAt Go.RowKit Go.Sort
set_option linter.unusedVariables false

theorem apL_iff : ∀ l : List Ed, apL l = true ↔ ∀ j (h : j + 1 < l.length), (l[j]'(by omega)).t ≤ l[j + 1].f
  | [] => by simp [apL]
  | [a] => by simp [apL]
  | a :: b :: r => by
    rw [apL, Bool.and_eq_true, decide_eq_true_eq, apL_iff (b :: r)]
    constructor
    · rintro ⟨h1, h2⟩ j hj
      match j, hj with
      | 0, _ => exact h1
      | j + 1, hj => exact h2 j (by simpa using hj)
    · intro h
      exact ⟨h 0 (by simp), fun j hj => h (j + 1) (by simpa using hj)⟩
theorem apL_no (l : List Ed) (j : Nat) (h : j + 1 < l.length) (hj : ¬ (l[j]'(by omega)).t ≤ l[j + 1].f) : apL l = false := by
  cases hh : apL l with
  | false => rfl
  | true => exact absurd ((apL_iff l).1 hh j h) hj

theorem chk_in {n : Nat} {es : List Ed} {j : Nat} (h : j < es.length) (hj : inE n es[j] = false) : chk n es = 20 := by
  unfold chk
  rw [if_pos]
  cases hh : es.all (inE n) with
  | false => rfl
  | true => rw [List.all_eq_true.1 hh _ (List.getElem_mem h)] at hj; cases hj
theorem chk_ap {n : Nat} {es : List Ed} (h : ∀ e ∈ es, inE n e = true) (ha : apL (srtE es) = false) : chk n es = 21 := by
  unfold chk
  rw [if_neg (by rw [List.all_eq_true.2 h]; simp), if_pos ha]
theorem chk_yes {n : Nat} {es : List Ed} (h : ∀ e ∈ es, inE n e = true) (ha : apL (srtE es) = true) : chk n es = 0 := by
  unfold chk
  rw [if_neg (by rw [List.all_eq_true.2 h]; simp), if_neg (by rw [ha]; simp)]
theorem take_all {n : Nat} {es : List Ed} {j : Nat} (h : j < es.length) (ht : ∀ e ∈ es.take j, inE n e = true) (hj : inE n es[j] = true) : ∀ e ∈ es.take (j + 1), inE n e = true := by
  intro e he
  rw [List.take_succ_eq_append_getElem h] at he
  rcases List.mem_append.1 he with he | he
  · exact ht e he
  · simp at he; subst he; exact hj

set_option maxHeartbeats 1000000 in
theorem within_any (e : Ed) (s : ByteArray) (b : Nat) (w : World) (hs : w.cell? ⟨b, 0, none⟩ = some (.string s)) : Calls Try.prog 31 #[eagg e, .pointer (some ⟨b, 0, none⟩)] w (Grows (.bool (inE s.size e)) w) := by
  obtain ⟨a0, a1, a2⟩ := e
  have hlt := World.block_lt_of_cell? _ _ hs
  have hne : b ≠ w.heap.size := by simp at hlt; omega
  have hs' : (w.alloc (.cells #[.int .i64 a0, .int .i64 a1, .string a2] 34)).cell? ⟨b, 0, none⟩ = some (.string s) := by rw [World.cell?_alloc_lt w _ _ hlt]; exact hs
  have fin : ∀ v, v = inE s.size ⟨a0, a1, a2⟩ → Grows (.bool (inE s.size ⟨a0, a1, a2⟩)) w (.returned (.bool v)) (w.alloc (.cells #[.int .i64 a0, .int .i64 a1, .string a2] 34)) := fun v hv => ⟨by rw [hv], 0, _, by rw [alloc_eq_grow]; rfl⟩
  have FIN := Lib.hid fin
  clear fin hs
  by_cases h1 : 0 ≤ a0
  · by_cases h2 : a0 ≤ a1
    · by_cases h3 : a1 ≤ (s.size : Int)
      · have HV : Hid (true = inE s.size ⟨a0, a1, a2⟩) := ((inE_iff _ _).2 ⟨h1, h2, h3⟩).symm
        go_enter Try.func31, Try.ntmps31
        go_wp2_with fail
        go_ret
        exact FIN.out _ HV.out
      · have HV : Hid (false = inE s.size ⟨a0, a1, a2⟩) := ((inE_not _ _).2 (by simp only; omega)).symm
        go_enter Try.func31, Try.ntmps31
        go_wp2_with fail
        go_ret
        exact FIN.out _ HV.out
    · have HV : Hid (false = inE s.size ⟨a0, a1, a2⟩) := ((inE_not _ _).2 (by simp only; omega)).symm
      go_enter Try.func31, Try.ntmps31
      go_wp2_with fail
      go_ret
      exact FIN.out _ HV.out
  · have HV : Hid (false = inE s.size ⟨a0, a1, a2⟩) := ((inE_not _ _).2 (by simp only; omega)).symm
    go_enter Try.func31, Try.ntmps31
    go_wp2_with fail
    go_ret
    exact FIN.out _ HV.out

set_option maxHeartbeats 1000000 in
theorem apart_any (a b : Ed) (w : World) : Calls Try.prog 32 #[eagg a, eagg b] w (Grows (.bool (decide (a.t ≤ b.f))) w) := by
  obtain ⟨a0, a1, a2⟩ := a
  obtain ⟨b0, b1, b2⟩ := b
  have fin : ∀ v, v = decide (a1 ≤ b0) → Grows (.bool (decide (a1 ≤ b0))) w (.returned (.bool v)) ((w.alloc (.cells #[.int .i64 a0, .int .i64 a1, .string a2] 34)).alloc (.cells #[.int .i64 b0, .int .i64 b1, .string b2] 34)) := fun v hv => ⟨by rw [hv], 0, _, by rw [alloc_eq_grow, alloc_eq_grow, grow_grow]; rfl⟩
  have FIN := Lib.hid fin
  clear fin
  show Calls Try.prog 32 _ w (Grows (.bool (decide (a1 ≤ b0))) w)
  go_enter Try.func32, Try.ntmps32
  go_wp2_with fail
  go_ret
  exact FIN.out _ rfl

/-- What edit.checked leaves. -/
def ChkPost (n : Nat) (es : List Ed) (w : World) (e : Ending) (w' : World) : Prop :=
  ∃ v, e = .returned (.tuple #[v, .int .i64 (chk n es)]) ∧ Below w.heap.size w w' ∧ (chk n es = 0 → w'.ownsRow w.heap.size 34 3 v (srtE es).length (ecells (srtE es)))

/-- What its first loop goes by. -/
def CkRel (n : Nat) (es : List Ed) (W1 : World) (i : Value) (wr : World) : Prop :=
  ∃ j : Nat, j ≤ es.length ∧ i = .int .i64 j ∧ (∀ e ∈ es.take j, inE n e = true) ∧ Below W1.heap.size W1 wr

set_option maxHeartbeats 4000000 in
theorem checked_any (s : ByteArray) (A : Option Addr) (c : Nat) (hA : A = none → c = 0) (es : List Ed) (hl : es.length ≤ 1000000) (B : Nat) (w : World) (h : Rd w B A es) :
    Calls Try.prog 20 #[.string s, .slice A es.length c] w (ChkPost s.size es w) := by
  have mixed := Try.mixed
  have h := h.here
  have HA := Lib.hid hA
  clear hA
  go_enter Try.func20, Try.ntmps20
  go_wp2_with fail
  have hW : Below w.heap.size w (w.alloc (.cells #[.string s] 9)) := (Below.refl _ _).alloc (Nat.le_refl _) _
  have hs1 : (w.alloc (.cells #[.string s] 9)).cell? ⟨w.heap.size, 0, none⟩ = some (.string s) := by simp
  have hz : w.heap.size < (w.alloc (.cells #[.string s] 9)).heap.size := by simp
  have h1 := h.on hW
  generalize w.alloc (.cells #[.string s] 9) = W1 at hW hs1 hz h1 ⊢
  go_loopw [15] (fun i wr => CkRel s.size es W1 i wr) (fun i _ => es.length - (intOf i).toNat)
  case atStart => exact ⟨0, Nat.zero_le _, rfl, fun e he => by simp at he, Below.refl _ _⟩
  case round =>
    obtain ⟨j, hj, rfl, ht, hB⟩ := hrel
    have HT := Lib.hid ht
    clear ht
    have hs2 := (hB.cell (p := ⟨w.heap.size, 0, none⟩) hz).trans hs1
    have hBz := hB.size
    by_cases hlt : j < es.length
    · obtain ⟨b, o, rfl, hb, c0, c1, c2⟩ := (h1.below hB) j es[j] (List.getElem?_eq_getElem hlt)
      have HE : Hid (∃ y, y = es[j]) := ⟨_, rfl⟩
      obtain ⟨y, hy⟩ := HE.out
      rw [← hy] at c0 c1 c2
      have HY := Lib.hid hy
      clear hy HE
      have hs3 : (wr.alloc (.cells #[.int .i64 y.f, .int .i64 y.t, .string y.x] 34)).cell? ⟨w.heap.size, 0, none⟩ = some (.string s) := by
        rw [World.cell?_alloc_lt wr _ _ (by simp; omega)]; exact hs2
      have hcall := within_any y s w.heap.size _ hs3
      cases hv : inE s.size y with
      | true =>
        have HT2 : Hid (∀ e ∈ es.take (j + 1), inE s.size e = true) := take_all hlt HT.out (by rw [← HY.out]; exact hv)
        rw [hv] at hcall
        clear hs3 hs2 hv HT
        go_wp2_with fail
        refine hcall.mono ?_
        rintro e w2 hG
        obtain ⟨rfl, hb2⟩ := hG.below
        have hB2 : Below W1.heap.size W1 w2 := chain (Nat.le_refl _) (hB.alloc hBz _) hb2
        clear hG hb2 hcall c0 c1 c2
        go_wp2_with fail
        go_roundw
        case rel => exact ⟨j + 1, by omega, by go_num, HT2.out, hB2⟩
        case measure => simp [intOf]; omega
      | false =>
        have HV : Hid (chk s.size es = 20) := chk_in hlt (by rw [← HY.out]; exact hv)
        rw [hv] at hcall
        clear hs3 hs2 hv HT
        go_wp2_with fail
        refine hcall.mono ?_
        rintro e w2 hG
        obtain ⟨rfl, hb2⟩ := hG.below
        have hB2 : Below w.heap.size w w2 := chain (Nat.le_refl _) hW (chain (Nat.le_refl _) (hB.alloc hBz _) hb2)
        clear hG hb2 hcall c0 c1 c2
        go_wp2_with fail
        go_ret2
        exact ⟨_, by rw [HV.out]; rfl, hB2, fun h => by rw [HV.out] at h; cases h⟩
    · have HT2 : Hid (∀ e ∈ es, inE s.size e = true) := by have := HT.out; rw [List.take_of_length_le (by omega)] at this; exact this
      clear hs2 HT
      have hcall := sorted_any A c HA.out es hl W1.heap.size wr (h1.below hB)
      go_wp2_with fail
      refine hcall.mono ?_
      rintro e w2 hO
      obtain ⟨v, rfl, hown, hb2⟩ := hO
      have hB2 : Below w.heap.size w w2 := chain (Nat.le_refl _) hW (chain (Nat.le_refl _) hB hb2)
      have hown2 := own_le hown (show w.heap.size ≤ wr.heap.size by omega)
      have hlen := srt_len es
      have HLN := Lib.hid hlen
      have hlen2 : (srtE es).length ≤ 1000000 := by omega
      clear hlen hcall hown hb2 hB h1 h hW hs1 hz hBz hlt
      have HO := Lib.hid hown2
      obtain ⟨A2, c2, rfl, hc2, _, hr2⟩ := own_edits hown2
      clear hown2
      have HAP : Hid (∀ x, (apL (srtE es) = x) → apL (srtE es) = x) := fun x h => h
      have HC1 : Hid (apL (srtE es) = false → chk s.size es = 21) := fun h => chk_ap HT2.out h
      have HC0 : Hid (apL (srtE es) = true → chk s.size es = 0) := fun h => chk_yes HT2.out h
      obtain ⟨L, hL⟩ : ∃ L, L = srtE es := ⟨_, rfl⟩
      rw [← hL] at HO hr2 hlen2 HC0 HC1 hc2 ⊢
      have HLL := Lib.hid hL
      clear hL HAP HLN
      go_wp2_with fail
      go_loopw [11] (fun i wr => ∃ j : Nat, i = .int .i64 (j + 1 : Nat) ∧ (j + 1 ≤ L.length ∨ j = 0) ∧ Hid (∀ k (hk : k + 1 < L.length), k < j → (L[k]'(by omega)).t ≤ L[k + 1].f) ∧ Below w2.heap.size w2 wr) (fun i _ => L.length - (intOf i).toNat)
      case atStart => exact ⟨0, rfl, Or.inr rfl, (show Hid _ from fun k hk hk0 => absurd hk0 (Nat.not_lt_zero _)), Below.refl _ _⟩
      case round =>
        obtain ⟨j, rfl, hj, HK, hB3⟩ := hrel
        have hz3 := hB3.size
        by_cases hlt : j + 1 < L.length
        · obtain ⟨b, o, rfl, hb, c0, c1, c2⟩ := (hr2.below hB3) j L[j] (List.getElem?_eq_getElem (by omega))
          obtain ⟨b', o', e', hb', k0, k1, k2⟩ := (hr2.below hB3) (j + 1) L[j + 1] (List.getElem?_eq_getElem hlt)
          injection e' with e'
          injection e' with e1 e2
          subst e1 e2
          have HX : Hid (∃ x y, x = L[j] ∧ y = L[j + 1]) := ⟨_, _, rfl, rfl⟩
          obtain ⟨x, y, hx, hy⟩ := HX.out
          rw [← hx] at c0 c1 c2
          rw [← hy] at k0 k1 k2
          have HXY : Hid (x = L[j] ∧ y = L[j + 1]) := ⟨hx, hy⟩
          clear hx hy HX
          have p0 := cell_grown (by simp; omega) c0
          have p1 := cell_grown (by simp; omega) c1
          have p2 := cell_grown (by simp; omega) c2
          have q0 := cell_grown (by simp; omega) k0
          have q1 := cell_grown (by simp; omega) k1
          have q2 := cell_grown (by simp; omega) k2
          have z0 : IntKind.i64.wrap (j : Int) = (j : Int) := by rw [IntKind.wrap_i64]; omega
          have z1 : (j : Int) + 1 < (L.length : Int) := by omega
          have z2 : (j : Int) < (L.length : Int) := by omega
          have z3 : (0 : Int) ≤ (j : Int) + 1 := by omega
          have z4 : ((j : Int) + 1).toNat = j + 1 := by omega
          have hap := apart_any x y
          cases hv : decide (x.t ≤ y.f) with
          | true =>
            have HK2 : Hid (∀ k (hk : k + 1 < L.length), k < j + 1 → (L[k]'(by omega)).t ≤ L[k + 1].f) := fun k hk hkj => by
              by_cases q : k = j
              · subst q; have := of_decide_eq_true hv; rw [HXY.out.1, HXY.out.2] at this; exact this
              · exact HK.out k hk (by omega)
            rw [hv] at hap
            clear hv
            go_wp2_with fail
            go_quiet_grown (first | (go_at_call 32; refine Calls.grown_of (hap _)))
            have hB4 : Below w2.heap.size w2 (grow (wr.drewN nq) osq) := chain (Nat.le_refl _) hB3 ((show Grows (.bool true) wr (.returned (.bool true)) (grow (wr.drewN nq) osq) from ⟨rfl, nq, osq, rfl⟩).below).2
            generalize grow (wr.drewN nq) osq = w4 at hB4 ⊢
            clear nq osq p0 p1 p2 q0 q1 q2 c0 c1 c2 k0 k1 k2 hap z0 z1 z2 z3 z4 HXY
            go_wp2_with fail
            go_roundw
            case rel => exact ⟨j + 1, by first | rfl | go_num, Or.inl (by omega), HK2, hB4⟩
            case measure => simp [intOf]; omega
          | false =>
            have HV : Hid (chk s.size es = 21) := HC1.out (apL_no L j hlt (by have := of_decide_eq_false hv; rw [HXY.out.1, HXY.out.2] at this; exact this))
            rw [hv] at hap
            clear hv
            go_wp2_with fail
            go_quiet_grown (first | (go_at_call 32; refine Calls.grown_of (hap _)))
            have hB4 : Below w.heap.size w (grow (wr.drewN nq) osq) := chain (Nat.le_refl _) (chain (Nat.le_refl _) hB2 hB3) ((show Grows (.bool true) wr (.returned (.bool true)) (grow (wr.drewN nq) osq) from ⟨rfl, nq, osq, rfl⟩).below).2
            generalize grow (wr.drewN nq) osq = w4 at hB4 ⊢
            clear nq osq p0 p1 p2 q0 q1 q2 c0 c1 c2 k0 k1 k2 hap z0 z1 z2 z3 z4 HXY
            go_wp2_with fail
            go_ret2
            exact ⟨_, by rw [HV.out]; rfl, hB4, fun h => by rw [HV.out] at h; cases h⟩
        · have HV : Hid (chk s.size es = 0) := HC0.out ((apL_iff L).2 fun k hk => HK.out k hk (by omega))
          have hlt' : ¬ (j : Int) + 1 < (L.length : Int) := by omega
          have HO3 := Lib.hid (own_below HO.out hB3)
          have hB4 := chain (Nat.le_refl _) hB2 hB3
          clear HO
          go_wp2_with fail
          go_ret2
          exact ⟨_, by rw [HV.out]; rfl, hB4, fun _ => by rw [← HLL.out]; exact HO3.out⟩

/-- What edit.Check leaves. -/
theorem check_any (s : ByteArray) (A : Option Addr) (c : Nat) (hA : A = none → c = 0) (es : List Ed) (hl : es.length ≤ 1000000) (B : Nat) (w : World) (h : Rd w B A es) :
    Calls Try.prog 13 #[.string s, .slice A es.length c] w fun e w' => e = .returned (.int .i64 (chk s.size es)) ∧ Below w.heap.size w w' := by
  have hc := checked_any s A c hA es hl B w h
  clear hA h
  generalize hr : chk s.size es = r at hc ⊢
  have HR := Lib.hid hr
  clear hr
  go_enter Try.func13, Try.ntmps13
  go_wp2_with fail
  refine hc.mono ?_
  rintro e w1 ⟨v, he, hb, _⟩
  rw [HR.out] at he
  subst he
  clear hc
  go_wp2_with fail
  go_ret
  exact ⟨rfl, hb⟩
end Go.Proofs.Ytdjdflannedkbaa
