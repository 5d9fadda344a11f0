/-
  PROVED: plain facts on what tag.Raw tells of a text: it stands between "<" and ">", and what stands behind it makes no difference. No program in it. Conditions: none.
-/
import Derived.Test.YtdnnjakggopdoaaDoorBehPure
namespace Go.Proofs.YtdnnjakggopdoaaDoor
set_option linter.unusedVariables false

theorem take_agr {l m : List UInt8} {n : Nat} (h : Agr n l m) (k : Nat) (hk : k ≤ n) : l.take k = m.take k := by
  apply List.ext_getElem?
  intro i
  rw [List.getElem?_take, List.getElem?_take]
  split
  · exact h i (by omega)
  · rfl
theorem pre_agr {l m : List UInt8} {n : Nat} (h : Agr n l m) (p : List UInt8) (hp : p.length ≤ n) : Lib.hasPrefix m p = Lib.hasPrefix l p := by
  rw [pre_is, pre_is, take_agr h p.length hp]
theorem pre_no {l p : List UInt8} (i : Nat) (x y : UInt8) (hx : l[i]? = some x) (hy : p[i]? = some y) (hne : x ≠ y) : Lib.hasPrefix l p = false := by
  cases h : Lib.hasPrefix l p with
  | false => rfl
  | true =>
    have := pre_get h i y hy
    rw [hx] at this
    exact absurd (Option.some.inj this) hne
theorem occ_agr {l m : List UInt8} {n : Nat} (h : Agr n l m) (hn : n ≤ l.length) (hm : n ≤ m.length) (q : List UInt8) (i : Nat) (hi : i + q.length ≤ n) : Lib.occAt m q i = Lib.occAt l q i := by
  rw [Lib.occAt_iff_take _ _ _ (by omega), Lib.occAt_iff_take _ _ _ (by omega), List.take_drop, List.take_drop, take_agr h (i + q.length) hi]
theorem size_parts {l q : List UInt8} {a n : Nat} (h : sizeL l a q = n) (hn : n ≠ 0) (ha : a ≤ l.length) : ∃ j, n = j + q.length ∧ a ≤ j ∧ n ≤ l.length ∧ Lib.occAt l q j = true ∧ ∀ i, a ≤ i → i < j → Lib.occAt l q i = false := by
  unfold sizeL at h
  split at h
  · exact absurd h.symm hn
  · rename_i hneg
    obtain ⟨i1, i2, i3⟩ := index_at q (l.drop a) (by omega)
    rw [occ_drop] at i1
    rw [List.length_drop] at i2
    refine ⟨a + (Lib.index (l.drop a) q).toNat, h.symm, by omega, by omega, i1, fun i h1 h2 => ?_⟩
    have := i3 (i - a) (by omega)
    rw [occ_drop, Nat.add_sub_cancel' h1] at this
    exact this
theorem agr_size {l m q : List UInt8} {a n : Nat} (hA : Agr n l m) (hm : n ≤ m.length) (h : sizeL l a q = n) (hn : n ≠ 0) (ha : a ≤ l.length) : sizeL m a q = n := by
  obtain ⟨j, e, h1, h2, h3, h4⟩ := size_parts h hn ha
  have := size_hit m q a j h1 (by omega) (fun i h5 h6 => by rw [occ_agr hA h2 hm q i (by omega)]; exact h4 i h5 h6) (by rw [occ_agr hA h2 hm q j (by omega)]; exact h3)
  rw [this, e]
theorem occ_get {l q : List UInt8} {j : Nat} (h : Lib.occAt l q j = true) (t : Nat) (x : UInt8) (hx : q[t]? = some x) : l[j + t]? = some x := by
  have := pre_get (l := l.drop j) (p := q) h t x hx
  rw [List.getElem?_drop] at this
  exact this
theorem raw_tag (l : List UInt8) (c : UInt8) (hc : l[1]? = some c) (h1 : c ≠ 33) (h2 : c ≠ 63) : rawL l = openL l := by
  unfold rawL isO
  rw [pre_no 1 c 33 hc rfl h1, pre_no 1 c 33 hc rfl h1, pre_no (p := obeg 0) 1 c 33 hc rfl h1, pre_no (p := obeg 1) 1 c 63 hc rfl h2, pre_no (p := obeg 2) 1 c 33 hc rfl h1, pre_no (p := obeg 3) 1 c 33 hc rfl h1]
  rfl
theorem open_some {l : List UInt8} {n : Nat} (h : openL l = n) (hn : n ≠ 0) : tagO l = some n := by
  unfold openL at h
  cases ht : tagO l with
  | none => rw [ht] at h; exact absurd h.symm hn
  | some k => rw [ht] at h; exact congrArg some h
theorem letter_ne (c : UInt8) (h : c = 47 ∨ isL c = true) : c ≠ 33 ∧ c ≠ 63 := by
  constructor <;> (rintro rfl; rcases h with h | h <;> cases h)
theorem raw_open (l : List UInt8) (h : openL l ≠ 0) : rawL l = openL l := by
  obtain ⟨_, _, _, _, c, hc, hcl⟩ := tag_parts l _ (open_some rfl h)
  have := letter_ne c hcl
  exact raw_tag l c hc this.1 this.2
theorem open_zero (l : List UInt8) (c : UInt8) (hc : l[1]? = some c) (h : c = 33 ∨ c = 63) : openL l = 0 := by
  by_cases h0 : openL l = 0
  · exact h0
  · obtain ⟨_, _, _, _, d, hd, hdl⟩ := tag_parts l _ (open_some rfl h0)
    have := letter_ne d hdl
    rw [hc] at hd
    have e := Option.some.inj hd
    subst e
    rcases h with h | h
    · exact absurd h this.1
    · exact absurd h this.2
/-- The ways of Raw. -/
theorem raw_ways (l : List UInt8) :
    (Lib.hasPrefix l [60, 33, 45, 45, 62] = true ∧ rawL l = 5)
    ∨ (Lib.hasPrefix l [60, 33, 45, 45, 62] = false ∧ Lib.hasPrefix l [60, 33, 45, 45, 45, 62] = true ∧ rawL l = 6)
    ∨ (Lib.hasPrefix l [60, 33, 45, 45, 62] = false ∧ Lib.hasPrefix l [60, 33, 45, 45, 45, 62] = false ∧ isO l 0 = true ∧ rawL l = sizeL l 4 [45, 45, 62])
    ∨ (isO l 1 = true ∧ rawL l = sizeL l 2 [63, 62])
    ∨ (isO l 2 = true ∧ rawL l = sizeL l 2 [62])
    ∨ (isO l 3 = true ∧ rawL l = sizeL l 9 [93, 93, 62])
    ∨ (rawL l = openL l) := by
  unfold rawL
  cases h0 : Lib.hasPrefix l [60, 33, 45, 45, 62] with
  | true => exact .inl ⟨rfl, rfl⟩
  | false =>
    refine .inr ?_
    cases h1 : Lib.hasPrefix l [60, 33, 45, 45, 45, 62] with
    | true => exact .inl ⟨rfl, rfl, rfl⟩
    | false =>
      refine .inr ?_
      cases i0 : isO l 0 with
      | true => exact .inl ⟨rfl, rfl, rfl, rfl⟩
      | false =>
        refine .inr ?_
        cases i1 : isO l 1 with
        | true => exact .inl ⟨rfl, rfl⟩
        | false =>
          refine .inr ?_
          cases i2 : isO l 2 with
          | true => exact .inl ⟨rfl, rfl⟩
          | false =>
            refine .inr ?_
            cases i3 : isO l 3 with
            | true => exact .inl ⟨rfl, rfl⟩
            | false => exact .inr rfl
theorem isO_one (l : List UInt8) (i : Nat) (h : isO l i = true) : ∃ c, l[1]? = some c ∧ (c = 33 ∨ c = 63) := by
  unfold isO at h
  rw [Bool.and_eq_true] at h
  have h1 := h.1
  match i, h1 with
  | 0, h1 => exact ⟨33, pre_get h1 1 33 rfl, .inl rfl⟩
  | 1, h1 => exact ⟨63, pre_get h1 1 63 rfl, .inr rfl⟩
  | 2, h1 => exact ⟨33, pre_get h1 1 33 rfl, .inl rfl⟩
  | k + 3, h1 => exact ⟨33, pre_get h1 1 33 rfl, .inl rfl⟩
theorem raw_zero (l : List UInt8) (h : rawL l = 0) : openL l = 0 := by
  rcases raw_ways l with ⟨_, e⟩ | ⟨_, _, e⟩ | ⟨_, _, i0, e⟩ | ⟨i0, e⟩ | ⟨i0, e⟩ | ⟨i0, e⟩ | e
  · rw [e] at h; cases h
  · rw [e] at h; cases h
  · obtain ⟨c, hc, h1⟩ := isO_one l _ i0; exact open_zero l c hc h1
  · obtain ⟨c, hc, h1⟩ := isO_one l _ i0; exact open_zero l c hc h1
  · obtain ⟨c, hc, h1⟩ := isO_one l _ i0; exact open_zero l c hc h1
  · obtain ⟨c, hc, h1⟩ := isO_one l _ i0; exact open_zero l c hc h1
  · rw [← e]; exact h
theorem pre_len {l p : List UInt8} (h : Lib.hasPrefix l p = true) : p.length ≤ l.length := (List.isPrefixOf_iff_prefix.1 h).length_le
theorem isO_pre' {l : List UInt8} {i : Nat} (h : isO l i = true) : Lib.hasPrefix l (obeg i) = true := by unfold isO at h; rw [Bool.and_eq_true] at h; exact h.1
theorem isO_letter (l : List UInt8) (h : isO l 2 = true) : ∃ x, l[2]? = some x ∧ isL x = true := by
  rw [isO_two, Bool.and_eq_true] at h
  cases hx : l[2]? with
  | none => rw [up_none l 2 (by simpa using hx)] at h; cases h.2
  | some x => rw [up_pos l 2 x hx] at h; exact ⟨x, rfl, h.2⟩
/-- Raw's parts, and that only its own bytes matter. -/
theorem raw_all (l : List UInt8) (n : Nat) (h : rawL l = n) (hn : n ≠ 0) : 3 ≤ n ∧ n ≤ l.length ∧ l[0]? = some 60 ∧ l[n - 1]? = some 62 ∧ ∀ m, Agr n l m → n ≤ m.length → rawL m = n := by
  rcases raw_ways l with ⟨p0, e⟩ | ⟨p0, p1, e⟩ | ⟨p0, p1, i0, e⟩ | ⟨i0, e⟩ | ⟨i0, e⟩ | ⟨i0, e⟩ | e
  · rw [e] at h
    subst h
    refine ⟨by omega, pre_len p0, pre_get p0 0 60 rfl, pre_get p0 4 62 rfl, fun m hA hm => ?_⟩
    unfold rawL
    rw [pre_agr hA _ (by simp), p0]
    rfl
  · rw [e] at h
    subst h
    refine ⟨by omega, pre_len p1, pre_get p1 0 60 rfl, pre_get p1 5 62 rfl, fun m hA hm => ?_⟩
    unfold rawL
    rw [pre_agr hA _ (by simp), pre_agr hA _ (by simp), p0, p1]
    rfl
  · rw [e] at h
    have hp := isO_pre' i0
    have hl : 4 ≤ l.length := pre_len hp
    obtain ⟨j, e1, h1, h2, h3, h4⟩ := size_parts h hn hl
    have e1' : n = j + 3 := e1
    refine ⟨by omega, h2, pre_get hp 0 60 rfl, by rw [e1']; exact occ_get h3 2 62 rfl, fun m hA hm => ?_⟩
    have g0 : Lib.hasPrefix m [60, 33, 45, 45, 62] = false := by rw [pre_agr hA _ (by simp; omega)]; exact p0
    have g1 : Lib.hasPrefix m [60, 33, 45, 45, 45, 62] = false := by rw [pre_agr hA _ (by simp; omega)]; exact p1
    have g2 : isO m 0 = true := by rw [isO_pre m 0 (by decide), pre_agr hA _ (by show 4 ≤ n; omega)]; exact hp
    unfold rawL
    rw [g0, g1, g2]
    simp only [Bool.false_eq_true, ↓reduceIte]
    exact agr_size hA hm h hn hl
  · rw [e] at h
    have hp := isO_pre' i0
    have hl : 2 ≤ l.length := pre_len hp
    obtain ⟨j, e1, h1, h2, h3, h4⟩ := size_parts h hn hl
    have e1' : n = j + 2 := e1
    refine ⟨by omega, h2, pre_get hp 0 60 rfl, by rw [e1']; exact occ_get h3 1 62 rfl, fun m hA hm => ?_⟩
    have m1 : m[1]? = some 63 := by rw [← hA 1 (by omega)]; exact pre_get hp 1 63 rfl
    have g2 : isO m 0 = false := by rw [isO_pre m 0 (by decide)]; exact pre_no (p := obeg 0) 1 63 33 m1 rfl (by decide)
    have g3 : isO m 1 = true := by rw [isO_pre m 1 (by decide), pre_agr hA _ (by show 2 ≤ n; omega)]; exact hp
    unfold rawL
    rw [pre_no 1 63 33 m1 rfl (by decide), pre_no 1 63 33 m1 rfl (by decide), g2, g3]
    simp only [Bool.false_eq_true, ↓reduceIte]
    exact agr_size hA hm h hn hl
  · rw [e] at h
    have hp := isO_pre' i0
    have hl : 2 ≤ l.length := pre_len hp
    obtain ⟨x, hx, hxl⟩ := isO_letter l i0
    obtain ⟨j, e1, h1, h2, h3, h4⟩ := size_parts h hn hl
    have e1' : n = j + 1 := e1
    have hj : j ≠ 2 := by
      rintro rfl
      have := occ_get h3 0 62 rfl
      rw [Nat.add_zero, hx] at this
      rw [Option.some.inj this] at hxl
      cases hxl
    have hxne : x ≠ 45 ∧ x ≠ 91 := by constructor <;> (rintro rfl; cases hxl)
    refine ⟨by omega, h2, pre_get hp 0 60 rfl, by rw [e1']; exact occ_get h3 0 62 rfl, fun m hA hm => ?_⟩
    have m1 : m[1]? = some 33 := by rw [← hA 1 (by omega)]; exact pre_get hp 1 33 rfl
    have m2 : m[2]? = some x := by rw [← hA 2 (by omega)]; exact hx
    have g2 : isO m 0 = false := by rw [isO_pre m 0 (by decide)]; exact pre_no (p := obeg 0) 2 x 45 m2 rfl hxne.1
    have g3 : isO m 1 = false := by rw [isO_pre m 1 (by decide)]; exact pre_no (p := obeg 1) 1 33 63 m1 rfl (by decide)
    have g4 : isO m 2 = true := by rw [isO_two, up_pos m 2 x m2, hxl, pre_agr hA _ (by show 2 ≤ n; omega)]; exact (by rw [show Lib.hasPrefix l [60, 33] = true from hp]; rfl)
    unfold rawL
    rw [pre_no 2 x 45 m2 rfl hxne.1, pre_no 2 x 45 m2 rfl hxne.1, g2, g3, g4]
    simp only [Bool.false_eq_true, ↓reduceIte]
    exact agr_size hA hm h hn hl
  · rw [e] at h
    have hp := isO_pre' i0
    have hl : 9 ≤ l.length := pre_len hp
    obtain ⟨j, e1, h1, h2, h3, h4⟩ := size_parts h hn hl
    have e1' : n = j + 3 := e1
    refine ⟨by omega, h2, pre_get hp 0 60 rfl, by rw [e1']; exact occ_get h3 2 62 rfl, fun m hA hm => ?_⟩
    have m1 : m[1]? = some 33 := by rw [← hA 1 (by omega)]; exact pre_get hp 1 33 rfl
    have m2 : m[2]? = some 91 := by rw [← hA 2 (by omega)]; exact pre_get hp 2 91 rfl
    have g5 : isO m 3 = true := by rw [isO_pre m 3 (by decide), pre_agr hA _ (by show 9 ≤ n; omega)]; exact hp
    have g2 : isO m 0 = false := by rw [isO_pre m 0 (by decide)]; exact pre_no (p := obeg 0) 2 91 45 m2 rfl (by decide)
    have g3 : isO m 1 = false := by rw [isO_pre m 1 (by decide)]; exact pre_no (p := obeg 1) 1 33 63 m1 rfl (by decide)
    have g4 : isO m 2 = false := isO_three m g5
    unfold rawL
    rw [pre_no 2 91 45 m2 rfl (by decide), pre_no 2 91 45 m2 rfl (by decide), g2, g3, g4, g5]
    simp only [Bool.false_eq_true, ↓reduceIte]
    exact agr_size hA hm h hn hl
  · rw [e] at h
    have ht := open_some h hn
    obtain ⟨t1, t2, t3, t4, c, hc, hcl⟩ := tag_parts l n ht
    refine ⟨t1, t2, t3, t4, fun m hA hm => ?_⟩
    have mc : m[1]? = some c := by rw [← hA 1 (by omega)]; exact hc
    have hne := letter_ne c hcl
    rw [raw_tag m c mc hne.1 hne.2]
    unfold openL
    rw [agr_tag l m n hA t2 hm ht]
    rfl
theorem raw_le (l : List UInt8) : rawL l ≤ l.length := by
  by_cases h : rawL l = 0
  · rw [h]; exact Nat.zero_le _
  · exact (raw_all l _ rfl h).2.1
end Go.Proofs.YtdnnjakggopdoaaDoor
