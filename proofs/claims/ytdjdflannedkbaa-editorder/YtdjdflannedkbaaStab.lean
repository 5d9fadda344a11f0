/-
  PROVED: plain facts on arrays: a rotation of two neighbouring parts, of which each element of the right one is less than each of the left one, keeps the order of equals; what is sorted and keeps the order of equals is one list; the insertion sort keeps it; the merge step of a stable sort. Conditions: 'lt' is a strict weak order.
-/
import Derived.Sort.LotA
namespace Go.Proofs.Ytdjdflannedkbaa
open Go.Sort
variable {α : Type} [Inhabited α]

/-- Neither is less. -/
def eqv (lt : α → α → Bool) (x y : α) : Bool := !lt x y && !lt y x

/-- The places a ≤ i < b, as a list. -/
def seg (d : Array α) (a b : Nat) : List α := (List.range' a (b - a)).map fun i => d[i]!

theorem seg_all (d : Array α) : seg d 0 d.size = d.toList := by
  have := extract_toList d 0 d.size (Nat.le_refl _)
  simp only [Array.extract_size] at this
  rw [this]; rfl

theorem seg_append (d : Array α) (a m b : Nat) (h1 : a ≤ m) (h2 : m ≤ b) : seg d a b = seg d a m ++ seg d m b := by
  unfold seg
  rw [← List.map_append]
  congr 1
  have := @List.range'_append_1 a (m - a) (b - m)
  rw [show a + (m - a) = m by omega, show m - a + (b - m) = b - a by omega] at this
  exact this.symm

theorem seg_shift (d d' : Array α) (a c n : Nat) (h : ∀ i, i < n → d'[a + i]! = d[c + i]!) : seg d' a (a + n) = seg d c (c + n) := by
  unfold seg
  apply List.ext_getElem
  · simp
  · intro i h1 h2
    simp at h1
    simp [h i h1]

theorem seg_congr (d d' : Array α) (a b : Nat) (h : ∀ i, a ≤ i → i < b → d'[i]! = d[i]!) : seg d' a b = seg d a b := by
  by_cases hab : a ≤ b
  · have := seg_shift d d' a a (b - a) (fun i hi => h (a + i) (by omega) (by omega))
    rwa [show a + (b - a) = b by omega] at this
  · unfold seg; rw [show b - a = 0 by omega]; rfl

theorem mem_seg {d : Array α} {a b : Nat} {x : α} : x ∈ seg d a b ↔ ∃ i, a ≤ i ∧ i < b ∧ d[i]! = x := by
  unfold seg
  rw [List.mem_map]
  constructor
  · rintro ⟨i, hi, e⟩
    have := List.mem_range'_1.1 hi
    exact ⟨i, this.1, by omega, e⟩
  · rintro ⟨i, h1, h2, e⟩
    exact ⟨i, List.mem_range'_1.2 ⟨h1, by omega⟩, e⟩

theorem ext_get1 {d d' : Array α} (hs : d'.size = d.size) (h : ∀ t, t < d.size → d'[t]! = d[t]!) : d' = d :=
  Array.ext hs fun t h1 h2 => by have := h t h2; rwa [getElem!_pos d' t h1, getElem!_pos d t h2] at this

/-- d' is d with the places a ≤ i < b moved among themselves, equals in their order. -/
structure Stb (lt : α → α → Bool) (a b : Nat) (d d' : Array α) : Prop where
  size : d'.size = d.size
  out : ∀ t, t < a ∨ b ≤ t → d'[t]! = d[t]!
  flt : ∀ x, d'.toList.filter (eqv lt x) = d.toList.filter (eqv lt x)
  mem : ∀ t, a ≤ t → t < b → ∃ s, a ≤ s ∧ s < b ∧ d'[t]! = d[s]!

theorem Stb.refl (lt : α → α → Bool) (a b : Nat) (d : Array α) : Stb lt a b d d := ⟨rfl, fun _ _ => rfl, fun _ => rfl, fun t h1 h2 => ⟨t, h1, h2, rfl⟩⟩

theorem Stb.trans {lt : α → α → Bool} {a b : Nat} {d d' d'' : Array α} (h : Stb lt a b d d') (h' : Stb lt a b d' d'') : Stb lt a b d d'' :=
  ⟨h'.size.trans h.size, fun t ht => (h'.out t ht).trans (h.out t ht), fun x => (h'.flt x).trans (h.flt x), fun t h1 h2 => by
    obtain ⟨s, s1, s2, e⟩ := h'.mem t h1 h2
    obtain ⟨r, r1, r2, e'⟩ := h.mem s s1 s2
    exact ⟨r, r1, r2, e.trans e'⟩⟩

theorem Stb.mono {lt : α → α → Bool} {a b a' b' : Nat} {d d' : Array α} (h : Stb lt a b d d') (ha : a' ≤ a) (hb : b ≤ b') : Stb lt a' b' d d' :=
  ⟨h.size, fun t ht => h.out t (by omega), h.flt, fun t h1 h2 => by
    by_cases hi : a ≤ t ∧ t < b
    · obtain ⟨s, s1, s2, e⟩ := h.mem t hi.1 hi.2
      exact ⟨s, by omega, by omega, e⟩
    · exact ⟨t, h1, h2, h.out t (by omega)⟩⟩

/-- Where what stands at t behind a rotation stood ahead of it. -/
def rotI (a m b t : Nat) : Nat := if t < a then t else if t < a + (b - m) then t - a + m else if t < b then t - (b - m) else t

/-- d' is d with [a, m) and [m, b) exchanged. -/
def Rot (a m b : Nat) (d d' : Array α) : Prop := d'.size = d.size ∧ ∀ t, d'[t]! = d[rotI a m b t]!

omit [Inhabited α] in
theorem flt_two {lt : α → α → Bool} (hS : SWO lt) (A B : List α) (h : ∀ u ∈ A, ∀ v ∈ B, lt v u = true) (x : α) : (B ++ A).filter (eqv lt x) = (A ++ B).filter (eqv lt x) := by
  rw [List.filter_append, List.filter_append]
  by_cases hA : ∃ u ∈ A, eqv lt x u = true
  · obtain ⟨u, hu, hxu⟩ := hA
    have : B.filter (eqv lt x) = [] := by
      rw [List.filter_eq_nil_iff]
      intro v hv hxv
      have h1 := h u hu v hv
      simp [eqv] at hxu hxv
      rw [hS.ntrans v x u hxv.2 hxu.1] at h1
      cases h1
    rw [this]; simp
  · have : A.filter (eqv lt x) = [] := by
      rw [List.filter_eq_nil_iff]
      intro u hu hxu
      exact hA ⟨u, hu, hxu⟩
    rw [this]; simp

theorem Rot.stb {lt : α → α → Bool} (hS : SWO lt) {a m b : Nat} {d d' : Array α} (h : Rot a m b d d') (h1 : a ≤ m) (h2 : m ≤ b) (hb : b ≤ d.size)
    (hl : ∀ u v, a ≤ u → u < m → m ≤ v → v < b → lt d[v]! d[u]! = true) : Stb lt a b d d' := by
  refine ⟨h.1, fun t ht => ?_, fun x => ?_, fun t t1 t2 => ?_⟩
  · rw [h.2 t]; unfold rotI
    rcases ht with ht | ht
    · rw [if_pos ht]
    · rw [if_neg (by omega), if_neg (by omega), if_neg (by omega)]
  · have e1 : d.toList = seg d 0 a ++ ((seg d a m ++ seg d m b) ++ seg d b d.size) := by
      rw [← seg_append d a m b h1 h2, ← seg_append d a b d.size (by omega) hb, ← seg_append d 0 a d.size (by omega) (by omega), seg_all]
    have e2 : d'.toList = seg d 0 a ++ ((seg d m b ++ seg d a m) ++ seg d b d.size) := by
      have q1 : seg d' 0 a = seg d 0 a := seg_congr _ _ _ _ fun i _ hi => by rw [h.2 i]; unfold rotI; rw [if_pos hi]
      have q2 : seg d' a (a + (b - m)) = seg d m (m + (b - m)) := seg_shift _ _ _ _ _ fun i hi => by
        rw [h.2]; unfold rotI; rw [if_neg (by omega), if_pos (by omega)]; congr 1; omega
      have q3 : seg d' (a + (b - m)) (a + (b - m) + (m - a)) = seg d a (a + (m - a)) := seg_shift _ _ _ _ _ fun i hi => by
        rw [h.2]; unfold rotI; rw [if_neg (by omega), if_neg (by omega), if_pos (by omega)]; congr 1; omega
      have q4 : seg d' b d.size = seg d b d.size := seg_congr _ _ _ _ fun i hi _ => by rw [h.2 i]; unfold rotI; rw [if_neg (by omega), if_neg (by omega), if_neg (by omega)]
      rw [← seg_all d', h.1, seg_append d' 0 a d.size (by omega) (by omega), seg_append d' a b d.size (by omega) hb, seg_append d' a (a + (b - m)) b (by omega) (by omega), q1, q4, q2]
      rw [show m + (b - m) = b by omega]
      rw [show a + (b - m) + (m - a) = b by omega, show a + (m - a) = m by omega] at q3
      rw [q3]
    rw [e1, e2, List.filter_append, List.filter_append (p := eqv lt x) (seg d 0 a), List.filter_append, List.filter_append (p := eqv lt x) (seg d a m ++ seg d m b)]
    rw [flt_two hS (seg d a m) (seg d m b) (fun u hu v hv => by
      obtain ⟨i, i1, i2, rfl⟩ := mem_seg.1 hu
      obtain ⟨j, j1, j2, rfl⟩ := mem_seg.1 hv
      exact hl i j i1 i2 j1 j2) x]
  · refine ⟨rotI a m b t, ?_, ?_, h.2 t⟩ <;> (unfold rotI; rw [if_neg (by omega)]; (repeat' split) <;> omega)

/-- An exchange of neighbours is a rotation. -/
theorem rot_swp (d : Array α) (j : Nat) (hj : j + 1 < d.size) : Rot j (j + 1) (j + 2) d (swp d (j + 1) j) := by
  refine ⟨swp_size _ _ _, fun t => ?_⟩
  rw [swp_get d hj (by omega)]
  unfold rotI
  by_cases h1 : t = j
  · subst h1; rw [if_pos rfl, if_neg (by omega), if_pos (by omega)]; congr 1; omega
  · by_cases h2 : t = j + 1
    · subst h2; rw [if_neg h1, if_pos rfl, if_neg (by omega), if_neg (by omega), if_pos (by omega)]; congr 1; omega
    · rw [if_neg h1, if_neg h2]
      by_cases h3 : t < j
      · rw [if_pos h3]
      · rw [if_neg h3, if_neg (by omega), if_neg (by omega)]

/-! ### The insertion sort -/
theorem insInner_stb {lt : α → α → Bool} (hS : SWO lt) (a : Nat) : ∀ (j i : Nat) (d : Array α), a ≤ j → j ≤ i → i < d.size → Stb lt a (i + 1) d (insInner lt a j d)
  | 0, i, d, _, _, _ => by unfold insInner; exact Stb.refl _ _ _ _
  | j + 1, i, d, ha, hi, hd => by
    unfold insInner
    split
    · rename_i hc
      simp only [Bool.and_eq_true, decide_eq_true_eq] at hc
      have h1 : Stb lt j (j + 2) d (swp d (j + 1) j) := (rot_swp d j (by omega)).stb hS (by omega) (by omega) (by omega) (fun u v a1 a2 a3 a4 => by
        obtain rfl : u = j := by omega
        obtain rfl : v = u + 1 := by omega
        exact hc.2)
      have ih := insInner_stb hS a j i (swp d (j + 1) j) (by omega) (by omega) (by rw [swp_size]; exact hd)
      exact (h1.mono (by omega) (by omega)).trans ih
    · exact Stb.refl _ _ _ _

theorem insOuter_stb {lt : α → α → Bool} (hS : SWO lt) (a b : Nat) : ∀ (n i : Nat) (d : Array α), b - i = n → a < i → b ≤ d.size → Stb lt a b d (insOuter lt a b i d)
  | 0, i, d, hn, _, _ => by rw [insOuter, if_neg (by omega)]; exact Stb.refl _ _ _ _
  | n + 1, i, d, hn, hai, hb => by
    rw [insOuter, if_pos (by omega)]
    have h1 := (insInner_stb hS a i i d (by omega) (Nat.le_refl _) (by omega)).mono (Nat.le_refl a) (show i + 1 ≤ b by omega)
    exact h1.trans (insOuter_stb hS a b n (i + 1) _ (by omega) (by omega) (by rw [h1.size]; exact hb))

theorem insertionSort_stb {lt : α → α → Bool} (hS : SWO lt) (d : Array α) (a b : Nat) (hab : a ≤ b) (hb : b ≤ d.size) : Stb lt a b d (insertionSort lt d a b) ∧ SortedIn lt a b (insertionSort lt d a b) :=
  ⟨insOuter_stb hS a b (b - (a + 1)) (a + 1) d rfl (by omega) hb, (insertionSort_holds hS d a b hab hb).2⟩

/-! ### Sorted, and equals in their order: one list -/
omit [Inhabited α] in
theorem sorted_one {lt : α → α → Bool} (hS : SWO lt) : ∀ (l l' : List α), l.Pairwise (fun x y => lt y x = false) → l'.Pairwise (fun x y => lt y x = false) → (∀ x, l.filter (eqv lt x) = l'.filter (eqv lt x)) → l = l'
  | [], [], _, _, _ => rfl
  | [], y :: r, _, _, h => by
    have := h y
    rw [List.filter_cons_of_pos (by simp [eqv, hS.irrefl])] at this
    cases this
  | x :: r, [], _, _, h => by
    have := h x
    rw [List.filter_cons_of_pos (by simp [eqv, hS.irrefl])] at this
    cases this
  | x :: r, y :: r', hl, hl', h => by
    have hxx : eqv lt x x = true := by simp [eqv, hS.irrefl]
    have hyy : eqv lt y y = true := by simp [eqv, hS.irrefl]
    have hx := h x
    have hy := h y
    rw [List.filter_cons_of_pos hxx] at hx
    rw [List.filter_cons_of_pos (p := eqv lt y) (a := y) hyy] at hy
    have xin : x ∈ y :: r' := (List.mem_filter.1 (show x ∈ (y :: r').filter (eqv lt x) by rw [← hx]; exact List.mem_cons_self)).1
    have yin : y ∈ x :: r := (List.mem_filter.1 (show y ∈ (x :: r).filter (eqv lt y) by rw [hy]; exact List.mem_cons_self)).1
    have l1 : lt x y = false := by
      rcases List.mem_cons.1 xin with e | e
      · rw [e]; exact hS.irrefl _
      · exact (List.pairwise_cons.1 hl').1 x e
    have l2 : lt y x = false := by
      rcases List.mem_cons.1 yin with e | e
      · rw [e]; exact hS.irrefl _
      · exact (List.pairwise_cons.1 hl).1 y e
    have hxy : eqv lt x y = true := by simp [eqv, l1, l2]
    rw [List.filter_cons_of_pos hxy] at hx
    have e : x = y := (List.cons.inj hx).1
    subst e
    congr 1
    refine sorted_one hS r r' (List.pairwise_cons.1 hl).2 (List.pairwise_cons.1 hl').2 fun z => ?_
    have hz := h z
    by_cases q : eqv lt z x = true
    · rw [List.filter_cons_of_pos q, List.filter_cons_of_pos q] at hz
      exact (List.cons.inj hz).2
    · rw [List.filter_cons_of_neg q, List.filter_cons_of_neg q] at hz
      exact hz

theorem sortedIn_pairwise {lt : α → α → Bool} {d : Array α} (h : SortedIn lt 0 d.size d) : d.toList.Pairwise fun x y => lt y x = false := by
  rw [List.pairwise_iff_getElem]
  intro i j hi hj hij
  have := h i j (Nat.zero_le _) hij (by simpa using hj)
  rw [getElem!_pos d j (by simpa using hj), getElem!_pos d i (by simpa using hi)] at this
  simpa using this

/-! ### The merge -/
theorem sin_sub {lt : α → α → Bool} {d : Array α} {a b a' b' : Nat} (h : SortedIn lt a b d) (ha : a ≤ a') (hb : b' ≤ b) : SortedIn lt a' b' d := fun i j h1 h2 h3 => h i j (by omega) h2 (by omega)

theorem sin_keep {lt : α → α → Bool} {d d' : Array α} {a b : Nat} (h : SortedIn lt a b d) (he : ∀ t, a ≤ t → t < b → d'[t]! = d[t]!) : SortedIn lt a b d' := fun i j h1 h2 h3 => by
  rw [he j (by omega) h3, he i h1 (by omega)]; exact h i j h1 h2 h3

/-- Two sorted parts, no element of the right one less than one of the left one. -/
theorem sin_join {lt : α → α → Bool} {d : Array α} {a m b : Nat} (h : SortedIn lt a m d) (h' : SortedIn lt m b d) (hx : ∀ i j, a ≤ i → i < m → m ≤ j → j < b → lt d[j]! d[i]! = false) : SortedIn lt a b d := fun i j h1 h2 h3 => by
  by_cases q : j < m
  · exact h i j h1 h2 q
  · by_cases r : i < m
    · exact hx i j h1 r (by omega) h3
    · exact h' i j (by omega) h2 h3

omit [Inhabited α] in
/-- x is less than what y is not less than .. -/
theorem lt_of {lt : α → α → Bool} (hS : SWO lt) {x y z : α} (h1 : lt y x = false) (h2 : lt y z = true) : lt x z = true := by
  cases h : lt x z with
  | true => rfl
  | false => rw [hS.ntrans y x z h1 h] at h2; cases h2

omit [Inhabited α] in
theorem lt_of' {lt : α → α → Bool} (hS : SWO lt) {x y z : α} (h1 : lt x y = true) (h2 : lt z y = false) : lt x z = true := by
  cases h : lt x z with
  | true => rfl
  | false => rw [hS.ntrans x z y h h2] at h1; cases h1

/-- Behind a rotation: its two parts. -/
theorem Rot.left {a m b : Nat} {d d' : Array α} (h : Rot a m b d d') {t : Nat} (h1 : a ≤ t) (h2 : t < a + (b - m)) : d'[t]! = d[t - a + m]! := by
  rw [h.2]; unfold rotI; rw [if_neg (by omega), if_pos h2]
theorem Rot.right {a m b : Nat} {d d' : Array α} (h : Rot a m b d d') {t : Nat} (h1 : a + (b - m) ≤ t) (h0 : a ≤ t) (h2 : t < b) : d'[t]! = d[t - (b - m)]! := by
  rw [h.2]; unfold rotI; rw [if_neg (by omega), if_neg (by omega), if_pos h2]
theorem Rot.out {a m b : Nat} {d d' : Array α} (h : Rot a m b d d') (hab : a ≤ m ∧ m ≤ b) {t : Nat} (h1 : t < a ∨ b ≤ t) : d'[t]! = d[t]! := by
  rw [h.2]; unfold rotI
  rcases h1 with h1 | h1
  · rw [if_pos h1]
  · rw [if_neg (by omega), if_neg (by omega), if_neg (by omega)]
theorem Rot.self (a : Nat) (b : Nat) (_ : a ≤ b) (d : Array α) : Rot a a b d d := ⟨rfl, fun t => by
  unfold rotI; split
  · rfl
  · split
    · congr 1; omega
    · split
      · omega
      · rfl⟩
theorem Rot.self' (a : Nat) (b : Nat) (_ : a ≤ b) (d : Array α) : Rot a b b d d := ⟨rfl, fun t => by
  unfold rotI; split
  · rfl
  · split
    · omega
    · split
      · congr 1; omega
      · rfl⟩

/-- THE FIRST SHORT CASE: the one element at a goes behind [a + 1, i). -/
theorem merge_first {lt : α → α → Bool} (hS : SWO lt) {a b i : Nat} {d d' : Array α} (hr : Rot a (a + 1) i d d') (hi : a + 1 ≤ i) (hib : i ≤ b) (hb : b ≤ d.size) (h : SortedIn lt (a + 1) b d)
    (hlo : i = a + 1 ∨ lt d[i - 1]! d[a]! = true) (hhi : i = b ∨ lt d[i]! d[a]! = false) : Stb lt a b d d' ∧ SortedIn lt a b d' := by
  have lo : ∀ v, a + 1 ≤ v → v < i → lt d[v]! d[a]! = true := fun v v1 v2 => by
    rcases hlo with e | e
    · omega
    · by_cases q : v = i - 1
      · rw [q]; exact e
      · exact lt_of hS (h v (i - 1) v1 (by omega) (by omega)) e
  have hi' : ∀ v, i ≤ v → v < b → lt d[v]! d[a]! = false := fun v v1 v2 => by
    rcases hhi with e | e
    · omega
    · by_cases q : v = i
      · rw [q]; exact e
      · exact hS.ntrans _ _ _ (h i v (by omega) (by omega) v2) e
  refine ⟨(hr.stb hS (by omega) hi (by omega) (fun u v a1 a2 a3 a4 => by obtain rfl : u = a := by omega
                                                                         exact lo v a3 a4)).mono (Nat.le_refl _) hib, ?_⟩
  have g : ∀ t, a ≤ t → t < b → d'[t]! = if t < i - 1 then d[t + 1]! else if t = i - 1 then d[a]! else d[t]! := fun t t1 t2 => by
    by_cases q : t < i - 1
    · rw [if_pos q, hr.left t1 (by omega)]; congr 1; omega
    · rw [if_neg q]
      by_cases r : t = i - 1
      · rw [if_pos r, hr.right (by omega) t1 (by omega)]; congr 1; omega
      · rw [if_neg r, hr.out ⟨by omega, hi⟩ (by omega)]
  intro p q hp hpq hq
  rw [g p hp (by omega), g q (by omega) hq]
  by_cases p1 : p < i - 1
  · rw [if_pos p1]
    by_cases q1 : q < i - 1
    · rw [if_pos q1]; exact h _ _ (by omega) (by omega) (by omega)
    · rw [if_neg q1]
      by_cases q2 : q = i - 1
      · rw [if_pos q2]; exact hS.asymmA (lo (p + 1) (by omega) (by omega))
      · rw [if_neg q2]; exact h _ _ (by omega) (by omega) (by omega)
  · rw [if_neg p1, if_neg (show ¬ q < i - 1 by omega), if_neg (show ¬ q = i - 1 by omega)]
    by_cases p2 : p = i - 1
    · rw [if_pos p2]; exact hi' q (by omega) hq
    · rw [if_neg p2]; exact h _ _ (by omega) hpq hq

/-- THE SECOND SHORT CASE: the one element at m goes ahead of [i, m). -/
theorem merge_last {lt : α → α → Bool} (hS : SWO lt) {a m i : Nat} {d d' : Array α} (hr : Rot i m (m + 1) d d') (hai : a ≤ i) (him : i ≤ m) (hb : m + 1 ≤ d.size) (h : SortedIn lt a m d)
    (hlo : i = a ∨ lt d[m]! d[i - 1]! = false) (hhi : i = m ∨ lt d[m]! d[i]! = true) : Stb lt a (m + 1) d d' ∧ SortedIn lt a (m + 1) d' := by
  have lo : ∀ v, a ≤ v → v < i → lt d[m]! d[v]! = false := fun v v1 v2 => by
    rcases hlo with e | e
    · omega
    · by_cases q : v = i - 1
      · rw [q]; exact e
      · exact hS.ntrans _ _ _ e (h v (i - 1) v1 (by omega) (by omega))
  have hi' : ∀ v, i ≤ v → v < m → lt d[m]! d[v]! = true := fun v v1 v2 => by
    rcases hhi with e | e
    · omega
    · by_cases q : v = i
      · rw [q]; exact e
      · exact lt_of' hS e (h i v (by omega) (by omega) v2)
  refine ⟨(hr.stb hS him (by omega) hb (fun u v a1 a2 a3 a4 => by obtain rfl : v = m := by omega
                                                                  exact hi' u a1 a2)).mono hai (Nat.le_refl _), ?_⟩
  have g : ∀ t, t < m + 1 → d'[t]! = if t < i then d[t]! else if t = i then d[m]! else d[t - 1]! := fun t t2 => by
    by_cases q : t < i
    · rw [if_pos q, hr.out ⟨him, by omega⟩ (Or.inl q)]
    · rw [if_neg q]
      by_cases r : t = i
      · rw [if_pos r, hr.left (by omega) (by omega)]; congr 1; omega
      · rw [if_neg r, hr.right (by omega) (by omega) (by omega)]; congr 1; omega
  intro p q hp hpq hq
  rw [g p (by omega), g q hq]
  by_cases q1 : q < i
  · rw [if_pos q1, if_pos (show p < i by omega)]; exact h _ _ hp hpq (by omega)
  · rw [if_neg q1]
    by_cases q2 : q = i
    · rw [if_pos q2, if_pos (show p < i by omega)]; exact lo p hp (by omega)
    · rw [if_neg q2]
      by_cases p1 : p < i
      · rw [if_pos p1]; exact h _ _ hp (by omega) (by omega)
      · rw [if_neg p1]
        by_cases p2 : p = i
        · rw [if_pos p2]; exact hS.asymmA (hi' (q - 1) (by omega) (by omega))
        · rw [if_neg p2]; exact h _ _ (by omega) (by omega) (by omega)

/-- THE LONG CASE, ahead of the two merges: start and e = mid + m - start cut both parts; [start, m) and [m, e) are exchanged; the halves then stand in their places, each of two sorted parts, no element of the right half less than one of the left. -/
theorem merge_cut {lt : α → α → Bool} (hS : SWO lt) {a m b mid start e : Nat} {d d' : Array α} (hr : Rot start m e d d') (ham : a ≤ start) (h1 : start ≤ m) (h2 : m ≤ e) (h3 : e ≤ b) (hmid : start + e = mid + m) (hb : b ≤ d.size)
    (hl : SortedIn lt a m d) (hrt : SortedIn lt m b d) (hlo : start = a ∨ e = b ∨ lt d[e]! d[start - 1]! = false) (hhi : start = m ∨ m = e ∨ lt d[e - 1]! d[start]! = true) :
    Stb lt a b d d' ∧ SortedIn lt a start d' ∧ SortedIn lt start mid d' ∧ SortedIn lt mid e d' ∧ SortedIn lt e b d' ∧ (∀ i j, a ≤ i → i < mid → mid ≤ j → j < b → lt d'[j]! d'[i]! = false) := by
  have big : ∀ u v, start ≤ u → u < m → m ≤ v → v < e → lt d[v]! d[u]! = true := fun u v u1 u2 v1 v2 => by
    rcases hhi with q | q | q
    · omega
    · omega
    · have q1 : lt d[v]! d[start]! = true := by
        by_cases r : v = e - 1
        · rw [r]; exact q
        · exact lt_of hS (hrt v (e - 1) v1 (by omega) (by omega)) q
      by_cases r : u = start
      · rw [r]; exact q1
      · exact lt_of' hS q1 (hl start u ham (by omega) u2)
  have sml : ∀ u v, a ≤ u → u < start → e ≤ v → v < b → lt d[v]! d[u]! = false := fun u v u1 u2 v1 v2 => by
    rcases hlo with q | q | q
    · omega
    · omega
    · have q1 : lt d[v]! d[start - 1]! = false := by
        by_cases r : v = e
        · rw [r]; exact q
        · exact hS.ntrans _ _ _ (hrt e v h2 (by omega) v2) q
      by_cases r : u = start - 1
      · rw [r]; exact q1
      · exact hS.ntrans _ _ _ q1 (hl u (start - 1) u1 (by omega) (by omega))
  have gl : ∀ t, a ≤ t → t < start → d'[t]! = d[t]! := fun t _ t2 => hr.out ⟨h1, h2⟩ (Or.inl t2)
  have gm : ∀ t, start ≤ t → t < mid → d'[t]! = d[t - start + m]! := fun t t1 t2 => hr.left t1 (by omega)
  have gn : ∀ t, mid ≤ t → t < e → d'[t]! = d[t - (e - m)]! := fun t t1 t2 => hr.right (by omega) (by omega) t2
  have gr : ∀ t, e ≤ t → d'[t]! = d[t]! := fun t t1 => hr.out ⟨h1, h2⟩ (Or.inr t1)
  refine ⟨(hr.stb hS h1 h2 (by omega) big).mono ham h3, ?_, ?_, ?_, ?_, ?_⟩
  · exact sin_keep (sin_sub hl (Nat.le_refl _) h1) gl
  · intro i j i1 ij j2
    rw [gm j (by omega) j2, gm i i1 (by omega)]; exact hrt _ _ (by omega) (by omega) (by omega)
  · intro i j i1 ij j2
    rw [gn j (by omega) j2, gn i i1 (by omega)]; exact hl _ _ (by omega) (by omega) (by omega)
  · exact sin_keep (sin_sub hrt h2 (Nat.le_refl _)) fun t t1 _ => gr t t1
  · intro i j i1 i2 j1 j2
    by_cases p : i < start
    · rw [gl i i1 p]
      by_cases q : j < e
      · rw [gn j j1 q]; exact hl _ _ i1 (by omega) (by omega)
      · rw [gr j (by omega)]; exact sml i j i1 p (by omega) j2
    · rw [gm i (by omega) i2]
      by_cases q : j < e
      · rw [gn j j1 q]; exact hS.asymmA (big _ _ (by omega) (by omega) (by omega) (by omega))
      · rw [gr j (by omega)]; exact hrt _ _ (by omega) (by omega) j2

/-- Two merges of halves that stand right. -/
theorem merge_halves {lt : α → α → Bool} {a mid b : Nat} {d d1 d2 : Array α} (hm : a ≤ mid) (hb : mid ≤ b) (h1 : Stb lt a mid d d1) (s1 : SortedIn lt a mid d1) (h2 : Stb lt mid b d1 d2) (s2 : SortedIn lt mid b d2)
    (hx : ∀ i j, a ≤ i → i < mid → mid ≤ j → j < b → lt d[j]! d[i]! = false) : Stb lt a b d d2 ∧ SortedIn lt a b d2 := by
  refine ⟨(h1.mono (Nat.le_refl _) hb).trans (h2.mono hm (Nat.le_refl _)), sin_join (sin_keep s1 fun t _ t2 => h2.out t (Or.inl t2)) s2 fun i j i1 i2 j1 j2 => ?_⟩
  rw [h2.out i (Or.inl i2)]
  obtain ⟨s, q1, q2, e⟩ := h1.mem i i1 i2
  obtain ⟨r, r1, r2, e'⟩ := h2.mem j j1 j2
  rw [e, e', h1.out r (Or.inr r1)]
  exact hx s r q1 q2 r1 r2

/-! ### The rotation, step by step -/
/-- n places from a on exchanged with n from b on, the first k of them done. -/
def swpI (a b k t : Nat) : Nat := if a ≤ t ∧ t < a + k then t - a + b else if b ≤ t ∧ t < b + k then t - b + a else t
def SwpN (a b k : Nat) (d d' : Array α) : Prop := d'.size = d.size ∧ ∀ t, d'[t]! = d[swpI a b k t]!

theorem SwpN.start (a b : Nat) (d : Array α) : SwpN a b 0 d d := ⟨rfl, fun t => by unfold swpI; rw [if_neg (by omega), if_neg (by omega)]⟩
theorem SwpN.step {a b k : Nat} {d d' : Array α} (h : SwpN a b k d d') (hab : a + k < b) (hb : b + k < d.size) : SwpN a b (k + 1) d (swp d' (a + k) (b + k)) := by
  refine ⟨(swp_size _ _ _).trans h.1, fun t => ?_⟩
  rw [swp_get d' (by rw [h.1]; omega) (by rw [h.1]; omega), h.2, h.2, h.2]
  unfold swpI
  by_cases q : t = b + k
  · subst q; rw [if_pos rfl]; congr 1; (repeat' split) <;> omega
  · rw [if_neg q]
    by_cases r : t = a + k
    · subst r; rw [if_pos rfl]; congr 1; (repeat' split) <;> omega
    · rw [if_neg r]; congr 1; (repeat' split) <;> omega

/-- The left part is the longer one: its first j go to their places. -/
theorem rot_left {m i j : Nat} {d d1 d2 : Array α} (hi : i ≤ m) (hij : j < i) (h : SwpN (m - i) m j d d1) (h' : Rot (m - (i - j)) m (m + j) d1 d2) : Rot (m - i) m (m + j) d d2 := by
  refine ⟨h'.1.trans h.1, fun t => ?_⟩
  rw [h'.2, h.2]; congr 1; unfold rotI swpI
  split <;> (repeat' split) <;> omega
/-- The right part is the longer one. -/
theorem rot_right {m i j : Nat} {d d1 d2 : Array α} (hi : i ≤ m) (hij : i < j) (h : SwpN (m - i) (m + j - i) i d d1) (h' : Rot (m - i) m (m + (j - i)) d1 d2) : Rot (m - i) m (m + j) d d2 := by
  refine ⟨h'.1.trans h.1, fun t => ?_⟩
  rw [h'.2, h.2]; congr 1; unfold rotI swpI
  split <;> (repeat' split) <;> omega
/-- Both are alike. -/
theorem rot_even {m i : Nat} {d d1 : Array α} (hi : i ≤ m) (h : SwpN (m - i) m i d d1) : Rot (m - i) m (m + i) d d1 := by
  refine ⟨h.1, fun t => ?_⟩
  rw [h.2]; congr 1; unfold rotI swpI
  split <;> (repeat' split) <;> omega

/-- The first short case's loop: k - a exchanges of neighbours. -/
theorem rot_up {a k : Nat} {d d1 : Array α} (h : Rot a (a + 1) (k + 1) d d1) (hak : a ≤ k) (hk : k + 1 < d.size) : Rot a (a + 1) (k + 2) d (swp d1 k (k + 1)) := by
  refine ⟨(swp_size _ _ _).trans h.1, fun t => ?_⟩
  rw [swp_get d1 (by rw [h.1]; omega) (by rw [h.1]; omega), h.2, h.2, h.2]
  unfold rotI
  by_cases q : t = k + 1
  · subst q; rw [if_pos rfl]; congr 1; (repeat' split) <;> omega
  · rw [if_neg q]
    by_cases r : t = k
    · subst r; rw [if_pos rfl]; congr 1; (repeat' split) <;> omega
    · rw [if_neg r]; congr 1; (repeat' split) <;> omega
/-- The second short case's. -/
theorem rot_down {m k : Nat} {d d1 : Array α} (h : Rot (k + 1) m (m + 1) d d1) (hkm : k + 1 ≤ m) (hm : m < d.size) : Rot k m (m + 1) d (swp d1 (k + 1) k) := by
  refine ⟨(swp_size _ _ _).trans h.1, fun t => ?_⟩
  rw [swp_get d1 (by rw [h.1]; omega) (by rw [h.1]; omega), h.2, h.2, h.2]
  unfold rotI
  by_cases q : t = k
  · subst q; rw [if_pos rfl]; congr 1; (repeat' split) <;> omega
  · rw [if_neg q]
    by_cases r : t = k + 1
    · subst r; rw [if_pos rfl]; congr 1; (repeat' split) <;> omega
    · rw [if_neg r]; congr 1; (repeat' split) <;> omega

end Go.Proofs.Ytdjdflannedkbaa
