/-
  PROVED: plain facts on tags that are made of a name, an attribute's name and a value: they are whole ones. No program in it. Conditions: none.
-/
import Derived.Test.YtdnnjakggopdoaaDoorBehRaw
namespace Go.Proofs.YtdnnjakggopdoaaDoor
set_option linter.unusedVariables false

theorem tw_app (p : UInt8 → Bool) (B : List UInt8) (hB : ∀ x, B[0]? = some x → p x = false) : ∀ M : List UInt8, (∀ x ∈ M, p x = true) → (M ++ B).takeWhile p = M
  | [], _ => by
    cases B with
    | nil => rfl
    | cons x B =>
      rw [List.nil_append, List.takeWhile_cons, if_neg]
      rw [hB x rfl]
      decide
  | x :: M, hM => by rw [List.cons_append, List.takeWhile_cons, if_pos (hM x (List.mem_cons_self ..)), tw_app p B hB M (fun y hy => hM y (List.mem_cons_of_mem _ hy))]
theorem up_of {p : UInt8 → Bool} {l A M B : List UInt8} {i : Nat} (e : l = A ++ (M ++ B)) (hi : i = A.length) (hM : ∀ x ∈ M, p x = true) (hB : ∀ x, B[0]? = some x → p x = false) : upL p l i = i + M.length := by
  subst e
  subst hi
  unfold upL
  rw [List.drop_left' rfl, tw_app p B hB M hM]
theorem get_of {l A B : List UInt8} {x : UInt8} {i : Nat} (e : l = A ++ (x :: B)) (hi : i = A.length) : l[i]? = some x := by
  subst e
  subst hi
  simp
theorem get_mem {l A B : List UInt8} {i : Nat} {x : UInt8} (e : l = A ++ B) (hi : A.length ≤ i) (hx : l[i]? = some x) : x ∈ B := by
  subst e
  rw [List.getElem?_append_right hi] at hx
  exact List.mem_of_getElem? hx

/-- A name that a tag may have. -/
def nameOk (nm : List UInt8) : Prop := (∀ x ∈ nm, isN x = true) ∧ ∃ c, nm[0]? = some c ∧ isL c = true
/-- Behind a name that is one. -/
theorem name_of {l A nm B : List UInt8} {i : Nat} (h : nameOk nm) (e : l = A ++ (nm ++ B)) (hi : i = A.length) (hB : ∀ x, B[0]? = some x → isN x = false) : nameL l i = some (i + nm.length) := by
  obtain ⟨h1, c, hc, hcl⟩ := h
  have hci : l[i]? = some c := by
    subst e
    subst hi
    rw [List.getElem?_append_right (Nat.le_refl _), Nat.sub_self, List.getElem?_append_left (List.getElem?_eq_some_iff.1 hc).1]
    exact hc
  unfold nameL
  rw [if_neg, upL_again isL isN L_N, up_of e hi h1 hB]
  intro h0
  have := (upL_pos isL l i).1 h0 c hci
  rw [hcl] at this
  cases this

theorem isAtt_no {l : List UInt8} {i : Nat} (h : upL isS l i = i) : isAtt l i = false := by unfold isAtt; simp [h]

theorem made_name (nm : List UInt8) (hc : ∀ x ∈ nm, x ≠ 32 ∧ x ≠ 9 ∧ x ≠ 10 ∧ x ≠ 47) (h : openL ([60] ++ (nm ++ [62])) = nm.length + 2) : nameOk nm := by
  have ht := open_some h (by omega)
  obtain ⟨l, hl⟩ : ∃ l, l = [60] ++ (nm ++ [62]) := ⟨_, rfl⟩
  rw [← hl] at ht
  have hlen : l.length = nm.length + 2 := by rw [hl]; simp
  have hb : ∀ i x, l[i]? = some x → isS x = false ∧ (1 ≤ i → x ≠ 47) := fun i x hx => by
    have hm := List.mem_of_getElem? hx
    rw [hl] at hm
    simp only [List.cons_append, List.nil_append, List.mem_cons, List.mem_append, List.not_mem_nil, or_false] at hm
    rcases hm with rfl | hm | rfl
    · exact ⟨rfl, fun _ => by decide⟩
    · obtain ⟨c1, c2, c3, c4⟩ := hc x hm
      exact ⟨by unfold isS; simp [c1, c2, c3], fun _ => c4⟩
    · exact ⟨rfl, fun _ => by decide⟩
  have hS : ∀ i, upL isS l i = i := fun i => upL_stop _ _ _ (fun x hx => (hb i x hx).1)
  unfold tagO at ht
  rw [if_pos (by rw [hl]; rfl), if_neg (fun h1 => (hb 1 47 h1).2 (Nat.le_refl _) rfl)] at ht
  unfold openO at ht
  cases hn : nameL l 1 with
  | none => rw [hn] at ht; cases ht
  | some a =>
    rw [hn] at ht
    simp only at ht
    have ba := name_bd l 1 a hn
    rw [atts_stop l a ba.2 (isAtt_no (hS a))] at ht
    simp only at ht
    unfold tailL at ht
    have hp : past l 47 a = a := past_no (fun h1 => (hb a 47 h1).2 (by omega) rfl)
    rw [hS a, hp] at ht
    have bn := need_at ht
    have ea : a = nm.length + 1 := by omega
    unfold nameL at hn
    split at hn
    · cases hn
    · rename_i hne
      have e2 := Option.some.inj hn
      rw [upL_again isL isN L_N, ea] at e2
      have hin : ∀ i, i < nm.length → ∀ x, nm[i]? = some x → l[1 + i]? = some x := fun i hi x hx => by
        rw [hl, List.getElem?_append_right (by simp), List.getElem?_append_left (by simp; omega)]
        simpa using hx
      refine ⟨fun x hx => ?_, ?_⟩
      · obtain ⟨i, hi⟩ := List.getElem?_of_mem hx
        have hil := (List.getElem?_eq_some_iff.1 hi).1
        obtain ⟨y, hy, hyn⟩ := upL_in isN l 1 (1 + i) (by omega) (by omega)
        rw [hin i hil x hi] at hy
        rw [Option.some.inj hy]
        exact hyn
      · have hgt := upL_ge isL l 1
        obtain ⟨c, hc1, hc2⟩ := upL_in isL l 1 1 (Nat.le_refl _) (by omega)
        cases nm with
        | nil =>
          rw [hl] at hc1
          have e := Option.some.inj hc1
          subst e
          cases hc2
        | cons x nm =>
          have h0 := hin 0 (by simp) x rfl
          rw [Nat.add_zero] at h0
          rw [h0] at hc1
          rw [← Option.some.inj hc1] at hc2
          exact ⟨x, rfl, hc2⟩

theorem made_attr (nm atn : List UInt8) (hok : nameOk nm) (hne : atn ≠ []) (hc : ∀ x ∈ atn, x ≠ 32 ∧ x ≠ 9 ∧ x ≠ 10 ∧ x ≠ 61 ∧ x ≠ 47 ∧ x ≠ 62)
    (h : openL ([60] ++ (nm ++ ([32] ++ (atn ++ [62])))) = nm.length + atn.length + 3) : (∀ x ∈ atn, isA x = true) ∧ ∃ c, atn[0]? = some c ∧ isF c = true := by
  have ht := open_some h (by omega)
  obtain ⟨l, hl⟩ : ∃ l, l = [60] ++ (nm ++ ([32] ++ (atn ++ [62]))) := ⟨_, rfl⟩
  rw [← hl] at ht
  have hlen : l.length = nm.length + atn.length + 3 := by rw [hl]; simp; omega
  have hl2 : l = ([60] ++ nm ++ [32]) ++ (atn ++ [62]) := by rw [hl]; simp
  have hA : ([60] ++ nm ++ [32]).length = nm.length + 2 := by simp
  obtain ⟨c, atr, rfl⟩ : ∃ c r, atn = c :: r := by
    cases atn with
    | nil => exact absurd rfl hne
    | cons c r => exact ⟨c, r, rfl⟩
  have hcc := hc c (List.mem_cons_self ..)
  have hbe : ∀ i x, nm.length + 2 ≤ i → l[i]? = some x → isS x = false ∧ x ≠ 61 ∧ x ≠ 47 := fun i x hi hx => by
    have hm := get_mem hl2 (by rw [hA]; exact hi) hx
    rw [List.mem_append] at hm
    rcases hm with hm | hm
    · obtain ⟨c1, c2, c3, c4, c5, c6⟩ := hc x hm
      exact ⟨by unfold isS; simp [c1, c2, c3], c4, c5⟩
    · have e := List.mem_singleton.1 hm
      subst e
      exact ⟨rfl, by decide, by decide⟩
  have hname : nameL l 1 = some (1 + nm.length) := name_of (A := [60]) hok hl rfl (fun x hx => by cases hx; rfl)
  have hl1 : ¬ l[1]? = some 47 := by
    obtain ⟨_, d, hd, hdl⟩ := hok
    intro h1
    have : l[1]? = some d := by
      rw [hl, List.getElem?_append_right (by simp), List.getElem?_append_left (by simpa using (List.getElem?_eq_some_iff.1 hd).1)]
      exact hd
    rw [this] at h1
    rw [Option.some.inj h1] at hdl
    cases hdl
  have hsp : upL isS l (1 + nm.length) = 1 + nm.length + 1 := up_of (A := [60] ++ nm) (M := [32]) (B := (c :: atr) ++ [62]) (by rw [hl]; simp) (by simp; omega) (fun x hx => by simp at hx; subst hx; rfl) (fun x hx => by
    rw [List.cons_append, List.getElem?_cons_zero] at hx
    rw [← Option.some.inj hx]
    unfold isS
    simp [hcc.1, hcc.2.1, hcc.2.2.1])
  have hcat : l[1 + nm.length + 1]? = some c := get_of (A := [60] ++ nm ++ [32]) (B := atr ++ [62]) (by rw [hl]; simp) (by simp; omega)
  unfold tagO at ht
  rw [if_pos (by rw [hl]; rfl), if_neg hl1] at ht
  unfold openO at ht
  rw [hname] at ht
  simp only at ht
  cases hf : isF c with
  | false =>
    exfalso
    have hat : isAtt l (1 + nm.length) = false := by
      unfold isAtt
      rw [hsp, upL_stop isF l _ (fun x hx => by rw [hcat] at hx; rw [← Option.some.inj hx]; exact hf)]
      simp
    rw [atts_stop l _ (by omega) hat] at ht
    simp only at ht
    unfold tailL at ht
    rw [hsp, past_no (by rw [hcat]; exact fun h1 => hcc.2.2.2.2.1 (Option.some.inj h1))] at ht
    have bn := need_at ht
    rw [hcat] at bn
    exact hcc.2.2.2.2.2 (Option.some.inj bn.2)
  | true =>
    have hat : isAtt l (1 + nm.length) = true := by
      unfold isAtt
      rw [hsp, decide_eq_true_iff]
      refine ⟨by omega, fun h1 => ?_⟩
      have := (upL_pos isF l _).1 h1 c hcat
      rw [hf] at this
      cases this
    have hj := upL_bd isA l (1 + nm.length + 1) (by omega)
    obtain ⟨j, ej⟩ : ∃ j, j = upL isA l (1 + nm.length + 1) := ⟨_, rfl⟩
    have hSj : upL isS l j = j := upL_stop _ _ _ (fun x hx => (hbe j x (by omega) hx).1)
    have hE : attE l (1 + nm.length) = some j := by
      unfold attE
      rw [hsp, upL_again isF isA F_A, ← ej]
      unfold valueL
      rw [hSj, if_neg (fun h1 => (hbe j 61 (by omega) h1).2.1 rfl)]
    rw [atts_step l _ (by omega) hat j hE, atts_stop l j (by omega) (isAtt_no hSj)] at ht
    simp only at ht
    unfold tailL at ht
    rw [hSj, past_no (fun h1 => (hbe j 47 (by omega) h1).2.2 rfl)] at ht
    have bn := need_at ht
    refine ⟨fun x hx => ?_, c, rfl, hf⟩
    obtain ⟨i, hi⟩ := List.getElem?_of_mem hx
    have hil := (List.getElem?_eq_some_iff.1 hi).1
    obtain ⟨y, hy, hyn⟩ := upL_in isA l (1 + nm.length + 1) (1 + nm.length + 1 + i) (by omega) (by
      have e1 : nm.length + (c :: atr).length + 3 = j + 1 := bn.1
      omega)
    have hxi : l[1 + nm.length + 1 + i]? = some x := by
      rw [hl2, List.getElem?_append_right (by rw [hA]; omega), hA, show 1 + nm.length + 1 + i - (nm.length + 2) = i from by omega, List.getElem?_append_left hil]
      exact hi
    rw [hxi] at hy
    rw [Option.some.inj hy]
    exact hyn

/-- The tag that the law makes. -/
def madeL (nm atn va : List UInt8) : List UInt8 := [60] ++ (nm ++ ([10] ++ (atn ++ ([32, 61, 9, 34] ++ (va ++ [34, 32, 47, 62])))))
theorem F_notS (c : UInt8) (h : isF c = true) : isS c = false := by
  cases hs : isS c with
  | false => rfl
  | true =>
    unfold isS at hs
    rw [Bool.or_eq_true, Bool.or_eq_true, beq_iff_eq, beq_iff_eq, beq_iff_eq] at hs
    rcases hs with (rfl | rfl) | rfl <;> cases h
theorem made_len (nm atn va : List UInt8) : (madeL nm atn va).length = nm.length + atn.length + va.length + 10 := by unfold madeL; simp; omega
theorem made_open (nm atn va : List UInt8) (hok : nameOk nm) (ha : ∀ x ∈ atn, isA x = true) (hf : ∃ c, atn[0]? = some c ∧ isF c = true) (hv : ∀ x ∈ va, x ≠ 34) : openL (madeL nm atn va) = (madeL nm atn va).length := by
  obtain ⟨l, hl⟩ : ∃ l, l = madeL nm atn va := ⟨_, rfl⟩
  have hlen := made_len nm atn va
  rw [← hl] at hlen ⊢
  unfold madeL at hl
  obtain ⟨c, hc, hcf⟩ := hf
  obtain ⟨atr, rfl⟩ : ∃ r, atn = c :: r := by
    cases atn with
    | nil => cases hc
    | cons d r => exact ⟨r, by rw [List.getElem?_cons_zero] at hc; rw [Option.some.inj hc]⟩
  have hal : (c :: atr).length = atr.length + 1 := rfl
  have hl1 : ¬ l[1]? = some 47 := by
    obtain ⟨_, d, hd, hdl⟩ := hok
    intro h1
    have : l[1]? = some d := by
      rw [hl, List.getElem?_append_right (by simp), List.getElem?_append_left (by simpa using (List.getElem?_eq_some_iff.1 hd).1)]
      exact hd
    rw [this] at h1
    rw [Option.some.inj h1] at hdl
    cases hdl
  obtain ⟨a, ea⟩ : ∃ a, a = 1 + nm.length := ⟨_, rfl⟩
  obtain ⟨j, ej⟩ : ∃ j, j = a + 1 + (c :: atr).length := ⟨_, rfl⟩
  obtain ⟨k, ek⟩ : ∃ k, k = j + 5 + va.length := ⟨_, rfl⟩
  have hname : nameL l 1 = some a := by rw [ea]; exact name_of (A := [60]) hok hl rfl (fun x hx => by cases hx; rfl)
  have s1 : upL isS l a = a + 1 := up_of (A := [60] ++ nm) (M := [10]) (B := (c :: atr) ++ ([32, 61, 9, 34] ++ (va ++ [34, 32, 47, 62]))) (by rw [hl]; simp) (by simp; omega) (fun x hx => by simp at hx; subst hx; rfl) (fun x hx => by
    rw [List.cons_append, List.getElem?_cons_zero] at hx
    rw [← Option.some.inj hx]
    exact F_notS c hcf)
  have hcat : l[a + 1]? = some c := get_of (A := [60] ++ nm ++ [10]) (B := atr ++ ([32, 61, 9, 34] ++ (va ++ [34, 32, 47, 62]))) (by rw [hl]; simp) (by simp; omega)
  have hat : isAtt l a = true := by
    unfold isAtt
    rw [s1, decide_eq_true_iff]
    refine ⟨by omega, fun h1 => ?_⟩
    have := (upL_pos isF l _).1 h1 c hcat
    rw [hcf] at this
    cases this
  have u1 : upL isA l (a + 1) = j := by
    rw [ej]
    exact up_of (A := [60] ++ nm ++ [10]) (M := c :: atr) (B := [32, 61, 9, 34] ++ (va ++ [34, 32, 47, 62])) (by rw [hl]; simp) (by simp; omega) ha (fun x hx => by cases hx; rfl)
  have s2 : upL isS l j = j + 1 := up_of (A := [60] ++ nm ++ [10] ++ (c :: atr)) (M := [32]) (B := [61, 9, 34] ++ (va ++ [34, 32, 47, 62])) (by rw [hl]; simp) (by simp; omega) (fun x hx => by simp at hx; subst hx; rfl) (fun x hx => by cases hx; rfl)
  have g1 : l[j + 1]? = some 61 := get_of (A := [60] ++ nm ++ [10] ++ (c :: atr) ++ [32]) (B := [9, 34] ++ (va ++ [34, 32, 47, 62])) (by rw [hl]; simp) (by simp; omega)
  have s3 : upL isS l (j + 1 + 1) = j + 3 := up_of (A := [60] ++ nm ++ [10] ++ (c :: atr) ++ [32, 61]) (M := [9]) (B := [34] ++ (va ++ [34, 32, 47, 62])) (by rw [hl]; simp) (by simp; omega) (fun x hx => by simp at hx; subst hx; rfl) (fun x hx => by cases hx; rfl)
  have g2 : l[j + 3]? = some 34 := get_of (A := [60] ++ nm ++ [10] ++ (c :: atr) ++ [32, 61, 9]) (B := va ++ [34, 32, 47, 62]) (by rw [hl]; simp) (by simp; omega)
  have g3 : l[j + 4 + va.length]? = some 34 := get_of (A := [60] ++ nm ++ [10] ++ (c :: atr) ++ [32, 61, 9, 34] ++ va) (B := [32, 47, 62]) (by rw [hl]; simp) (by simp; omega)
  have q1 : quoL l (j + 4) 34 = some k := by
    rw [ek, show j + 5 + va.length = j + 4 + va.length + 1 from by omega]
    refine quo_is l (j + 4) _ 34 (by omega) (fun i h1 h2 h3 => ?_) g3
    have e2 : l = ([60] ++ nm ++ [10] ++ (c :: atr) ++ [32, 61, 9, 34]) ++ (va ++ [34, 32, 47, 62]) := by rw [hl]; simp
    have hA : ([60] ++ nm ++ [10] ++ (c :: atr) ++ [32, 61, 9, 34]).length = j + 4 := by simp; omega
    rw [e2, List.getElem?_append_right (by rw [hA]; exact h1), hA, List.getElem?_append_left (by omega)] at h3
    exact hv 34 (List.mem_of_getElem? h3) rfl
  have hE : attE l a = some k := by
    unfold attE
    rw [s1, upL_again isF isA F_A, u1]
    unfold valueL
    rw [s2, if_pos g1, s3, valL_34 g2]
    exact q1
  have s4 : upL isS l k = k + 1 := up_of (A := [60] ++ nm ++ [10] ++ (c :: atr) ++ [32, 61, 9, 34] ++ va ++ [34]) (M := [32]) (B := [47, 62]) (by rw [hl]; simp) (by simp; omega) (fun x hx => by simp at hx; subst hx; rfl) (fun x hx => by cases hx; rfl)
  have g4 : l[k + 1]? = some 47 := get_of (A := [60] ++ nm ++ [10] ++ (c :: atr) ++ [32, 61, 9, 34] ++ va ++ [34, 32]) (B := [62]) (by rw [hl]; simp) (by simp; omega)
  have g5 : l[k + 1 + 1]? = some 62 := get_of (A := [60] ++ nm ++ [10] ++ (c :: atr) ++ [32, 61, 9, 34] ++ va ++ [34, 32, 47]) (B := []) (by rw [hl]; simp) (by simp; omega)
  have hat2 : isAtt l k = false := by
    unfold isAtt
    rw [s4, upL_stop isF l _ (fun x hx => by rw [g4] at hx; rw [← Option.some.inj hx]; rfl)]
    simp
  unfold openL tagO
  rw [if_pos (by rw [hl]; rfl), if_neg hl1]
  unfold openO
  rw [hname]
  simp only
  rw [atts_step l a (by omega) hat k hE, atts_stop l k (by omega) hat2]
  simp only
  unfold tailL
  rw [s4, past_yes g4]
  unfold needL
  rw [if_pos g5, Option.getD_some]
  omega
theorem made_raw (nm atn va : List UInt8) (hok : nameOk nm) (h : openL (madeL nm atn va) = (madeL nm atn va).length) (m : List UInt8) : rawL (madeL nm atn va ++ m) = (madeL nm atn va).length := by
  have hlen := made_len nm atn va
  have hr : rawL (madeL nm atn va) = (madeL nm atn va).length := by rw [raw_open _ (by omega), h]
  refine (raw_all _ _ hr (by omega)).2.2.2.2 _ (fun i hi => ?_) (by rw [List.length_append]; omega)
  rw [List.getElem?_append_left hi]
theorem made_close (nm : List UInt8) (hok : nameOk nm) : openL ([60, 47] ++ (nm ++ [32, 62])) = nm.length + 4 := by
  obtain ⟨l, hl⟩ : ∃ l, l = [60, 47] ++ (nm ++ [32, 62]) := ⟨_, rfl⟩
  rw [← hl]
  have hname : nameL l 2 = some (2 + nm.length) := name_of (A := [60, 47]) hok hl rfl (fun x hx => by cases hx; rfl)
  have s1 : upL isS l (2 + nm.length) = 2 + nm.length + 1 := up_of (A := [60, 47] ++ nm) (M := [32]) (B := [62]) (by rw [hl]; simp) (by simp; omega) (fun x hx => by simp at hx; subst hx; rfl) (fun x hx => by cases hx; rfl)
  have g1 : l[2 + nm.length + 1]? = some 62 := get_of (A := [60, 47] ++ nm ++ [32]) (B := []) (by rw [hl]; simp) (by simp; omega)
  unfold openL tagO
  rw [if_pos (by rw [hl]; rfl), if_pos (by rw [hl]; rfl)]
  unfold closeO
  rw [hname]
  simp only
  rw [s1]
  unfold needL
  rw [if_pos g1, Option.getD_some]
  omega
end Go.Proofs.YtdnnjakggopdoaaDoor
