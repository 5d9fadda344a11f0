/-
  PROVED: plain facts on which HTML block a line begins, as the document tells it: by the word behind "<". No program in it. Conditions: none.
-/
import Derived.Test.YtdnnjakggopdoaaDoorKind
import Derived.Test.YtdnnjakggopdoaaDoorRefRaw
import Derived.Test.YtdnnjakggopdoaaDoorRefBlock
namespace Go.Proofs.YtdnnjakggopdoaaDoor
set_option linter.unusedVariables false

/-- The words of the verbatim tags. -/
def vword : Nat → List UInt8
  | 0 => [112, 114, 101]
  | 1 => [115, 99, 114, 105, 112, 116]
  | 2 => [115, 116, 121, 108, 101]
  | _ => [116, 101, 120, 116, 97, 114, 101, 97]
theorem vbeg_is : ∀ i : Nat, vbeg i = 60 :: vword i
  | 0 => rfl
  | 1 => rfl
  | 2 => rfl
  | _ + 3 => rfl
theorem vword_all : ∀ i : Nat, (vword i).all (fun x => decide (97 ≤ x.toNat) && decide (x.toNat ≤ 122)) = true
  | 0 => by decide
  | 1 => by decide
  | 2 => by decide
  | _ + 3 => (by decide : (vword 3).all (fun x => decide (97 ≤ x.toNat) && decide (x.toNat ≤ 122)) = true)
theorem vword_small (i : Nat) (x : UInt8) (h : x ∈ vword i) : 97 ≤ x.toNat ∧ x.toNat ≤ 122 := by
  have := List.all_eq_true.1 (vword_all i) x h
  rw [Bool.and_eq_true, decide_eq_true_iff, decide_eq_true_iff] at this
  exact this
theorem low_letter (x : UInt8) (h : 97 ≤ (lowb x).toNat ∧ (lowb x).toNat ≤ 122) : isL x = true := by
  rw [lowb_nat] at h
  unfold isL
  rw [Bool.or_eq_true, Bool.and_eq_true, Bool.and_eq_true, decide_eq_true_iff, decide_eq_true_iff, decide_eq_true_iff, decide_eq_true_iff]
  split at h <;> omega
theorem ends_notW (l : List UInt8) (k : Nat) (h : endsN (l.drop k) = true) : ∀ x, l[k]? = some x → isW x = false := fun x hx => by
  obtain ⟨hk, rfl⟩ := List.getElem?_eq_some_iff.1 hx
  rw [List.drop_eq_getElem_cons hk] at h
  unfold endsN at h
  simp only [List.contains, List.elem] at h
  cases h1 : (l[k] == 32) with
  | true => rw [eq_of_beq h1]; rfl
  | false =>
    cases h2 : (l[k] == 9) with
    | true => rw [eq_of_beq h2]; rfl
    | false =>
      cases h3 : (l[k] == 62) with
      | true => rw [eq_of_beq h3]; rfl
      | false => rw [h1, h2, h3] at h; cases h
/-- The word behind "<". -/
def wordL (l : List UInt8) (k : Nat) : List UInt8 := ((l.take k).drop 1).map lowb
theorem isVb_is (l : List UInt8) (i : Nat) (h0 : l[0]? = some 60) : isVb l i = (endsN (l.drop (upL isW l 1)) && (wordL l (upL isW l 1) == vword i)) := by
  have hl : 1 ≤ l.length := (List.getElem?_eq_some_iff.1 h0).1
  have hk := upL_bd isW l 1 hl
  have hcons : ∃ m, l = 60 :: m := by
    cases l with
    | nil => simp at h0
    | cons a m => rw [List.getElem?_cons_zero] at h0; exact ⟨m, by rw [Option.some.inj h0]⟩
  obtain ⟨m, hm⟩ := hcons
  rw [Bool.eq_iff_iff]
  unfold isVb
  rw [vbeg_is, List.length_cons]
  simp only [Bool.and_eq_true, decide_eq_true_iff, beq_iff_eq]
  constructor
  · rintro ⟨⟨h1, h2⟩, h3⟩
    have hw : (m.take (vword i).length).map lowb = vword i := by
      rw [hm, List.take_succ_cons, List.map_cons] at h2
      exact (List.cons.inj h2).2
    have hu : upL isW l 1 = (vword i).length + 1 := by
      refine upL_is isW l 1 _ (by omega) (fun t h4 h5 => ?_) (ends_notW l _ h3)
      have ht : t < l.length := by omega
      refine ⟨l[t], List.getElem?_eq_getElem ht, ?_⟩
      have hmem : lowb l[t] ∈ vword i := by
        rw [← hw]
        apply List.mem_map_of_mem
        have ht' : t - 1 < m.length := by rw [hm, List.length_cons] at ht; omega
        have e : l[t] = m[t - 1] := by
          have h6 : l[t]? = m[t - 1]? := by
            rw [hm]
            obtain ⟨u, rfl⟩ : ∃ u, t = u + 1 := ⟨t - 1, by omega⟩
            rw [List.getElem?_cons_succ, Nat.add_sub_cancel]
          rw [List.getElem?_eq_getElem ht, List.getElem?_eq_getElem ht'] at h6
          exact Option.some.inj h6
        rw [e, List.mem_take_iff_getElem]
        exact ⟨t - 1, by omega, rfl⟩
      have := low_letter _ (vword_small i _ hmem)
      unfold isW
      rw [this]
      rfl
    rw [hu]
    refine ⟨h3, ?_⟩
    unfold wordL
    rw [hm, List.take_succ_cons, List.drop_succ_cons, List.drop_zero]
    exact hw
  · rintro ⟨h1, h2⟩
    have hlen : (vword i).length + 1 = upL isW l 1 := by
      have := congrArg List.length h2
      unfold wordL at this
      rw [List.length_map, List.length_drop, List.length_take] at this
      omega
    rw [hlen]
    refine ⟨⟨hk.2, ?_⟩, h1⟩
    unfold wordL at h2
    rw [← hlen] at h2 ⊢
    rw [hm, List.take_succ_cons, List.drop_succ_cons, List.drop_zero] at h2
    rw [hm, List.take_succ_cons, List.map_cons, h2]
    rfl
theorem begV_is (l : List UInt8) (h0 : l[0]? = some 60) : begV l = (endsN (l.drop (upL isW l 1)) && ((wordL l (upL isW l 1) == vword 0) || (wordL l (upL isW l 1) == vword 1) || (wordL l (upL isW l 1) == vword 2) || (wordL l (upL isW l 1) == vword 3))) := by
  unfold begV
  rw [isVb_is l 0 h0, isVb_is l 1 h0, isVb_is l 2 h0, isVb_is l 3 h0]
  cases endsN (l.drop (upL isW l 1)) <;> rfl
/-- Behind "<" or "</". -/
def fromL (l : List UInt8) : Nat := if l[1]? = some 47 then 2 else 1
theorem behB_is (l : List UInt8) : behB l = l.drop (fromL l) := by
  unfold behB Lib.trimPrefix fromL
  rw [pre_one]
  by_cases h : l[1]? = some 47
  · rw [if_pos h, decide_eq_true h]
    simp
  · rw [if_neg h, decide_eq_false h]
    rfl
theorem begB_is (l : List UInt8) (h0 : l[0]? = some 60) : begB l = (isTag (Lib.mapD lowR ((l.take (upL isW l (fromL l))).drop (fromL l))) && (endsN (l.drop (upL isW l (fromL l))) || Lib.hasPrefix (l.drop (upL isW l (fromL l))) [47, 62])) := by
  have hp : Lib.hasPrefix l [60] = true := by
    have := pre_one l 0 60
    rw [List.drop_zero] at this
    rw [this, decide_eq_true h0]
  have hg := upL_ge isW l (fromL l)
  unfold begB tagAt
  rw [hp, Bool.true_and, behB_is, upL_zero, List.drop_drop, List.take_drop, Nat.add_sub_cancel' hg]
theorem kind_is (l : List UInt8) : kindL l = if begV l then 1 else if isO l 0 then 2 else if isO l 1 then 3 else if isO l 2 then 4 else if isO l 3 then 5 else if begB l then 6 else if 0 < openL l ∧ (l.drop (openL l)).all isB = true then 7 else 0 := by
  unfold kindL otherL
  cases begV l <;> cases isO l 0 <;> cases isO l 1 <;> cases isO l 2 <;> cases isO l 3 <;> simp
theorem kind_none (l : List UInt8) (h : ¬ l[0]? = some 60) : kindL l = 0 := by
  have hp : ∀ (p : List UInt8), p[0]? = some 60 → Lib.hasPrefix l p = false := fun p hp => by
    cases hh : Lib.hasPrefix l p with
    | false => rfl
    | true => exact absurd (pre_get hh 0 60 hp) h
  have hv : ∀ i, isVb l i = false := fun i => by
    cases hh : isVb l i with
    | false => rfl
    | true =>
      exfalso
      unfold isVb at hh
      simp only [Bool.and_eq_true, decide_eq_true_iff, beq_iff_eq] at hh
      obtain ⟨⟨h1, h2⟩, _⟩ := hh
      rw [vbeg_is, List.length_cons] at h2 h1
      cases l with
      | nil => simp at h1
      | cons a m =>
        rw [List.take_succ_cons, List.map_cons] at h2
        have e := (List.cons.inj h2).1
        apply h
        rw [List.getElem?_cons_zero]
        congr 1
        have hn := congrArg UInt8.toNat e
        rw [lowb_nat] at hn
        apply UInt8.toNat_inj.1
        rw [show (60 : UInt8).toNat = 60 from rfl] at hn ⊢
        split at hn <;> omega
  have ho : ∀ i, isO l i = false := fun i => by
    unfold isO
    rw [hp (obeg i) (by unfold obeg; split <;> rfl)]
    rfl
  rw [kind_is]
  unfold begV begB
  rw [hv, hv, hv, hv, ho, ho, ho, ho, hp [60] rfl, open_no l h]
  rfl
theorem refTag_is (s : ByteArray) : refTag s = isTag (Lib.mapD lowR s.data.toList) := by
  unfold refTag
  by_cases h : s.size < 20
  · rw [decide_eq_true h, Bool.true_and, tag_short _ (by rw [len_list]; exact h)]
  · rw [decide_eq_false h, tag_long _ (by rw [len_list]; exact h)]; rfl
end Go.Proofs.YtdnnjakggopdoaaDoor
