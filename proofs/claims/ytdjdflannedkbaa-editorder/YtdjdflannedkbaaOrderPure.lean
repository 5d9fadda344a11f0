/-
  PROVED: plain facts: edits of unlike places in another order: what is wrong with them, what they make and how they sort is the same; a list that is turned is the same edits. Conditions: as each says; no program is named.
-/
import Derived.Test.YtdjdflannedkbaaApply
namespace Go.Proofs.Ytdjdflannedkbaa
set_option linter.unusedVariables false

/-- No two are alike in both numbers. -/
def Unlike (es : List Ed) : Prop := ∀ i j (hi : i < es.length) (hj : j < i), ¬ (es[i].f = (es[j]'(by omega)).f ∧ es[i].t = (es[j]'(by omega)).t)

theorem unlike_one {es : List Ed} (h : Unlike es) (x : Ed) : (es.filter (eqv ltE x)).length ≤ 1 := by
  have hp : es.Pairwise fun a b => ¬ (b.f = a.f ∧ b.t = a.t) := by
    rw [List.pairwise_iff_getElem]
    intro i j hi hj hij
    exact h j i hj hij
  have hq := hp.filter (eqv ltE x)
  match hA : es.filter (eqv ltE x) with
  | [] => simp
  | [a] => simp
  | a :: b :: r =>
    exfalso
    rw [hA] at hq
    have h1 := (List.pairwise_cons.1 hq).1 b (by simp)
    have ha : eqv ltE x a = true := (List.mem_filter.1 (show a ∈ es.filter (eqv ltE x) by rw [hA]; simp)).2
    have hb : eqv ltE x b = true := (List.mem_filter.1 (show b ∈ es.filter (eqv ltE x) by rw [hA]; simp)).2
    rw [eqvE] at ha hb
    exact h1 ⟨by omega, by omega⟩

theorem order_same {es fs : List Ed} (h : es.Perm fs) (hu : Unlike es) (s : ByteArray) : srtE es = srtE fs ∧ chk s.size es = chk s.size fs ∧ appR s es = appR s fs := by
  have h1 := srt_of_perm h (unlike_one hu)
  have h2 : chk s.size es = chk s.size fs := by
    unfold chk
    have : es.all (inE s.size) = fs.all (inE s.size) := by
      rw [Bool.eq_iff_iff, List.all_eq_true, List.all_eq_true]
      exact ⟨fun hh e he => hh e (h.mem_iff.2 he), fun hh e he => hh e (h.mem_iff.1 he)⟩
    rw [this, h1]
  refine ⟨h1, h2, ?_⟩
  unfold appR app
  rw [h2, h1]

/-- The edits from place q on, round and round. -/
def turnL (es : List Ed) (q : Nat) : List Ed := es.drop (q % es.length) ++ es.take (q % es.length)
theorem turn_perm (es : List Ed) (q : Nat) : es.Perm (turnL es q) := by
  unfold turnL
  exact ((List.perm_append_comm).trans (by rw [List.take_append_drop])).symm
theorem turn_len (es : List Ed) (q : Nat) : (turnL es q).length = es.length := (turn_perm es q).length_eq.symm
theorem turn_at (es : List Ed) (q i : Nat) (hi : i < es.length) : (turnL es q)[i]? = es[(i + q) % es.length]? := by
  unfold turnL
  have hr : q % es.length < es.length := Nat.mod_lt _ (by omega)
  have he : (i + q) % es.length = (i + q % es.length) % es.length := by rw [Nat.add_mod_mod]
  rw [he]
  generalize q % es.length = r at hr
  by_cases h : i < es.length - r
  · rw [List.getElem?_append_left (by simpa using h), List.getElem?_drop, Nat.mod_eq_of_lt (by omega)]
    congr 1; omega
  · rw [List.getElem?_append_right (by simp; omega), List.length_drop, List.getElem?_take_of_lt (by omega)]
    congr 1
    rw [Nat.mod_eq_sub_mod (by omega), Nat.mod_eq_of_lt (by omega)]; omega
theorem turn_take (es : List Ed) (q i : Nat) (hi : i < es.length) (e : Ed) (he : es[(i + q) % es.length]? = some e) : (turnL es q).take (i + 1) = (turnL es q).take i ++ [e] := by
  have h1 := turn_at es q i hi
  rw [he] at h1
  have hl : i < (turnL es q).length := by rw [turn_len]; exact hi
  rw [List.getElem?_eq_getElem hl] at h1
  rw [List.take_succ_eq_append_getElem hl]
  rw [Option.some.inj h1]

theorem nil_chk (n : Nat) : chk n [] = 0 := rfl
theorem nil_app (s : ByteArray) : appR s [] = s := by
  rw [appR_ok (nil_chk _)]
  show (⟨(appL s.data.toList 0 []).toArray⟩ : ByteArray) = s
  simp [appL]
end Go.Proofs.Ytdjdflannedkbaa
