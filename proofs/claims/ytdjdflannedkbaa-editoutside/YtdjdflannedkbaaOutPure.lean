/-
  PROVED: plain facts: a byte that no edit touches stands behind the edits where Move tells. Conditions: the edits are right for the text; no program is named.
-/
import Derived.Test.YtdjdflannedkbaaApply
import Derived.Test.YtdjdflannedkbaaMove
namespace Go.Proofs.Ytdjdflannedkbaa
set_option linter.unusedVariables false

theorem mvA_none {k : Int} : ∀ {l : List Ed}, (∀ e ∈ l, ¬ e.t ≤ k) → mvA k l = 0
  | [], _ => rfl
  | e :: r, h => by
    rw [mvA, if_neg (h e (by simp)), mvA_none (fun a ha => h a (List.mem_cons_of_mem _ ha))]; rfl

theorem mvA_perm {k : Int} {l l' : List Ed} (h : l.Perm l') : mvA k l = mvA k l' := by
  induction h with
  | nil => rfl
  | cons a _ ih => simp [mvA, ih]
  | swap a b l => simp only [mvA]; omega
  | trans _ _ i1 i2 => exact i1.trans i2

theorem app_at (s : List UInt8) (k : Nat) (hk : k < s.length) : ∀ (L : List Ed) (j : Nat), Right s.length L → (∀ e ∈ L, (j : Int) ≤ e.f) → j ≤ k → (∀ e ∈ L, ¬ (e.f ≤ k ∧ (k : Int) < e.t)) →
    0 ≤ (k : Int) - j + mvA k L ∧ (appL s j L)[((k : Int) - j + mvA k L).toNat]? = s[k]?
  | [], j, _, _, hj, _ => by
    refine ⟨by simp [mvA]; omega, ?_⟩
    rw [appL, List.getElem?_drop]
    congr 1
    simp [mvA]
    omega
  | e :: r, j, hR, hf, hj, hn => by
    obtain ⟨p1, p2⟩ := List.pairwise_cons.1 hR.2
    have he := hR.1 e (by simp)
    have hje := hf e (by simp)
    have hne := hn e (by simp)
    have hl1 : ((s.drop j).take (e.f.toNat - j)).length = e.f.toNat - j := by simp; omega
    by_cases q : e.t ≤ k
    · have ih := app_at s k hk r e.t.toNat ⟨fun a ha => hR.1 a (List.mem_cons_of_mem _ ha), p2⟩ (fun a ha => by have := p1 a ha; omega) (by omega) (fun a ha => hn a (List.mem_cons_of_mem _ ha))
      have ht : ((e.t.toNat : Nat) : Int) = e.t := by omega
      rw [ht] at ih
      have hxl : e.x.data.toList.length = e.x.size := by simp
      rw [mvA, if_pos q, appL]
      refine ⟨by omega, ?_⟩
      rw [List.getElem?_append_right (by omega), List.getElem?_append_right (by omega), ← ih.2]
      congr 1
      omega
    · have hr : ∀ a ∈ r, ¬ a.t ≤ (k : Int) := fun a ha => by
        have h1 := p1 a ha
        have h2 := hR.1 a (List.mem_cons_of_mem _ ha)
        omega
      rw [mvA, if_neg q, mvA_none hr, appL]
      refine ⟨by omega, ?_⟩
      rw [List.getElem?_append_left (by omega), List.getElem?_take_of_lt (by omega), List.getElem?_drop]
      congr 1
      omega

/-- A byte that no edit touches. -/
theorem outside {s : ByteArray} {es : List Ed} {k : Nat} (h : chk s.size es = 0) (hk : k < s.size) (hn : ∀ e ∈ es, ¬ (e.f ≤ k ∧ (k : Int) < e.t)) :
    ∃ (m : Nat) (hm : m < (appR s es).size), mvB k es + mvA k es = (m : Int) ∧ (appR s es)[m] = s[k] := by
  have hR := right_of_chk h
  have hls : s.data.toList.length = s.size := by simp
  have hb : mvB k es = k := by
    unfold mvB
    have : es.find? (holdB k) = none := by
      rw [List.find?_eq_none]
      intro e he
      have := hn e he
      simp only [holdB, Bool.and_eq_true, decide_eq_true_eq]
      omega
    rw [this]
  have key := app_at s.data.toList k (by omega) (srtE es) 0 (by rw [hls]; exact hR) (fun e he => (hR.1 e he).1) (Nat.zero_le _) (fun e he => hn e ((srt_perm es).mem_iff.1 he))
  rw [mvA_perm (srt_perm es)] at key
  simp only [Int.natCast_zero, Int.sub_zero] at key
  obtain ⟨k1, k2⟩ := key
  rw [List.getElem?_eq_getElem (by omega : k < s.data.toList.length)] at k2
  obtain ⟨hlt, hval⟩ := List.getElem?_eq_some_iff.1 k2
  have hap : (appR s es).data.toList = appL s.data.toList 0 (srtE es) := by rw [appR_ok h]
  refine ⟨((k : Int) + mvA k es).toNat, ?_, by rw [hb]; omega, ?_⟩
  · have : (appR s es).size = (appL s.data.toList 0 (srtE es)).length := by rw [← hap]; simp
    omega
  · have e1 : ∀ (b : ByteArray) (i : Nat) (hi : i < b.size), b[i] = b.data.toList[i]'(by simpa using hi) := fun b i hi => by simp [ByteArray.getElem_eq_getElem_data]
    rw [e1, e1]
    simp only [hap]
    exact hval
end Go.Proofs.Ytdjdflannedkbaa
