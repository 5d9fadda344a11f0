/-
  PROVED: plain facts: edits that are done one after the other, the last one first, make what they make together. Conditions: the edits are right for the text; no program is named.
-/
import Derived.Test.YtdjdflannedkbaaApply
namespace Go.Proofs.Ytdjdflannedkbaa
set_option linter.unusedVariables false

def sumX : List Ed → Nat
  | [] => 0
  | e :: r => e.x.size + sumX r
theorem sumX_perm {l l' : List Ed} (h : l.Perm l') : sumX l = sumX l' := by
  induction h with
  | nil => rfl
  | cons a _ ih => simp [sumX, ih]
  | swap a b l => simp only [sumX]; omega
  | trans _ _ i1 i2 => exact i1.trans i2
theorem sumX_drop : ∀ (l : List Ed) (m : Nat), sumX (l.drop m) ≤ sumX l
  | l, 0 => by simp
  | [], m + 1 => by simp
  | e :: r, m + 1 => by
    have := sumX_drop r m
    simp only [List.drop_succ_cons, sumX]; omega
theorem gl_sum : ∀ (l : List Ed) (n : Nat), gl n l ≤ 50000 → n + sumX l ≤ 50000
  | [], n, h => h
  | e :: r, n, h => by
    rw [gl] at h
    split at h
    · have ih := gl_sum r _ h
      simp only [sumX]; omega
    · omega

theorem Right.tail {n : Nat} {e : Ed} {r : List Ed} (h : Right n (e :: r)) : Right n r := ⟨fun a ha => h.1 a (List.mem_cons_of_mem _ ha), (List.pairwise_cons.1 h.2).2⟩
theorem Right.drop {n : Nat} {L : List Ed} (h : Right n L) (m : Nat) : Right n (L.drop m) := ⟨fun a ha => h.1 a (List.mem_of_mem_drop ha), h.2.sublist (List.drop_sublist m L)⟩

theorem appL_len (s : List UInt8) : ∀ (L : List Ed) (j : Nat), Right s.length L → (∀ e ∈ L, (j : Int) ≤ e.f) → j ≤ s.length → (appL s j L).length ≤ s.length - j + sumX L
  | [], j, _, _, _ => by simp [appL, sumX]
  | e :: r, j, hR, hf, hj => by
    have he := hR.1 e (by simp)
    have hje := hf e (by simp)
    have p1 := (List.pairwise_cons.1 hR.2).1
    have ih := appL_len s r e.t.toNat hR.tail (fun a ha => by have := p1 a ha; omega) (by omega)
    have hxl : e.x.data.toList.length = e.x.size := by simp
    simp only [appL, List.length_append, sumX, List.length_take, List.length_drop]
    omega

/-- What stands ahead of all edits stays. -/
theorem appL_split (s : List UInt8) (T : Nat) (hT : T ≤ s.length) : ∀ (M : List Ed) (j : Nat), j ≤ T → (∀ e ∈ M, (T : Int) ≤ e.f) → appL s j M = (s.drop j).take (T - j) ++ appL s T M
  | [], j, hj, _ => by
    simp only [appL]
    have h1 : s.drop T = (s.drop j).drop (T - j) := by rw [List.drop_drop]; congr 1; omega
    rw [h1, List.take_append_drop]
  | e :: r, j, hj, hf => by
    have he := hf e (by simp)
    simp only [appL]
    have h1 : (s.drop j).take (e.f.toNat - j) = (s.drop j).take (T - j) ++ (s.drop T).take (e.f.toNat - T) := by
      have h2 : s.drop T = (s.drop j).drop (T - j) := by rw [List.drop_drop]; congr 1; omega
      rw [h2, show e.f.toNat - j = (T - j) + (e.f.toNat - T) by omega, List.take_add]
    rw [h1, List.append_assoc]

/-- The text behind some of the edits. -/
def appB (s : ByteArray) (M : List Ed) : ByteArray := ⟨(appL s.data.toList 0 M).toArray⟩
theorem appB_nil (s : ByteArray) : appB s [] = s := by simp [appB, appL]
theorem appB_list (s : ByteArray) (M : List Ed) : (appB s M).data.toList = appL s.data.toList 0 M := rfl
theorem appB_size (s : ByteArray) (M : List Ed) : (appB s M).size = (appL s.data.toList 0 M).length := by simp [appB, ByteArray.size]

/-- One edit more, ahead of all that are made. -/
theorem part_step {s : ByteArray} {e : Ed} {M : List Ed} (hR : Right s.size (e :: M)) : chk (appB s M).size [e] = 0 ∧ appR (appB s M) [e] = appB s (e :: M) := by
  have hls : s.data.toList.length = s.size := by simp
  have he := hR.1 e (by simp)
  have p1 := (List.pairwise_cons.1 hR.2).1
  have hsp := appL_split s.data.toList e.t.toNat (by omega) M 0 (Nat.zero_le _) (fun a ha => by have := p1 a ha; omega)
  simp only [List.drop_zero, Nat.sub_zero] at hsp
  have hlt : (s.data.toList.take e.t.toNat).length = e.t.toNat := by simp; omega
  have hsz : e.t.toNat ≤ (appB s M).size := by rw [appB_size, hsp, List.length_append, hlt]; omega
  have hc : chk (appB s M).size [e] = 0 := by
    refine chk_yes (fun a ha => ?_) rfl
    simp at ha
    subst ha
    exact (inE_iff _ _).2 ⟨he.1, he.2.1, by omega⟩
  refine ⟨hc, ?_⟩
  rw [appR_ok hc]
  show (⟨(appL (appB s M).data.toList 0 [e]).toArray⟩ : ByteArray) = ⟨(appL s.data.toList 0 (e :: M)).toArray⟩
  rw [appB_list]
  congr 2
  simp only [appL, List.drop_zero, Nat.sub_zero]
  rw [hsp, List.take_append_of_le_length (by rw [hlt]; omega), List.take_take, List.drop_append_of_le_length (by rw [hlt]; omega), List.drop_eq_nil_of_le (by rw [hlt]; omega)]
  rw [show min e.f.toNat e.t.toNat = e.f.toNat by omega]; rfl

theorem appB_small {s : ByteArray} {L : List Ed} (hR : Right s.size L) (m : Nat) : (appB s (L.drop m)).size ≤ s.size + sumX L := by
  have hls : s.data.toList.length = s.size := by simp
  have h := appL_len s.data.toList (L.drop m) 0 (by rw [hls]; exact hR.drop m) (fun e he => ((hR.drop m).1 e he).1) (Nat.zero_le _)
  have := sumX_drop L m
  rw [appB_size]; omega
end Go.Proofs.Ytdjdflannedkbaa
