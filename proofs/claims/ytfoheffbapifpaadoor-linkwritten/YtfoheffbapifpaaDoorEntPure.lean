/-
  PROVED: plain facts on the table of entities: the document's list of names and numbers, the same by the length of the name, and a map that is filled from a list. No program in it. Conditions: none.
-/
import Derived.Maps.OwnSet
namespace Go.Proofs.YtfoheffbapifpaaDoor
open Go.Maps
set_option linter.unusedVariables false

abbrev Ent := List UInt8 × Int
def entL : List Ent := [([97, 109, 112], 38), ([108, 116], 60), ([103, 116], 62), ([113, 117, 111, 116], 34), ([97, 112, 111, 115], 39), ([110, 98, 115, 112], 160), ([99, 111, 112, 121], 169), ([114, 101, 103], 174), ([116, 114, 97, 100, 101], 8482), ([104, 101, 108, 108, 105, 112], 8230), ([109, 100, 97, 115, 104], 8212), ([110, 100, 97, 115, 104], 8211), ([108, 115, 113, 117, 111], 8216), ([114, 115, 113, 117, 111], 8217), ([108, 100, 113, 117, 111], 8220), ([114, 100, 113, 117, 111], 8221), ([108, 97, 113, 117, 111], 171), ([114, 97, 113, 117, 111], 187), ([100, 101, 103], 176), ([112, 108, 117, 115, 109, 110], 177), ([116, 105, 109, 101, 115], 215), ([100, 105, 118, 105, 100, 101], 247), ([102, 114, 97, 99, 49, 50], 189), ([115, 101, 99, 116], 167), ([112, 97, 114, 97], 182), ([109, 105, 100, 100, 111, 116], 183), ([98, 117, 108, 108], 8226), ([101, 117, 114, 111], 8364), ([112, 111, 117, 110, 100], 163), ([121, 101, 110], 165), ([99, 101, 110, 116], 162), ([108, 97, 114, 114], 8592), ([114, 97, 114, 114], 8594), ([117, 97, 114, 114], 8593), ([100, 97, 114, 114], 8595), ([97, 117, 109, 108], 228), ([111, 117, 109, 108], 246), ([117, 117, 109, 108], 252), ([65, 117, 109, 108], 196), ([79, 117, 109, 108], 214), ([85, 117, 109, 108], 220), ([115, 122, 108, 105, 103], 223), ([101, 97, 99, 117, 116, 101], 233), ([101, 103, 114, 97, 118, 101], 232), ([99, 99, 101, 100, 105, 108], 231), ([110, 116, 105, 108, 100, 101], 241), ([97, 108, 112, 104, 97], 945), ([98, 101, 116, 97], 946), ([112, 105], 960), ([105, 110, 102, 105, 110], 8734), ([110, 101], 8800), ([108, 101], 8804), ([103, 101], 8805)]
def ent2 : List Ent := [([108, 116], 60), ([103, 116], 62), ([112, 105], 960), ([110, 101], 8800), ([108, 101], 8804), ([103, 101], 8805)]
def ent3 : List Ent := [([97, 109, 112], 38), ([114, 101, 103], 174), ([100, 101, 103], 176), ([121, 101, 110], 165)]
def ent4 : List Ent := [([113, 117, 111, 116], 34), ([97, 112, 111, 115], 39), ([110, 98, 115, 112], 160), ([99, 111, 112, 121], 169), ([115, 101, 99, 116], 167), ([112, 97, 114, 97], 182), ([98, 117, 108, 108], 8226), ([101, 117, 114, 111], 8364), ([99, 101, 110, 116], 162), ([108, 97, 114, 114], 8592), ([114, 97, 114, 114], 8594), ([117, 97, 114, 114], 8593), ([100, 97, 114, 114], 8595), ([97, 117, 109, 108], 228), ([111, 117, 109, 108], 246), ([117, 117, 109, 108], 252), ([65, 117, 109, 108], 196), ([79, 117, 109, 108], 214), ([85, 117, 109, 108], 220), ([98, 101, 116, 97], 946)]
def ent5 : List Ent := [([116, 114, 97, 100, 101], 8482), ([109, 100, 97, 115, 104], 8212), ([110, 100, 97, 115, 104], 8211), ([108, 115, 113, 117, 111], 8216), ([114, 115, 113, 117, 111], 8217), ([108, 100, 113, 117, 111], 8220), ([114, 100, 113, 117, 111], 8221), ([108, 97, 113, 117, 111], 171), ([114, 97, 113, 117, 111], 187), ([116, 105, 109, 101, 115], 215), ([112, 111, 117, 110, 100], 163), ([115, 122, 108, 105, 103], 223), ([97, 108, 112, 104, 97], 945), ([105, 110, 102, 105, 110], 8734)]
def ent6 : List Ent := [([104, 101, 108, 108, 105, 112], 8230), ([112, 108, 117, 115, 109, 110], 177), ([100, 105, 118, 105, 100, 101], 247), ([102, 114, 97, 99, 49, 50], 189), ([109, 105, 100, 100, 111, 116], 183), ([101, 97, 99, 117, 116, 101], 233), ([101, 103, 114, 97, 118, 101], 232), ([99, 99, 101, 100, 105, 108], 231), ([110, 116, 105, 108, 100, 101], 241)]

/-- The number of a name. -/
def look (L : List Ent) (k : List UInt8) : Option Int := (L.find? fun p => p.1 == k).map fun p => p.2
theorem look_cons (p : Ent) (L : List Ent) (k : List UInt8) : look (p :: L) k = if p.1 = k then some p.2 else look L k := by
  unfold look
  by_cases h : p.1 = k
  · rw [if_pos h]; simp [h]
  · rw [if_neg h]
    have : (p.1 == k) = false := by simpa using h
    simp [this]
theorem look_mem (k : List UInt8) (c : Int) : ∀ L : List Ent, (L.map fun p => p.1).Nodup → (look L k = some c ↔ (k, c) ∈ L)
  | [], _ => by simp [look]
  | p :: L, h => by
    rw [List.map_cons, List.nodup_cons] at h
    rw [look_cons, List.mem_cons]
    by_cases hp : p.1 = k
    · rw [if_pos hp]
      constructor
      · intro e; left; rw [← hp, ← Option.some.inj e]
      · rintro (e | hm)
        · rw [← e]
        · exact absurd (hp ▸ List.mem_map.2 ⟨(k, c), hm, rfl⟩) h.1
    · rw [if_neg hp, look_mem k c L h.2]
      constructor
      · exact Or.inr
      · rintro (e | hm)
        · exact absurd (by rw [← e]) hp
        · exact hm
theorem look_none (k : List UInt8) (L : List Ent) (h : ∀ p ∈ L, p.1 ≠ k) : look L k = none := by
  unfold look
  rw [List.find?_eq_none.2 (fun p hp => by simpa using h p hp)]
  rfl
theorem entL_nodup : (entL.map fun p => p.1).Nodup := by decide +kernel
theorem look_part (L : List Ent) (n : Nat) (hd : (L.map fun p => p.1).Nodup) (h1 : ∀ p ∈ L, p ∈ entL ∧ p.1.length = n) (h2 : ∀ p ∈ entL, p.1.length = n → p ∈ L) (k : List UInt8) (hk : k.length = n) : look L k = look entL k := by
  refine Option.ext fun c => ?_
  rw [look_mem k c L hd, look_mem k c entL entL_nodup]
  exact ⟨fun h => (h1 _ h).1, fun h => h2 _ h hk⟩
theorem look2 (k : List UInt8) (hk : k.length = 2) : look ent2 k = look entL k := look_part ent2 2 (by decide +kernel) (by decide +kernel) (by decide +kernel) k hk
theorem look3 (k : List UInt8) (hk : k.length = 3) : look ent3 k = look entL k := look_part ent3 3 (by decide +kernel) (by decide +kernel) (by decide +kernel) k hk
theorem look4 (k : List UInt8) (hk : k.length = 4) : look ent4 k = look entL k := look_part ent4 4 (by decide +kernel) (by decide +kernel) (by decide +kernel) k hk
theorem look5 (k : List UInt8) (hk : k.length = 5) : look ent5 k = look entL k := look_part ent5 5 (by decide +kernel) (by decide +kernel) (by decide +kernel) k hk
theorem look6 (k : List UInt8) (hk : k.length = 6) : look ent6 k = look entL k := look_part ent6 6 (by decide +kernel) (by decide +kernel) (by decide +kernel) k hk
theorem look_out (k : List UInt8) (hk : ¬ (2 ≤ k.length ∧ k.length ≤ 6)) : look entL k = none := by
  refine look_none k entL fun p hp e => ?_
  have h : ∀ p ∈ entL, 2 ≤ p.1.length ∧ p.1.length ≤ 6 := by decide +kernel
  have := h p hp
  rw [e] at this
  exact hk this
theorem look_bd (k : List UInt8) (c : Int) (h : look entL k = some c) : 0 < c ∧ c < 55296 := by
  have h1 := (look_mem k c entL entL_nodup).1 h
  have h2 : ∀ p ∈ entL, 0 < p.2 ∧ p.2 < 55296 := by decide +kernel
  exact h2 _ h1

/-- A map filled from a list. -/
def mapOf (L : List Ent) : DataW Unit := L.foldl (fun D p => D.put (.string p.1) (.lit (.int .i64 p.2))) (.map [])
theorem fold_at (k : List UInt8) (z : DataW Unit) : ∀ (L : List Ent) (D : DataW Unit), IsMap D → (L.map fun p => p.1).Nodup → (L.foldl (fun D p => D.put (.string p.1) (.lit (.int .i64 p.2))) D).atKey (.string k) z = match look L k with | some c => .lit (.int .i64 c) | none => D.atKey (.string k) z
  | [], D, _, _ => rfl
  | p :: L, D, hD, h => by
    rw [List.map_cons, List.nodup_cons] at h
    rw [List.foldl_cons, fold_at k z L _ (hD.put _ _) h.2, look_cons]
    by_cases hp : p.1 = k
    · rw [if_pos hp, look_none k L (fun q hq e => h.1 (by rw [hp, ← e]; exact List.mem_map.2 ⟨q, hq, rfl⟩))]
      subst hp
      exact atKey_put_same hD (show WideAt.IsKeyLit (.string p.1) from trivial) _ _
    · rw [if_neg hp]
      have e : (D.put (.string p.1) (.lit (.int .i64 p.2))).atKey (.string k) z = D.atKey (.string k) z := atKey_put_other (fun e => hp (by injection e with e; exact e.symm)) _ _
      rw [e]
theorem fold_has (k : List UInt8) : ∀ (L : List Ent) (D : DataW Unit), IsMap D → has (L.foldl (fun D p => D.put (.string p.1) (.lit (.int .i64 p.2))) D) (.string k) = (has D (.string k) || (look L k).isSome)
  | [], D, _ => by simp [look]
  | p :: L, D, hD => by
    rw [List.foldl_cons, fold_has k L _ (hD.put _ _), look_cons]
    by_cases hp : p.1 = k
    · rw [if_pos hp]
      subst hp
      rw [has_put_same hD (show WideAt.IsKeyLit (.string p.1) from trivial)]
      simp
    · rw [if_neg hp, has_put_other (fun e => hp (by injection e with e; exact e.symm))]
theorem mapOf_at (L : List Ent) (h : (L.map fun p => p.1).Nodup) (k : List UInt8) (c : Int) (hc : (mapOf L).atKey (.string k) (.lit (.int .i64 0)) = .lit (.int .i64 c)) : c = (look L k).getD 0 := by
  unfold mapOf at hc
  rw [fold_at k _ L _ isMap_empty h] at hc
  cases hl : look L k with
  | some d => rw [hl] at hc; injection hc with hc; injection hc with _ hc; exact hc.symm
  | none => rw [hl] at hc; injection hc with hc; injection hc with _ hc; exact hc.symm
theorem mapOf_has (L : List Ent) (k : List UInt8) : has (mapOf L) (.string k) = (look L k).isSome := by
  unfold mapOf
  rw [fold_has k L _ isMap_empty]
  rfl
end Go.Proofs.YtfoheffbapifpaaDoor
