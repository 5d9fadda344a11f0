/-
  PROVED: contracts of tag.scan's small methods (take, need, skip, upTo, name): what they leave in the scan, and where they panic. Conditions: the text has at most 1000000 bytes; the scan lies in a block of its own.
-/
import Derived.Test.YtdnnjakggopdoaaDoorBytes
namespace Go.Proofs.YtdnnjakggopdoaaDoor
open Go.ChangeShapes Go.WideShapes Go.ChangeAt Go.RowKit
set_option linter.unusedVariables false

/-- Block g holds just these cells, none of them frozen. -/
def Holds (w : World) (g : Nat) (t : TypeId) (cs : Array Value) : Prop := w.heap[g]? = some (.cells cs t (0, 0))
theorem Holds.lt {w : World} {g : Nat} {t : TypeId} {cs : Array Value} (h : Holds w g t cs) : g < w.heap.size := (Array.getElem?_eq_some_iff.1 h).1
theorem Holds.at {w : World} {g : Nat} {t : TypeId} {cs : Array Value} (h : Holds w g t cs) (i : Nat) : w.cell? ⟨g, i, none⟩ = cs[i]? := cell_of_row w g i cs t (0, 0) h
theorem Holds.soft {w : World} {g : Nat} {t : TypeId} {cs : Array Value} (h : Holds w g t cs) (i : Nat) : w.frozen? ⟨g, i, none⟩ = false := by
  unfold Holds at h
  simp [World.frozen?, h]
theorem Holds.under {w w' : World} {g B : Nat} {t : TypeId} {cs : Array Value} (h : Holds w g t cs) (hb : Below B w w') (hg : g < B) : Holds w' g t cs := (hb.block g hg).trans h
theorem Holds.made (w : World) (t : TypeId) (cs : Array Value) : Holds (w.alloc (.cells cs t)) w.heap.size t cs := heap_alloc_new w _
theorem Holds.set {w : World} {g : Nat} {t : TypeId} {cs : Array Value} (h : Holds w g t cs) (i : Nat) (u : Value) : Holds (w.setCell ⟨g, i, none⟩ u) g t (cs.setIfInBounds i u) := by
  unfold Holds at h ⊢
  simp [World.setCell, Array.getElem?_modify, h]
theorem Holds.drewN {w : World} {g : Nat} {t : TypeId} {cs : Array Value} (h : Holds w g t cs) (q : Nat) : Holds (w.drewN q) g t cs := h
theorem below_drewN {B : Nat} {a b : World} (h : Below B a b) (q : Nat) : Below B a (b.drewN q) := h.trans ⟨rfl, rfl, rfl, Nat.le_refl _, fun _ _ => rfl⟩

/-- A scan of s that stands at k. -/
def Sc (w : World) (g : Nat) (s : ByteArray) (k : Nat) : Prop := Holds w g 40 #[.string s, .int .i64 k]
/-- What a scan that panics tells. -/
def miss (m : ByteArray) : Ending := .panicked [{ v := .iface 36 (.string m), recovered := false }]

theorem pre_one (l : List UInt8) (k : Nat) (c : UInt8) : Lib.hasPrefix (l.drop k) [c] = decide (l[k]? = some c) := by
  unfold Lib.hasPrefix
  cases h : l[k]? with
  | none =>
    have hk : l.length ≤ k := by simpa using h
    rw [List.drop_of_length_le hk]
    rfl
  | some x =>
    obtain ⟨hk, rfl⟩ := List.getElem?_eq_some_iff.1 h
    rw [List.drop_eq_getElem_cons hk, Bool.eq_iff_iff]
    simp [List.isPrefixOf]
    exact eq_comm

set_option maxHeartbeats 2000000 in
theorem take_any (c : UInt8) (s : ByteArray) (hs : s.size ≤ 1000000) (g k B : Nat) (hB : B ≤ g) (hk : k ≤ s.size) (w : World) (hH : Sc w g s k) :
    Calls Tryd.prog 25 #[.pointer (some ⟨g, 0, none⟩), .string { data := #[c] }] w fun e w' => e = .returned (.bool (decide ((lst s)[k]? = some c))) ∧ Sc w' g s (past (lst s) c k) ∧ Below B w w' := by
  have HP : Hid (∀ W, Calls Tryd.prog 17 #[.string (s.extract k s.size), .string { data := #[c] }] W fun e w' => e = .returned (.bool (decide ((lst s)[k]? = some c))) ∧ w' = W) := fun W => by
    have h := Tryd.hasPrefix (s.extract k s.size) { data := #[c] } W
    rw [show (s.extract k s.size).data.toList = (lst s).drop k from lst_from s k, show ({ data := #[c] } : ByteArray).data.toList = [c] from rfl, pre_one] at h
    exact h
  have HH := Lib.hid hH
  have c0 : w.cell? ⟨g, 0, none⟩ = some (.string s) := hH.at 0
  have c1 : w.cell? ⟨g, 1, none⟩ = some (.int .i64 k) := hH.at 1
  have z1 : w.frozen? ⟨g, 1, none⟩ = false := hH.soft 1
  unfold past
  by_cases h : (lst s)[k]? = some c
  · rw [if_pos h]
    rw [decide_eq_true h] at HP ⊢
    clear hH h
    go_enter Tryd.func25, Tryd.ntmps25
    go_wp2_with fail
    go_quiet (first | (go_at_call 17; refine Calls.quiet_of_same (HP.out _)))
    go_wp2_with fail
    go_ret
    refine ⟨rfl, ?_, ?_⟩
    · exact ((HH.out.drewN nq).set 1 _)
    · exact (below_drewN (Below.refl _ _) _).setCell hB _
  · rw [if_neg h]
    rw [decide_eq_false h] at HP ⊢
    clear hH h
    go_enter Tryd.func25, Tryd.ntmps25
    go_wp2_with fail
    go_quiet (first | (go_at_call 17; refine Calls.quiet_of_same (HP.out _)))
    go_wp2_with fail
    go_ret
    exact ⟨rfl, HH.out.drewN _, below_drewN (Below.refl _ _) _⟩

/-- How a call ends that must go past something. -/
def Went (w : World) (g : Nat) (s : ByteArray) (B : Nat) (r : Option Nat) (e : Ending) (w' : World) : Prop := match r with
  | some k => e = .returned (.tuple #[]) ∧ Sc w' g s k ∧ Below B w w'
  | none => ∃ m, e = miss m ∧ Below B w w'

set_option maxHeartbeats 2000000 in
theorem need_any (c : UInt8) (s : ByteArray) (hs : s.size ≤ 1000000) (g k B : Nat) (hB : B ≤ g) (hk : k ≤ s.size) (w : World) (hH : Sc w g s k) :
    Calls Tryd.prog 24 #[.pointer (some ⟨g, 0, none⟩), .string { data := #[c] }] w (Went w g s B (needL (lst s) c k)) := by
  have HT := Lib.hid (take_any c s hs g k B hB hk w hH)
  unfold needL
  by_cases h : (lst s)[k]? = some c
  · rw [if_pos h]
    have hp : past (lst s) c k = k + 1 := by unfold past; rw [if_pos h]
    rw [decide_eq_true h, hp] at HT
    clear hH h hp
    go_enter Tryd.func24, Tryd.ntmps24
    go_wp2_with fail
    refine HT.out.mono ?_
    rintro e w1 ⟨rfl, h1, h2⟩
    have H1 := Lib.hid h1
    have H2 := Lib.hid h2
    clear h1 h2
    go_wp2_with fail
    go_end0
    exact ⟨rfl, H1.out, H2.out⟩
  · rw [if_neg h]
    rw [decide_eq_false h] at HT
    clear hH h
    go_enter Tryd.func24, Tryd.ntmps24
    go_wp2_with fail
    refine HT.out.mono ?_
    rintro e w1 ⟨rfl, h1, h2⟩
    have H2 := Lib.hid h2
    clear h1 h2
    go_wp2_with fail
    exact ⟨rfl, _, rfl, H2.out⟩

set_option maxHeartbeats 2000000 in
theorem skip_any (K : Nat) (p : UInt8 → Bool) (hK : Tells K p) (s : ByteArray) (hs : s.size ≤ 1000000) (g k B : Nat) (hB : B ≤ g) (hk : k ≤ s.size) (w : World) (hH : Sc w g s k) :
    Calls Tryd.prog 46 #[.pointer (some ⟨g, 0, none⟩), .func (.func K) #[] #[]] w fun e w' => e = .returned (.int .i64 ((upL p (lst s) k - k : Nat) : Int)) ∧ Sc w' g s (upL p (lst s) k) ∧ Below B w w' := by
  have hb := upL_bd p (lst s) k (by rw [lst_size]; exact hk)
  rw [lst_size] at hb
  have HP : Hid (∀ W, Calls Tryd.prog 42 #[.string (s.extract k s.size), .func (.func K) #[] #[]] W fun e w' => e = .returned (.int .i64 ((upL p (lst s) k - k : Nat) : Int)) ∧ w' = W) := fun W => by
    have h := row_any K p hK (s.extract k s.size) (by rw [← lst_size, lst_from, List.length_drop, lst_size]; omega) W
    rw [lst_from, upL_zero] at h
    exact h
  have HH := Lib.hid hH
  have c0 : w.cell? ⟨g, 0, none⟩ = some (.string s) := hH.at 0
  have c1 : w.cell? ⟨g, 1, none⟩ = some (.int .i64 k) := hH.at 1
  have z1 : w.frozen? ⟨g, 1, none⟩ = false := hH.soft 1
  obtain ⟨n, hn⟩ : ∃ n, n = upL p (lst s) k - k := ⟨_, rfl⟩
  rw [← hn] at HP ⊢
  have hu : upL p (lst s) k = k + n := by omega
  rw [hu]
  have hkn : k + n ≤ s.size := by omega
  clear hH hb hu hn
  go_enter Tryd.func46, Tryd.ntmps46
  go_wp2_with fail
  go_quiet (first | (go_at_call 42; refine Calls.quiet_of_same (HP.out _)))
  go_wp2_with fail
  go_ret
  refine ⟨rfl, ?_, ?_⟩
  · exact ((HH.out.drewN nq).set 1 _)
  · exact (below_drewN (Below.refl _ _) _).setCell hB _

theorem idx_zero (l : List UInt8) (c : UInt8) : Lib.indexByte l c < 0 ∨ 0 ≤ Lib.indexByte l c := by omega
set_option maxHeartbeats 2000000 in
theorem upTo_any (c : UInt8) (s : ByteArray) (hs : s.size ≤ 1000000) (g k B : Nat) (hB : B ≤ g) (hk : k ≤ s.size) (w : World) (hH : Sc w g s k) :
    Calls Tryd.prog 78 #[.pointer (some ⟨g, 0, none⟩), .string { data := #[c] }] w (Went w g s B (quoL (lst s) k c)) := by
  have HP : Hid (∀ W, Calls Tryd.prog 44 #[.string (s.extract k s.size), .string { data := #[c] }] W fun e w' => e = .returned (.int .i64 (Lib.indexByte ((lst s).drop k) c)) ∧ w' = W) := fun W => by
    have h := Tryd.indexOne (s.extract k s.size) c W
    rw [show (s.extract k s.size).data.toList = (lst s).drop k from lst_from s k] at h
    exact h
  have HH := Lib.hid hH
  have c0 : w.cell? ⟨g, 0, none⟩ = some (.string s) := hH.at 0
  have c1 : w.cell? ⟨g, 1, none⟩ = some (.int .i64 k) := hH.at 1
  have z1 : w.frozen? ⟨g, 1, none⟩ = false := hH.soft 1
  unfold quoL
  have hge := Lib.indexByte_ge ((lst s).drop k) c
  by_cases h : Lib.indexByte ((lst s).drop k) c < 0
  · rw [if_pos h]
    generalize Lib.indexByte ((lst s).drop k) c = i at *
    clear hH hge
    go_enter Tryd.func78, Tryd.ntmps78
    go_wp2_with fail
    go_quiet (first | (go_at_call 44; refine Calls.quiet_of_same (HP.out _)))
    go_wp2_with fail
    exact ⟨rfl, _, rfl, below_drewN (Below.refl _ _) _⟩
  · rw [if_neg h]
    have hlen := (idx_bd ((lst s).drop k) c (by omega)).1
    rw [List.length_drop, lst_size] at hlen
    obtain ⟨n, hn⟩ : ∃ n : Nat, Lib.indexByte ((lst s).drop k) c = (n : Int) := ⟨_, (Int.toNat_of_nonneg (by omega)).symm⟩
    rw [hn, Int.toNat_natCast] at hlen
    rw [hn] at HP ⊢
    rw [Int.toNat_natCast]
    have hkn : k + n + 1 ≤ s.size := by omega
    clear hH hge h hn hlen
    go_enter Tryd.func78, Tryd.ntmps78
    go_wp2_with fail
    go_quiet (first | (go_at_call 44; refine Calls.quiet_of_same (HP.out _)))
    go_wp2_with fail
    go_end0
    refine ⟨rfl, ?_, ?_⟩
    · have h := ((HH.out.drewN nq).set 1 (.int .i64 ((k + n + 1 : Nat) : Int)))
      have e : ((k + n + 1 : Nat) : Int) = (k : Int) + ((n : Int) + 1) := by omega
      rw [e] at h
      rw [Sc, e]
      exact h
    · exact (below_drewN (Below.refl _ _) _).setCell hB _

set_option maxHeartbeats 2000000 in
theorem nameM_any (s : ByteArray) (hs : s.size ≤ 1000000) (g k B : Nat) (hB : B ≤ g) (hk : k ≤ s.size) (w : World) (hH : Sc w g s k) :
    Calls Tryd.prog 45 #[.pointer (some ⟨g, 0, none⟩)] w (Went w g s B (nameL (lst s) k)) := by
  have HS := Lib.hid (skip_any 43 isL tells_letter s hs g k B hB hk w hH)
  have hb := upL_bd isL (lst s) k (by rw [lst_size]; exact hk)
  rw [lst_size] at hb
  unfold nameL
  by_cases h : upL isL (lst s) k = k
  · rw [if_pos h]
    have h0 : upL isL (lst s) k - k = 0 := by omega
    rw [h0] at HS
    clear hH h hb h0
    go_enter Tryd.func45, Tryd.ntmps45
    go_wp2_with fail
    refine HS.out.mono ?_
    rintro e w1 ⟨rfl, h1, h2⟩
    have H2 := Lib.hid h2
    clear h1 h2
    go_wp2_with fail
    exact ⟨rfl, _, rfl, H2.out⟩
  · rw [if_neg h]
    have HN := Lib.hid (fun W (hW : Sc W g s (upL isL (lst s) k)) => skip_any 62 isN tells_name s hs g (upL isL (lst s) k) B hB hb.2 W hW)
    obtain ⟨n, hn⟩ : ∃ n, n = upL isL (lst s) k - k := ⟨_, rfl⟩
    rw [← hn] at HS
    have hn0 : ¬ n = 0 := by omega
    generalize upL isL (lst s) k = j at *
    generalize upL isN (lst s) j = m at *
    have hq : ((n : Int) == 0) = false := by simp; omega
    clear hH hb h hn hn0
    go_enter Tryd.func45, Tryd.ntmps45
    go_wp2_with fail
    refine HS.out.mono ?_
    rintro e w1 ⟨rfl, h1, h2⟩
    have H1 := Lib.hid h1
    have H2 := Lib.hid h2
    clear h1 h2
    go_wp2_with fail
    refine (HN.out _ H1.out).mono ?_
    rintro e w2 ⟨rfl, h1, h2⟩
    have H3 := Lib.hid h1
    have H4 := Lib.hid h2
    clear h1 h2
    go_wp2_with fail
    go_end0
    exact ⟨rfl, H3.out, H2.out.trans H4.out⟩
end Go.Proofs.YtdnnjakggopdoaaDoor
