/-
  PROVED: contract of the document's own Apply: the text with the edits made, or what is wrong with them. Conditions: the slice lies in memory that holds the edits; at most 300 edits; texts of at most 60000 bytes.
-/
import Derived.Test.YtdjdflannedkbaaApply
import Derived.Test.YtdjdflannedkbaaRefCheck
import Derived.Lib.AppendStr
import Derived.Lib.UnsafeStr
import Derived.Laws.IdiomStrings
namespace Go.Proofs.Ytdjdflannedkbaa
open Go.ChangeShapes Go.WideShapes Go.ChangeAt Go.RowKit Go.Sort
set_option linter.unusedVariables false

theorem Try.info5 : (Try.prog.info? 5).map (fun i => (i.zero, i.size, i.bytes)) = some (some (.int .u8 0), 1, 1) := by kernel_rfl
theorem own_empty5 (w : World) (base : Nat) (hb : base ≤ w.heap.size) : (w.alloc (.cells #[] 5)).ownsRow base 5 1 (.slice (some ⟨w.heap.size, 0, none⟩) 0 0) 0 [] := by
  refine ⟨by simp, Or.inr ⟨w.heap.size, 0, #[], rfl, hb, heap_alloc_new w _, Nat.le_refl _, Nat.zero_le _, by simp, by simp⟩⟩
theorem own_string {w : World} {B : Nat} {v : Value} {l : List UInt8} (h : w.ownsRow B 5 1 v l.length (Lib.byteCells l)) (hv : v ≠ .slice none 0 0) : ∃ a c, v = .slice (some a) l.length c ∧ (convert 38 9 v).run Try.prog w = .ok (.string ⟨l.toArray⟩) w := by
  rcases h.2 with ⟨rfl, _⟩ | ⟨g, cap, cur, rfl, hb, hh, hc, hm, hz, ht⟩
  · exact absurd rfl hv
  · refine ⟨⟨g, 0, none⟩, cap, rfl, ?_⟩
    refine run_convert_bytes_back w 38 9 5 ⟨g, 0, none⟩ cap l Try.underlying38 Try.underlying5 Try.underlying9 ?_
    intro j hj
    exact h.cells (g := g) rfl j _ (by unfold Lib.byteCells; rw [List.getElem?_map, List.getElem?_eq_getElem hj]; rfl)

theorem dataLen (s : ByteArray) : s.data.toList.length = s.size := by simp

/-- Bytes of the call's own, what lay below kept. -/
def Out (W : World) (v : Value) (acc : List UInt8) (wr : World) : Prop := wr.ownsRow W.heap.size 5 1 v acc.length (Lib.byteCells acc) ∧ v ≠ .slice none 0 0 ∧ Below W.heap.size W wr
theorem Out.append {W wr w2 : World} {v v' : Value} {acc : List UInt8} {s : ByteArray} {n : Nat} (h : Out W v acc wr) (hn : n = s.size) (ho : w2.ownsRow W.heap.size 5 1 v' (acc.length + n) (Lib.byteCells acc ++ Lib.strCells s)) (hg : wr.grownBy w2 v.ownBlock)
    (hi : v' = .slice none 0 0 → v = .slice none 0 0) : Out W v' (acc ++ s.data.toList) w2 := by
  subst hn
  have hge := own_block_ge h.1
  refine ⟨?_, fun e => h.2.1 (hi e), h.2.2.grown hg h.2.2.size (fun k hk => (hge k hk).1)⟩
  rw [Lib.byteCells_append, List.length_append, show s.data.toList.length = s.size by simp]
  exact ho

def RaRel (s : ByteArray) (L : List Ed) (W : World) (v d i : Value) (wr : World) : Prop :=
  ∃ (j k : Nat) (acc : List UInt8), j ≤ L.length ∧ i = .int .i64 j ∧ d = .int .i64 k ∧ k ≤ s.size ∧ (∀ h : j < L.length, (k : Int) ≤ L[j].f) ∧ Out W v acc wr ∧ acc ++ appL s.data.toList k (L.drop j) = appL s.data.toList 0 L ∧ acc.length ≤ j * 120000

set_option maxHeartbeats 4000000 in
theorem refApply_any (s : ByteArray) (A : Option Addr) (c : Nat) (es : List Ed) (hl : es.length ≤ 300) (hs : s.size ≤ 60000) (hx : ∀ e ∈ es, e.x.size ≤ 60000) (B : Nat) (w : World) (h : Rd w B A es) :
    Calls Try.prog 12 #[.string s, .slice A es.length c] w fun e w' => e = .returned (.tuple #[.string (appR s es), .int .i64 (chk s.size es)]) ∧ Below w.heap.size w w' := by
  obtain ⟨i0, hi, hz0, hz1, hz2⟩ := info_parts Try.info5
  have h := h.here
  have hc := refCheck_any s A c es (by omega) (by omega) _ w h
  by_cases hk : chk s.size es = 0
  · have HR := Lib.hid (appR_ok hk)
    have HK := Lib.hid hk
    have hlen : (srtE es).length ≤ 300 := by rw [srt_len]; exact hl
    have hxs : ∀ e ∈ srtE es, e.x.size ≤ 60000 := fun e he => hx e ((srt_perm es).mem_iff.1 he)
    have HRG := Lib.hid (right_of_chk hk)
    rw [hk] at hc
    clear hx hk
    generalize appR s es = R at HR ⊢
    obtain ⟨L, hL⟩ : ∃ L, L = srtE es := ⟨_, rfl⟩
    rw [← hL] at hlen hxs HRG HR
    have HLL := Lib.hid hL
    clear hL
    have HX := Lib.hid hxs
    clear hxs
    go_enter Try.func12, Try.ntmps12
    go_wp2_with fail
    refine hc.mono ?_
    rintro e w1 ⟨rfl, hb1⟩
    have hs1 := refSorted_any A c es (by omega) _ w1 (h.below hb1)
    rw [← HLL.out] at hs1
    clear hc h
    go_wp2_with fail
    refine hs1.mono ?_
    rintro e W ⟨v, rfl, hown, hb2⟩
    have hBW : Below w.heap.size w W := chain (Nat.le_refl _) hb1 hb2
    obtain ⟨A2, c2, rfl, hc2, _, hr2⟩ := own_edits hown
    clear hown hs1 hb1 hb2
    go_wp2_with fail
    go_loopw [8, 9, 10] (fun v d i wr => RaRel s L W v d i wr) (fun _ _ i _ => L.length - (intOf i).toNat)
    case atStart => exact ⟨0, 0, [], Nat.zero_le _, rfl, rfl, Nat.zero_le _, fun h => (HRG.out.1 _ (List.getElem_mem h)).1, ⟨own_empty5 _ _ (Nat.le_refl _), by simp, (Below.refl _ _).alloc (Nat.le_refl _) _⟩, rfl, by simp⟩
    case round =>
      obtain ⟨j, k, acc, hj, rfl, rfl, hk1, hk2, hO, hacc, hal⟩ := hrel
      have HACC := Lib.hid hacc
      have HK2 := Lib.hid hk2
      clear hacc hk2
      have hB := hO.2.2
      have hBz := hB.size
      have HO := Lib.hid hO
      clear hO
      by_cases hlt : j < L.length
      · obtain ⟨b, o, rfl, hb, c0, c1, c2⟩ := (hr2.below hB) j L[j] (List.getElem?_eq_getElem hlt)
        have hw := HRG.out.1 _ (List.getElem_mem hlt)
        have hxx := HX.out _ (List.getElem_mem hlt)
        have hkk := HK2.out hlt
        have HD := Lib.hid (List.drop_eq_getElem_cons hlt)
        have HNX := Lib.hid (HRG.out.next j hlt)
        have HE : Hid (∃ y, y = L[j]) := ⟨_, rfl⟩
        obtain ⟨y, hy⟩ := HE.out
        rw [← hy] at c0 c1 c2 hw hxx hkk HD HNX
        clear hy HE HK2
        obtain ⟨y0, y1, y2⟩ := y
        simp only at c0 c1 c2 hw hxx hkk
        obtain ⟨f, rfl⟩ : ∃ f : Nat, y0 = f := ⟨y0.toNat, by omega⟩
        obtain ⟨t, rfl⟩ : ∃ t : Nat, y1 = t := ⟨y1.toNat, by omega⟩
        have hes : (s.extract k f).size ≤ 60000 := by have : (s.extract k f).size ≤ s.size := by simp [ByteArray.size_extract]; omega
                                                      omega
        go_wp2_with (at_builtin; refine Lib.wpList_append_own_string _ rfl _ _ 38 9 rfl W.heap.size 5 i0 Try.underlying38 Try.underlying9 hi hz0 hz1 hz2 _ _ _ rfl HO.out.1 (s.extract k f) rfl (by unfold maxLen; omega) (by omega) hBz ?_)
        intro v2 w3 ho3 hg3 hi3
        obtain ⟨acc3, hacc3⟩ : ∃ a3, a3 = acc ++ (s.extract k f).data.toList := ⟨_, rfl⟩
        have HO3 : Hid (Out W v2 acc3 w3) := by show Out W v2 acc3 w3; rw [hacc3]; exact HO.out.append (by rw [ByteArray.size_extract]) ho3 hg3 (fun e => (hi3.1 e).1)
        have hB3 := HO3.out.2.2
        have hz3 := hB3.size
        have d1 := (hB3.cell (p := ⟨b, o + j * 3 + 1, none⟩) hb).trans ((hB.cell (p := ⟨b, o + j * 3 + 1, none⟩) hb).symm.trans c1)
        have d2 := (hB3.cell (p := ⟨b, o + j * 3 + 2, none⟩) hb).trans ((hB.cell (p := ⟨b, o + j * 3 + 2, none⟩) hb).symm.trans c2)
        have hl3 : acc3.length ≤ acc.length + 60000 := by rw [hacc3, List.length_append, dataLen]; omega
        have HC3 := Lib.hid hacc3
        clear ho3 hg3 hi3 HO c0 c1 c2 hacc3
        go_wp2_with (at_builtin; refine Lib.wpList_append_own_string _ rfl _ _ 38 9 rfl W.heap.size 5 i0 Try.underlying38 Try.underlying9 hi hz0 hz1 hz2 _ _ _ rfl HO3.out.1 y2 rfl (by unfold maxLen; omega) (by omega) hz3 ?_)
        intro v4 w4 ho4 hg4 hi4
        have HO4 := Lib.hid (HO3.out.append rfl ho4 hg4 (fun e => (hi4.1 e).1))
        have hB4 := HO4.out.2.2
        have d1 := (hB4.cell (p := ⟨b, o + j * 3 + 1, none⟩) hb).trans ((hB3.cell (p := ⟨b, o + j * 3 + 1, none⟩) hb).symm.trans d1)
        have HA4 : Hid (acc3 ++ y2.data.toList ++ appL s.data.toList t (L.drop (j + 1)) = appL s.data.toList 0 L) := by
          show _ = _
          rw [← HACC.out, HD.out, appL, HC3.out, extract_list]
          simp
        have hl4 : (acc3 ++ y2.data.toList).length ≤ (j + 1) * 120000 := by rw [List.length_append, dataLen]; omega
        clear ho4 hg4 hi4 HO3 d2 hB3 hl3
        go_wp2_with fail
        go_roundw
        case rel => exact ⟨j + 1, t, _, by omega, by go_num, rfl, by omega, HNX.out, HO4.out, HA4.out, hl4⟩
        case measure => simp [intOf]; omega
      · have hes : (s.extract k s.size).size ≤ 60000 := by have : (s.extract k s.size).size ≤ s.size := by simp [ByteArray.size_extract]
                                                           omega
        go_wp2_with (at_builtin; refine Lib.wpList_append_own_string _ rfl _ _ 38 9 rfl W.heap.size 5 i0 Try.underlying38 Try.underlying9 hi hz0 hz1 hz2 _ _ _ rfl HO.out.1 (s.extract k s.size) rfl (by unfold maxLen; omega) (by omega) hBz ?_)
        intro v2 w3 ho3 hg3 hi3
        obtain ⟨acc3, hacc3⟩ : ∃ a3, a3 = acc ++ (s.extract k s.size).data.toList := ⟨_, rfl⟩
        have O3 : Out W v2 acc3 w3 := by rw [hacc3]; exact HO.out.append (by rw [ByteArray.size_extract]; omega) ho3 hg3 (fun e => (hi3.1 e).1)
        obtain ⟨a, c3, rfl, hconv⟩ := own_string O3.1 O3.2.1
        have HA4 : Hid (acc3 = appL s.data.toList 0 L) := by
          show _ = _
          rw [hacc3, ← HACC.out, List.drop_eq_nil_of_le (by omega), appL, extract_list, List.take_of_length_le (by simp)]
        have hB3 : Below w.heap.size w w3 := chain (Nat.le_refl _) hBW O3.2.2
        have HRR : Hid ((⟨acc3.toArray⟩ : ByteArray) = R) := by show _ = _; rw [HA4.out, ← HR.out]
        clear ho3 hg3 hi3 O3 HO hacc3
        go_wp2_with fail
        go_ret2
        exact ⟨by rw [HK.out, ← HRR.out]; rfl, hB3⟩
  · have HR := Lib.hid (appR_no hk)
    generalize appR s es = R at HR ⊢
    have hne : ((chk s.size es : Int) != 0) = true := by simpa using hk
    generalize chk s.size es = r at hne hc ⊢
    clear hk hx h
    go_enter Try.func12, Try.ntmps12
    go_wp2_with fail
    refine hc.mono ?_
    rintro e W1 ⟨rfl, hb1⟩
    clear hc
    go_wp2_with fail
    go_ret2
    exact ⟨by rw [HR.out]; rfl, hb1⟩
end Go.Proofs.Ytdjdflannedkbaa
