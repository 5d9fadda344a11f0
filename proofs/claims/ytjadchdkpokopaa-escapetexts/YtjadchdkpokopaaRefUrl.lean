/-
  PROVED: contract of the document's own Url: the clean text as a URL ('urlL'). Conditions: the text has at most 2000000 bytes.
-/
import Derived.Test.YtjadchdkpokopaaRefHtml
import Derived.Test.YtjadchdkpokopaaUrl
import Derived.Deep.AppendLies
import Derived.Deep.RegionHeld3
namespace Go.Proofs.Ytjadchdkpokopaa
open Go.ChangeShapes Go.WideShapes Go.ChangeAt Go.RowKit Go.Sort
set_option linter.unusedVariables false

theorem Try.mixed : Try.prog.follows .mixedOrders = true := by kernel_rfl
theorem esc_num (t : List UInt8) : esc t = decide ((numG 16 2 t 0 0).2 = 2) := by
  cases t with
  | nil => rfl
  | cons a t =>
    by_cases ha : hexV a < 16
    · cases t with
      | nil => rw [numG, if_pos ha, numG_nil]; rfl
      | cons b t =>
        rw [esc_cons, decide_eq_true ha, Bool.true_and, numG, if_pos ha]
        by_cases hb : hexV b < 16
        · rw [numG, if_pos hb, numG_zero, decide_eq_true hb]; rfl
        · rw [numG, if_neg hb, decide_eq_false hb]; rfl
    · rw [numG, if_neg ha]
      cases t with
      | nil => rfl
      | cons b t => rw [esc_cons, decide_eq_false ha]; rfl
/-- What the loop over the marks that stay goes by. -/
def SRel (c : UInt8) (b0 : Bool) (ok k : Value) (w0 wr : World) : Prop :=
  ∃ (j : Nat) (b : Bool), j ≤ 20 ∧ k = .int .i64 j ∧ ok = .bool b ∧ b = (b0 || (urlM.take j).contains c) ∧ wr = w0
theorem mark_at (j : Nat) (h : j < (ByteArray.mk #[45, 95, 46, 33, 126, 42, 39, 40, 41, 59, 47, 63, 58, 64, 38, 61, 43, 36, 44, 35]).size) : (ByteArray.mk #[45, 95, 46, 33, 126, 42, 39, 40, 41, 59, 47, 63, 58, 64, 38, 61, 43, 36, 44, 35])[j]'h = urlM[j]'h := rfl
theorem srel_step (c : UInt8) (j : Nat) (h : j < 20) (b0 : Bool) : (b0 || (urlM.take (j + 1)).contains c) = ((b0 || (urlM.take j).contains c) || (urlM[j]'h == c)) := by
  have hl : j < urlM.length := h
  rw [List.take_succ_eq_append_getElem hl, Bool.eq_iff_iff]
  simp only [Bool.or_eq_true, List.contains_iff_mem, List.mem_append, List.mem_singleton, beq_iff_eq]
  constructor
  · rintro (h1 | h1 | h1)
    · exact Or.inl (Or.inl h1)
    · exact Or.inl (Or.inr h1)
    · exact Or.inr h1.symm
  · rintro ((h1 | h1) | h1)
    · exact Or.inl h1
    · exact Or.inr (Or.inl h1)
    · exact Or.inr (Or.inr h1.symm)
theorem u8_beq (a b : UInt8) : ((a.toNat : Int) == (b.toNat : Int)) = (a == b) := by
  rw [Bool.eq_iff_iff, beq_iff_eq, beq_iff_eq]
  constructor
  · intro h; exact UInt8.toNat_inj.1 (by omega)
  · intro h; rw [h]
theorem keep_37 (t : List UInt8) : keep 37 t = esc t := by
  unfold keep
  rw [show stays 37 = false by decide, show ((37 : UInt8) == 37) = true from rfl]
  simp
theorem keep_no (c : UInt8) (t : List UInt8) (h : c ≠ 37) : keep c t = stays c := by
  unfold keep
  rw [show (c == 37) = false by simpa using h]
  simp

theorem hex_hi (c : UInt8) : ∃ x : Nat, x < 16 ∧ IntKind.u8.wrap ((c.toNat : Int) / 16) = (x : Int) ∧ x = c.toNat / 16 := by
  have h := c.toNat_lt
  refine ⟨c.toNat / 16, by omega, ?_, rfl⟩
  simp [IntKind.wrap, IntKind.signed, IntKind.bits]; omega
theorem hex_lo (c : UInt8) : ∃ x : Nat, x < 16 ∧ (c.toNat : Int).tmod 16 = (x : Int) ∧ x = c.toNat % 16 := by
  have h := c.toNat_lt
  refine ⟨c.toNat % 16, by omega, ?_, rfl⟩
  rw [Int.tmod_eq_emod_of_nonneg (by omega)]
  omega
theorem news3 (w : World) (a b c : Value) : ∀ j u, [a, b, c][j]? = some u → (w.alloc (.cells #[a, b, c] 5)).cell? ((⟨w.heap.size, 0, none⟩ : Addr).add j) = some u := by
  intro j u hj
  match j, hj with
  | 0, hj => simp at hj; subst hj; simp [Addr.add]
  | 1, hj => simp at hj; subst hj; simp [Addr.add]
  | 2, hj => simp at hj; subst hj; simp [Addr.add]
theorem one3 (a b c : Int) : ∀ u ∈ [Value.int .u8 a, .int .u8 b, .int .u8 c], u.oneCell' = true := by
  intro u hu
  simp at hu
  rcases hu with rfl | rfl | rfl <;> rfl

set_option maxHeartbeats 16000000 in
set_option maxRecDepth 100000 in
theorem refUrl_text (s : ByteArray) (hs : s.size ≤ 2000000) (w : World) : Calls Try.prog 17 #[.string s] w fun e w' => e = .returned (.string ⟨(urlL (cleanB (lst s))).toArray⟩) ∧ Below w.heap.size w w' := by
  obtain ⟨i0, hi, hz0, hz1, hz2⟩ := info_parts Try.info5
  obtain ⟨C, hC, hCs, hcall⟩ := refClean_text s hs
  have HC := Lib.hid hcall
  have mixed := Try.mixed
  rw [← hC]
  clear hcall hC
  go_enter Try.func17, Try.ntmps17
  go_wp2_with fail
  refine (HC.out _).mono ?_
  rintro e W ⟨rfl, hb0⟩
  have HB0 := Lib.hid hb0
  have hz0' := hb0.size
  clear hb0 HC
  go_wp2_with fail
  go_loopw [6, 7] (fun v i wr => BRel urlL C W v i wr) (fun _ i _ => C.size - (intOf i).toNat)
  case atStart => exact ⟨0, [], Nat.zero_le _, rfl, rfl, by simp, own_empty5 _ _ (Nat.le_refl _), (fun h => by cases h), (Below.refl _ _).alloc (Nat.le_refl _) _⟩
  case round =>
    obtain ⟨p, acc, hp, rfl, hacc, hal, hown, hnil, hB1⟩ := hrel
    have hBz := hB1.size
    have HNIL := Lib.hid hnil
    by_cases hlt : p < C.size
    · obtain ⟨c, hc⟩ : ∃ c, c = (C[p]'hlt) := ⟨_, rfl⟩
      have hn := c.toNat_lt
      have hx := (u1_len c ((lst C).drop (p + 1))).2
      have hidx : ∀ W : World, True := fun _ => trivial
      have HS := Lib.hid (fun (w2 : World) (v : Value) (x : List UInt8) (hxx : u1 c ((lst C).drop (p + 1)) = x) (ho : w2.ownsRow W.heap.size 5 1 v (acc.length + x.length) (Lib.byteCells acc ++ Lib.byteCells x)) (hv : v ≠ .slice none 0 0) (hb : Below W.heap.size W w2) => brel_step (f := urlL) (n := 1) (x := x) rfl (by omega) (by rw [← hxx]; omega) hacc hal (by rw [url_go C p hlt, ← hc, hxx]) ho hv hb)
      have HLt := Lib.hid (fun W => refLetter_any (C[p]'hlt) W)
      have HDg := Lib.hid (fun W => refDigit_any (C[p]'hlt) W)
      rw [← hc] at HLt HDg
      have HU1 : Hid (∀ b, b = true → keep c ((lst C).drop (p + 1)) = b → u1 c ((lst C).drop (p + 1)) = [c]) := fun b hb h => by unfold u1; rw [h, hb, if_pos rfl]
      have HU2 : Hid (∀ b, b = false → keep c ((lst C).drop (p + 1)) = b → u1 c ((lst C).drop (p + 1)) = [37, hexD (c.toNat / 16), hexD (c.toNat % 16)]) := fun b hb h => by unfold u1; rw [h, hb, if_neg (by simp)]
      have HST : Hid (stays c = (ltr c || dgt c || urlM.contains c)) := show stays c = _ from rfl
      have hcn : (C[p]'hlt).toNat = c.toNat := by rw [hc]
      clear hacc hx hnil hc
      obtain ⟨w0, rfl⟩ : ∃ w0, w0 = wr := ⟨wr, rfl⟩
      by_cases hl : ltr c = true
      · rw [hl] at HLt HST
        clear HDg
        go_wp2_with fail
        refine (HLt.out _).mono ?_
        rintro e w1 ⟨rfl, rfl⟩
        clear HLt
        go_wp2_with fail
        go_loopw [9, 10] (fun ok k wr => SRel c true ok k w0 wr) (fun _ k _ => 20 - (intOf k).toNat)
        case atStart => exact ⟨0, true, Nat.zero_le _, rfl, rfl, by simp, rfl⟩
        case round =>
          obtain ⟨j, b, hj, rfl, rfl, hb, rfl⟩ := hrel
          have HB := Lib.hid hb
          clear hb
          by_cases hj20 : j < 20
          · have HSt := Lib.hid (srel_step c j hj20 true)
            cases b with
            | true =>
              go_wp2_with fail
              go_roundw
              case rel => exact ⟨j + 1, true, by omega, by go_num, rfl, by have h1 := HSt.out; rw [← HB.out] at h1; exact h1.symm, rfl⟩
              case measure => simp [intOf]; omega
            | false => exact absurd HB.out (by simp)
          · have HS2 : Hid (b = stays c) := show b = stays c from by
              rw [HB.out, HST.out, List.take_of_length_le (show urlM.length ≤ j from by have : urlM.length = 20 := rfl; omega)]
              try simp
            clear HB HST
            by_cases h37 : c = 37
            · have c0 : ((c.toNat : Int) == 37) = true := by rw [h37]; decide
              have hN := fun W => number_16_2 C (p + 1) hCs (by omega) W
              have hes := esc_num ((lst C).drop (p + 1))
              have hk37 : keep c ((lst C).drop (p + 1)) = esc ((lst C).drop (p + 1)) := by rw [h37]; exact keep_37 _
              generalize numG 16 2 ((lst C).drop (p + 1)) 0 0 = q at *
              obtain ⟨u, n⟩ := q
              simp only [] at hN hes
              have HN := Lib.hid hN
              clear hN h37 HS2
              by_cases hn2 : n = 2
              · have q2 : ((n : Int) == 2) = true := by rw [hn2]; rfl
                have HK : Hid (keep c ((lst C).drop (p + 1)) = true) := show _ = _ from by rw [hk37, hes, decide_eq_true hn2]
                clear hes hk37 hn2
                go_wp2_with fail
                refine (HN.out _).mono ?_
                rintro e w1 ⟨rfl, rfl⟩
                clear HN
                go_wp2_with (at_builtin; refine wpList_append_own _ rfl _ _ 28 rfl W.heap.size 5 i0 (.int .u8 0) 1 1 Try.underlying28 hi hz0 hz1 hz2 rfl (by decide) _ _ _ rfl (hown.alloc _) ⟨wr.heap.size, 0, none⟩ 1 1 (Lib.byteCells [c]) rfl rfl (newsB _ [c]) (bytes_one _) (by unfold maxLen; omega) (by omega) (by simp; omega) ?_)
                intro v' w3 hown' hgrow hiff
                have hge := own_block_ge hown
                have HR := Lib.hid (HS.out w3 v' _ (HU1.out _ rfl HK.out) hown' (by first | exact hiff | exact fun hv => HNIL.out (hiff.1 hv).1) ((hB1.alloc (by omega) _).grown hgrow (by simp; omega) (fun k hk => (hge k hk).1)))
                clear hown' hgrow hown hiff hge hB1 HS HU1 HU2
                go_wp2_with fail
                go_roundw
                case rel => exact HR.out
                case measure => simp [intOf]; omega
              · have q2 : ((n : Int) == 2) = false := by rw [beq_eq_false_iff_ne]; omega
                have HK : Hid (keep c ((lst C).drop (p + 1)) = false) := show _ = _ from by rw [hk37, hes, decide_eq_false hn2]
                clear hes hk37 hn2
                go_wp2_with fail
                refine (HN.out _).mono ?_
                rintro e w1 ⟨rfl, rfl⟩
                clear HN
                go_wp2_with fail
                obtain ⟨x1, hx1, hw1, hm1⟩ := hex_hi c
                obtain ⟨x2, hx2, hw2, hm2⟩ := hex_lo c
                have HX1 := Lib.hid hm1
                have hy1 : (x1 : Int) < 16 := by omega
                have hy2 : (x2 : Int) < 16 := by omega
                have hy3 : (0 : Int) ≤ (x1 : Int) := by omega
                have hy4 : (0 : Int) ≤ (x2 : Int) := by omega
                have HX2 := Lib.hid hm2
                clear hm1 hm2
                go_region_held3 (fun w' => True) (trivial)
                  ((refine step_append_lies _ (by rfl) _ _ _ (by rfl) W.heap.size 5 i0 (.int .u8 0) 1 1 Try.underlying28 hi hz0 hz1 hz2 rfl (by decide) _ _ _ (by rfl) ((hown.alloc _).drew)
                      ⟨wr.heap.size, 0, none⟩ 3 3 [.int .u8 37, .int .u8 (((ByteArray.mk #[48, 49, 50, 51, 52, 53, 54, 55, 56, 57, 65, 66, 67, 68, 69, 70])[x1]'hx1).toNat), .int .u8 (((ByteArray.mk #[48, 49, 50, 51, 52, 53, 54, 55, 56, 57, 65, 66, 67, 68, 69, 70])[x2]'hx2).toNat)] (by rfl) (by rfl) (World.news_of_block (cs := #[.int .u8 37, .int .u8 (((ByteArray.mk #[48, 49, 50, 51, 52, 53, 54, 55, 56, 57, 65, 66, 67, 68, 69, 70])[x1]'hx1).toNat), .int .u8 (((ByteArray.mk #[48, 49, 50, 51, 52, 53, 54, 55, 56, 57, 65, 66, 67, 68, 69, 70])[x2]'hx2).toNat)]) (t := 5) (fr := (0, 0)) (heap_alloc_new wr _)) (one3 _ _ _)
                      (by omega) (by unfold maxLen; omega) (by omega) (by simp; omega) (wr.heap.size + 1) (by simp) ?_; intro gg cap w3 hown' hgrow hat hlt3))
                all_goals
                  have hge := own_block_ge hown
                  have HR := Lib.hid (HS.out w3 _ _ (HU2.out _ rfl HK.out) (by rw [hexD_at, hexD_at, HX1.out, HX2.out] at hown'; exact hown') (fun h => by cases h) (((hB1.alloc (by omega) _).drew).grown hgrow (by simp; omega) (fun k hk => (hge k hk).1)))
                  clear hown' hgrow hown hge hB1 HS HU1 HU2 hat hlt3
                  go_wp2_with fail
                  go_roundw
                  case rel => exact HR.out
                  case measure => simp [intOf]; omega
            · have c0 : ((c.toNat : Int) == 37) = false := by have := ne_u8 _ 37 (by decide) h37; rw [beq_eq_false_iff_ne]; omega
              have HK : Hid (keep c ((lst C).drop (p + 1)) = b) := show _ = _ from by rw [keep_no _ _ h37, HS2.out]
              clear h37 HS2
              cases b with
              | true =>
                go_wp2_with (at_builtin; refine wpList_append_own _ rfl _ _ 28 rfl W.heap.size 5 i0 (.int .u8 0) 1 1 Try.underlying28 hi hz0 hz1 hz2 rfl (by decide) _ _ _ rfl (hown.alloc _) ⟨wr.heap.size, 0, none⟩ 1 1 (Lib.byteCells [c]) rfl rfl (newsB _ [c]) (bytes_one _) (by unfold maxLen; omega) (by omega) (by simp; omega) ?_)
                intro v' w3 hown' hgrow hiff
                have hge := own_block_ge hown
                have HR := Lib.hid (HS.out w3 v' _ (HU1.out _ rfl HK.out) hown' (by first | exact hiff | exact fun hv => HNIL.out (hiff.1 hv).1) ((hB1.alloc (by omega) _).grown hgrow (by simp; omega) (fun k hk => (hge k hk).1)))
                clear hown' hgrow hown hiff hge hB1 HS HU1 HU2
                go_wp2_with fail
                go_roundw
                case rel => exact HR.out
                case measure => simp [intOf]; omega
              | false =>
                go_wp2_with fail
                obtain ⟨x1, hx1, hw1, hm1⟩ := hex_hi c
                obtain ⟨x2, hx2, hw2, hm2⟩ := hex_lo c
                have HX1 := Lib.hid hm1
                have hy1 : (x1 : Int) < 16 := by omega
                have hy2 : (x2 : Int) < 16 := by omega
                have hy3 : (0 : Int) ≤ (x1 : Int) := by omega
                have hy4 : (0 : Int) ≤ (x2 : Int) := by omega
                have HX2 := Lib.hid hm2
                clear hm1 hm2
                go_region_held3 (fun w' => True) (trivial)
                  ((refine step_append_lies _ (by rfl) _ _ _ (by rfl) W.heap.size 5 i0 (.int .u8 0) 1 1 Try.underlying28 hi hz0 hz1 hz2 rfl (by decide) _ _ _ (by rfl) ((hown.alloc _).drew)
                      ⟨wr.heap.size, 0, none⟩ 3 3 [.int .u8 37, .int .u8 (((ByteArray.mk #[48, 49, 50, 51, 52, 53, 54, 55, 56, 57, 65, 66, 67, 68, 69, 70])[x1]'hx1).toNat), .int .u8 (((ByteArray.mk #[48, 49, 50, 51, 52, 53, 54, 55, 56, 57, 65, 66, 67, 68, 69, 70])[x2]'hx2).toNat)] (by rfl) (by rfl) (World.news_of_block (cs := #[.int .u8 37, .int .u8 (((ByteArray.mk #[48, 49, 50, 51, 52, 53, 54, 55, 56, 57, 65, 66, 67, 68, 69, 70])[x1]'hx1).toNat), .int .u8 (((ByteArray.mk #[48, 49, 50, 51, 52, 53, 54, 55, 56, 57, 65, 66, 67, 68, 69, 70])[x2]'hx2).toNat)]) (t := 5) (fr := (0, 0)) (heap_alloc_new wr _)) (one3 _ _ _)
                      (by omega) (by unfold maxLen; omega) (by omega) (by simp; omega) (wr.heap.size + 1) (by simp) ?_; intro gg cap w3 hown' hgrow hat hlt3))
                all_goals
                  have hge := own_block_ge hown
                  have HR := Lib.hid (HS.out w3 _ _ (HU2.out _ rfl HK.out) (by rw [hexD_at, hexD_at, HX1.out, HX2.out] at hown'; exact hown') (fun h => by cases h) (((hB1.alloc (by omega) _).drew).grown hgrow (by simp; omega) (fun k hk => (hge k hk).1)))
                  clear hown' hgrow hown hge hB1 HS HU1 HU2 hat hlt3
                  go_wp2_with fail
                  go_roundw
                  case rel => exact HR.out
                  case measure => simp [intOf]; omega
      · rw [Bool.not_eq_true] at hl
        rw [hl] at HLt HST
        go_wp2_with fail
        refine (HLt.out _).mono ?_
        rintro e w1 ⟨rfl, rfl⟩
        clear HLt
        go_wp2_with fail
        refine (HDg.out _).mono ?_
        rintro e w1 ⟨rfl, rfl⟩
        clear HDg
        rw [Bool.false_or] at HST
        generalize dgt c = b0 at *
        go_wp2_with fail
        go_loopw [9, 10] (fun ok k wr => SRel c b0 ok k w0 wr) (fun _ k _ => 20 - (intOf k).toNat)
        case atStart => exact ⟨0, b0, Nat.zero_le _, rfl, rfl, by simp, rfl⟩
        case round =>
          obtain ⟨j, b, hj, rfl, rfl, hb, rfl⟩ := hrel
          have HB := Lib.hid hb
          clear hb
          by_cases hj20 : j < 20
          · have HSt := Lib.hid (srel_step c j hj20 b0)
            cases b with
            | true =>
              go_wp2_with fail
              go_roundw
              case rel => exact ⟨j + 1, true, by omega, by go_num, rfl, by have h1 := HSt.out; rw [← HB.out] at h1; exact h1.symm, rfl⟩
              case measure => simp [intOf]; omega
            | false =>
              have h20 : j < (ByteArray.mk #[45, 95, 46, 33, 126, 42, 39, 40, 41, 59, 47, 63, 58, 64, 38, 61, 43, 36, 44, 35]).size := hj20
              cases hq : ((((ByteArray.mk #[45, 95, 46, 33, 126, 42, 39, 40, 41, 59, 47, 63, 58, 64, 38, 61, 43, 36, 44, 35])[j]'h20).toNat : Int) == (c.toNat : Int)) with
              | true =>
                have HQ := Lib.hid hq
                go_wp2_with fail
                go_roundw
                case rel => exact ⟨j + 1, true, by omega, by go_num, rfl, by have h1 := HSt.out; rw [← HB.out] at h1; have h3 := HQ.out; rw [u8_beq, mark_at] at h3; rw [h3] at h1; exact h1.symm, rfl⟩
                case measure => simp [intOf]; omega
              | false =>
                have HQ := Lib.hid hq
                go_wp2_with fail
                go_roundw
                case rel => exact ⟨j + 1, false, by omega, by go_num, rfl, by have h1 := HSt.out; rw [← HB.out] at h1; have h3 := HQ.out; rw [u8_beq, mark_at] at h3; rw [h3] at h1; exact h1.symm, rfl⟩
                case measure => simp [intOf]; omega
          · have HS2 : Hid (b = stays c) := show b = stays c from by
              rw [HB.out, HST.out, List.take_of_length_le (show urlM.length ≤ j from by have : urlM.length = 20 := rfl; omega)]
              try simp
            clear HB HST
            by_cases h37 : c = 37
            · have c0 : ((c.toNat : Int) == 37) = true := by rw [h37]; decide
              have hN := fun W => number_16_2 C (p + 1) hCs (by omega) W
              have hes := esc_num ((lst C).drop (p + 1))
              have hk37 : keep c ((lst C).drop (p + 1)) = esc ((lst C).drop (p + 1)) := by rw [h37]; exact keep_37 _
              generalize numG 16 2 ((lst C).drop (p + 1)) 0 0 = q at *
              obtain ⟨u, n⟩ := q
              simp only [] at hN hes
              have HN := Lib.hid hN
              clear hN h37 HS2
              by_cases hn2 : n = 2
              · have q2 : ((n : Int) == 2) = true := by rw [hn2]; rfl
                have HK : Hid (keep c ((lst C).drop (p + 1)) = true) := show _ = _ from by rw [hk37, hes, decide_eq_true hn2]
                clear hes hk37 hn2
                go_wp2_with fail
                refine (HN.out _).mono ?_
                rintro e w1 ⟨rfl, rfl⟩
                clear HN
                go_wp2_with (at_builtin; refine wpList_append_own _ rfl _ _ 28 rfl W.heap.size 5 i0 (.int .u8 0) 1 1 Try.underlying28 hi hz0 hz1 hz2 rfl (by decide) _ _ _ rfl (hown.alloc _) ⟨wr.heap.size, 0, none⟩ 1 1 (Lib.byteCells [c]) rfl rfl (newsB _ [c]) (bytes_one _) (by unfold maxLen; omega) (by omega) (by simp; omega) ?_)
                intro v' w3 hown' hgrow hiff
                have hge := own_block_ge hown
                have HR := Lib.hid (HS.out w3 v' _ (HU1.out _ rfl HK.out) hown' (by first | exact hiff | exact fun hv => HNIL.out (hiff.1 hv).1) ((hB1.alloc (by omega) _).grown hgrow (by simp; omega) (fun k hk => (hge k hk).1)))
                clear hown' hgrow hown hiff hge hB1 HS HU1 HU2
                go_wp2_with fail
                go_roundw
                case rel => exact HR.out
                case measure => simp [intOf]; omega
              · have q2 : ((n : Int) == 2) = false := by rw [beq_eq_false_iff_ne]; omega
                have HK : Hid (keep c ((lst C).drop (p + 1)) = false) := show _ = _ from by rw [hk37, hes, decide_eq_false hn2]
                clear hes hk37 hn2
                go_wp2_with fail
                refine (HN.out _).mono ?_
                rintro e w1 ⟨rfl, rfl⟩
                clear HN
                go_wp2_with fail
                obtain ⟨x1, hx1, hw1, hm1⟩ := hex_hi c
                obtain ⟨x2, hx2, hw2, hm2⟩ := hex_lo c
                have HX1 := Lib.hid hm1
                have hy1 : (x1 : Int) < 16 := by omega
                have hy2 : (x2 : Int) < 16 := by omega
                have hy3 : (0 : Int) ≤ (x1 : Int) := by omega
                have hy4 : (0 : Int) ≤ (x2 : Int) := by omega
                have HX2 := Lib.hid hm2
                clear hm1 hm2
                go_region_held3 (fun w' => True) (trivial)
                  ((refine step_append_lies _ (by rfl) _ _ _ (by rfl) W.heap.size 5 i0 (.int .u8 0) 1 1 Try.underlying28 hi hz0 hz1 hz2 rfl (by decide) _ _ _ (by rfl) ((hown.alloc _).drew)
                      ⟨wr.heap.size, 0, none⟩ 3 3 [.int .u8 37, .int .u8 (((ByteArray.mk #[48, 49, 50, 51, 52, 53, 54, 55, 56, 57, 65, 66, 67, 68, 69, 70])[x1]'hx1).toNat), .int .u8 (((ByteArray.mk #[48, 49, 50, 51, 52, 53, 54, 55, 56, 57, 65, 66, 67, 68, 69, 70])[x2]'hx2).toNat)] (by rfl) (by rfl) (World.news_of_block (cs := #[.int .u8 37, .int .u8 (((ByteArray.mk #[48, 49, 50, 51, 52, 53, 54, 55, 56, 57, 65, 66, 67, 68, 69, 70])[x1]'hx1).toNat), .int .u8 (((ByteArray.mk #[48, 49, 50, 51, 52, 53, 54, 55, 56, 57, 65, 66, 67, 68, 69, 70])[x2]'hx2).toNat)]) (t := 5) (fr := (0, 0)) (heap_alloc_new wr _)) (one3 _ _ _)
                      (by omega) (by unfold maxLen; omega) (by omega) (by simp; omega) (wr.heap.size + 1) (by simp) ?_; intro gg cap w3 hown' hgrow hat hlt3))
                all_goals
                  have hge := own_block_ge hown
                  have HR := Lib.hid (HS.out w3 _ _ (HU2.out _ rfl HK.out) (by rw [hexD_at, hexD_at, HX1.out, HX2.out] at hown'; exact hown') (fun h => by cases h) (((hB1.alloc (by omega) _).drew).grown hgrow (by simp; omega) (fun k hk => (hge k hk).1)))
                  clear hown' hgrow hown hge hB1 HS HU1 HU2 hat hlt3
                  go_wp2_with fail
                  go_roundw
                  case rel => exact HR.out
                  case measure => simp [intOf]; omega
            · have c0 : ((c.toNat : Int) == 37) = false := by have := ne_u8 _ 37 (by decide) h37; rw [beq_eq_false_iff_ne]; omega
              have HK : Hid (keep c ((lst C).drop (p + 1)) = b) := show _ = _ from by rw [keep_no _ _ h37, HS2.out]
              clear h37 HS2
              cases b with
              | true =>
                go_wp2_with (at_builtin; refine wpList_append_own _ rfl _ _ 28 rfl W.heap.size 5 i0 (.int .u8 0) 1 1 Try.underlying28 hi hz0 hz1 hz2 rfl (by decide) _ _ _ rfl (hown.alloc _) ⟨wr.heap.size, 0, none⟩ 1 1 (Lib.byteCells [c]) rfl rfl (newsB _ [c]) (bytes_one _) (by unfold maxLen; omega) (by omega) (by simp; omega) ?_)
                intro v' w3 hown' hgrow hiff
                have hge := own_block_ge hown
                have HR := Lib.hid (HS.out w3 v' _ (HU1.out _ rfl HK.out) hown' (by first | exact hiff | exact fun hv => HNIL.out (hiff.1 hv).1) ((hB1.alloc (by omega) _).grown hgrow (by simp; omega) (fun k hk => (hge k hk).1)))
                clear hown' hgrow hown hiff hge hB1 HS HU1 HU2
                go_wp2_with fail
                go_roundw
                case rel => exact HR.out
                case measure => simp [intOf]; omega
              | false =>
                go_wp2_with fail
                obtain ⟨x1, hx1, hw1, hm1⟩ := hex_hi c
                obtain ⟨x2, hx2, hw2, hm2⟩ := hex_lo c
                have HX1 := Lib.hid hm1
                have hy1 : (x1 : Int) < 16 := by omega
                have hy2 : (x2 : Int) < 16 := by omega
                have hy3 : (0 : Int) ≤ (x1 : Int) := by omega
                have hy4 : (0 : Int) ≤ (x2 : Int) := by omega
                have HX2 := Lib.hid hm2
                clear hm1 hm2
                go_region_held3 (fun w' => True) (trivial)
                  ((refine step_append_lies _ (by rfl) _ _ _ (by rfl) W.heap.size 5 i0 (.int .u8 0) 1 1 Try.underlying28 hi hz0 hz1 hz2 rfl (by decide) _ _ _ (by rfl) ((hown.alloc _).drew)
                      ⟨wr.heap.size, 0, none⟩ 3 3 [.int .u8 37, .int .u8 (((ByteArray.mk #[48, 49, 50, 51, 52, 53, 54, 55, 56, 57, 65, 66, 67, 68, 69, 70])[x1]'hx1).toNat), .int .u8 (((ByteArray.mk #[48, 49, 50, 51, 52, 53, 54, 55, 56, 57, 65, 66, 67, 68, 69, 70])[x2]'hx2).toNat)] (by rfl) (by rfl) (World.news_of_block (cs := #[.int .u8 37, .int .u8 (((ByteArray.mk #[48, 49, 50, 51, 52, 53, 54, 55, 56, 57, 65, 66, 67, 68, 69, 70])[x1]'hx1).toNat), .int .u8 (((ByteArray.mk #[48, 49, 50, 51, 52, 53, 54, 55, 56, 57, 65, 66, 67, 68, 69, 70])[x2]'hx2).toNat)]) (t := 5) (fr := (0, 0)) (heap_alloc_new wr _)) (one3 _ _ _)
                      (by omega) (by unfold maxLen; omega) (by omega) (by simp; omega) (wr.heap.size + 1) (by simp) ?_; intro gg cap w3 hown' hgrow hat hlt3))
                all_goals
                  have hge := own_block_ge hown
                  have HR := Lib.hid (HS.out w3 _ _ (HU2.out _ rfl HK.out) (by rw [hexD_at, hexD_at, HX1.out, HX2.out] at hown'; exact hown') (fun h => by cases h) (((hB1.alloc (by omega) _).drew).grown hgrow (by simp; omega) (fun k hk => (hge k hk).1)))
                  clear hown' hgrow hown hge hB1 HS HU1 HU2 hat hlt3
                  go_wp2_with fail
                  go_roundw
                  case rel => exact HR.out
                  case measure => simp [intOf]; omega
    · obtain ⟨a, c, rfl, hconv⟩ := own_string hown hnil
      have h1 := hacc
      rw [lst_out C p (by omega), urlL, List.append_nil] at h1
      have H1 := Lib.hid h1
      clear h1 hacc hnil
      go_wp2_with fail
      go_ret
      rw [← H1.out]
      exact ⟨rfl, chain (Nat.le_refl _) HB0.out hB1⟩
end Go.Proofs.Ytjadchdkpokopaa
