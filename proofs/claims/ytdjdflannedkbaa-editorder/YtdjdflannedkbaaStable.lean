/-
  PROVED: slices.SortStableFunc: the row holds the elements sorted, equals in their order. Conditions: the row lies as the sort's kit says, at most 1000000 elements, 'cmp(a, b) < 0' is a strict weak order.
-/
import Derived.Test.YtdjdflannedkbaaMerge3
namespace Go.Proofs.Ytdjdflannedkbaa
open Go.Shelf Go.RowKit Go.Lib Go.Sort
variable {α : Type} [Inhabited α]

theorem dvd_gap {s x y : Nat} (hx : s ∣ x) (hy : s ∣ y) (h : x < y) : x + s ≤ y := by
  obtain ⟨u, rfl⟩ := hx
  obtain ⟨v, rfl⟩ := hy
  have : u < v := Nat.lt_of_mul_lt_mul_left h
  have := Nat.mul_le_mul_left s this
  rw [Nat.mul_succ] at this
  exact this

/-- The first phase: the blocks of s below a are sorted. -/
def Blk1 (lt : α → α → Bool) (s a : Nat) (d : Array α) : Prop := ∀ x, s ∣ x → x < a → SortedIn lt x (x + s) d
/-- Each block of s, the last one perhaps short, is sorted. -/
def Blk (lt : α → α → Bool) (s n : Nat) (d : Array α) : Prop := ∀ x, s ∣ x → SortedIn lt x (min (x + s) n) d
/-- The second phase: blocks of 2 * s below a, of s from a on. -/
def Blk2 (lt : α → α → Bool) (s a n : Nat) (d : Array α) : Prop := Blk1 lt (2 * s) a d ∧ ∀ x, s ∣ x → a ≤ x → SortedIn lt x (min (x + s) n) d

theorem Blk1.step {lt : α → α → Bool} {s a : Nat} {d d' : Array α} (h : Blk1 lt s a d) (ha : s ∣ a) (hst : Stb lt a (a + s) d d') (hso : SortedIn lt a (a + s) d') : Blk1 lt s (a + s) d' := fun x hx hxa => by
  by_cases q : x < a
  · exact sin_keep (h x hx q) fun t _ t2 => hst.out t (Or.inl (by have := dvd_gap hx ha q; omega))
  · by_cases r : x = a
    · rw [r]; exact hso
    · have := dvd_gap ha hx (by omega); omega

theorem Blk1.last {lt : α → α → Bool} {s a n : Nat} {d d' : Array α} (h : Blk1 lt s a d) (ha : s ∣ a) (hn : n < a + s) (hst : Stb lt a n d d') (hso : SortedIn lt a n d') : Blk lt s n d' := fun x hx => by
  by_cases q : x < a
  · exact sin_keep (sin_sub (h x hx q) (Nat.le_refl _) (Nat.min_le_left _ _)) fun t _ t2 => hst.out t (Or.inl (by have := dvd_gap hx ha q; omega))
  · by_cases r : x = a
    · rw [r]; exact sin_sub hso (Nat.le_refl _) (Nat.min_le_right _ _)
    · have := dvd_gap ha hx (by omega)
      intro i j h1 h2 h3; omega

theorem Blk2.start {lt : α → α → Bool} {s n : Nat} {d : Array α} (h : Blk lt s n d) : Blk2 lt s 0 n d := ⟨fun _ _ hx => absurd hx (Nat.not_lt_zero _), fun x hx _ => h x hx⟩

theorem dvd_of2 {s a : Nat} (h : 2 * s ∣ a) : s ∣ a := Nat.dvd_trans (Nat.dvd_mul_left s 2) h

theorem Blk2.parts {lt : α → α → Bool} {s a b n : Nat} {d : Array α} (h : Blk2 lt s a n d) (ha : 2 * s ∣ a) (hb : b ≤ n) (h1 : a + s ≤ b) (h2 : b ≤ a + s + s) : SortedIn lt a (a + s) d ∧ SortedIn lt (a + s) b d := by
  have e1 := h.2 a (dvd_of2 ha) (Nat.le_refl _)
  have e2 := h.2 (a + s) (Nat.dvd_add (dvd_of2 ha) (Nat.dvd_refl s)) (by omega)
  exact ⟨sin_sub e1 (Nat.le_refl _) (by omega), sin_sub e2 (Nat.le_refl _) (by omega)⟩

theorem Blk2.step {lt : α → α → Bool} {s a n : Nat} {d d' : Array α} (h : Blk2 lt s a n d) (ha : 2 * s ∣ a) (hst : Stb lt a (a + 2 * s) d d') (hso : SortedIn lt a (a + 2 * s) d') : Blk2 lt s (a + 2 * s) n d' :=
  ⟨h.1.step ha hst hso, fun x hx hxa => sin_keep (h.2 x hx (by omega)) fun t t1 _ => hst.out t (Or.inr (by omega))⟩

/-- The second phase's end: a block of 2 * s at a that is sorted up to n. -/
theorem Blk2.last {lt : α → α → Bool} {s a n : Nat} {d d' : Array α} (h : Blk2 lt s a n d) (ha : 2 * s ∣ a) (hn : n < a + 2 * s) (hst : Stb lt a n d d') (hso : SortedIn lt a n d') : Blk lt (2 * s) n d' := h.1.last ha hn hst hso

theorem Blk2.short {lt : α → α → Bool} {s a n : Nat} {d : Array α} (h : Blk2 lt s a n d) (ha : 2 * s ∣ a) (hn : n ≤ a + s) : SortedIn lt a n d := sin_sub (h.2 a (dvd_of2 ha) (Nat.le_refl _)) (Nat.le_refl _) (by omega)

variable {P : Program} {k : Nat} {enc : α → List Value} {blk off : Nat} {w0 : World} {d0 : Array α}

/-- slices.insertionSortCmpFunc, from a world of the sort's to one of the sort's. -/
theorem insertion_w (L : Srt P k) (R : RowK enc k w0 blk off d0) (cf : α → α → Int) (hO : SWO (ltOf cf)) (g : Nat) (cb : Array Value) (eg : ∀ args w, (callFunc g args).run P w = .ok (.enter g args) w) (hcmp : CmpLays P g cb enc k cf blk off d0.size w0)
    (cap a b : Nat) (d : Array α) (w : World) (hs : d0.size = d.size) (S : SWK enc k w0 blk off d w) (hab : a ≤ b) (hb : b ≤ d.size) (hsz : d.size < 4611686018427387904) :
    Calls P 39 #[.slice (some ⟨blk, off, none⟩) d.size cap, .int .i64 a, .int .i64 b, .func (.func g) #[] cb] w fun e w' => e = .returned (.tuple #[]) ∧ ∃ d', (Stb (ltOf cf) a b d d' ∧ SortedIn (ltOf cf) a b d') ∧ SWK enc k w0 blk off d' w' := by
  have hI := insertionSort_stb hO d a b hab hb
  have hC : CmpLays P g cb enc k cf blk off d.size w := fun m os dk hdk x y => by
    obtain ⟨n0, os0, rfl⟩ := S
    rw [sortWorldK_on enc k w0 blk off n0 m d dk os0 os R.hblk hdk]
    exact hcmp _ _ dk (by omega) x y
  refine (AnyQ.insertionSortCmpFunc L.ins k L.aE L.zE enc R.hk R.h1 cf g cb blk off cap a b d w eg hC (S.holds R.hblk R.hH hs.symm) (S.lt R.hblk) hab hb hsz).mono ?_
  rintro e w' ⟨rfl, n, os, rfl⟩
  exact ⟨rfl, _, hI, S.on R.hblk n _ os hI.1.size⟩

set_option maxHeartbeats 8000000 in
set_option maxRecDepth 1000000 in
theorem stable_any (L : Srt P k) (R : RowK enc k w0 blk off d0) (cf : α → α → Int) (hO : SWO (ltOf cf)) (g : Nat) (cb : Array Value) (eg : ∀ args w, (callFunc g args).run P w = .ok (.enter g args) w) (hcmp : CmpLays P g cb enc k cf blk off d0.size w0)
    (cap n : Nat) (hn : d0.size = n) (hsz : n ≤ 1000000) :
    Calls P 35 #[.slice (some ⟨blk, off, none⟩) n cap, .int .i64 n, .func (.func g) #[] cb] w0 fun e w' => e = .returned (.tuple #[]) ∧ ∃ d', (Stb (ltOf cf) 0 n d0 d' ∧ SortedIn (ltOf cf) 0 n d') ∧ SWK enc k w0 blk off d' w' := by
  have mixed := L.mixed; have t0 := L.t0; have a0 := L.a0; have z0 := L.z0; have v0 := L.v0; have t3 := L.t3; have a3 := L.a3; have z3 := L.z3; have v3 := L.v3; have t4 := L.t4; have a4 := L.a4; have z4 := L.z4; have v4 := L.v4; have t22 := L.t22; have a22 := L.a22; have z22 := L.z22; have v22 := L.v22; have t50 := L.t50; have a50 := L.a50; have z50 := L.z50; have v50 := L.v50; have t63 := L.t63; have a63 := L.a63; have z63 := L.z63; have v63 := L.v63
  have aE := L.aE; have zE := L.zE
  have e39 : ∀ args w, (callFunc 39 args).run P w = .ok (.enter 39 args) w := L.ins.f20.enters rfl
  have e40 : ∀ args w, (callFunc 40 args).run P w = .ok (.enter 40 args) w := enters_of L.f40 (by kernel_rfl) rfl
  have FG := L.f35
  have INS : Aside (∀ (a b : Nat) (d : Array α) (w : World), d.size = n → SWK enc k w0 blk off d w → a ≤ b → b ≤ n →
    Calls P 39 #[.slice (some ⟨blk, off, none⟩) n cap, .int .i64 a, .int .i64 b, .func (.func g) #[] cb] w fun e w' => e = .returned (.tuple #[]) ∧ ∃ d', (Stb (ltOf cf) a b d d' ∧ SortedIn (ltOf cf) a b d') ∧ SWK enc k w0 blk off d' w') := fun a b d w hd S hab hb => by
    have := insertion_w L R cf hO g cb eg hcmp cap a b d w (by omega) S hab (by omega) (by omega)
    rwa [hd] at this
  have MRG : Aside (∀ (a m b : Nat) (d : Array α) (w : World), d.size = n → SWK enc k w0 blk off d w → a < m → m < b → b ≤ n → SortedIn (ltOf cf) a m d → SortedIn (ltOf cf) m b d →
    Calls P 40 #[.slice (some ⟨blk, off, none⟩) n cap, .int .i64 a, .int .i64 m, .int .i64 b, .func (.func g) #[] cb] w fun e w' => e = .returned (.tuple #[]) ∧ ∃ d', (Stb (ltOf cf) a b d d' ∧ SortedIn (ltOf cf) a b d') ∧ SWK enc k w0 blk off d' w') := fun a m b d w hd S h1 h2 hb s1 s2 => by
    have := symMerge_all L R cf hO g cb eg hcmp cap (by omega) (b - a + 1) a m b d w (by omega) (by omega) S h1 h2 (by omega) s1 s2
    rwa [hd] at this
  have S0 : Aside (SWK enc k w0 blk off d0 w0) := SWK.start R.hH
  have HN := Lib.hid hn
  clear hcmp hn
  go_enter FG, Try.ntmps35
  go_wp2
  go_loopg [7, 8] n (fun kx s7 s8 wr => ∃ (a : Nat) (dk : Array α), s7 = .int .i64 a ∧ s8 = .int .i64 (a + 20 : Nat) ∧ a ≤ n ∧ n - a ≤ kx ∧ Aside (SWK enc k w0 blk off dk wr) ∧ Aside (dk.size = n ∧ 20 ∣ a ∧ Stb (ltOf cf) 0 n d0 dk ∧ Blk1 (ltOf cf) 20 a dk))
  case atStart => exact ⟨0, d0, rfl, rfl, Nat.zero_le _, Nat.le_refl _, S0, (⟨HN.out, Nat.dvd_zero _, Stb.refl _ _ _ _, fun x _ hx => absurd hx (Nat.not_lt_zero _)⟩ : _ ∧ _ ∧ _ ∧ _)⟩
  case round =>
    clear S0
    obtain ⟨a, dk, rfl, rfl, han, hkx, S1, I⟩ := hrel
    by_cases hlt : a + 20 ≤ n
    · have hltz : ((a + 20 : Nat) : Int) ≤ (n : Int) := by omega
      have hc := INS.out a (a + 20) dk wr I.out.1 S1.out (by omega) (by omega)
      clear S1
      go_wp2_with (go_at_call 39; refine hc.mono ?_; rintro _ w1 ⟨rfl, d1, ⟨ST, SO'⟩, S2⟩; have I2 : Aside (d1.size = n ∧ 20 ∣ a + 20 ∧ Stb (ltOf cf) 0 n d0 d1 ∧ Blk1 (ltOf cf) 20 (a + 20) d1) := ⟨ST.size.trans I.out.1, Nat.dvd_add I.out.2.1 (Nat.dvd_refl _), I.out.2.2.1.trans (ST.mono (Nat.zero_le _) hlt), I.out.2.2.2.step I.out.2.1 ST SO'⟩; clear SO')
      go_roundg (n - (a + 20))
      case measure => omega
      case rel => exact ⟨a + 20, d1, by go_num, by go_num, hlt, Nat.le_refl _, S2, I2⟩
    · have hltz : ¬ ((a + 20 : Nat) : Int) ≤ (n : Int) := by omega
      have hc := INS.out a n dk wr I.out.1 S1.out (by omega) (by omega)
      clear S1
      go_wp2_with fail
      refine hc.mono ?_
      rintro _ w1 ⟨rfl, d1, ⟨ST, SO'⟩, S2⟩
      have I2 : Aside (d1.size = n ∧ Stb (ltOf cf) 0 n d0 d1 ∧ Blk (ltOf cf) 20 n d1) := ⟨ST.size.trans I.out.1, I.out.2.2.1.trans (ST.mono (Nat.zero_le _) (Nat.le_refl _)), I.out.2.2.2.last I.out.2.1 (by omega) ST SO'⟩
      clear SO' I hc INS
      go_wp2
      go_loopg [6, 7, 8, 9] n (fun kx s6 _ _ _ wr => ∃ (s : Nat) (dk : Array α), s6 = .int .i64 s ∧ 0 < s ∧ s ≤ 2 * n + 20 ∧ n - s ≤ kx ∧ Aside (SWK enc k w0 blk off dk wr) ∧ Aside (dk.size = n ∧ Stb (ltOf cf) 0 n d0 dk ∧ Blk (ltOf cf) s n dk))
      case atStart => exact ⟨20, d1, rfl, by omega, by omega, by omega, S2, I2⟩
      case round =>
        clear S2 I2
        obtain ⟨s, dk, rfl, hs0, hs1, hkx2, S1, I⟩ := hrel
        by_cases hsn : s < n
        · have hsnz : (s : Int) < (n : Int) := by omega
          go_wp2
          go_loopg [7, 8] n (fun kx s7 s8 wr => ∃ (a : Nat) (dk : Array α), s7 = .int .i64 a ∧ s8 = .int .i64 (a + 2 * s : Nat) ∧ a ≤ n ∧ n - a ≤ kx ∧ Aside (SWK enc k w0 blk off dk wr) ∧ Aside (dk.size = n ∧ 2 * s ∣ a ∧ Stb (ltOf cf) 0 n d0 dk ∧ Blk2 (ltOf cf) s a n dk))
          case atStart => exact ⟨0, dk, rfl, by go_num, Nat.zero_le _, Nat.le_refl _, S1, (⟨I.out.1, Nat.dvd_zero _, I.out.2.1, Blk2.start I.out.2.2⟩ : _ ∧ _ ∧ _ ∧ _)⟩
          case round =>
            clear S1 I
            obtain ⟨a, dk, rfl, rfl, han, hkx3, S1, I⟩ := hrel
            by_cases hlt : a + 2 * s ≤ n
            · have hltz : ((a + 2 * s : Nat) : Int) ≤ (n : Int) := by omega
              have pp := I.out.2.2.2.parts (b := a + 2 * s) I.out.2.1 hlt (by omega) (by omega)
              have hc := MRG.out a (a + s) (a + 2 * s) dk wr I.out.1 S1.out (by omega) (by omega) hlt pp.1 pp.2
              clear S1 pp
              rw [show ((a + s : Nat) : Int) = (a : Int) + (s : Int) by omega] at hc
              go_wp2_with fail
              refine hc.mono ?_
              rintro _ w2 ⟨rfl, d2, ⟨ST, SO'⟩, S2⟩
              have I2 : Aside (d2.size = n ∧ 2 * s ∣ a + 2 * s ∧ Stb (ltOf cf) 0 n d0 d2 ∧ Blk2 (ltOf cf) s (a + 2 * s) n d2) := ⟨ST.size.trans I.out.1, Nat.dvd_add I.out.2.1 (Nat.dvd_refl _), I.out.2.2.1.trans (ST.mono (Nat.zero_le _) hlt), I.out.2.2.2.step I.out.2.1 ST SO'⟩
              clear SO' I hc
              go_wp2
              go_roundg (n - (a + 2 * s))
              case measure => omega
              case rel => exact ⟨a + 2 * s, d2, by first | rfl | go_num | (congr 1; omega), by first | rfl | go_num | (congr 1; omega), hlt, Nat.le_refl _, S2, I2⟩
            · have hltz : ¬ ((a + 2 * s : Nat) : Int) ≤ (n : Int) := by omega
              by_cases hmn : a + s < n
              · have hmnz : (a : Int) + (s : Int) < (n : Int) := by omega
                have pp := I.out.2.2.2.parts (b := n) I.out.2.1 (Nat.le_refl _) (by omega) (by omega)
                have hc := MRG.out a (a + s) n dk wr I.out.1 S1.out (by omega) hmn (Nat.le_refl _) pp.1 pp.2
                clear S1 pp
                rw [show ((a + s : Nat) : Int) = (a : Int) + (s : Int) by omega] at hc
                go_wp2_with fail
                refine hc.mono ?_
                rintro _ w2 ⟨rfl, d2, ⟨ST, SO'⟩, S2⟩
                have I2 : Aside (d2.size = n ∧ Stb (ltOf cf) 0 n d0 d2 ∧ Blk (ltOf cf) (2 * s) n d2) := ⟨ST.size.trans I.out.1, I.out.2.2.1.trans (ST.mono (Nat.zero_le _) (Nat.le_refl _)), I.out.2.2.2.last I.out.2.1 (by omega) ST SO'⟩
                clear SO' I hc
                go_wp2
                go_roundg (n - 2 * s)
                case measure => omega
                case rel => exact ⟨2 * s, d2, by first | rfl | go_num | (congr 1; omega), by omega, by omega, Nat.le_refl _, S2, I2⟩
              · have hmnz : ¬ (a : Int) + (s : Int) < (n : Int) := by omega
                have I2 : Aside (dk.size = n ∧ Stb (ltOf cf) 0 n d0 dk ∧ Blk (ltOf cf) (2 * s) n dk) := ⟨I.out.1, I.out.2.2.1, I.out.2.2.2.last I.out.2.1 (by omega) (Stb.refl _ _ _ _) (I.out.2.2.2.short I.out.2.1 (by omega))⟩
                clear I
                go_wp2
                go_roundg (n - 2 * s)
                case measure => omega
                case rel => exact ⟨2 * s, dk, by first | rfl | go_num | (congr 1; omega), by omega, by omega, Nat.le_refl _, S1, I2⟩
        · have hsnz : ¬ (s : Int) < (n : Int) := by omega
          have DONE : Stb (ltOf cf) 0 n d0 dk ∧ SortedIn (ltOf cf) 0 n dk := ⟨I.out.2.1, sin_sub (I.out.2.2 0 (Nat.dvd_zero _)) (Nat.le_refl _) (by omega)⟩
          have D : Aside _ := DONE
          clear DONE I
          go_wp2
          go_end0
          exact ⟨rfl, dk, D.out, S1.out⟩

set_option maxHeartbeats 1000000 in
theorem sortStable_any (L : Srt P k) (R : RowK enc k w0 blk off d0) (cf : α → α → Int) (hO : SWO (ltOf cf)) (g : Nat) (cb : Array Value) (eg : ∀ args w, (callFunc g args).run P w = .ok (.enter g args) w) (hcmp : CmpLays P g cb enc k cf blk off d0.size w0)
    (cap n : Nat) (hn : d0.size = n) (hsz : n ≤ 1000000) :
    Calls P 24 #[.slice (some ⟨blk, off, none⟩) n cap, .func (.func g) #[] cb] w0 fun e w' => e = .returned (.tuple #[]) ∧ ∃ d', (Stb (ltOf cf) 0 n d0 d' ∧ SortedIn (ltOf cf) 0 n d') ∧ SWK enc k w0 blk off d' w' := by
  have mixed := L.mixed; have t0 := L.t0; have a0 := L.a0; have z0 := L.z0; have v0 := L.v0; have t3 := L.t3; have a3 := L.a3; have z3 := L.z3; have v3 := L.v3; have t4 := L.t4; have a4 := L.a4; have z4 := L.z4; have v4 := L.v4; have t22 := L.t22; have a22 := L.a22; have z22 := L.z22; have v22 := L.v22; have t50 := L.t50; have a50 := L.a50; have z50 := L.z50; have v50 := L.v50; have t63 := L.t63; have a63 := L.a63; have z63 := L.z63; have v63 := L.v63
  have aE := L.aE; have zE := L.zE
  have e35 : ∀ args w, (callFunc 35 args).run P w = .ok (.enter 35 args) w := enters_of L.f35 (by kernel_rfl) rfl
  have FG := L.f24
  have hc := stable_any L R cf hO g cb eg hcmp cap n hn hsz
  clear hn hcmp
  go_enter FG, Try.ntmps24
  go_wp2_with fail
  refine hc.mono ?_
  rintro _ w1 ⟨rfl, d1, D', S2⟩
  have D : Aside _ := D'
  clear D' hc
  go_wp2
  go_end0
  exact ⟨rfl, d1, D.out, S2⟩

set_option maxHeartbeats 1000000 in
theorem insertion_none (L : Srt P k) (p : Option Addr) (cap : Nat) (fv : Value) (w : World) : Calls P 39 #[.slice p 0 cap, .int .i64 0, .int .i64 0, fv] w fun e w' => e = .returned (.tuple #[]) ∧ w = w' := by
  have mixed := L.mixed; have t0 := L.t0; have a0 := L.a0; have z0 := L.z0; have v0 := L.v0; have t3 := L.t3; have a3 := L.a3; have z3 := L.z3; have v3 := L.v3; have t4 := L.t4; have a4 := L.a4; have z4 := L.z4; have v4 := L.v4; have t22 := L.t22; have a22 := L.a22; have z22 := L.z22; have v22 := L.v22; have t50 := L.t50; have a50 := L.a50; have z50 := L.z50; have v50 := L.v50; have t63 := L.t63; have a63 := L.a63; have z63 := L.z63; have v63 := L.v63
  have aE := L.aE; have zE := L.zE
  obtain ⟨_, _, F20⟩ := L.ins.f20
  go_enter F20, SlBodyF.n20_ntmps ren20
  go_wp2
  go_loopg [8] 0 (fun _ s8 wr => s8 = .int .i64 1 ∧ w = wr)
  case atStart => exact ⟨rfl, rfl⟩
  case round =>
    obtain ⟨rfl, rfl⟩ := hrel
    go_wp2
    go_end0
    exact ⟨rfl, rfl⟩

set_option maxHeartbeats 1000000 in
theorem stable_none (L : Srt P k) (p : Option Addr) (cap : Nat) (fv : Value) (w : World) : Calls P 35 #[.slice p 0 cap, .int .i64 0, fv] w fun e w' => e = .returned (.tuple #[]) ∧ w = w' := by
  have mixed := L.mixed; have t0 := L.t0; have a0 := L.a0; have z0 := L.z0; have v0 := L.v0; have t3 := L.t3; have a3 := L.a3; have z3 := L.z3; have v3 := L.v3; have t4 := L.t4; have a4 := L.a4; have z4 := L.z4; have v4 := L.v4; have t22 := L.t22; have a22 := L.a22; have z22 := L.z22; have v22 := L.v22; have t50 := L.t50; have a50 := L.a50; have z50 := L.z50; have v50 := L.v50; have t63 := L.t63; have a63 := L.a63; have z63 := L.z63; have v63 := L.v63
  have aE := L.aE; have zE := L.zE
  have e39 : ∀ args w, (callFunc 39 args).run P w = .ok (.enter 39 args) w := L.ins.f20.enters rfl
  have hc := insertion_none L p cap fv w
  go_enter L.f35, Try.ntmps35
  go_wp2
  go_loopg [7, 8] 0 (fun _ s7 s8 wr => s7 = .int .i64 0 ∧ s8 = .int .i64 20 ∧ w = wr)
  case atStart => exact ⟨rfl, rfl, rfl⟩
  case round =>
    obtain ⟨rfl, rfl, rfl⟩ := hrel
    go_wp2_with fail
    refine hc.mono ?_
    rintro _ w1 ⟨rfl, rfl⟩
    go_wp2
    go_loopg [6, 7, 8, 9] 0 (fun _ s6 _ _ _ wr => s6 = .int .i64 20 ∧ w = wr)
    case atStart => exact ⟨rfl, rfl⟩
    case round =>
      obtain ⟨rfl, rfl⟩ := hrel
      go_wp2
      go_end0
      exact ⟨rfl, rfl⟩

set_option maxHeartbeats 1000000 in
/-- Of no elements, a nil slice too: nothing turns. -/
theorem sortStable_none (L : Srt P k) (p : Option Addr) (cap : Nat) (fv : Value) (w : World) : Calls P 24 #[.slice p 0 cap, fv] w fun e w' => e = .returned (.tuple #[]) ∧ w = w' := by
  have mixed := L.mixed; have t0 := L.t0; have a0 := L.a0; have z0 := L.z0; have v0 := L.v0; have t3 := L.t3; have a3 := L.a3; have z3 := L.z3; have v3 := L.v3; have t4 := L.t4; have a4 := L.a4; have z4 := L.z4; have v4 := L.v4; have t22 := L.t22; have a22 := L.a22; have z22 := L.z22; have v22 := L.v22; have t50 := L.t50; have a50 := L.a50; have z50 := L.z50; have v50 := L.v50; have t63 := L.t63; have a63 := L.a63; have z63 := L.z63; have v63 := L.v63
  have aE := L.aE; have zE := L.zE
  have e35 : ∀ args w, (callFunc 35 args).run P w = .ok (.enter 35 args) w := enters_of L.f35 (by kernel_rfl) rfl
  have hc := stable_none L p cap fv w
  go_enter L.f24, Try.ntmps24
  go_wp2_with fail
  refine hc.mono ?_
  rintro _ w1 ⟨rfl, rfl⟩
  go_wp2
  go_end0
  exact ⟨rfl, rfl⟩

end Go.Proofs.Ytdjdflannedkbaa
