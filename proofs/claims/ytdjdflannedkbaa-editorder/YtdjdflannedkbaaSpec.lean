/-
  PROVED: plain facts on lists of edits: their order, the stable sort by insertion, what is wrong with them, what they make of a text, where an offset goes. Conditions: as each says; no program is named.
-/
import Derived.Test.YtdjdflannedkbaaStab
namespace Go.Proofs.Ytdjdflannedkbaa
open Go.Sort

/-- An edit. -/
structure Ed where
  f : Int
  t : Int
  x : ByteArray

instance : Inhabited Ed := ⟨⟨0, 0, ⟨#[]⟩⟩⟩

def ltE (a b : Ed) : Bool := decide (a.f < b.f) || (decide (a.f = b.f) && decide (a.t < b.t))

theorem ltE_iff (a b : Ed) : ltE a b = true ↔ a.f < b.f ∨ (a.f = b.f ∧ a.t < b.t) := by simp [ltE]
theorem ltE_not (a b : Ed) : ltE a b = false ↔ ¬ (a.f < b.f ∨ (a.f = b.f ∧ a.t < b.t)) := by
  rw [← ltE_iff]; cases ltE a b <;> simp

theorem swoE : SWO ltE where
  irrefl x := by rw [ltE_not]; omega
  trans x y z h1 h2 := by rw [ltE_iff] at *; omega
  ntrans x y z h1 h2 := by rw [ltE_not] at *; omega

/-- Neither is less: both numbers are the same. -/
theorem eqvE (a b : Ed) : eqv ltE a b = true ↔ a.f = b.f ∧ a.t = b.t := by
  unfold eqv
  rw [Bool.and_eq_true, Bool.not_eq_true', Bool.not_eq_true', ltE_not, ltE_not]; omega

/-! ### The sort by insertion -/
def insE (e : Ed) : List Ed → List Ed
  | [] => [e]
  | y :: r => if ltE e y then e :: y :: r else y :: insE e r

def srtOn (acc : List Ed) (es : List Ed) : List Ed := es.foldl (fun a e => insE e a) acc
def srtE (es : List Ed) : List Ed := srtOn [] es

theorem srtOn_cons (acc : List Ed) (e : Ed) (r : List Ed) : srtOn acc (e :: r) = srtOn (insE e acc) r := rfl

abbrev Asc (l : List Ed) : Prop := l.Pairwise fun x y => ltE y x = false

theorem insE_perm (e : Ed) : ∀ l, (insE e l).Perm (e :: l)
  | [] => List.Perm.refl _
  | y :: r => by
    unfold insE
    split
    · exact List.Perm.refl _
    · exact ((insE_perm e r).cons y).trans (List.Perm.swap e y r)

theorem insE_asc (e : Ed) : ∀ l, Asc l → Asc (insE e l)
  | [], _ => by simp [insE]
  | y :: r, h => by
    obtain ⟨h1, h2⟩ := List.pairwise_cons.1 h
    unfold insE
    split
    · rename_i hlt
      refine List.pairwise_cons.2 ⟨fun z hz => ?_, h⟩
      rcases List.mem_cons.1 hz with rfl | hz
      · exact swoE.asymmA hlt
      · exact swoE.ntrans _ _ _ (h1 z hz) (swoE.asymmA hlt)
    · rename_i hlt
      refine List.pairwise_cons.2 ⟨fun z hz => ?_, insE_asc e r h2⟩
      rcases List.mem_cons.1 ((insE_perm e r).mem_iff.1 hz) with rfl | hz
      · simpa using hlt
      · exact h1 z hz

theorem insE_flt (e x : Ed) : ∀ l, Asc l → (insE e l).filter (eqv ltE x) = l.filter (eqv ltE x) ++ [e].filter (eqv ltE x)
  | [], _ => by simp [insE]
  | y :: r, h => by
    obtain ⟨h1, h2⟩ := List.pairwise_cons.1 h
    unfold insE
    split
    · rename_i hlt
      have hall : ∀ z ∈ y :: r, ltE e z = true := fun z hz => by
        rcases List.mem_cons.1 hz with rfl | hz
        · exact hlt
        · exact lt_of' swoE hlt (h1 z hz)
      have := flt_two swoE (y :: r) [e] (fun u hu v hv => by simp at hv; subst hv; exact hall u hu) x
      rw [List.filter_append, List.filter_append] at this
      rw [show e :: y :: r = [e] ++ (y :: r) from rfl, List.filter_append]
      exact this
    · have ih := insE_flt e x r h2
      by_cases q : eqv ltE x y = true
      · rw [List.filter_cons_of_pos q, List.filter_cons_of_pos q, ih]; rfl
      · rw [List.filter_cons_of_neg q, List.filter_cons_of_neg q, ih]

theorem srtOn_asc : ∀ (es acc : List Ed), Asc acc → Asc (srtOn acc es)
  | [], _, h => h
  | e :: r, acc, h => srtOn_asc r (insE e acc) (insE_asc e acc h)
theorem srtOn_perm : ∀ (es acc : List Ed), (srtOn acc es).Perm (acc ++ es)
  | [], acc => by simp [srtOn]
  | e :: r, acc => by
    have h := srtOn_perm r (insE e acc)
    refine h.trans (((insE_perm e acc).append_right r).trans ?_)
    exact (List.perm_middle (l₁ := acc) (a := e) (l₂ := r)).symm
theorem srtOn_flt (x : Ed) : ∀ (es acc : List Ed), Asc acc → (srtOn acc es).filter (eqv ltE x) = acc.filter (eqv ltE x) ++ es.filter (eqv ltE x)
  | [], acc, _ => by simp [srtOn]
  | e :: r, acc, h => by
    rw [srtOn_cons, srtOn_flt x r _ (insE_asc e acc h), insE_flt e x acc h, List.append_assoc, ← List.filter_append]; rfl

theorem srt_asc (es : List Ed) : Asc (srtE es) := srtOn_asc es [] List.Pairwise.nil
theorem srt_perm (es : List Ed) : (srtE es).Perm es := by simpa [srtE] using srtOn_perm es []
theorem srt_flt (es : List Ed) (x : Ed) : (srtE es).filter (eqv ltE x) = es.filter (eqv ltE x) := by simpa [srtE] using srtOn_flt x es [] List.Pairwise.nil
theorem srt_len (es : List Ed) : (srtE es).length = es.length := (srt_perm es).length_eq

/-- What a stable sort makes is what the insertions make. -/
theorem srt_of_stb {es : List Ed} {d' : Array Ed} (h : Stb ltE 0 es.length es.toArray d') (hs : SortedIn ltE 0 es.length d') : d'.toList = srtE es := by
  have hz : d'.size = es.length := by simpa using h.size
  refine sorted_one swoE _ _ (sortedIn_pairwise (by rw [hz]; exact hs)) (srt_asc es) fun x => ?_
  rw [srt_flt, h.flt x]

/-- Of edits of unlike places the order in which they came makes no difference. -/
theorem srt_of_perm {es fs : List Ed} (h : es.Perm fs) (hu : ∀ x : Ed, (es.filter (eqv ltE x)).length ≤ 1) : srtE es = srtE fs := by
  refine sorted_one swoE _ _ (srt_asc es) (srt_asc fs) fun x => ?_
  rw [srt_flt, srt_flt]
  have hp := h.filter (eqv ltE x)
  have h1 := hu x
  match hA : es.filter (eqv ltE x), hB : fs.filter (eqv ltE x), hp with
  | [], l, hp => exact (List.nil_perm.1 hp).symm
  | [a], l, hp => exact List.singleton_perm.1 hp
  | a :: b :: r, l, hp => rw [hA] at h1; simp at h1

/-! ### What is wrong with edits -/
def inE (n : Nat) (e : Ed) : Bool := decide (0 ≤ e.f) && (decide (e.f ≤ e.t) && decide (e.t ≤ (n : Int)))
def apL : List Ed → Bool
  | a :: b :: r => decide (a.t ≤ b.f) && apL (b :: r)
  | _ => true
def chk (n : Nat) (es : List Ed) : Int := if es.all (inE n) = false then 20 else if apL (srtE es) = false then 21 else 0

theorem inE_iff (n : Nat) (e : Ed) : inE n e = true ↔ 0 ≤ e.f ∧ e.f ≤ e.t ∧ e.t ≤ n := by simp [inE]
theorem inE_not (n : Nat) (e : Ed) : inE n e = false ↔ ¬ (0 ≤ e.f ∧ e.f ≤ e.t ∧ e.t ≤ n) := by rw [← inE_iff]; cases inE n e <;> simp

theorem chk_ok {n : Nat} {es : List Ed} (h : chk n es = 0) : (∀ e ∈ es, 0 ≤ e.f ∧ e.f ≤ e.t ∧ e.t ≤ n) ∧ apL (srtE es) = true := by
  unfold chk at h
  split at h
  · cases h
  · split at h
    · cases h
    · rename_i h1 h2
      refine ⟨fun e he => (inE_iff n e).1 ?_, by simpa using h2⟩
      have : es.all (inE n) = true := by simpa using h1
      exact List.all_eq_true.1 this e he

theorem chk_cases (n : Nat) (es : List Ed) : chk n es = 0 ∨ chk n es = 20 ∨ chk n es = 21 := by
  unfold chk; split
  · exact Or.inr (Or.inl rfl)
  · split
    · exact Or.inr (Or.inr rfl)
    · exact Or.inl rfl

/-- The chain as pairs. -/
theorem apL_pairs : ∀ l : List Ed, (∀ e ∈ l, e.f ≤ e.t) → apL l = true → l.Pairwise fun a b => a.t ≤ b.f
  | [], _, _ => List.Pairwise.nil
  | [a], _, _ => List.pairwise_singleton _ _
  | a :: b :: r, hw, h => by
    simp only [apL, Bool.and_eq_true, decide_eq_true_eq] at h
    have ih := apL_pairs (b :: r) (fun e he => hw e (List.mem_cons_of_mem _ he)) h.2
    refine List.pairwise_cons.2 ⟨fun z hz => ?_, ih⟩
    rcases List.mem_cons.1 hz with rfl | hz
    · exact h.1
    · have h1 := (List.pairwise_cons.1 ih).1 z hz
      have h2 := hw b (by simp)
      omega

/-! ### What edits make of a text -/
def appL (s : List UInt8) : Nat → List Ed → List UInt8
  | k, [] => s.drop k
  | k, e :: r => (s.drop k).take (e.f.toNat - k) ++ (e.x.data.toList ++ appL s e.t.toNat r)
def app (s : ByteArray) (es : List Ed) : ByteArray := ⟨(appL s.data.toList 0 (srtE es)).toArray⟩

/-! ### Where an offset goes -/
def mvG (k : Int) (e : Ed) : Int := if e.t ≤ k then (e.x.size : Int) - (e.t - e.f) else if e.f < k then (e.x.size : Int) - (k - e.f) else 0
def mvS (k : Int) : List Ed → Int
  | [] => 0
  | e :: r => mvG k e + mvS k r
/-- What the edits that end ahead of an offset add. -/
def mvA (k : Int) : List Ed → Int
  | [] => 0
  | e :: r => (if e.t ≤ k then (e.x.size : Int) - (e.t - e.f) else 0) + mvA k r
def holdB (k : Int) (e : Ed) : Bool := decide (e.f < k) && decide (k < e.t)

theorem mvS_perm {k : Int} {l l' : List Ed} (h : l.Perm l') : mvS k l = mvS k l' := by
  induction h with
  | nil => rfl
  | cons a _ ih => simp [mvS, ih]
  | swap a b l => simp only [mvS]; omega
  | trans _ _ i1 i2 => exact i1.trans i2

theorem mvS_none {k : Int} : ∀ {l : List Ed}, (∀ e ∈ l, holdB k e = false) → mvS k l = mvA k l
  | [], _ => rfl
  | e :: r, h => by
    have h0 := h e (by simp)
    rw [mvS, mvA, mvS_none (fun a ha => h a (List.mem_cons_of_mem _ ha)), mvG]
    simp [holdB] at h0
    split
    · rfl
    · rw [if_neg (by omega)]

/-- One edit holds the offset. -/
theorem mvS_one {k : Int} : ∀ {l : List Ed} {e : Ed}, l.Pairwise (fun a b => ¬ (holdB k a = true ∧ holdB k b = true)) → e ∈ l → holdB k e = true → mvS k l = (e.x.size : Int) - (k - e.f) + mvA k l
  | [], _, _, h, _ => by cases h
  | a :: r, e, hp, he, hh => by
    obtain ⟨p1, p2⟩ := List.pairwise_cons.1 hp
    have q : holdB k e = true := hh
    simp [holdB] at q
    rcases List.mem_cons.1 he with rfl | he
    · rw [mvS, mvA, mvS_none (fun b hb => by cases hq : holdB k b with | false => rfl | true => exact absurd ⟨hh, hq⟩ (p1 b hb)), mvG, if_neg (by omega), if_pos q.1, if_neg (by omega)]; omega
    · have ha : holdB k a = false := by cases hq : holdB k a with | false => rfl | true => exact absurd ⟨hq, hh⟩ (p1 e he)
      rw [mvS, mvA, mvS_one p2 he hh]
      simp [holdB] at ha
      rw [mvG]
      split
      · omega
      · rw [if_neg (by omega)]; omega

theorem hold_pairs {n : Nat} {k : Int} {es : List Ed} (h : chk n es = 0) : es.Pairwise (fun a b => ¬ (holdB k a = true ∧ holdB k b = true)) := by
  obtain ⟨hw, ha⟩ := chk_ok h
  have hp := apL_pairs (srtE es) (fun e he => (hw e ((srt_perm es).mem_iff.1 he)).2.1) ha
  have hq : (srtE es).Pairwise (fun a b => ¬ (holdB k a = true ∧ holdB k b = true)) := hp.imp fun {a b} hab => by
    simp only [holdB, Bool.and_eq_true, decide_eq_true_eq]; omega
  exact (srt_perm es).pairwise hq (fun {a b} h1 h2 => h1 h2.symm)

end Go.Proofs.Ytdjdflannedkbaa
