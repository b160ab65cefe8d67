/- The program's Of, covers, Last, Le as plain lists. No program. -/
import Derived.Test.YtblndpfgfakdeaaDtPure
import Derived.Test.YtblndpfgfakdeaaDtLast
namespace Go.Proofs.Ytblndpfgfakdeaa.Dt

/-! Of: runs of one dot, as they begin, joined. -/
structure OI (S : List Rn) (k : Nat) (rs : List Rn) : Prop where
  may : MayV rs
  has : ∀ d n, Has rs d n ↔ Has (S.take k) d n
  beg : ∀ s ∈ rs, ∀ x ∈ S.drop k, Beg s x
  len : rs.length ≤ k
theorem OI.start (S : List Rn) : OI S 0 [] := ⟨mayV_nil, fun d n => (by simp), fun s hs => (by cases hs), Nat.zero_le _⟩
theorem OI.step {S rs : List Rn} {k : Nat} {r : Rn} (h : OI S k rs) (ho : ∀ x ∈ S, Ok x) (hs : S.Pairwise Beg) (hr : S[k]? = some r) : OI S (k + 1) (jn rs r) := by
  obtain ⟨h1, h2, h3⟩ := jn_spec h.may (ho r (List.mem_of_getElem? hr)) fun s hs => h.beg s hs r ((drop_mem hr r).2 (.inl rfl))
  have hk : k < S.length := (List.getElem?_eq_some_iff.1 hr).1
  have hp : (S.drop k).Pairwise Beg := hs.sublist (List.drop_sublist k S)
  rw [List.drop_eq_getElem_cons hk, (List.getElem?_eq_some_iff.1 hr).2] at hp
  refine ⟨h1, fun d n => ?_, fun s hs x hx => (h3 s hs).trans ((List.pairwise_cons.1 hp).1 x hx), ?_⟩
  · rw [h2, h.has, has_more hr]
  · have := (jn_len rs r).1; have := h.len; omega
/-- The dots that may stand in a run, each as a run. -/
def singles : List (Int × Int) → List Rn
  | [] => []
  | (d, n) :: l => if Ok ⟨d, n, n⟩ then ⟨d, n, n⟩ :: singles l else singles l
theorem singles_snoc (x : Int × Int) : ∀ l : List (Int × Int), singles (l ++ [x]) = if Ok ⟨x.1, x.2, x.2⟩ then singles l ++ [⟨x.1, x.2, x.2⟩] else singles l
  | [] => by rw [List.nil_append]; show (if Ok ⟨x.1, x.2, x.2⟩ then _ else _) = _; split <;> rfl
  | (d, n) :: l => by
    rw [List.cons_append, singles, singles, singles_snoc x l]
    split <;> split <;> rfl
theorem singles_more {l : List (Int × Int)} {k : Nat} {x : Int × Int} (h : l[k]? = some x) : singles (l.take (k + 1)) = if Ok ⟨x.1, x.2, x.2⟩ then singles (l.take k) ++ [⟨x.1, x.2, x.2⟩] else singles (l.take k) := by
  rw [List.take_add_one, h]; exact singles_snoc x _
theorem singles_ok : ∀ (l : List (Int × Int)), ∀ r ∈ singles l, Ok r
  | [], r, h => by cases h
  | (d, n) :: l, r, h => by
    rw [singles] at h
    by_cases e : Ok ⟨d, n, n⟩
    · rw [if_pos e] at h
      rcases List.mem_cons.1 h with h | h
      · rw [h]; exact e
      · exact singles_ok l r h
    · rw [if_neg e] at h; exact singles_ok l r h
theorem singles_len : ∀ (l : List (Int × Int)), (singles l).length ≤ l.length
  | [] => Nat.le_refl _
  | (d, n) :: l => by
    rw [singles]
    have := singles_len l
    split
    · simp; omega
    · simp; omega
theorem singles_has : ∀ (l : List (Int × Int)) (d n : Int), Has (singles l) d n ↔ (d, n) ∈ l ∧ Ok ⟨d, n, n⟩
  | [], d, n => ⟨fun h => absurd h (has_nil _ _), fun h => by cases h.1⟩
  | (e, m) :: l, d, n => by
    rw [singles]
    have one : ∀ d n, In ⟨e, m, m⟩ d n ↔ d = e ∧ n = m := fun d n => by show (e = d ∧ m ≤ n ∧ n ≤ m) ↔ _; omega
    by_cases h : Ok ⟨e, m, m⟩
    · rw [if_pos h, has_cons, singles_has l, one, List.mem_cons]
      constructor
      · rintro (⟨rfl, rfl⟩ | ⟨k, ko⟩)
        · exact ⟨.inl rfl, h⟩
        · exact ⟨.inr k, ko⟩
      · rintro ⟨k | k, ko⟩
        · cases k; exact .inl ⟨rfl, rfl⟩
        · exact .inr ⟨k, ko⟩
    · rw [if_neg h, singles_has l, List.mem_cons]
      constructor
      · rintro ⟨k, ko⟩; exact ⟨.inr k, ko⟩
      · rintro ⟨k | k, ko⟩
        · cases k; exact absurd ko h
        · exact ⟨k, ko⟩
theorem OI.fin {S rs : List Rn} {k : Nat} {l : List (Int × Int)} (h : OI S k rs) (hm : ∀ r, r ∈ S ↔ r ∈ singles l) (hk : S.length ≤ k) : rs.reverse = ofR [] l :=
  is_of h.may.may fun d n => by
    rw [has_reverse, h.has, take_all hk, ← singles_has]
    exact ⟨fun ⟨x, hx, hi⟩ => ⟨x, (hm x).1 hx, hi⟩, fun ⟨x, hx, hi⟩ => ⟨x, (hm x).2 hx, hi⟩⟩

/-! Where a search ends. -/
theorem count_mono (p : Nat → Bool) : ∀ n, (∀ a b, a ≤ b → b < n → p a = true → p b = true) → (List.range n).countP (fun i => !p i) ≤ n ∧ (∀ k, k < (List.range n).countP (fun i => !p i) → p k = false) ∧ ∀ k, (List.range n).countP (fun i => !p i) ≤ k → k < n → p k = true
  | 0, _ => ⟨by simp, fun k hk => by simp at hk, fun k _ hk => by omega⟩
  | n + 1, h => by
    obtain ⟨h1, h2, h3⟩ := count_mono p n fun a b hab hb => h a b hab (by omega)
    rw [List.range_succ, List.countP_append]
    generalize (List.range n).countP (fun i => !p i) = c at *
    cases hp : p n with
    | true =>
      have e : [n].countP (fun i => !p i) = 0 := by simp [hp]
      rw [e]
      refine ⟨by omega, h2, fun k hk hn => ?_⟩
      by_cases hkn : k = n
      · rw [hkn]; exact hp
      · exact h3 k hk (by omega)
    | false =>
      have e : [n].countP (fun i => !p i) = 1 := by simp [hp]
      have hc : c = n := by
        by_cases hlt : c < n
        · have := h c n (Nat.le_of_lt hlt) (by omega) (h3 c (Nat.le_refl _) hlt)
          rw [hp] at this; cases this
        · omega
      rw [e, hc]
      refine ⟨Nat.le_refl _, fun k hk => ?_, fun k hk hn => by omega⟩
      by_cases hkn : k = n
      · rw [hkn]; exact hp
      · exact h2 k (by omega)

/-! covers. -/
def Cov (r x : Rn) : Prop := x.d = r.d ∧ x.f ≤ r.f ∧ r.t ≤ x.t
instance (r x : Rn) : Decidable (Cov r x) := inferInstanceAs (Decidable (x.d = r.d ∧ x.f ≤ r.f ∧ r.t ≤ x.t))
def covB (l : List Rn) (r : Rn) : Bool := l.any fun x => decide (Cov r x)
theorem covB_iff (l : List Rn) (r : Rn) : covB l r = true ↔ ∃ x ∈ l, Cov r x := by
  unfold covB; rw [List.any_eq_true]; simp only [decide_eq_true_eq]
/-- Is it not ahead? Of the run at a place. -/
def notAhd (l : List Rn) (r : Rn) (i : Nat) : Bool := match l[i]? with | some x => !decide (Ahd x r) | none => true
theorem notAhd_mono {l : List Rn} (h : May l) (r : Rn) : ∀ a b, a ≤ b → b < l.length → notAhd l r a = true → notAhd l r b = true := fun a b hab hb ha => by
  by_cases e : a = b
  · rw [← e]; exact ha
  · obtain ⟨x, hx⟩ : ∃ x, l[a]? = some x := ⟨_, List.getElem?_eq_getElem (by omega)⟩
    obtain ⟨y, hy⟩ : ∃ y, l[b]? = some y := ⟨_, List.getElem?_eq_getElem hb⟩
    unfold notAhd at *
    rw [hx] at ha
    rw [hy]
    simp only [Bool.not_eq_true', decide_eq_false_iff_not] at ha ⊢
    have hb2 := h.behind hx y (List.mem_iff_getElem?.2 ⟨b - (a + 1), by rw [List.getElem?_drop, show a + 1 + (b - (a + 1)) = b by omega]; exact hy⟩)
    obtain ⟨_, _, _, k4, _⟩ := h.get hy
    unfold Ahd at *
    unfold Bef at hb2
    omega
theorem cov_at {l : List Rn} (h : May l) {r : Rn} (hr : r.f ≤ r.t) {i : Nat} (h1 : ∀ k, k < i → notAhd l r k = false) (h2 : i < l.length → notAhd l r i = true) : covB l r = match l[i]? with | some x => decide (Cov r x) | none => false := by
  have key : ∀ x ∈ l, Cov r x → l[i]? = some x := fun x hx hc => by
    obtain ⟨k, hk⟩ := List.getElem?_of_mem hx
    obtain ⟨c1, c2, c3⟩ := hc
    have hkl : k < l.length := (List.getElem?_eq_some_iff.1 hk).1
    by_cases hki : k < i
    · have := h1 k hki
      unfold notAhd at this
      rw [hk] at this
      simp only [Bool.not_eq_false', decide_eq_true_eq] at this
      unfold Ahd at this; omega
    · by_cases hik : i < k
      · obtain ⟨y, hy⟩ : ∃ y, l[i]? = some y := ⟨_, List.getElem?_eq_getElem (by omega)⟩
        have h3 := h2 (by omega)
        unfold notAhd at h3
        rw [hy] at h3
        simp only [Bool.not_eq_true', decide_eq_false_iff_not] at h3
        have hb2 := h.behind hy x (List.mem_iff_getElem?.2 ⟨k - (i + 1), by rw [List.getElem?_drop, show i + 1 + (k - (i + 1)) = k by omega]; exact hk⟩)
        unfold Ahd at h3; unfold Bef at hb2; omega
      · rw [show i = k by omega]; exact hk
  cases hi : l[i]? with
  | none =>
    show covB l r = false
    rw [Bool.eq_false_iff, ne_eq, covB_iff]
    rintro ⟨x, hx, hc⟩
    have := key x hx hc
    rw [hi] at this; cases this
  | some y =>
    show covB l r = decide (Cov r y)
    rw [Bool.eq_iff_iff, covB_iff, decide_eq_true_eq]
    constructor
    · rintro ⟨x, hx, hc⟩
      have := key x hx hc
      rw [hi] at this
      cases this; exact hc
    · intro hc; exact ⟨y, List.mem_of_getElem? hi, hc⟩
theorem cov_one (l : List Rn) (d n : Int) : covB l ⟨d, n, n⟩ = hasB l d n := by
  rw [Bool.eq_iff_iff, covB_iff, hasB_iff]
  rfl

/-! Le. -/
def leB (a b : List Rn) : Bool := a.all fun r => covB b r
/-- Two dots side by side in one set are in one run. -/
theorem next_in {b : List Rn} (hb : May b) {x : Rn} (hx : x ∈ b) {n : Int} (h1 : In x x.d n) (h2 : Has b x.d (n + 1)) : In x x.d (n + 1) := by
  obtain ⟨y, hy, y1, y2, y3⟩ := h2
  obtain ⟨_, x2, x3⟩ := h1
  obtain ⟨i, hi⟩ := List.getElem?_of_mem hx
  obtain ⟨k, hk⟩ := List.getElem?_of_mem hy
  have hkl : k < b.length := (List.getElem?_eq_some_iff.1 hk).1
  have hil : i < b.length := (List.getElem?_eq_some_iff.1 hi).1
  by_cases e : i = k
  · rw [e, hk] at hi; cases hi; exact ⟨rfl, y2, y3⟩
  · by_cases hlt : i < k
    · have := hb.behind hi y (List.mem_iff_getElem?.2 ⟨k - (i + 1), by rw [List.getElem?_drop, show i + 1 + (k - (i + 1)) = k by omega]; exact hk⟩)
      unfold Bef at this
      by_cases hn : n + 1 ≤ x.t
      · exact ⟨rfl, by omega, hn⟩
      · omega
    · have := hb.behind hk x (List.mem_iff_getElem?.2 ⟨i - (k + 1), by rw [List.getElem?_drop, show k + 1 + (i - (k + 1)) = i by omega]; exact hi⟩)
      unfold Bef at this
      omega
theorem leB_iff {a b : List Rn} (ha : May a) (hb : May b) : leB a b = true ↔ ∀ d n, Has a d n → Has b d n := by
  unfold leB
  rw [List.all_eq_true]
  constructor
  · rintro h d n ⟨r, hr, r1, r2, r3⟩
    obtain ⟨x, hx, c1, c2, c3⟩ := (covB_iff _ _).1 (h r hr)
    exact ⟨x, hx, by omega, by omega, by omega⟩
  · intro h r hr
    rw [covB_iff]
    obtain ⟨_, _, _, k4, _⟩ := ha.1 r hr
    obtain ⟨x, hx, x1, x2, x3⟩ := h r.d r.f ⟨r, hr, rfl, Int.le_refl _, k4⟩
    refine ⟨x, hx, x1, x2, ?_⟩
    have go : ∀ k : Nat, r.f + (k : Int) ≤ r.t → In x x.d (r.f + (k : Int)) := by
      intro k
      induction k with
      | zero => intro _; exact ⟨rfl, by omega, by omega⟩
      | succ k ih =>
        intro hk
        have h1 := ih (by omega)
        have h2 := next_in hb hx h1 (by rw [x1]; exact h r.d (r.f + (k : Int) + 1) ⟨r, hr, rfl, by omega, by omega⟩)
        rw [show r.f + ((k + 1 : Nat) : Int) = r.f + (k : Int) + 1 by omega]
        exact h2
    have := go (r.t - r.f).toNat (by omega)
    obtain ⟨_, _, j3⟩ := this
    omega
theorem minus_nil {a b : List Rn} (ha : May a) (hb : May b) : ((minusR a b).length = 0) ↔ leB a b = true := by
  rw [leB_iff ha hb]
  constructor
  · intro h d n hh
    by_cases hn : Has b d n
    · exact hn
    · have := (minus_has ha hb d n).2 ⟨hh, hn⟩
      rw [List.eq_nil_of_length_eq_zero h] at this
      exact absurd this (has_nil _ _)
  · intro h
    cases hm : minusR a b with
    | nil => rfl
    | cons r l =>
      have hh : Has (minusR a b) r.d r.f := by rw [hm]; exact has_first (hm ▸ minus_may ha hb)
      obtain ⟨k1, k2⟩ := (minus_has ha hb _ _).1 hh
      exact absurd (h _ _ k1) k2

/-! Last. -/
theorem lastR_spec (dev : Int) : ∀ (l : List Rn) (m : Int), m ≤ lastR dev l m ∧ (∀ r ∈ l, r.d = dev → r.t ≤ lastR dev l m) ∧ (lastR dev l m = m ∨ ∃ r ∈ l, r.d = dev ∧ lastR dev l m = r.t)
  | [], m => ⟨Int.le_refl _, fun r h => (by cases h), .inl rfl⟩
  | x :: l, m => by
    rw [lastR]
    obtain ⟨h1, h2, h3⟩ := lastR_spec dev l (if x.d = dev then max m x.t else m)
    generalize lastR dev l (if x.d = dev then max m x.t else m) = z at *
    by_cases e : x.d = dev
    · rw [if_pos e] at h1 h3
      refine ⟨by omega, fun r hr hd => ?_, ?_⟩
      · rcases List.mem_cons.1 hr with hr | hr
        · rw [hr]; omega
        · exact h2 r hr hd
      · rcases h3 with h3 | ⟨r, hr, hd, h3⟩
        · by_cases hm : m ≤ x.t
          · exact .inr ⟨x, by simp, e, by omega⟩
          · exact .inl (by omega)
        · exact .inr ⟨r, by simp [hr], hd, h3⟩
    · rw [if_neg e] at h1 h3
      refine ⟨h1, fun r hr hd => ?_, ?_⟩
      · rcases List.mem_cons.1 hr with hr | hr
        · rw [hr] at hd; exact absurd hd e
        · exact h2 r hr hd
      · rcases h3 with h3 | ⟨r, hr, hd, h3⟩
        · exact .inl h3
        · exact .inr ⟨r, by simp [hr], hd, h3⟩
/-- Is the device greater? Of the run at a place. -/
def gtDev (l : List Rn) (dev : Int) (i : Nat) : Bool := match l[i]? with | some x => decide (dev < x.d) | none => true
theorem gtDev_mono {l : List Rn} (h : May l) (dev : Int) : ∀ a b, a ≤ b → b < l.length → gtDev l dev a = true → gtDev l dev b = true := fun a b hab hb ha => by
  by_cases e : a = b
  · rw [← e]; exact ha
  · obtain ⟨x, hx⟩ : ∃ x, l[a]? = some x := ⟨_, List.getElem?_eq_getElem (by omega)⟩
    obtain ⟨y, hy⟩ : ∃ y, l[b]? = some y := ⟨_, List.getElem?_eq_getElem hb⟩
    unfold gtDev at *
    rw [hx] at ha
    rw [hy]
    simp only [decide_eq_true_eq] at ha ⊢
    have hb2 := h.behind hx y (List.mem_iff_getElem?.2 ⟨b - (a + 1), by rw [List.getElem?_drop, show a + 1 + (b - (a + 1)) = b by omega]; exact hy⟩)
    unfold Bef at hb2
    omega
theorem last_none {l : List Rn} {dev : Int} (h : ∀ r ∈ l, r.d ≠ dev) : lastR dev l 0 = 0 := by
  rcases (lastR_spec dev l 0).2.2 with h1 | ⟨r, hr, hd, _⟩
  · exact h1
  · exact absurd hd (h r hr)
/-- The run ahead of the first of a greater device. -/
theorem last_at {l : List Rn} (h : May l) {dev : Int} {i : Nat} {x : Rn} (h2 : ∀ k, i + 1 ≤ k → k < l.length → gtDev l dev k = true) (hx : l[i]? = some x) (hle : x.d ≤ dev) : lastR dev l 0 = if x.d = dev then x.t else 0 := by
  have key : ∀ r ∈ l, r.d = dev → x.d = dev ∧ r.t ≤ x.t := fun r hr hd => by
    obtain ⟨k, hk⟩ := List.getElem?_of_mem hr
    have hkl : k < l.length := (List.getElem?_eq_some_iff.1 hk).1
    have hil : i < l.length := (List.getElem?_eq_some_iff.1 hx).1
    by_cases hik : i + 1 ≤ k
    · have := h2 k hik hkl
      unfold gtDev at this
      rw [hk] at this
      simp only [decide_eq_true_eq] at this
      omega
    · by_cases e : k = i
      · rw [e, hx] at hk; cases hk; exact ⟨hd, Int.le_refl _⟩
      · have hb2 := h.behind hk x (List.mem_iff_getElem?.2 ⟨i - (k + 1), by rw [List.getElem?_drop, show k + 1 + (i - (k + 1)) = i by omega]; exact hx⟩)
        obtain ⟨_, _, _, k4, _⟩ := h.get hx
        unfold Bef at hb2
        omega
  obtain ⟨_, _, k3, k4, _⟩ := h.get hx
  obtain ⟨s1, s2, s3⟩ := lastR_spec dev l 0
  by_cases e : x.d = dev
  · rw [if_pos e]
    have := s2 x (List.mem_of_getElem? hx) e
    rcases s3 with s3 | ⟨r, hr, hd, s3⟩
    · omega
    · have := (key r hr hd).2; omega
  · rw [if_neg e]
    exact last_none fun r hr hd => e (key r hr hd).1
end Go.Proofs.Ytblndpfgfakdeaa.Dt
