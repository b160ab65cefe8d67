/- The program's ways with sets, as plain lists: a run joined to what lies behind; what is left of a run. No program. -/
import Derived.Test.YtblndpfgfakdeaaDtMix
namespace Go.Proofs.Ytblndpfgfakdeaa.Dt

instance (r s : Rn) : Decidable (Bef r s) := inferInstanceAs (Decidable (r.d < s.d ∨ (r.d = s.d ∧ r.t + 1 < s.f)))
/-- It begins nowhere behind. -/
def Beg (r s : Rn) : Prop := r.d < s.d ∨ (r.d = s.d ∧ r.f ≤ s.f)
/-- It ends ahead of where the other one begins. -/
def Ahd (r s : Rn) : Prop := r.d < s.d ∨ (r.d = s.d ∧ r.t < s.f)
instance (r s : Rn) : Decidable (Beg r s) := inferInstanceAs (Decidable (r.d < s.d ∨ (r.d = s.d ∧ r.f ≤ s.f)))
instance (r s : Rn) : Decidable (Ahd r s) := inferInstanceAs (Decidable (r.d < s.d ∨ (r.d = s.d ∧ r.t < s.f)))
theorem Beg.refl (r : Rn) : Beg r r := .inr ⟨rfl, Int.le_refl _⟩
theorem Beg.trans {r s u : Rn} (h : Beg r s) (k : Beg s u) : Beg r u := by unfold Beg at *; omega
theorem Bef.beg {r s : Rn} (ho : Ok r) (h : Bef r s) : Beg r s := by obtain ⟨_, _, _, _, _⟩ := ho; unfold Bef at h; unfold Beg; omega
theorem Bef.trans {r s u : Rn} (ho : Ok s) (h : Bef r s) (k : Bef s u) : Bef r u := by obtain ⟨_, _, _, _, _⟩ := ho; unfold Bef at *; omega

/-- They may be, the last one first. -/
def MayV (rs : List Rn) : Prop := (∀ r ∈ rs, Ok r) ∧ rs.Pairwise fun s r => Bef r s
theorem mayV_nil : MayV [] := ⟨fun _ h => (by cases h), List.Pairwise.nil⟩
theorem MayV.may {rs : List Rn} (h : MayV rs) : May rs.reverse := ⟨fun r hr => h.1 r (List.mem_reverse.1 hr), by rw [List.pairwise_reverse]; exact h.2⟩
theorem has_reverse (rs : List Rn) (d n : Int) : Has rs.reverse d n ↔ Has rs d n := by
  unfold Has; simp only [List.mem_reverse]
theorem MayV.snoc {s : Rn} {rs : List Rn} (h : MayV rs) (hs : Ok s) (hb : ∀ x ∈ rs, Bef x s) : MayV (s :: rs) :=
  ⟨fun r hr => by rcases List.mem_cons.1 hr with e | hr; · rw [e]; exact hs
                  · exact h.1 r hr, List.pairwise_cons.2 ⟨hb, h.2⟩⟩

/-- A run joined to what lies behind. -/
def jn (rs : List Rn) (r : Rn) : List Rn := match rs with
  | [] => [r]
  | s :: rs' => if Bef s r then r :: s :: rs' else ⟨s.d, s.f, if s.t < r.t then r.t else s.t⟩ :: rs'
theorem jn_len (rs : List Rn) (r : Rn) : (jn rs r).length ≤ rs.length + 1 ∧ 0 < (jn rs r).length := by
  unfold jn
  cases rs with
  | nil => simp
  | cons s rs => simp only []; split <;> simp
theorem jn_spec {rs : List Rn} {r : Rn} (h : MayV rs) (hr : Ok r) (hb : ∀ s ∈ rs, Beg s r) : MayV (jn rs r) ∧ (∀ d n, Has (jn rs r) d n ↔ Has rs d n ∨ In r d n) ∧ ∀ s ∈ jn rs r, Beg s r := by
  cases rs with
  | nil =>
    refine ⟨⟨fun x hx => ?_, List.pairwise_singleton _ _⟩, fun d n => ?_, fun x hx => ?_⟩
    · rw [List.mem_singleton.1 hx]; exact hr
    · show Has [r] d n ↔ _
      rw [has_cons]
      exact ⟨fun h => h.elim .inr (fun h => absurd h (has_nil _ _)), fun h => h.elim (fun h => absurd h (has_nil _ _)) .inl⟩
    · rw [List.mem_singleton.1 hx]; exact .refl r
  | cons s rs =>
    have hs : Ok s := h.1 s (by simp)
    have hp := List.pairwise_cons.1 h.2
    unfold jn
    simp only []
    by_cases e : Bef s r
    · rw [if_pos e]
      refine ⟨h.snoc hr fun x hx => ?_, fun d n => ?_, fun x hx => ?_⟩
      · rcases List.mem_cons.1 hx with hx | hx
        · rw [hx]; exact e
        · exact (hp.1 x hx).trans hs e
      · rw [has_cons]; exact Or.comm
      · rcases List.mem_cons.1 hx with hx | hx
        · rw [hx]; exact .refl r
        · exact hb x hx
    · rw [if_neg e]
      have hbs := hb s (by simp)
      obtain ⟨s1, s2, s3, s4, s5⟩ := hs
      obtain ⟨r1, r2, r3, r4, r5⟩ := hr
      have ed : s.d = r.d := by unfold Bef at e; unfold Beg at hbs; omega
      have e1 : s.f ≤ r.f := by unfold Beg at hbs; omega
      have e2 : r.f ≤ s.t + 1 := by unfold Bef at e; omega
      obtain ⟨t, ht⟩ : ∃ t, (if s.t < r.t then r.t else s.t) = t := ⟨_, rfl⟩
      rw [ht]
      have ht2 : s.t ≤ t ∧ r.t ≤ t ∧ (t = s.t ∨ t = r.t) := by rw [← ht]; split <;> omega
      refine ⟨⟨fun x hx => ?_, List.pairwise_cons.2 ⟨fun x hx => ?_, hp.2⟩⟩, fun d n => ?_, fun x hx => ?_⟩
      · rcases List.mem_cons.1 hx with hx | hx
        · rw [hx]; exact ⟨s1, s2, s3, by show s.f ≤ t; omega, by show t ≤ _; omega⟩
        · exact h.1 x (by simp [hx])
      · exact hp.1 x hx
      · rw [has_cons, has_cons]
        have key : In ⟨s.d, s.f, t⟩ d n ↔ In s d n ∨ In r d n := by
          show (s.d = d ∧ s.f ≤ n ∧ n ≤ t) ↔ (s.d = d ∧ s.f ≤ n ∧ n ≤ s.t) ∨ (r.d = d ∧ r.f ≤ n ∧ n ≤ r.t)
          omega
        rw [key]
        constructor
        · rintro ((h1 | h1) | h1)
          · exact .inl (.inl h1)
          · exact .inr h1
          · exact .inl (.inr h1)
        · rintro ((h1 | h1) | h1)
          · exact .inl (.inl h1)
          · exact .inr h1
          · exact .inl (.inr h1)
      · rcases List.mem_cons.1 hx with hx | hx
        · rw [hx]; exact .inr ⟨ed, e1⟩
        · exact hb x (by simp [hx])

/-! Parts of a list. -/
theorem has_more {l : List Rn} {i : Nat} {x : Rn} (h : l[i]? = some x) (d n : Int) : Has (l.take (i + 1)) d n ↔ Has (l.take i) d n ∨ In x d n := by
  rw [List.take_add_one, h]
  show Has (l.take i ++ [x]) d n ↔ _
  rw [has_append, has_cons]
  exact ⟨fun h => h.elim .inl fun h => h.elim .inr fun h => absurd h (has_nil _ _), fun h => h.elim .inl fun h => .inr (.inl h)⟩
theorem has_split (l : List Rn) (i : Nat) (d n : Int) : Has l d n ↔ Has (l.take i) d n ∨ Has (l.drop i) d n := by
  rw [← has_append, List.take_append_drop]
theorem drop_mem {l : List Rn} {i : Nat} {x : Rn} (h : l[i]? = some x) (y : Rn) : y ∈ l.drop i ↔ y = x ∨ y ∈ l.drop (i + 1) := by
  have hi : i < l.length := (List.getElem?_eq_some_iff.1 h).1
  rw [List.drop_eq_getElem_cons hi, (List.getElem?_eq_some_iff.1 h).2, List.mem_cons]
theorem May.behind {l : List Rn} {i : Nat} {x : Rn} (h : May l) (hx : l[i]? = some x) : ∀ y ∈ l.drop (i + 1), Bef x y := by
  have hi : i < l.length := (List.getElem?_eq_some_iff.1 hx).1
  have hp : (l.drop i).Pairwise Bef := h.2.sublist (List.drop_sublist i l)
  rw [List.drop_eq_getElem_cons hi, (List.getElem?_eq_some_iff.1 hx).2] at hp
  exact (List.pairwise_cons.1 hp).1
theorem May.get {l : List Rn} {i : Nat} {x : Rn} (h : May l) (hx : l[i]? = some x) : Ok x := h.1 x (List.mem_of_getElem? hx)
theorem May.okd {l : List Rn} {i : Nat} (h : May l) : ∀ y ∈ l.drop i, Ok y := fun y hy => h.1 y (List.mem_of_mem_drop hy)
theorem drop_all {l : List Rn} {i : Nat} (h : l.length ≤ i) : l.drop i = [] := List.drop_eq_nil_of_le h
theorem take_all {l : List Rn} {i : Nat} (h : l.length ≤ i) : l.take i = l := List.take_of_length_le h

/-! Union. -/
structure UI (a b : List Rn) (i j : Nat) (rs : List Rn) : Prop where
  may : MayV rs
  has : ∀ d n, Has rs d n ↔ Has (a.take i) d n ∨ Has (b.take j) d n
  bA : ∀ s ∈ rs, ∀ x ∈ a.drop i, Beg s x
  bB : ∀ s ∈ rs, ∀ x ∈ b.drop j, Beg s x
  len : rs.length ≤ i + j
theorem UI.start (a b : List Rn) : UI a b 0 0 [] := ⟨mayV_nil, fun d n => (by simp), fun s hs => (by cases hs), fun s hs => (by cases hs), Nat.zero_le _⟩
theorem UI.stepA {a b rs : List Rn} {i j : Nat} {r : Rn} (h : UI a b i j rs) (ha : May a) (hr : a[i]? = some r) (hb : ∀ x ∈ b.drop j, Beg r x) : UI a b (i + 1) j (jn rs r) := by
  have hbeg : ∀ s ∈ rs, Beg s r := fun s hs => h.bA s hs r ((drop_mem hr r).2 (.inl rfl))
  obtain ⟨h1, h2, h3⟩ := jn_spec h.may (ha.get hr) hbeg
  refine ⟨h1, fun d n => ?_, fun s hs x hx => ?_, fun s hs x hx => (h3 s hs).trans (hb x hx), ?_⟩
  · rw [h2, h.has, has_more hr]
    constructor
    · rintro ((k | k) | k)
      · exact .inl (.inl k)
      · exact .inr k
      · exact .inl (.inr k)
    · rintro ((k | k) | k)
      · exact .inl (.inl k)
      · exact .inr k
      · exact .inl (.inr k)
  · exact (h3 s hs).trans ((ha.behind hr x hx).beg (ha.get hr))
  · have := (jn_len rs r).1; have := h.len; omega
theorem UI.stepB {a b rs : List Rn} {i j : Nat} {r : Rn} (h : UI a b i j rs) (hb : May b) (hr : b[j]? = some r) (ha : ∀ x ∈ a.drop i, Beg r x) : UI a b i (j + 1) (jn rs r) := by
  have hbeg : ∀ s ∈ rs, Beg s r := fun s hs => h.bB s hs r ((drop_mem hr r).2 (.inl rfl))
  obtain ⟨h1, h2, h3⟩ := jn_spec h.may (hb.get hr) hbeg
  refine ⟨h1, fun d n => ?_, fun s hs x hx => (h3 s hs).trans (ha x hx), fun s hs x hx => ?_, ?_⟩
  · rw [h2, h.has, has_more hr]
    constructor
    · rintro ((k | k) | k)
      · exact .inl k
      · exact .inr (.inl k)
      · exact .inr (.inr k)
    · rintro (k | k | k)
      · exact .inl (.inl k)
      · exact .inl (.inr k)
      · exact .inr k
  · exact (h3 s hs).trans ((hb.behind hr x hx).beg (hb.get hr))
  · have := (jn_len rs r).1; have := h.len; omega
/-- What b has left begins behind r, if its first does. -/
theorem beg_all {b : List Rn} {j : Nat} {r y : Rn} (hb : May b) (hy : b[j]? = some y) (h : Beg r y) : ∀ x ∈ b.drop j, Beg r x := fun x hx => by
  rcases (drop_mem hy x).1 hx with e | hx
  · rw [e]; exact h
  · exact h.trans ((hb.behind hy x hx).beg (hb.get hy))
theorem UI.fin {a b rs : List Rn} {i j : Nat} (h : UI a b i j rs) (ha : May a) (hb : May b) (hi : a.length ≤ i) (hj : b.length ≤ j) : rs.reverse = unionR a b :=
  is_union ha hb h.may.may fun d n => by rw [has_reverse, h.has, take_all hi, take_all hj]

/-! Minus. -/
structure MI (a b : List Rn) (i j : Nat) (rs : List Rn) : Prop where
  may : MayV rs
  has : ∀ d n, Has rs d n ↔ Has (a.take i) d n ∧ ¬ Has b d n
  gone : ∀ x ∈ b.take j, ∀ y ∈ a.drop i, Ahd x y
  bef : ∀ s ∈ rs, ∀ y ∈ a.drop i, Bef s y
  len : rs.length ≤ i + j
/-- Within a run r of a: f is where what is left of it begins. -/
structure MJ (a b : List Rn) (i j : Nat) (rs : List Rn) (r : Rn) (f : Int) : Prop where
  may : MayV rs
  low : r.f ≤ f
  high : f ≤ r.t
  has : ∀ d n, Has rs d n ↔ (Has (a.take i) d n ∨ (d = r.d ∧ r.f ≤ n ∧ n < f)) ∧ ¬ Has b d n
  gone : ∀ x ∈ b.take j, Ahd x ⟨r.d, f, r.t⟩ ∧ ∀ y ∈ a.drop (i + 1), Ahd x y
  bef : ∀ s ∈ rs, Bef s ⟨r.d, f, r.t⟩ ∧ ∀ y ∈ a.drop (i + 1), Bef s y
  len : rs.length ≤ i + j
theorem MI.start (a b : List Rn) : MI a b 0 0 [] := ⟨mayV_nil, fun d n => ⟨fun h => absurd h (has_nil _ _), fun h => absurd h.1 (by simpa using has_nil d n)⟩, fun x hx => (by simp at hx), fun s hs => (by cases hs), Nat.zero_le _⟩
theorem MI.into {a b rs : List Rn} {i j : Nat} {r : Rn} (h : MI a b i j rs) (ha : May a) (hr : a[i]? = some r) : MJ a b i j rs r r.f := by
  obtain ⟨_, _, _, k4, _⟩ := ha.get hr
  refine ⟨h.may, Int.le_refl _, k4, fun d n => ?_, fun x hx => ⟨h.gone x hx r ((drop_mem hr r).2 (.inl rfl)), fun y hy => h.gone x hx y ((drop_mem hr y).2 (.inr hy))⟩, fun s hs => ⟨h.bef s hs r ((drop_mem hr r).2 (.inl rfl)), fun y hy => h.bef s hs y ((drop_mem hr y).2 (.inr hy))⟩, h.len⟩
  rw [h.has]
  constructor
  · rintro ⟨k1, k2⟩; exact ⟨.inl k1, k2⟩
  · rintro ⟨k1 | k1, k2⟩
    · exact ⟨k1, k2⟩
    · omega
theorem ahd_later {b : List Rn} {j : Nat} {c y : Rn} (hb : May b) (hc : b[j]? = some c) (h : Ahd y c) : ∀ x ∈ b.drop j, Ahd y x := fun x hx => by
  rcases (drop_mem hc x).1 hx with e | hx
  · rw [e]; exact h
  · have h1 := hb.behind hc x hx
    obtain ⟨_, _, _, k4, _⟩ := hb.get hc
    unfold Ahd at *; unfold Bef at h1; omega
/-- All of b is ahead of what is left, or behind it: it stays. -/
theorem MJ.out {a b rs : List Rn} {i j : Nat} {r : Rn} {f : Int} (h : MJ a b i j rs r f) (ha : May a) (hr : a[i]? = some r) (hb : ∀ x ∈ b.drop j, Ahd ⟨r.d, f, r.t⟩ x) : MI a b (i + 1) j (⟨r.d, f, r.t⟩ :: rs) := by
  have hl := h.low
  have hh := h.high
  obtain ⟨k1, k2, k3, k4, k5⟩ := ha.get hr
  refine ⟨h.may.snoc ⟨k1, k2, by show 1 ≤ f; omega, hh, k5⟩ fun s hs => (h.bef s hs).1, fun d n => ?_, fun x hx y hy => (h.gone x hx).2 y hy, fun s hs y hy => ?_, by have := h.len; simp only [List.length_cons]; omega⟩
  · rw [has_cons, h.has, has_more hr]
    have hno : In ⟨r.d, f, r.t⟩ d n → ¬ Has b d n := fun ⟨e, e1, e2⟩ hh => by
      rcases (has_split b j d n).1 hh with ⟨x, hx, x1, x2, x3⟩ | ⟨x, hx, x1, x2, x3⟩
      · have := (h.gone x hx).1
        have e : r.d = d := e; have e1 : f ≤ n := e1; have e2 : n ≤ r.t := e2
        have : x.d < r.d ∨ (x.d = r.d ∧ x.t < f) := this
        omega
      · have := hb x hx
        have e : r.d = d := e; have e1 : f ≤ n := e1; have e2 : n ≤ r.t := e2
        have : r.d < x.d ∨ (r.d = x.d ∧ r.t < x.f) := this
        omega
    constructor
    · rintro (k | ⟨k | k, kn⟩)
      · have e : r.d = d := k.1; have e1 : f ≤ n := k.2.1; have e2 : n ≤ r.t := k.2.2
        exact ⟨.inr ⟨e, by omega, e2⟩, hno k⟩
      · exact ⟨.inl k, kn⟩
      · exact ⟨.inr ⟨k.1.symm, k.2.1, by omega⟩, kn⟩
    · rintro ⟨k | ⟨e, e1, e2⟩, kn⟩
      · exact .inr ⟨.inl k, kn⟩
      · by_cases hn : n < f
        · exact .inr ⟨.inr ⟨e.symm, e1, hn⟩, kn⟩
        · exact .inl ⟨e, by show f ≤ n; omega, e2⟩
  · rcases List.mem_cons.1 hs with e | hs
    · have := ha.behind hr y hy
      rw [e]; exact this
    · exact (h.bef s hs).2 y hy
/-- A run of b that is ahead. -/
theorem MJ.skip {a b rs : List Rn} {i j : Nat} {r c : Rn} {f : Int} (h : MJ a b i j rs r f) (ha : May a) (hr : a[i]? = some r) (hc : b[j]? = some c) (hcr : Ahd c ⟨r.d, f, r.t⟩) : MJ a b i (j + 1) rs r f := by
  refine ⟨h.may, h.low, h.high, h.has, fun x hx => ?_, h.bef, by have := h.len; omega⟩
  rw [List.take_add_one, hc] at hx
  rcases List.mem_append.1 hx with hx | hx
  · exact h.gone x hx
  · have e : x = c := by simpa using hx
    rw [e]
    refine ⟨hcr, fun y hy => ?_⟩
    have h1 := ha.behind hr y hy
    have hh := h.high
    have hcr : c.d < r.d ∨ (c.d = r.d ∧ c.t < f) := hcr
    unfold Bef at h1
    unfold Ahd
    omega
/-- What stays ahead of a run that overlaps. -/
def piece (rs : List Rn) (r : Rn) (f : Int) (c : Rn) : List Rn := if f < c.f then ⟨r.d, f, c.f - 1⟩ :: rs else rs
structure MP (a b : List Rn) (i j : Nat) (rs : List Rn) (r c : Rn) : Prop where
  may : MayV rs
  has : ∀ d n, Has rs d n ↔ (Has (a.take i) d n ∨ (d = r.d ∧ r.f ≤ n ∧ n ≤ c.t ∧ n ≤ r.t)) ∧ ¬ Has b d n
  gone : ∀ x ∈ b.take j, ∀ y ∈ a.drop (i + 1), Ahd x y
  goneC : ∀ x ∈ b.take j, x.d < r.d ∨ (x.d = r.d ∧ x.t < c.f)
  bef : ∀ s ∈ rs, (s.d < r.d ∨ (s.d = r.d ∧ s.t < c.f)) ∧ ∀ y ∈ a.drop (i + 1), Bef s y
  len : rs.length ≤ i + j + 1
theorem MJ.piece {a b rs : List Rn} {i j : Nat} {r c : Rn} {f : Int} (h : MJ a b i j rs r f) (ha : May a) (hb : May b) (hr : a[i]? = some r) (hc : b[j]? = some c) (h1 : ¬ Ahd ⟨r.d, f, r.t⟩ c) (h2 : ¬ Ahd c ⟨r.d, f, r.t⟩) : c.d = r.d ∧ c.f ≤ r.t ∧ f ≤ c.t ∧ MP a b i j (piece rs r f c) r c := by
  have hl := h.low
  have hh := h.high
  obtain ⟨k1, k2, k3, k4, k5⟩ := ha.get hr
  obtain ⟨c1, c2, c3, c4, c5⟩ := hb.get hc
  have h1 : ¬ (r.d < c.d ∨ (r.d = c.d ∧ r.t < c.f)) := h1
  have h2 : ¬ (c.d < r.d ∨ (c.d = r.d ∧ c.t < f)) := h2
  have ed : c.d = r.d := by omega
  refine ⟨ed, by omega, by omega, ?_⟩
  have hcb : ∀ n, c.f ≤ n → n ≤ c.t → Has b r.d n := fun n e1 e2 => ⟨c, List.mem_of_getElem? hc, ed, e1, e2⟩
  have gC : ∀ x ∈ b.take j, x.d < r.d ∨ (x.d = r.d ∧ x.t < c.f) := fun x hx => by
    obtain ⟨q, hq⟩ := List.getElem?_of_mem hx
    have hq1 : q < j := by have := (List.getElem?_eq_some_iff.1 hq).1; rw [List.length_take] at this; omega
    have hq2 : b[q]? = some x := by rw [List.getElem?_take, if_pos hq1] at hq; exact hq
    have hcd : c ∈ b.drop (q + 1) := by
      refine List.mem_iff_getElem?.2 ⟨j - (q + 1), ?_⟩
      rw [List.getElem?_drop, show q + 1 + (j - (q + 1)) = j by omega]; exact hc
    have hbx := hb.behind hq2 c hcd
    unfold Bef at hbx
    omega
  have len1 := h.len
  by_cases hf : f < c.f
  · have ep : Dt.piece rs r f c = ⟨r.d, f, c.f - 1⟩ :: rs := if_pos hf
    rw [ep]
    refine ⟨h.may.snoc ⟨k1, k2, by show 1 ≤ f; omega, by show f ≤ c.f - 1; omega, by show c.f - 1 ≤ _; omega⟩ fun s hs => ?_, fun d n => ?_, fun x hx => (h.gone x hx).2, gC, fun s hs => ?_, by simp only [List.length_cons]; omega⟩
    · exact (h.bef s hs).1
    · rw [has_cons, h.has]
      constructor
      · rintro (⟨e, e1, e2⟩ | ⟨k | k, kn⟩)
        · have e : r.d = d := e; have e1 : f ≤ n := e1; have e2 : n ≤ c.f - 1 := e2
          refine ⟨.inr ⟨e.symm, by omega, by omega, by omega⟩, fun hb2 => ?_⟩
          rcases (has_split b j d n).1 hb2 with ⟨x, hx, x1, x2, x3⟩ | ⟨x, hx, x1, x2, x3⟩
          · have : x.d < r.d ∨ (x.d = r.d ∧ x.t < f) := (h.gone x hx).1
            omega
          · rcases (drop_mem hc x).1 hx with ex | hx
            · subst ex; omega
            · have := hb.behind hc x hx
              unfold Bef at this; omega
        · exact ⟨.inl k, kn⟩
        · exact ⟨.inr ⟨k.1, k.2.1, by omega, by omega⟩, kn⟩
      · rintro ⟨k | ⟨e, e1, e2, e3⟩, kn⟩
        · exact .inr ⟨.inl k, kn⟩
        · by_cases hn : n < f
          · exact .inr ⟨.inr ⟨e, e1, hn⟩, kn⟩
          · by_cases hn2 : n < c.f
            · exact .inl ⟨e.symm, by show f ≤ n; omega, by show n ≤ c.f - 1; omega⟩
            · exact absurd (by rw [e]; exact hcb n (by omega) e2) kn
    · rcases List.mem_cons.1 hs with e | hs
      · subst e
        refine ⟨.inr ⟨rfl, by show c.f - 1 < c.f; omega⟩, fun y hy => ?_⟩
        have := ha.behind hr y hy
        unfold Bef at *
        show r.d < y.d ∨ (r.d = y.d ∧ c.f - 1 + 1 < y.f)
        omega
      · refine ⟨?_, (h.bef s hs).2⟩
        have : s.d < r.d ∨ (s.d = r.d ∧ s.t + 1 < f) := (h.bef s hs).1
        omega
  · have ep : Dt.piece rs r f c = rs := if_neg hf
    rw [ep]
    refine ⟨h.may, fun d n => ?_, fun x hx => (h.gone x hx).2, gC, fun s hs => ⟨?_, (h.bef s hs).2⟩, by omega⟩
    · rw [h.has]
      constructor
      · rintro ⟨k | k, kn⟩
        · exact ⟨.inl k, kn⟩
        · exact ⟨.inr ⟨k.1, k.2.1, by omega, by omega⟩, kn⟩
      · rintro ⟨k | ⟨e, e1, e2, e3⟩, kn⟩
        · exact ⟨.inl k, kn⟩
        · by_cases hn : n < f
          · exact ⟨.inr ⟨e, e1, hn⟩, kn⟩
          · exact absurd (by rw [e]; exact hcb n (by omega) e2) kn
    · have hbs : s.d < r.d ∨ (s.d = r.d ∧ s.t + 1 < f) := (h.bef s hs).1
      rcases hbs with hbs | ⟨hbs, hbt⟩
      · exact .inl hbs
      · refine .inr ⟨hbs, ?_⟩
        -- its last dot is none of b's, so it lies ahead of c
        have hso := h.may.1 s hs
        obtain ⟨_, _, _, s4, _⟩ := hso
        by_cases hlt : s.t < c.f
        · exact hlt
        · exact absurd (hcb s.t (by omega) (by omega)) ((h.has r.d s.t).1 ⟨s, hs, hbs, s4, Int.le_refl _⟩).2
/-- All that was left of r lies within c. -/
theorem MP.all {a b rs : List Rn} {i j : Nat} {r c : Rn} (h : MP a b i j rs r c) (hr : a[i]? = some r) (hc : r.t ≤ c.t) : MI a b (i + 1) j rs := by
  refine ⟨h.may, fun d n => ?_, h.gone, fun s hs => (h.bef s hs).2, by have := h.len; omega⟩
  rw [h.has, has_more hr]
  constructor
  · rintro ⟨k | ⟨e, e1, e2, e3⟩, kn⟩
    · exact ⟨.inl k, kn⟩
    · exact ⟨.inr ⟨e.symm, e1, e3⟩, kn⟩
  · rintro ⟨k | ⟨e, e1, e2⟩, kn⟩
    · exact ⟨.inl k, kn⟩
    · exact ⟨.inr ⟨e.symm, e1, by omega, e2⟩, kn⟩
/-- Something is left behind c. -/
theorem MP.rest {a b rs : List Rn} {i j : Nat} {r c : Rn} (h : MP a b i j rs r c) (ha : May a) (hb : May b) (hr : a[i]? = some r) (hcj : b[j]? = some c) (ed : c.d = r.d) (hf : r.f ≤ c.t + 1) (hc : c.t < r.t) : MJ a b i (j + 1) rs r (c.t + 1) := by
  obtain ⟨c1, c2, c3, c4, c5⟩ := hb.get hcj
  refine ⟨h.may, hf, by omega, fun d n => ?_, fun x hx => ?_, fun s hs => ⟨?_, (h.bef s hs).2⟩, by have := h.len; omega⟩
  · rw [h.has]
    constructor
    · rintro ⟨k | ⟨e, e1, e2, e3⟩, kn⟩
      · exact ⟨.inl k, kn⟩
      · exact ⟨.inr ⟨e, e1, by omega⟩, kn⟩
    · rintro ⟨k | ⟨e, e1, e2⟩, kn⟩
      · exact ⟨.inl k, kn⟩
      · exact ⟨.inr ⟨e, e1, by omega, by omega⟩, kn⟩
  · rw [List.take_add_one, hcj] at hx
    rcases List.mem_append.1 hx with hx | hx
    · refine ⟨?_, h.gone x hx⟩
      have := h.goneC x hx
      show x.d < r.d ∨ (x.d = r.d ∧ x.t < c.t + 1)
      omega
    · have e : x = c := by simpa using hx
      rw [e]
      refine ⟨.inr ⟨ed, by show c.t < c.t + 1; omega⟩, fun y hy => ?_⟩
      have := ha.behind hr y hy
      unfold Bef at this
      unfold Ahd
      omega
  · have := (h.bef s hs).1
    show s.d < r.d ∨ (s.d = r.d ∧ s.t + 1 < c.t + 1)
    omega
theorem MI.fin {a b rs : List Rn} {i j : Nat} (h : MI a b i j rs) (ha : May a) (hb : May b) (hi : a.length ≤ i) : rs.reverse = minusR a b :=
  is_minus ha hb h.may.may fun d n => by rw [has_reverse, h.has, take_all hi]
end Go.Proofs.Ytblndpfgfakdeaa.Dt
