/- Runs of dots as plain lists: what they have; two lists that may be and have the same are one. No program. -/
import Derived.Tactics
namespace Go.Proofs.Ytblndpfgfakdeaa.Dt

structure Rn where
  d : Int
  f : Int
  t : Int
def Ok (r : Rn) : Prop := 0 ≤ r.d ∧ r.d < 8 ∧ 1 ≤ r.f ∧ r.f ≤ r.t ∧ r.t ≤ 4503599627370496
def Bef (r s : Rn) : Prop := r.d < s.d ∨ (r.d = s.d ∧ r.t + 1 < s.f)
/-- They may be. -/
def May (l : List Rn) : Prop := (∀ r ∈ l, Ok r) ∧ l.Pairwise Bef
def In (r : Rn) (d n : Int) : Prop := r.d = d ∧ r.f ≤ n ∧ n ≤ r.t
instance (r : Rn) (d n : Int) : Decidable (In r d n) := inferInstanceAs (Decidable (r.d = d ∧ r.f ≤ n ∧ n ≤ r.t))
instance (r : Rn) : Decidable (Ok r) := inferInstanceAs (Decidable (0 ≤ r.d ∧ r.d < 8 ∧ 1 ≤ r.f ∧ r.f ≤ r.t ∧ r.t ≤ 4503599627370496))
/-- They have this dot. -/
def Has (l : List Rn) (d n : Int) : Prop := ∃ r ∈ l, In r d n

theorem ext {r s : Rn} (h1 : r.d = s.d) (h2 : r.f = s.f) (h3 : r.t = s.t) : r = s := by
  cases r; cases s; cases h1; cases h2; cases h3; rfl
theorem has_nil (d n : Int) : ¬ Has [] d n := fun ⟨_, h, _⟩ => by cases h
theorem has_cons (r : Rn) (l : List Rn) (d n : Int) : Has (r :: l) d n ↔ In r d n ∨ Has l d n := by
  constructor
  · rintro ⟨x, hx, hi⟩
    rcases List.mem_cons.1 hx with e | hx
    · subst e; exact .inl hi
    · exact .inr ⟨x, hx, hi⟩
  · rintro (hi | ⟨x, hx, hi⟩)
    · exact ⟨r, by simp, hi⟩
    · exact ⟨x, by simp [hx], hi⟩
theorem has_append (a b : List Rn) (d n : Int) : Has (a ++ b) d n ↔ Has a d n ∨ Has b d n := by
  constructor
  · rintro ⟨x, hx, hi⟩
    rcases List.mem_append.1 hx with hx | hx
    · exact .inl ⟨x, hx, hi⟩
    · exact .inr ⟨x, hx, hi⟩
  · rintro (⟨x, hx, hi⟩ | ⟨x, hx, hi⟩)
    · exact ⟨x, by simp [hx], hi⟩
    · exact ⟨x, by simp [hx], hi⟩
theorem may_nil : May [] := ⟨fun _ h => (by cases h), List.Pairwise.nil⟩
theorem May.tail {r : Rn} {l : List Rn} (h : May (r :: l)) : May l := ⟨fun x hx => h.1 x (by simp [hx]), (List.pairwise_cons.1 h.2).2⟩
theorem May.head {r : Rn} {l : List Rn} (h : May (r :: l)) : Ok r := h.1 r (by simp)
theorem May.bef {r : Rn} {l : List Rn} (h : May (r :: l)) : ∀ x ∈ l, Bef r x := (List.pairwise_cons.1 h.2).1
theorem May.ok {l : List Rn} (h : May l) {d n : Int} (hh : Has l d n) : 0 ≤ d ∧ d < 8 ∧ 1 ≤ n ∧ n ≤ 4503599627370496 := by
  obtain ⟨x, hx, h1, h2, h3⟩ := hh
  obtain ⟨k1, k2, k3, k4, k5⟩ := h.1 x hx
  omega
/-- The first dot of a list. -/
theorem first_le {r : Rn} {l : List Rn} (h : May (r :: l)) {d n : Int} (hh : Has (r :: l) d n) : r.d < d ∨ (r.d = d ∧ r.f ≤ n) := by
  rcases (has_cons r l d n).1 hh with ⟨h1, h2, _⟩ | ⟨x, hx, h1, h2, h3⟩
  · exact .inr ⟨h1, h2⟩
  · obtain ⟨_, _, _, k4, _⟩ := h.head
    rcases h.bef x hx with hb | ⟨hb, hb2⟩ <;> omega
theorem has_first {r : Rn} {l : List Rn} (h : May (r :: l)) : Has (r :: l) r.d r.f := by
  obtain ⟨_, _, _, k4, _⟩ := h.head
  exact ⟨r, by simp, rfl, by omega, k4⟩
/-- Behind the first run there is none at once. -/
theorem gap {r : Rn} {l : List Rn} (h : May (r :: l)) : ¬ Has (r :: l) r.d (r.t + 1) := by
  intro hh
  rcases (has_cons r l _ _).1 hh with ⟨_, _, h3⟩ | ⟨x, hx, h1, h2, h3⟩
  · omega
  · rcases h.bef x hx with hb | ⟨hb, hb2⟩ <;> omega
theorem tail_has {r : Rn} {l : List Rn} (h : May (r :: l)) (d n : Int) : Has l d n ↔ Has (r :: l) d n ∧ ¬ In r d n := by
  rw [has_cons]
  constructor
  · intro hh
    refine ⟨.inr hh, fun ⟨i1, i2, i3⟩ => ?_⟩
    obtain ⟨x, hx, h1, h2, h3⟩ := hh
    rcases h.bef x hx with hb | ⟨hb, hb2⟩ <;> omega
  · rintro ⟨h1 | h1, h2⟩
    · exact absurd h1 h2
    · exact h1
/-- Two lists that may be and have the same dots are one. -/
theorem canon : ∀ (a b : List Rn), May a → May b → (∀ d n, Has a d n ↔ Has b d n) → a = b
  | [], [], _, _, _ => rfl
  | [], s :: b, _, hb, h => absurd ((h _ _).2 (has_first hb)) (has_nil _ _)
  | r :: a, [], ha, _, h => absurd ((h _ _).1 (has_first ha)) (has_nil _ _)
  | r :: a, s :: b, ha, hb, h => by
    have h1 := first_le ha ((h _ _).2 (has_first hb))
    have h2 := first_le hb ((h _ _).1 (has_first ha))
    have hd : r.d = s.d := by omega
    have hf : r.f = s.f := by omega
    obtain ⟨_, _, _, k4, _⟩ := ha.head
    obtain ⟨_, _, _, j4, _⟩ := hb.head
    have ht : r.t = s.t := by
      by_cases h3 : r.t < s.t
      · exact absurd ((h r.d (r.t + 1)).2 ⟨s, by simp, hd.symm, by omega, by omega⟩) (gap ha)
      · by_cases h4 : s.t < r.t
        · exact absurd ((h s.d (s.t + 1)).1 ⟨r, by simp, hd, by omega, by omega⟩) (gap hb)
        · omega
    have e := ext hd hf ht
    subst e
    rw [canon a b ha.tail hb.tail fun d n => by rw [tail_has ha, tail_has hb, h]]
end Go.Proofs.Ytblndpfgfakdeaa.Dt
