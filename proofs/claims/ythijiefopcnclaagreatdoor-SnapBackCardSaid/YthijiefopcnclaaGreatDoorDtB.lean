/- The program's ways with sets, as plain lists: a run joined to what lies behind; what is left of a run. No program. The document's Last. The program's Of, covers, Last, Le as plain lists. No program. The document's MayRuns. The document's Of, given mix. -/
import Derived.Test.YthijiefopcnclaaGreatDoorDtA
import Derived.Deep.DeepCutAuto
import Derived.Test.YthijiefopcnclaaGreatDoorTdA
namespace Go.Proofs.YthijiefopcnclaaGreatDoor.Dt

instance (r s : Rn) : Decidable (Bef r s) := inferInstanceAs (Decidable (r.d < s.d ∨ (r.d = s.d ∧ r.t + 1 < s.f)))
/-- It begins nowhere behind. -/
def Beg (r s : Rn) : Prop := r.d < s.d ∨ (r.d = s.d ∧ r.f ≤ s.f)
/-- It ends ahead of where the other one begins. -/
def Ahd (r s : Rn) : Prop := r.d < s.d ∨ (r.d = s.d ∧ r.t < s.f)
instance (r s : Rn) : Decidable (Beg r s) := inferInstanceAs (Decidable (r.d < s.d ∨ (r.d = s.d ∧ r.f ≤ s.f)))
instance (r s : Rn) : Decidable (Ahd r s) := inferInstanceAs (Decidable (r.d < s.d ∨ (r.d = s.d ∧ r.t < s.f)))
theorem Beg.refl (r : Rn) : Beg r r := .inr ⟨rfl, Int.le_refl _⟩
theorem Beg.trans {r s u : Rn} (h : Beg r s) (k : Beg s u) : Beg r u := by unfold Beg at *; omega
theorem Bef.beg {r s : Rn} (ho : Ok r) (h : Bef r s) : Beg r s := by obtain ⟨_, _, _, _, _⟩ := ho; unfold Bef at h; unfold Beg; omega
theorem Bef.trans {r s u : Rn} (ho : Ok s) (h : Bef r s) (k : Bef s u) : Bef r u := by obtain ⟨_, _, _, _, _⟩ := ho; unfold Bef at *; omega

/-- They may be, the last one first. -/
def MayV (rs : List Rn) : Prop := (∀ r ∈ rs, Ok r) ∧ rs.Pairwise fun s r => Bef r s
theorem mayV_nil : MayV [] := ⟨fun _ h => (by cases h), List.Pairwise.nil⟩
theorem MayV.may {rs : List Rn} (h : MayV rs) : May rs.reverse := ⟨fun r hr => h.1 r (List.mem_reverse.1 hr), by rw [List.pairwise_reverse]; exact h.2⟩
theorem has_reverse (rs : List Rn) (d n : Int) : Has rs.reverse d n ↔ Has rs d n := by
  unfold Has; simp only [List.mem_reverse]
theorem MayV.snoc {s : Rn} {rs : List Rn} (h : MayV rs) (hs : Ok s) (hb : ∀ x ∈ rs, Bef x s) : MayV (s :: rs) :=
  ⟨fun r hr => by rcases List.mem_cons.1 hr with e | hr; · rw [e]; exact hs
                  · exact h.1 r hr, List.pairwise_cons.2 ⟨hb, h.2⟩⟩

/-- A run joined to what lies behind. -/
def jn (rs : List Rn) (r : Rn) : List Rn := match rs with
  | [] => [r]
  | s :: rs' => if Bef s r then r :: s :: rs' else ⟨s.d, s.f, if s.t < r.t then r.t else s.t⟩ :: rs'
theorem jn_len (rs : List Rn) (r : Rn) : (jn rs r).length ≤ rs.length + 1 ∧ 0 < (jn rs r).length := by
  unfold jn
  cases rs with
  | nil => simp
  | cons s rs => simp only []; split <;> simp
theorem jn_spec {rs : List Rn} {r : Rn} (h : MayV rs) (hr : Ok r) (hb : ∀ s ∈ rs, Beg s r) : MayV (jn rs r) ∧ (∀ d n, Has (jn rs r) d n ↔ Has rs d n ∨ In r d n) ∧ ∀ s ∈ jn rs r, Beg s r := by
  cases rs with
  | nil =>
    refine ⟨⟨fun x hx => ?_, List.pairwise_singleton _ _⟩, fun d n => ?_, fun x hx => ?_⟩
    · rw [List.mem_singleton.1 hx]; exact hr
    · show Has [r] d n ↔ _
      rw [has_cons]
      exact ⟨fun h => h.elim .inr (fun h => absurd h (has_nil _ _)), fun h => h.elim (fun h => absurd h (has_nil _ _)) .inl⟩
    · rw [List.mem_singleton.1 hx]; exact .refl r
  | cons s rs =>
    have hs : Ok s := h.1 s (by simp)
    have hp := List.pairwise_cons.1 h.2
    unfold jn
    simp only []
    by_cases e : Bef s r
    · rw [if_pos e]
      refine ⟨h.snoc hr fun x hx => ?_, fun d n => ?_, fun x hx => ?_⟩
      · rcases List.mem_cons.1 hx with hx | hx
        · rw [hx]; exact e
        · exact (hp.1 x hx).trans hs e
      · rw [has_cons]; exact Or.comm
      · rcases List.mem_cons.1 hx with hx | hx
        · rw [hx]; exact .refl r
        · exact hb x hx
    · rw [if_neg e]
      have hbs := hb s (by simp)
      obtain ⟨s1, s2, s3, s4, s5⟩ := hs
      obtain ⟨r1, r2, r3, r4, r5⟩ := hr
      have ed : s.d = r.d := by unfold Bef at e; unfold Beg at hbs; omega
      have e1 : s.f ≤ r.f := by unfold Beg at hbs; omega
      have e2 : r.f ≤ s.t + 1 := by unfold Bef at e; omega
      obtain ⟨t, ht⟩ : ∃ t, (if s.t < r.t then r.t else s.t) = t := ⟨_, rfl⟩
      rw [ht]
      have ht2 : s.t ≤ t ∧ r.t ≤ t ∧ (t = s.t ∨ t = r.t) := by rw [← ht]; split <;> omega
      refine ⟨⟨fun x hx => ?_, List.pairwise_cons.2 ⟨fun x hx => ?_, hp.2⟩⟩, fun d n => ?_, fun x hx => ?_⟩
      · rcases List.mem_cons.1 hx with hx | hx
        · rw [hx]; exact ⟨s1, s2, s3, by show s.f ≤ t; omega, by show t ≤ _; omega⟩
        · exact h.1 x (by simp [hx])
      · exact hp.1 x hx
      · rw [has_cons, has_cons]
        have key : In ⟨s.d, s.f, t⟩ d n ↔ In s d n ∨ In r d n := by
          show (s.d = d ∧ s.f ≤ n ∧ n ≤ t) ↔ (s.d = d ∧ s.f ≤ n ∧ n ≤ s.t) ∨ (r.d = d ∧ r.f ≤ n ∧ n ≤ r.t)
          omega
        rw [key]
        constructor
        · rintro ((h1 | h1) | h1)
          · exact .inl (.inl h1)
          · exact .inr h1
          · exact .inl (.inr h1)
        · rintro ((h1 | h1) | h1)
          · exact .inl (.inl h1)
          · exact .inr h1
          · exact .inl (.inr h1)
      · rcases List.mem_cons.1 hx with hx | hx
        · rw [hx]; exact .inr ⟨ed, e1⟩
        · exact hb x (by simp [hx])

/-! Parts of a list. -/
theorem has_more {l : List Rn} {i : Nat} {x : Rn} (h : l[i]? = some x) (d n : Int) : Has (l.take (i + 1)) d n ↔ Has (l.take i) d n ∨ In x d n := by
  rw [List.take_add_one, h]
  show Has (l.take i ++ [x]) d n ↔ _
  rw [has_append, has_cons]
  exact ⟨fun h => h.elim .inl fun h => h.elim .inr fun h => absurd h (has_nil _ _), fun h => h.elim .inl fun h => .inr (.inl h)⟩
theorem has_split (l : List Rn) (i : Nat) (d n : Int) : Has l d n ↔ Has (l.take i) d n ∨ Has (l.drop i) d n := by
  rw [← has_append, List.take_append_drop]
theorem drop_mem {l : List Rn} {i : Nat} {x : Rn} (h : l[i]? = some x) (y : Rn) : y ∈ l.drop i ↔ y = x ∨ y ∈ l.drop (i + 1) := by
  have hi : i < l.length := (List.getElem?_eq_some_iff.1 h).1
  rw [List.drop_eq_getElem_cons hi, (List.getElem?_eq_some_iff.1 h).2, List.mem_cons]
theorem May.behind {l : List Rn} {i : Nat} {x : Rn} (h : May l) (hx : l[i]? = some x) : ∀ y ∈ l.drop (i + 1), Bef x y := by
  have hi : i < l.length := (List.getElem?_eq_some_iff.1 hx).1
  have hp : (l.drop i).Pairwise Bef := h.2.sublist (List.drop_sublist i l)
  rw [List.drop_eq_getElem_cons hi, (List.getElem?_eq_some_iff.1 hx).2] at hp
  exact (List.pairwise_cons.1 hp).1
theorem May.get {l : List Rn} {i : Nat} {x : Rn} (h : May l) (hx : l[i]? = some x) : Ok x := h.1 x (List.mem_of_getElem? hx)
theorem May.okd {l : List Rn} {i : Nat} (h : May l) : ∀ y ∈ l.drop i, Ok y := fun y hy => h.1 y (List.mem_of_mem_drop hy)
theorem drop_all {l : List Rn} {i : Nat} (h : l.length ≤ i) : l.drop i = [] := List.drop_eq_nil_of_le h
theorem take_all {l : List Rn} {i : Nat} (h : l.length ≤ i) : l.take i = l := List.take_of_length_le h

/-! Union. -/
structure UI (a b : List Rn) (i j : Nat) (rs : List Rn) : Prop where
  may : MayV rs
  has : ∀ d n, Has rs d n ↔ Has (a.take i) d n ∨ Has (b.take j) d n
  bA : ∀ s ∈ rs, ∀ x ∈ a.drop i, Beg s x
  bB : ∀ s ∈ rs, ∀ x ∈ b.drop j, Beg s x
  len : rs.length ≤ i + j
theorem UI.start (a b : List Rn) : UI a b 0 0 [] := ⟨mayV_nil, fun d n => (by simp), fun s hs => (by cases hs), fun s hs => (by cases hs), Nat.zero_le _⟩
theorem UI.stepA {a b rs : List Rn} {i j : Nat} {r : Rn} (h : UI a b i j rs) (ha : May a) (hr : a[i]? = some r) (hb : ∀ x ∈ b.drop j, Beg r x) : UI a b (i + 1) j (jn rs r) := by
  have hbeg : ∀ s ∈ rs, Beg s r := fun s hs => h.bA s hs r ((drop_mem hr r).2 (.inl rfl))
  obtain ⟨h1, h2, h3⟩ := jn_spec h.may (ha.get hr) hbeg
  refine ⟨h1, fun d n => ?_, fun s hs x hx => ?_, fun s hs x hx => (h3 s hs).trans (hb x hx), ?_⟩
  · rw [h2, h.has, has_more hr]
    constructor
    · rintro ((k | k) | k)
      · exact .inl (.inl k)
      · exact .inr k
      · exact .inl (.inr k)
    · rintro ((k | k) | k)
      · exact .inl (.inl k)
      · exact .inr k
      · exact .inl (.inr k)
  · exact (h3 s hs).trans ((ha.behind hr x hx).beg (ha.get hr))
  · have := (jn_len rs r).1; have := h.len; omega
theorem UI.stepB {a b rs : List Rn} {i j : Nat} {r : Rn} (h : UI a b i j rs) (hb : May b) (hr : b[j]? = some r) (ha : ∀ x ∈ a.drop i, Beg r x) : UI a b i (j + 1) (jn rs r) := by
  have hbeg : ∀ s ∈ rs, Beg s r := fun s hs => h.bB s hs r ((drop_mem hr r).2 (.inl rfl))
  obtain ⟨h1, h2, h3⟩ := jn_spec h.may (hb.get hr) hbeg
  refine ⟨h1, fun d n => ?_, fun s hs x hx => (h3 s hs).trans (ha x hx), fun s hs x hx => ?_, ?_⟩
  · rw [h2, h.has, has_more hr]
    constructor
    · rintro ((k | k) | k)
      · exact .inl k
      · exact .inr (.inl k)
      · exact .inr (.inr k)
    · rintro (k | k | k)
      · exact .inl (.inl k)
      · exact .inl (.inr k)
      · exact .inr k
  · exact (h3 s hs).trans ((hb.behind hr x hx).beg (hb.get hr))
  · have := (jn_len rs r).1; have := h.len; omega
/-- What b has left begins behind r, if its first does. -/
theorem beg_all {b : List Rn} {j : Nat} {r y : Rn} (hb : May b) (hy : b[j]? = some y) (h : Beg r y) : ∀ x ∈ b.drop j, Beg r x := fun x hx => by
  rcases (drop_mem hy x).1 hx with e | hx
  · rw [e]; exact h
  · exact h.trans ((hb.behind hy x hx).beg (hb.get hy))
theorem UI.fin {a b rs : List Rn} {i j : Nat} (h : UI a b i j rs) (ha : May a) (hb : May b) (hi : a.length ≤ i) (hj : b.length ≤ j) : rs.reverse = unionR a b :=
  is_union ha hb h.may.may fun d n => by rw [has_reverse, h.has, take_all hi, take_all hj]

/-! Minus. -/
structure MI (a b : List Rn) (i j : Nat) (rs : List Rn) : Prop where
  may : MayV rs
  has : ∀ d n, Has rs d n ↔ Has (a.take i) d n ∧ ¬ Has b d n
  gone : ∀ x ∈ b.take j, ∀ y ∈ a.drop i, Ahd x y
  bef : ∀ s ∈ rs, ∀ y ∈ a.drop i, Bef s y
  len : rs.length ≤ i + j
/-- Within a run r of a: f is where what is left of it begins. -/
structure MJ (a b : List Rn) (i j : Nat) (rs : List Rn) (r : Rn) (f : Int) : Prop where
  may : MayV rs
  low : r.f ≤ f
  high : f ≤ r.t
  has : ∀ d n, Has rs d n ↔ (Has (a.take i) d n ∨ (d = r.d ∧ r.f ≤ n ∧ n < f)) ∧ ¬ Has b d n
  gone : ∀ x ∈ b.take j, Ahd x ⟨r.d, f, r.t⟩ ∧ ∀ y ∈ a.drop (i + 1), Ahd x y
  bef : ∀ s ∈ rs, Bef s ⟨r.d, f, r.t⟩ ∧ ∀ y ∈ a.drop (i + 1), Bef s y
  len : rs.length ≤ i + j
theorem MI.start (a b : List Rn) : MI a b 0 0 [] := ⟨mayV_nil, fun d n => ⟨fun h => absurd h (has_nil _ _), fun h => absurd h.1 (by simpa using has_nil d n)⟩, fun x hx => (by simp at hx), fun s hs => (by cases hs), Nat.zero_le _⟩
theorem MI.into {a b rs : List Rn} {i j : Nat} {r : Rn} (h : MI a b i j rs) (ha : May a) (hr : a[i]? = some r) : MJ a b i j rs r r.f := by
  obtain ⟨_, _, _, k4, _⟩ := ha.get hr
  refine ⟨h.may, Int.le_refl _, k4, fun d n => ?_, fun x hx => ⟨h.gone x hx r ((drop_mem hr r).2 (.inl rfl)), fun y hy => h.gone x hx y ((drop_mem hr y).2 (.inr hy))⟩, fun s hs => ⟨h.bef s hs r ((drop_mem hr r).2 (.inl rfl)), fun y hy => h.bef s hs y ((drop_mem hr y).2 (.inr hy))⟩, h.len⟩
  rw [h.has]
  constructor
  · rintro ⟨k1, k2⟩; exact ⟨.inl k1, k2⟩
  · rintro ⟨k1 | k1, k2⟩
    · exact ⟨k1, k2⟩
    · omega
theorem ahd_later {b : List Rn} {j : Nat} {c y : Rn} (hb : May b) (hc : b[j]? = some c) (h : Ahd y c) : ∀ x ∈ b.drop j, Ahd y x := fun x hx => by
  rcases (drop_mem hc x).1 hx with e | hx
  · rw [e]; exact h
  · have h1 := hb.behind hc x hx
    obtain ⟨_, _, _, k4, _⟩ := hb.get hc
    unfold Ahd at *; unfold Bef at h1; omega
/-- All of b is ahead of what is left, or behind it: it stays. -/
theorem MJ.out {a b rs : List Rn} {i j : Nat} {r : Rn} {f : Int} (h : MJ a b i j rs r f) (ha : May a) (hr : a[i]? = some r) (hb : ∀ x ∈ b.drop j, Ahd ⟨r.d, f, r.t⟩ x) : MI a b (i + 1) j (⟨r.d, f, r.t⟩ :: rs) := by
  have hl := h.low
  have hh := h.high
  obtain ⟨k1, k2, k3, k4, k5⟩ := ha.get hr
  refine ⟨h.may.snoc ⟨k1, k2, by show 1 ≤ f; omega, hh, k5⟩ fun s hs => (h.bef s hs).1, fun d n => ?_, fun x hx y hy => (h.gone x hx).2 y hy, fun s hs y hy => ?_, by have := h.len; simp only [List.length_cons]; omega⟩
  · rw [has_cons, h.has, has_more hr]
    have hno : In ⟨r.d, f, r.t⟩ d n → ¬ Has b d n := fun ⟨e, e1, e2⟩ hh => by
      rcases (has_split b j d n).1 hh with ⟨x, hx, x1, x2, x3⟩ | ⟨x, hx, x1, x2, x3⟩
      · have := (h.gone x hx).1
        have e : r.d = d := e; have e1 : f ≤ n := e1; have e2 : n ≤ r.t := e2
        have : x.d < r.d ∨ (x.d = r.d ∧ x.t < f) := this
        omega
      · have := hb x hx
        have e : r.d = d := e; have e1 : f ≤ n := e1; have e2 : n ≤ r.t := e2
        have : r.d < x.d ∨ (r.d = x.d ∧ r.t < x.f) := this
        omega
    constructor
    · rintro (k | ⟨k | k, kn⟩)
      · have e : r.d = d := k.1; have e1 : f ≤ n := k.2.1; have e2 : n ≤ r.t := k.2.2
        exact ⟨.inr ⟨e, by omega, e2⟩, hno k⟩
      · exact ⟨.inl k, kn⟩
      · exact ⟨.inr ⟨k.1.symm, k.2.1, by omega⟩, kn⟩
    · rintro ⟨k | ⟨e, e1, e2⟩, kn⟩
      · exact .inr ⟨.inl k, kn⟩
      · by_cases hn : n < f
        · exact .inr ⟨.inr ⟨e.symm, e1, hn⟩, kn⟩
        · exact .inl ⟨e, by show f ≤ n; omega, e2⟩
  · rcases List.mem_cons.1 hs with e | hs
    · have := ha.behind hr y hy
      rw [e]; exact this
    · exact (h.bef s hs).2 y hy
/-- A run of b that is ahead. -/
theorem MJ.skip {a b rs : List Rn} {i j : Nat} {r c : Rn} {f : Int} (h : MJ a b i j rs r f) (ha : May a) (hr : a[i]? = some r) (hc : b[j]? = some c) (hcr : Ahd c ⟨r.d, f, r.t⟩) : MJ a b i (j + 1) rs r f := by
  refine ⟨h.may, h.low, h.high, h.has, fun x hx => ?_, h.bef, by have := h.len; omega⟩
  rw [List.take_add_one, hc] at hx
  rcases List.mem_append.1 hx with hx | hx
  · exact h.gone x hx
  · have e : x = c := by simpa using hx
    rw [e]
    refine ⟨hcr, fun y hy => ?_⟩
    have h1 := ha.behind hr y hy
    have hh := h.high
    have hcr : c.d < r.d ∨ (c.d = r.d ∧ c.t < f) := hcr
    unfold Bef at h1
    unfold Ahd
    omega
/-- What stays ahead of a run that overlaps. -/
def piece (rs : List Rn) (r : Rn) (f : Int) (c : Rn) : List Rn := if f < c.f then ⟨r.d, f, c.f - 1⟩ :: rs else rs
structure MP (a b : List Rn) (i j : Nat) (rs : List Rn) (r c : Rn) : Prop where
  may : MayV rs
  has : ∀ d n, Has rs d n ↔ (Has (a.take i) d n ∨ (d = r.d ∧ r.f ≤ n ∧ n ≤ c.t ∧ n ≤ r.t)) ∧ ¬ Has b d n
  gone : ∀ x ∈ b.take j, ∀ y ∈ a.drop (i + 1), Ahd x y
  goneC : ∀ x ∈ b.take j, x.d < r.d ∨ (x.d = r.d ∧ x.t < c.f)
  bef : ∀ s ∈ rs, (s.d < r.d ∨ (s.d = r.d ∧ s.t < c.f)) ∧ ∀ y ∈ a.drop (i + 1), Bef s y
  len : rs.length ≤ i + j + 1
theorem MJ.piece {a b rs : List Rn} {i j : Nat} {r c : Rn} {f : Int} (h : MJ a b i j rs r f) (ha : May a) (hb : May b) (hr : a[i]? = some r) (hc : b[j]? = some c) (h1 : ¬ Ahd ⟨r.d, f, r.t⟩ c) (h2 : ¬ Ahd c ⟨r.d, f, r.t⟩) : c.d = r.d ∧ c.f ≤ r.t ∧ f ≤ c.t ∧ MP a b i j (piece rs r f c) r c := by
  have hl := h.low
  have hh := h.high
  obtain ⟨k1, k2, k3, k4, k5⟩ := ha.get hr
  obtain ⟨c1, c2, c3, c4, c5⟩ := hb.get hc
  have h1 : ¬ (r.d < c.d ∨ (r.d = c.d ∧ r.t < c.f)) := h1
  have h2 : ¬ (c.d < r.d ∨ (c.d = r.d ∧ c.t < f)) := h2
  have ed : c.d = r.d := by omega
  refine ⟨ed, by omega, by omega, ?_⟩
  have hcb : ∀ n, c.f ≤ n → n ≤ c.t → Has b r.d n := fun n e1 e2 => ⟨c, List.mem_of_getElem? hc, ed, e1, e2⟩
  have gC : ∀ x ∈ b.take j, x.d < r.d ∨ (x.d = r.d ∧ x.t < c.f) := fun x hx => by
    obtain ⟨q, hq⟩ := List.getElem?_of_mem hx
    have hq1 : q < j := by have := (List.getElem?_eq_some_iff.1 hq).1; rw [List.length_take] at this; omega
    have hq2 : b[q]? = some x := by rw [List.getElem?_take, if_pos hq1] at hq; exact hq
    have hcd : c ∈ b.drop (q + 1) := by
      refine List.mem_iff_getElem?.2 ⟨j - (q + 1), ?_⟩
      rw [List.getElem?_drop, show q + 1 + (j - (q + 1)) = j by omega]; exact hc
    have hbx := hb.behind hq2 c hcd
    unfold Bef at hbx
    omega
  have len1 := h.len
  by_cases hf : f < c.f
  · have ep : Dt.piece rs r f c = ⟨r.d, f, c.f - 1⟩ :: rs := if_pos hf
    rw [ep]
    refine ⟨h.may.snoc ⟨k1, k2, by show 1 ≤ f; omega, by show f ≤ c.f - 1; omega, by show c.f - 1 ≤ _; omega⟩ fun s hs => ?_, fun d n => ?_, fun x hx => (h.gone x hx).2, gC, fun s hs => ?_, by simp only [List.length_cons]; omega⟩
    · exact (h.bef s hs).1
    · rw [has_cons, h.has]
      constructor
      · rintro (⟨e, e1, e2⟩ | ⟨k | k, kn⟩)
        · have e : r.d = d := e; have e1 : f ≤ n := e1; have e2 : n ≤ c.f - 1 := e2
          refine ⟨.inr ⟨e.symm, by omega, by omega, by omega⟩, fun hb2 => ?_⟩
          rcases (has_split b j d n).1 hb2 with ⟨x, hx, x1, x2, x3⟩ | ⟨x, hx, x1, x2, x3⟩
          · have : x.d < r.d ∨ (x.d = r.d ∧ x.t < f) := (h.gone x hx).1
            omega
          · rcases (drop_mem hc x).1 hx with ex | hx
            · subst ex; omega
            · have := hb.behind hc x hx
              unfold Bef at this; omega
        · exact ⟨.inl k, kn⟩
        · exact ⟨.inr ⟨k.1, k.2.1, by omega, by omega⟩, kn⟩
      · rintro ⟨k | ⟨e, e1, e2, e3⟩, kn⟩
        · exact .inr ⟨.inl k, kn⟩
        · by_cases hn : n < f
          · exact .inr ⟨.inr ⟨e, e1, hn⟩, kn⟩
          · by_cases hn2 : n < c.f
            · exact .inl ⟨e.symm, by show f ≤ n; omega, by show n ≤ c.f - 1; omega⟩
            · exact absurd (by rw [e]; exact hcb n (by omega) e2) kn
    · rcases List.mem_cons.1 hs with e | hs
      · subst e
        refine ⟨.inr ⟨rfl, by show c.f - 1 < c.f; omega⟩, fun y hy => ?_⟩
        have := ha.behind hr y hy
        unfold Bef at *
        show r.d < y.d ∨ (r.d = y.d ∧ c.f - 1 + 1 < y.f)
        omega
      · refine ⟨?_, (h.bef s hs).2⟩
        have : s.d < r.d ∨ (s.d = r.d ∧ s.t + 1 < f) := (h.bef s hs).1
        omega
  · have ep : Dt.piece rs r f c = rs := if_neg hf
    rw [ep]
    refine ⟨h.may, fun d n => ?_, fun x hx => (h.gone x hx).2, gC, fun s hs => ⟨?_, (h.bef s hs).2⟩, by omega⟩
    · rw [h.has]
      constructor
      · rintro ⟨k | k, kn⟩
        · exact ⟨.inl k, kn⟩
        · exact ⟨.inr ⟨k.1, k.2.1, by omega, by omega⟩, kn⟩
      · rintro ⟨k | ⟨e, e1, e2, e3⟩, kn⟩
        · exact ⟨.inl k, kn⟩
        · by_cases hn : n < f
          · exact ⟨.inr ⟨e, e1, hn⟩, kn⟩
          · exact absurd (by rw [e]; exact hcb n (by omega) e2) kn
    · have hbs : s.d < r.d ∨ (s.d = r.d ∧ s.t + 1 < f) := (h.bef s hs).1
      rcases hbs with hbs | ⟨hbs, hbt⟩
      · exact .inl hbs
      · refine .inr ⟨hbs, ?_⟩
        -- its last dot is none of b's, so it lies ahead of c
        have hso := h.may.1 s hs
        obtain ⟨_, _, _, s4, _⟩ := hso
        by_cases hlt : s.t < c.f
        · exact hlt
        · exact absurd (hcb s.t (by omega) (by omega)) ((h.has r.d s.t).1 ⟨s, hs, hbs, s4, Int.le_refl _⟩).2
/-- All that was left of r lies within c. -/
theorem MP.all {a b rs : List Rn} {i j : Nat} {r c : Rn} (h : MP a b i j rs r c) (hr : a[i]? = some r) (hc : r.t ≤ c.t) : MI a b (i + 1) j rs := by
  refine ⟨h.may, fun d n => ?_, h.gone, fun s hs => (h.bef s hs).2, by have := h.len; omega⟩
  rw [h.has, has_more hr]
  constructor
  · rintro ⟨k | ⟨e, e1, e2, e3⟩, kn⟩
    · exact ⟨.inl k, kn⟩
    · exact ⟨.inr ⟨e.symm, e1, e3⟩, kn⟩
  · rintro ⟨k | ⟨e, e1, e2⟩, kn⟩
    · exact ⟨.inl k, kn⟩
    · exact ⟨.inr ⟨e.symm, e1, by omega, e2⟩, kn⟩
/-- Something is left behind c. -/
theorem MP.rest {a b rs : List Rn} {i j : Nat} {r c : Rn} (h : MP a b i j rs r c) (ha : May a) (hb : May b) (hr : a[i]? = some r) (hcj : b[j]? = some c) (ed : c.d = r.d) (hf : r.f ≤ c.t + 1) (hc : c.t < r.t) : MJ a b i (j + 1) rs r (c.t + 1) := by
  obtain ⟨c1, c2, c3, c4, c5⟩ := hb.get hcj
  refine ⟨h.may, hf, by omega, fun d n => ?_, fun x hx => ?_, fun s hs => ⟨?_, (h.bef s hs).2⟩, by have := h.len; omega⟩
  · rw [h.has]
    constructor
    · rintro ⟨k | ⟨e, e1, e2, e3⟩, kn⟩
      · exact ⟨.inl k, kn⟩
      · exact ⟨.inr ⟨e, e1, by omega⟩, kn⟩
    · rintro ⟨k | ⟨e, e1, e2⟩, kn⟩
      · exact ⟨.inl k, kn⟩
      · exact ⟨.inr ⟨e, e1, by omega, by omega⟩, kn⟩
  · rw [List.take_add_one, hcj] at hx
    rcases List.mem_append.1 hx with hx | hx
    · refine ⟨?_, h.gone x hx⟩
      have := h.goneC x hx
      show x.d < r.d ∨ (x.d = r.d ∧ x.t < c.t + 1)
      omega
    · have e : x = c := by simpa using hx
      rw [e]
      refine ⟨.inr ⟨ed, by show c.t < c.t + 1; omega⟩, fun y hy => ?_⟩
      have := ha.behind hr y hy
      unfold Bef at this
      unfold Ahd
      omega
  · have := (h.bef s hs).1
    show s.d < r.d ∨ (s.d = r.d ∧ s.t + 1 < c.t + 1)
    omega
theorem MI.fin {a b rs : List Rn} {i j : Nat} (h : MI a b i j rs) (ha : May a) (hb : May b) (hi : a.length ≤ i) : rs.reverse = minusR a b :=
  is_minus ha hb h.may.may fun d n => by rw [has_reverse, h.has, take_all hi]
end Go.Proofs.YthijiefopcnclaaGreatDoor.Dt

namespace Go.Proofs.YthijiefopcnclaaGreatDoor.Dt
open Go Go.RowKit Go.Proofs.YthijiefopcnclaaGreatDoor.Mm

/-- The greatest number of a device's dots. -/
def lastR (dev : Int) : List Rn → Int → Int
  | [], m => m
  | r :: l, m => lastR dev l (if r.d = dev then max m r.t else m)
theorem lastR_snoc (dev : Int) (x : Rn) : ∀ (l : List Rn) (m : Int), lastR dev (l ++ [x]) m = if x.d = dev then max (lastR dev l m) x.t else lastR dev l m
  | [], m => rfl
  | r :: l, m => by rw [List.cons_append, lastR, lastR, lastR_snoc dev x l]
theorem lastR_more {l : List Rn} {k : Nat} {x : Rn} (dev : Int) (h : l[k]? = some x) : lastR dev (l.take (k + 1)) 0 = if x.d = dev then max (lastR dev (l.take k) 0) x.t else lastR dev (l.take k) 0 := by
  rw [take_more h, lastR_snoc]

set_option maxHeartbeats 8000000 in
set_option maxRecDepth 100000 in
theorem refLast_any (A : Option Addr) (n c : Nat) (l : List Rn) (dev : Int) (w : World) (hl : RL w A n l) (hn : n ≤ 1099511627776) :
    Calls Tryz.prog 64 #[.slice A n c, .int .i64 dev] w fun e w' => e = .returned (.int .i64 (lastR dev l 0)) ∧ w.grownBy w' none := by
  have Hl := Lib.hid hl
  clear hl
  go_enter Tryz.func64, Tryz.ntmps64
  go_wp2_with fail
  go_loopw [6, 5] (fun i v wr => ∃ (k : Nat) (m : Int), k ≤ n ∧ i = .int .i64 k ∧ v = .int .i64 m ∧ Hid (m = lastR dev (l.take k) 0) ∧ w.grownBy wr none) (fun i _ _ => n - (intOf i).toNat)
  case atStart => exact ⟨0, 0, Nat.zero_le _, rfl, rfl, by show _ = _; rfl, gb_refl _ _⟩
  case round =>
    obtain ⟨k, m, hk, rfl, rfl, HX, hg⟩ := hrel
    by_cases hlt : k < n
    · have d1 : decide (k < n) = true := decide_eq_true hlt
      have d2 : decide ((k : Int) < (n : Int)) = true := decide_eq_true (by omega)
      have bk : (k : Int) < (n : Int) := by omega
      obtain ⟨g, o, rfl, hgl, hcc⟩ := (Hl.out.keep hg).2 (by omega)
      obtain ⟨x, hx⟩ : ∃ x, l[k]? = some x := ⟨_, List.getElem?_eq_getElem (by rw [Hl.out.1]; exact hlt)⟩
      obtain ⟨h0, h1, h2⟩ := hcc k x hx
      have Hm := Lib.hid (lastR_more dev hx)
      clear hcc hx
      by_cases e1 : x.d = dev
      · have f1 : (x.d == dev) = true := by rw [e1]; simp
        have Hmax : Hid (max m x.t = lastR dev (l.take (k + 1)) 0) := by show _ = _; rw [Hm.out, if_pos e1, HX.out]
        clear e1
        go_wp2_with fail
        all_goals
          go_roundw
          case rel => exact ⟨k + 1, _, by omega, by go_num, rfl, by show _ = _; rw [← Hmax.out]; omega, hg⟩
          case measure => simp [intOf]; omega
      · have f1 : (x.d == dev) = false := by rw [beq_eq_false_iff_ne]; exact e1
        have Hm2 : Hid (m = lastR dev (l.take (k + 1)) 0) := by show _ = _; rw [Hm.out, if_neg e1, HX.out]
        clear e1
        go_wp2_with fail
        go_roundw
        case rel => exact ⟨k + 1, m, by omega, by go_num, rfl, Hm2, hg⟩
        case measure => simp [intOf]; omega
    · have hkn : k = n := by omega
      subst hkn
      have d1 : decide (k < k) = false := by simp
      have d2 : decide ((k : Int) < (k : Int)) = false := by simp
      have He : Hid (m = lastR dev l 0) := by
        show _ = _
        have h := HX.out
        rwa [List.take_of_length_le (by rw [Hl.out.1]; exact Nat.le_refl _)] at h
      go_wp2_with fail
      go_ret
      exact ⟨by rw [← He.out]; rfl, hg⟩
end Go.Proofs.YthijiefopcnclaaGreatDoor.Dt

namespace Go.Proofs.YthijiefopcnclaaGreatDoor.Dt

/-! Of: runs of one dot, as they begin, joined. -/
structure OI (S : List Rn) (k : Nat) (rs : List Rn) : Prop where
  may : MayV rs
  has : ∀ d n, Has rs d n ↔ Has (S.take k) d n
  beg : ∀ s ∈ rs, ∀ x ∈ S.drop k, Beg s x
  len : rs.length ≤ k
theorem OI.start (S : List Rn) : OI S 0 [] := ⟨mayV_nil, fun d n => (by simp), fun s hs => (by cases hs), Nat.zero_le _⟩
theorem OI.step {S rs : List Rn} {k : Nat} {r : Rn} (h : OI S k rs) (ho : ∀ x ∈ S, Ok x) (hs : S.Pairwise Beg) (hr : S[k]? = some r) : OI S (k + 1) (jn rs r) := by
  obtain ⟨h1, h2, h3⟩ := jn_spec h.may (ho r (List.mem_of_getElem? hr)) fun s hs => h.beg s hs r ((drop_mem hr r).2 (.inl rfl))
  have hk : k < S.length := (List.getElem?_eq_some_iff.1 hr).1
  have hp : (S.drop k).Pairwise Beg := hs.sublist (List.drop_sublist k S)
  rw [List.drop_eq_getElem_cons hk, (List.getElem?_eq_some_iff.1 hr).2] at hp
  refine ⟨h1, fun d n => ?_, fun s hs x hx => (h3 s hs).trans ((List.pairwise_cons.1 hp).1 x hx), ?_⟩
  · rw [h2, h.has, has_more hr]
  · have := (jn_len rs r).1; have := h.len; omega
/-- The dots that may stand in a run, each as a run. -/
def singles : List (Int × Int) → List Rn
  | [] => []
  | (d, n) :: l => if Ok ⟨d, n, n⟩ then ⟨d, n, n⟩ :: singles l else singles l
theorem singles_snoc (x : Int × Int) : ∀ l : List (Int × Int), singles (l ++ [x]) = if Ok ⟨x.1, x.2, x.2⟩ then singles l ++ [⟨x.1, x.2, x.2⟩] else singles l
  | [] => by rw [List.nil_append]; show (if Ok ⟨x.1, x.2, x.2⟩ then _ else _) = _; split <;> rfl
  | (d, n) :: l => by
    rw [List.cons_append, singles, singles, singles_snoc x l]
    split <;> split <;> rfl
theorem singles_more {l : List (Int × Int)} {k : Nat} {x : Int × Int} (h : l[k]? = some x) : singles (l.take (k + 1)) = if Ok ⟨x.1, x.2, x.2⟩ then singles (l.take k) ++ [⟨x.1, x.2, x.2⟩] else singles (l.take k) := by
  rw [List.take_add_one, h]; exact singles_snoc x _
theorem singles_ok : ∀ (l : List (Int × Int)), ∀ r ∈ singles l, Ok r
  | [], r, h => by cases h
  | (d, n) :: l, r, h => by
    rw [singles] at h
    by_cases e : Ok ⟨d, n, n⟩
    · rw [if_pos e] at h
      rcases List.mem_cons.1 h with h | h
      · rw [h]; exact e
      · exact singles_ok l r h
    · rw [if_neg e] at h; exact singles_ok l r h
theorem singles_len : ∀ (l : List (Int × Int)), (singles l).length ≤ l.length
  | [] => Nat.le_refl _
  | (d, n) :: l => by
    rw [singles]
    have := singles_len l
    split
    · simp; omega
    · simp; omega
theorem singles_has : ∀ (l : List (Int × Int)) (d n : Int), Has (singles l) d n ↔ (d, n) ∈ l ∧ Ok ⟨d, n, n⟩
  | [], d, n => ⟨fun h => absurd h (has_nil _ _), fun h => by cases h.1⟩
  | (e, m) :: l, d, n => by
    rw [singles]
    have one : ∀ d n, In ⟨e, m, m⟩ d n ↔ d = e ∧ n = m := fun d n => by show (e = d ∧ m ≤ n ∧ n ≤ m) ↔ _; omega
    by_cases h : Ok ⟨e, m, m⟩
    · rw [if_pos h, has_cons, singles_has l, one, List.mem_cons]
      constructor
      · rintro (⟨rfl, rfl⟩ | ⟨k, ko⟩)
        · exact ⟨.inl rfl, h⟩
        · exact ⟨.inr k, ko⟩
      · rintro ⟨k | k, ko⟩
        · cases k; exact .inl ⟨rfl, rfl⟩
        · exact .inr ⟨k, ko⟩
    · rw [if_neg h, singles_has l, List.mem_cons]
      constructor
      · rintro ⟨k, ko⟩; exact ⟨.inr k, ko⟩
      · rintro ⟨k | k, ko⟩
        · cases k; exact absurd ko h
        · exact ⟨k, ko⟩
theorem OI.fin {S rs : List Rn} {k : Nat} {l : List (Int × Int)} (h : OI S k rs) (hm : ∀ r, r ∈ S ↔ r ∈ singles l) (hk : S.length ≤ k) : rs.reverse = ofR [] l :=
  is_of h.may.may fun d n => by
    rw [has_reverse, h.has, take_all hk, ← singles_has]
    exact ⟨fun ⟨x, hx, hi⟩ => ⟨x, (hm x).1 hx, hi⟩, fun ⟨x, hx, hi⟩ => ⟨x, (hm x).2 hx, hi⟩⟩

/-! Where a search ends. -/
theorem count_mono (p : Nat → Bool) : ∀ n, (∀ a b, a ≤ b → b < n → p a = true → p b = true) → (List.range n).countP (fun i => !p i) ≤ n ∧ (∀ k, k < (List.range n).countP (fun i => !p i) → p k = false) ∧ ∀ k, (List.range n).countP (fun i => !p i) ≤ k → k < n → p k = true
  | 0, _ => ⟨by simp, fun k hk => by simp at hk, fun k _ hk => by omega⟩
  | n + 1, h => by
    obtain ⟨h1, h2, h3⟩ := count_mono p n fun a b hab hb => h a b hab (by omega)
    rw [List.range_succ, List.countP_append]
    generalize (List.range n).countP (fun i => !p i) = c at *
    cases hp : p n with
    | true =>
      have e : [n].countP (fun i => !p i) = 0 := by simp [hp]
      rw [e]
      refine ⟨by omega, h2, fun k hk hn => ?_⟩
      by_cases hkn : k = n
      · rw [hkn]; exact hp
      · exact h3 k hk (by omega)
    | false =>
      have e : [n].countP (fun i => !p i) = 1 := by simp [hp]
      have hc : c = n := by
        by_cases hlt : c < n
        · have := h c n (Nat.le_of_lt hlt) (by omega) (h3 c (Nat.le_refl _) hlt)
          rw [hp] at this; cases this
        · omega
      rw [e, hc]
      refine ⟨Nat.le_refl _, fun k hk => ?_, fun k hk hn => by omega⟩
      by_cases hkn : k = n
      · rw [hkn]; exact hp
      · exact h2 k (by omega)

/-! covers. -/
def Cov (r x : Rn) : Prop := x.d = r.d ∧ x.f ≤ r.f ∧ r.t ≤ x.t
instance (r x : Rn) : Decidable (Cov r x) := inferInstanceAs (Decidable (x.d = r.d ∧ x.f ≤ r.f ∧ r.t ≤ x.t))
def covB (l : List Rn) (r : Rn) : Bool := l.any fun x => decide (Cov r x)
theorem covB_iff (l : List Rn) (r : Rn) : covB l r = true ↔ ∃ x ∈ l, Cov r x := by
  unfold covB; rw [List.any_eq_true]; simp only [decide_eq_true_eq]
/-- Is it not ahead? Of the run at a place. -/
def notAhd (l : List Rn) (r : Rn) (i : Nat) : Bool := match l[i]? with | some x => !decide (Ahd x r) | none => true
theorem notAhd_mono {l : List Rn} (h : May l) (r : Rn) : ∀ a b, a ≤ b → b < l.length → notAhd l r a = true → notAhd l r b = true := fun a b hab hb ha => by
  by_cases e : a = b
  · rw [← e]; exact ha
  · obtain ⟨x, hx⟩ : ∃ x, l[a]? = some x := ⟨_, List.getElem?_eq_getElem (by omega)⟩
    obtain ⟨y, hy⟩ : ∃ y, l[b]? = some y := ⟨_, List.getElem?_eq_getElem hb⟩
    unfold notAhd at *
    rw [hx] at ha
    rw [hy]
    simp only [Bool.not_eq_true', decide_eq_false_iff_not] at ha ⊢
    have hb2 := h.behind hx y (List.mem_iff_getElem?.2 ⟨b - (a + 1), by rw [List.getElem?_drop, show a + 1 + (b - (a + 1)) = b by omega]; exact hy⟩)
    obtain ⟨_, _, _, k4, _⟩ := h.get hy
    unfold Ahd at *
    unfold Bef at hb2
    omega
theorem cov_at {l : List Rn} (h : May l) {r : Rn} (hr : r.f ≤ r.t) {i : Nat} (h1 : ∀ k, k < i → notAhd l r k = false) (h2 : i < l.length → notAhd l r i = true) : covB l r = match l[i]? with | some x => decide (Cov r x) | none => false := by
  have key : ∀ x ∈ l, Cov r x → l[i]? = some x := fun x hx hc => by
    obtain ⟨k, hk⟩ := List.getElem?_of_mem hx
    obtain ⟨c1, c2, c3⟩ := hc
    have hkl : k < l.length := (List.getElem?_eq_some_iff.1 hk).1
    by_cases hki : k < i
    · have := h1 k hki
      unfold notAhd at this
      rw [hk] at this
      simp only [Bool.not_eq_false', decide_eq_true_eq] at this
      unfold Ahd at this; omega
    · by_cases hik : i < k
      · obtain ⟨y, hy⟩ : ∃ y, l[i]? = some y := ⟨_, List.getElem?_eq_getElem (by omega)⟩
        have h3 := h2 (by omega)
        unfold notAhd at h3
        rw [hy] at h3
        simp only [Bool.not_eq_true', decide_eq_false_iff_not] at h3
        have hb2 := h.behind hy x (List.mem_iff_getElem?.2 ⟨k - (i + 1), by rw [List.getElem?_drop, show i + 1 + (k - (i + 1)) = k by omega]; exact hk⟩)
        unfold Ahd at h3; unfold Bef at hb2; omega
      · rw [show i = k by omega]; exact hk
  cases hi : l[i]? with
  | none =>
    show covB l r = false
    rw [Bool.eq_false_iff, ne_eq, covB_iff]
    rintro ⟨x, hx, hc⟩
    have := key x hx hc
    rw [hi] at this; cases this
  | some y =>
    show covB l r = decide (Cov r y)
    rw [Bool.eq_iff_iff, covB_iff, decide_eq_true_eq]
    constructor
    · rintro ⟨x, hx, hc⟩
      have := key x hx hc
      rw [hi] at this
      cases this; exact hc
    · intro hc; exact ⟨y, List.mem_of_getElem? hi, hc⟩
theorem cov_one (l : List Rn) (d n : Int) : covB l ⟨d, n, n⟩ = hasB l d n := by
  rw [Bool.eq_iff_iff, covB_iff, hasB_iff]
  rfl

/-! Le. -/
def leB (a b : List Rn) : Bool := a.all fun r => covB b r
/-- Two dots side by side in one set are in one run. -/
theorem next_in {b : List Rn} (hb : May b) {x : Rn} (hx : x ∈ b) {n : Int} (h1 : In x x.d n) (h2 : Has b x.d (n + 1)) : In x x.d (n + 1) := by
  obtain ⟨y, hy, y1, y2, y3⟩ := h2
  obtain ⟨_, x2, x3⟩ := h1
  obtain ⟨i, hi⟩ := List.getElem?_of_mem hx
  obtain ⟨k, hk⟩ := List.getElem?_of_mem hy
  have hkl : k < b.length := (List.getElem?_eq_some_iff.1 hk).1
  have hil : i < b.length := (List.getElem?_eq_some_iff.1 hi).1
  by_cases e : i = k
  · rw [e, hk] at hi; cases hi; exact ⟨rfl, y2, y3⟩
  · by_cases hlt : i < k
    · have := hb.behind hi y (List.mem_iff_getElem?.2 ⟨k - (i + 1), by rw [List.getElem?_drop, show i + 1 + (k - (i + 1)) = k by omega]; exact hk⟩)
      unfold Bef at this
      by_cases hn : n + 1 ≤ x.t
      · exact ⟨rfl, by omega, hn⟩
      · omega
    · have := hb.behind hk x (List.mem_iff_getElem?.2 ⟨i - (k + 1), by rw [List.getElem?_drop, show k + 1 + (i - (k + 1)) = i by omega]; exact hi⟩)
      unfold Bef at this
      omega
theorem leB_iff {a b : List Rn} (ha : May a) (hb : May b) : leB a b = true ↔ ∀ d n, Has a d n → Has b d n := by
  unfold leB
  rw [List.all_eq_true]
  constructor
  · rintro h d n ⟨r, hr, r1, r2, r3⟩
    obtain ⟨x, hx, c1, c2, c3⟩ := (covB_iff _ _).1 (h r hr)
    exact ⟨x, hx, by omega, by omega, by omega⟩
  · intro h r hr
    rw [covB_iff]
    obtain ⟨_, _, _, k4, _⟩ := ha.1 r hr
    obtain ⟨x, hx, x1, x2, x3⟩ := h r.d r.f ⟨r, hr, rfl, Int.le_refl _, k4⟩
    refine ⟨x, hx, x1, x2, ?_⟩
    have go : ∀ k : Nat, r.f + (k : Int) ≤ r.t → In x x.d (r.f + (k : Int)) := by
      intro k
      induction k with
      | zero => intro _; exact ⟨rfl, by omega, by omega⟩
      | succ k ih =>
        intro hk
        have h1 := ih (by omega)
        have h2 := next_in hb hx h1 (by rw [x1]; exact h r.d (r.f + (k : Int) + 1) ⟨r, hr, rfl, by omega, by omega⟩)
        rw [show r.f + ((k + 1 : Nat) : Int) = r.f + (k : Int) + 1 by omega]
        exact h2
    have := go (r.t - r.f).toNat (by omega)
    obtain ⟨_, _, j3⟩ := this
    omega
theorem minus_nil {a b : List Rn} (ha : May a) (hb : May b) : ((minusR a b).length = 0) ↔ leB a b = true := by
  rw [leB_iff ha hb]
  constructor
  · intro h d n hh
    by_cases hn : Has b d n
    · exact hn
    · have := (minus_has ha hb d n).2 ⟨hh, hn⟩
      rw [List.eq_nil_of_length_eq_zero h] at this
      exact absurd this (has_nil _ _)
  · intro h
    cases hm : minusR a b with
    | nil => rfl
    | cons r l =>
      have hh : Has (minusR a b) r.d r.f := by rw [hm]; exact has_first (hm ▸ minus_may ha hb)
      obtain ⟨k1, k2⟩ := (minus_has ha hb _ _).1 hh
      exact absurd (h _ _ k1) k2

/-! Last. -/
theorem lastR_spec (dev : Int) : ∀ (l : List Rn) (m : Int), m ≤ lastR dev l m ∧ (∀ r ∈ l, r.d = dev → r.t ≤ lastR dev l m) ∧ (lastR dev l m = m ∨ ∃ r ∈ l, r.d = dev ∧ lastR dev l m = r.t)
  | [], m => ⟨Int.le_refl _, fun r h => (by cases h), .inl rfl⟩
  | x :: l, m => by
    rw [lastR]
    obtain ⟨h1, h2, h3⟩ := lastR_spec dev l (if x.d = dev then max m x.t else m)
    generalize lastR dev l (if x.d = dev then max m x.t else m) = z at *
    by_cases e : x.d = dev
    · rw [if_pos e] at h1 h3
      refine ⟨by omega, fun r hr hd => ?_, ?_⟩
      · rcases List.mem_cons.1 hr with hr | hr
        · rw [hr]; omega
        · exact h2 r hr hd
      · rcases h3 with h3 | ⟨r, hr, hd, h3⟩
        · by_cases hm : m ≤ x.t
          · exact .inr ⟨x, by simp, e, by omega⟩
          · exact .inl (by omega)
        · exact .inr ⟨r, by simp [hr], hd, h3⟩
    · rw [if_neg e] at h1 h3
      refine ⟨h1, fun r hr hd => ?_, ?_⟩
      · rcases List.mem_cons.1 hr with hr | hr
        · rw [hr] at hd; exact absurd hd e
        · exact h2 r hr hd
      · rcases h3 with h3 | ⟨r, hr, hd, h3⟩
        · exact .inl h3
        · exact .inr ⟨r, by simp [hr], hd, h3⟩
/-- Is the device greater? Of the run at a place. -/
def gtDev (l : List Rn) (dev : Int) (i : Nat) : Bool := match l[i]? with | some x => decide (dev < x.d) | none => true
theorem gtDev_mono {l : List Rn} (h : May l) (dev : Int) : ∀ a b, a ≤ b → b < l.length → gtDev l dev a = true → gtDev l dev b = true := fun a b hab hb ha => by
  by_cases e : a = b
  · rw [← e]; exact ha
  · obtain ⟨x, hx⟩ : ∃ x, l[a]? = some x := ⟨_, List.getElem?_eq_getElem (by omega)⟩
    obtain ⟨y, hy⟩ : ∃ y, l[b]? = some y := ⟨_, List.getElem?_eq_getElem hb⟩
    unfold gtDev at *
    rw [hx] at ha
    rw [hy]
    simp only [decide_eq_true_eq] at ha ⊢
    have hb2 := h.behind hx y (List.mem_iff_getElem?.2 ⟨b - (a + 1), by rw [List.getElem?_drop, show a + 1 + (b - (a + 1)) = b by omega]; exact hy⟩)
    unfold Bef at hb2
    omega
theorem last_none {l : List Rn} {dev : Int} (h : ∀ r ∈ l, r.d ≠ dev) : lastR dev l 0 = 0 := by
  rcases (lastR_spec dev l 0).2.2 with h1 | ⟨r, hr, hd, _⟩
  · exact h1
  · exact absurd hd (h r hr)
/-- The run ahead of the first of a greater device. -/
theorem last_at {l : List Rn} (h : May l) {dev : Int} {i : Nat} {x : Rn} (h2 : ∀ k, i + 1 ≤ k → k < l.length → gtDev l dev k = true) (hx : l[i]? = some x) (hle : x.d ≤ dev) : lastR dev l 0 = if x.d = dev then x.t else 0 := by
  have key : ∀ r ∈ l, r.d = dev → x.d = dev ∧ r.t ≤ x.t := fun r hr hd => by
    obtain ⟨k, hk⟩ := List.getElem?_of_mem hr
    have hkl : k < l.length := (List.getElem?_eq_some_iff.1 hk).1
    have hil : i < l.length := (List.getElem?_eq_some_iff.1 hx).1
    by_cases hik : i + 1 ≤ k
    · have := h2 k hik hkl
      unfold gtDev at this
      rw [hk] at this
      simp only [decide_eq_true_eq] at this
      omega
    · by_cases e : k = i
      · rw [e, hx] at hk; cases hk; exact ⟨hd, Int.le_refl _⟩
      · have hb2 := h.behind hk x (List.mem_iff_getElem?.2 ⟨i - (k + 1), by rw [List.getElem?_drop, show k + 1 + (i - (k + 1)) = i by omega]; exact hx⟩)
        obtain ⟨_, _, _, k4, _⟩ := h.get hx
        unfold Bef at hb2
        omega
  obtain ⟨_, _, k3, k4, _⟩ := h.get hx
  obtain ⟨s1, s2, s3⟩ := lastR_spec dev l 0
  by_cases e : x.d = dev
  · rw [if_pos e]
    have := s2 x (List.mem_of_getElem? hx) e
    rcases s3 with s3 | ⟨r, hr, hd, s3⟩
    · omega
    · have := (key r hr hd).2; omega
  · rw [if_neg e]
    exact last_none fun r hr hd => e (key r hr hd).1
end Go.Proofs.YthijiefopcnclaaGreatDoor.Dt

namespace Go.Proofs.YthijiefopcnclaaGreatDoor.Dt
open Go Go.RowKit Go.Proofs.YthijiefopcnclaaGreatDoor.Mm

theorem bef_trans {a b c : Rn} (hb : Ok b) (h1 : Bef a b) (h2 : Bef b c) : Bef a c := by
  obtain ⟨_, _, _, k4, _⟩ := hb
  rcases h1 with h1 | ⟨h1, h3⟩ <;> rcases h2 with h2 | ⟨h2, h4⟩
  · exact .inl (by omega)
  · exact .inl (by omega)
  · exact .inl (by omega)
  · exact .inr ⟨by omega, by omega⟩
theorem may_one {x : Rn} (h : Ok x) : May [x] := one_may h
theorem may_snoc {l : List Rn} {z x : Rn} (h : May (l ++ [z])) (hx : Ok x) (hb : Bef z x) : May (l ++ [z] ++ [x]) := by
  refine ⟨fun r hr => ?_, ?_⟩
  · rcases List.mem_append.1 hr with hr | hr
    · exact h.1 r hr
    · rw [List.mem_singleton.1 hr]; exact hx
  · rw [List.pairwise_append]
    refine ⟨h.2, List.pairwise_singleton _ _, fun a ha b hb2 => ?_⟩
    rw [List.mem_singleton.1 hb2]
    rcases List.mem_append.1 ha with ha | ha
    · exact bef_trans (h.1 z (by simp)) ((List.pairwise_append.1 h.2).2.2 a ha z (by simp)) hb
    · rw [List.mem_singleton.1 ha]; exact hb
theorem may_next {l : List Rn} {k : Nat} {z x : Rn} (h : May (l.take (k + 1))) (hz : l[k]? = some z) (hx : l[k + 1]? = some x) (ho : Ok x) (hb : Bef z x) : May (l.take (k + 1 + 1)) := by
  rw [take_more hx, take_more hz]
  rw [take_more hz] at h
  exact may_snoc h ho hb
theorem may_not_ok {l : List Rn} {k : Nat} {x : Rn} (hx : l[k]? = some x) (ho : ¬ Ok x) : ¬ May l := fun h => ho (h.1 x (List.mem_of_getElem? hx))
theorem may_not_bef {l : List Rn} {k : Nat} {z x : Rn} (hz : l[k]? = some z) (hx : l[k + 1]? = some x) (hb : ¬ Bef z x) : ¬ May l := fun h => hb (by
  have hk : k + 1 < l.length := (List.getElem?_eq_some_iff.1 hx).1
  have := List.pairwise_iff_getElem.1 h.2 k (k + 1) (by omega) hk (by omega)
  rw [(List.getElem?_eq_some_iff.1 hz).2, (List.getElem?_eq_some_iff.1 hx).2] at this
  exact this)
/-- Whether they may be, as a Boolean. -/
def MayIs (l : List Rn) (w : World) (e : Ending) (w' : World) : Prop := (∃ b, e = .returned (.bool b) ∧ (b = true ↔ May l)) ∧ w.grownBy w' none

set_option maxHeartbeats 8000000 in
set_option maxRecDepth 100000 in
theorem refMay_any (A : Option Addr) (n c : Nat) (l : List Rn) (w : World) (hl : RL w A n l) (hn : n ≤ 1099511627776) :
    Calls Tryz.prog 38 #[.slice A n c] w (MayIs l w) := by
  have Hl := Lib.hid hl
  clear hl
  go_enter Tryz.func38, Tryz.ntmps38
  go_wp2_with fail
  go_loopw [3] (fun i wr => ∃ k : Nat, k ≤ n ∧ i = .int .i64 k ∧ Hid (May (l.take k)) ∧ w.grownBy wr none) (fun i _ => n - (intOf i).toNat)
  case atStart => exact ⟨0, Nat.zero_le _, rfl, may_nil, gb_refl _ _⟩
  case round =>
    obtain ⟨k, hk, rfl, HX, hg⟩ := hrel
    by_cases hlt : k < n
    · have d1 : decide (k < n) = true := decide_eq_true hlt
      have d2 : decide ((k : Int) < (n : Int)) = true := decide_eq_true (by omega)
      have bk : (k : Int) < (n : Int) := by omega
      obtain ⟨g, o, rfl, hgl, hcc⟩ := (Hl.out.keep hg).2 (by omega)
      obtain ⟨x, hx⟩ : ∃ x, l[k]? = some x := ⟨_, List.getElem?_eq_getElem (by rw [Hl.out.1]; exact hlt)⟩
      obtain ⟨h0, h1, h2⟩ := hcc k x hx
      have Hx := Lib.hid hx
      have HCC := Lib.hid hcc
      clear hcc hx
      by_cases a1 : x.d < 0
      · have f1 : decide (x.d < 0) = true := decide_eq_true a1
        have Hno : Hid (¬ May l) := may_not_ok Hx.out (fun ho => by obtain ⟨q1, q2, q3, q4, q5⟩ := ho; omega)
        clear a1
        go_wp2_with fail
        go_ret
        exact ⟨⟨false, rfl, by simp [Hno.out]⟩, gb_alloc hg _⟩
      · have f1 : decide (x.d < 0) = false := decide_eq_false a1
        by_cases a2 : 8 ≤ x.d
        · have f2 : decide (8 ≤ x.d) = true := decide_eq_true a2
          have Hno : Hid (¬ May l) := may_not_ok Hx.out (fun ho => by obtain ⟨q1, q2, q3, q4, q5⟩ := ho; omega)
          clear a1 a2
          go_wp2_with fail
          go_ret
          exact ⟨⟨false, rfl, by simp [Hno.out]⟩, gb_alloc hg _⟩
        · have f2 : decide (8 ≤ x.d) = false := decide_eq_false a2
          by_cases a3 : x.f < 1
          · have f3 : decide (x.f < 1) = true := decide_eq_true a3
            have Hno : Hid (¬ May l) := may_not_ok Hx.out (fun ho => by obtain ⟨q1, q2, q3, q4, q5⟩ := ho; omega)
            clear a1 a2 a3
            go_wp2_with fail
            go_ret
            exact ⟨⟨false, rfl, by simp [Hno.out]⟩, gb_alloc hg _⟩
          · have f3 : decide (x.f < 1) = false := decide_eq_false a3
            by_cases a4 : x.t < x.f
            · have f4 : decide (x.t < x.f) = true := decide_eq_true a4
              have Hno : Hid (¬ May l) := may_not_ok Hx.out (fun ho => by obtain ⟨q1, q2, q3, q4, q5⟩ := ho; omega)
              clear a1 a2 a3 a4
              go_wp2_with fail
              go_ret
              exact ⟨⟨false, rfl, by simp [Hno.out]⟩, gb_alloc hg _⟩
            · have f4 : decide (x.t < x.f) = false := decide_eq_false a4
              by_cases a5 : 4503599627370496 < x.t
              · have f5 : decide (4503599627370496 < x.t) = true := decide_eq_true a5
                have Hno : Hid (¬ May l) := may_not_ok Hx.out (fun ho => by obtain ⟨q1, q2, q3, q4, q5⟩ := ho; omega)
                clear a1 a2 a3 a4 a5
                go_wp2_with fail
                go_ret
                exact ⟨⟨false, rfl, by simp [Hno.out]⟩, gb_alloc hg _⟩
              · have f5 : decide (4503599627370496 < x.t) = false := decide_eq_false a5
                have Ho : Hid (Ok x) := ⟨by omega, by omega, by omega, by omega, by omega⟩
                clear a1 a2 a3 a4 a5
                go_upto_region 7 with fail
                clear f1 f2 f3 f4 f5 d1 d2 h0 h1 h2
                have ga := gb_alloc hg (.cells #[.int .i64 x.d, .int .i64 x.f, .int .i64 x.t] 50)
                have hrow := Row.new wr 50 #[.int .i64 x.d, .int .i64 x.f, .int .i64 x.t]
                have q0 := hrow.at_ (i := 0) rfl
                have q1 := hrow.at_ (i := 1) rfl
                have q2 := hrow.at_ (i := 2) rfl
                have Ga := Lib.hid (gb_alloc (gb_refl wr none) (.cells #[.int .i64 x.d, .int .i64 x.f, .int .i64 x.t] 50))
                clear hrow
                by_cases hk0 : k = 0
                · have e1 : decide ((0 : Int) < (k : Int)) = false := decide_eq_false (by omega)
                  have e2 : decide (0 < k) = false := decide_eq_false (by omega)
                  have Hnext : Hid (May (l.take (k + 1))) := by
                    show May _
                    rw [take_more Hx.out, hk0, List.take_zero, List.nil_append]; exact may_one Ho.out
                  clear hk0
                  go_quiet (fail)
                  go_wp2_with fail
                  go_roundw
                  case rel => exact ⟨k + 1, by omega, by go_num, Hnext, gb_drewN ga _⟩
                  case measure => simp [intOf]; omega
                · obtain ⟨j, rfl⟩ : ∃ j, k = j + 1 := ⟨k - 1, by omega⟩
                  obtain ⟨z, hz⟩ : ∃ z, l[j]? = some z := ⟨_, List.getElem?_eq_getElem (by rw [Hl.out.1]; omega)⟩
                  obtain ⟨p0, p1, p2⟩ := HCC.out j z hz
                  have p0' := (World.cell?_of_block (a := ⟨g, o + j * 3, none⟩) (Ga.out.block g hgl (by simp))).trans p0
                  have p1' := (World.cell?_of_block (a := ⟨g, o + j * 3 + 1, none⟩) (Ga.out.block g hgl (by simp))).trans p1
                  have p2' := (World.cell?_of_block (a := ⟨g, o + j * 3 + 2, none⟩) (Ga.out.block g hgl (by simp))).trans p2
                  have hzo : Ok z := HX.out.1 z (by rw [take_more hz]; simp)
                  have hz1 : 1 ≤ z.t ∧ z.t ≤ 4503599627370496 := by obtain ⟨_, _, k3, k4, k5⟩ := hzo; omega
                  have hw : IntKind.i64.wrap (z.t + 1) = z.t + 1 := by rw [IntKind.wrap_i64]; omega
                  have hw2 : wrap64 (z.t + 1) = z.t + 1 := IntWalk.wrap64_in _ ⟨by omega, by omega⟩
                  have Hz := Lib.hid hz
                  have e1 : decide ((0 : Int) < ((j + 1 : Nat) : Int)) = true := decide_eq_true (by omega)
                  have bj : (j : Int) < (n : Int) := by omega
                  clear hz p0 p1 p2 hk0 hzo hz1
                  by_cases c1 : x.d < z.d
                  · have e3 : decide (x.d < z.d) = true := decide_eq_true c1
                    have Hno : Hid (¬ May l) := may_not_bef Hz.out Hx.out (fun hb => by rcases hb with hb | ⟨hb, _⟩ <;> omega)
                    clear c1
                    go_quiet (fail)
                    go_wp2_with fail
                    go_ret
                    exact ⟨⟨false, rfl, by simp [Hno.out]⟩, gb_drewN ga _⟩
                  · have e3 : decide (x.d < z.d) = false := decide_eq_false c1
                    by_cases c2 : x.d = z.d
                    · have e4 : (x.d == z.d) = true := by rw [c2]; simp
                      by_cases c3 : x.f ≤ z.t + 1
                      · have e5 : decide (x.f ≤ z.t + 1) = true := decide_eq_true c3
                        have Hno : Hid (¬ May l) := may_not_bef Hz.out Hx.out (fun hb => by rcases hb with hb | ⟨_, hb⟩ <;> omega)
                        clear c1 c2 c3
                        go_quiet (fail)
                        go_wp2_with fail
                        go_ret
                        exact ⟨⟨false, rfl, by simp [Hno.out]⟩, gb_drewN ga _⟩
                      · have e5 : decide (x.f ≤ z.t + 1) = false := decide_eq_false c3
                        have Hnext : Hid (May (l.take (j + 1 + 1))) := may_next HX.out Hz.out Hx.out Ho.out (.inr ⟨c2.symm, by omega⟩)
                        clear c1 c2 c3
                        go_quiet (fail)
                        go_wp2_with fail
                        go_roundw
                        case rel => exact ⟨j + 1 + 1, by omega, by go_num, Hnext, gb_drewN ga _⟩
                        case measure => simp [intOf]; omega
                    · have e4 : (x.d == z.d) = false := by rw [beq_eq_false_iff_ne]; exact c2
                      have Hnext : Hid (May (l.take (j + 1 + 1))) := may_next HX.out Hz.out Hx.out Ho.out (.inl (by omega))
                      clear c1 c2
                      go_quiet (fail)
                      go_wp2_with fail
                      go_roundw
                      case rel => exact ⟨j + 1 + 1, by omega, by go_num, Hnext, gb_drewN ga _⟩
                      case measure => simp [intOf]; omega
    · have hkn : k = n := by omega
      subst hkn
      have d1 : decide (k < k) = false := by simp
      have d2 : decide ((k : Int) < (k : Int)) = false := by simp
      have He : Hid (May l) := by
        show May l
        have h := HX.out
        rwa [List.take_of_length_le (by rw [Hl.out.1]; exact Nat.le_refl _)] at h
      go_wp2_with fail
      go_ret
      exact ⟨⟨true, rfl, by simp [He.out]⟩, hg⟩
end Go.Proofs.YthijiefopcnclaaGreatDoor.Dt

namespace Go.Proofs.YthijiefopcnclaaGreatDoor.Dt
open Go Go.RowKit Go.Proofs.YthijiefopcnclaaGreatDoor.Mm Go.Proofs.YthijiefopcnclaaGreatDoor.Td

/-- The slice at A, of n dots, reads as these. -/
def DL (w : World) (A : Option Addr) (n : Nat) (l : List (Int × Int)) : Prop :=
  l.length = n ∧ (0 < n → ∃ g o, A = some ⟨g, o, none⟩ ∧ g < w.heap.size ∧ ∀ i x, l[i]? = some x → w.cell? ⟨g, o + i * 2, none⟩ = some (.int .i64 x.1) ∧ w.cell? ⟨g, o + i * 2 + 1, none⟩ = some (.int .i64 x.2))
theorem DL.keep {w w' : World} {A : Option Addr} {n : Nat} {l : List (Int × Int)} (h : DL w A n l) (hg : w.grownBy w' none) : DL w' A n l := by
  refine ⟨h.1, fun hn => ?_⟩
  obtain ⟨g, o, e, hl, hc⟩ := h.2 hn
  refine ⟨g, o, e, Nat.lt_of_lt_of_le hl hg.size, fun i x hx => ?_⟩
  have hb := hg.block g hl (by simp)
  obtain ⟨h0, h1⟩ := hc i x hx
  exact ⟨(World.cell?_of_block (a := ⟨g, o + i * 2, none⟩) hb).trans h0, (World.cell?_of_block (a := ⟨g, o + i * 2 + 1, none⟩) hb).trans h1⟩
theorem ofR_snoc (x : Int × Int) : ∀ (l : List (Int × Int)) (acc : List Rn), ofR acc (l ++ [x]) = if Ok ⟨x.1, x.2, x.2⟩ then unionR (ofR acc l) [⟨x.1, x.2, x.2⟩] else ofR acc l
  | [], acc => rfl
  | (d, n) :: l, acc => by rw [List.cons_append, ofR, ofR, ofR_snoc x l]
theorem ofR_more {l : List (Int × Int)} {k : Nat} {x : Int × Int} (h : l[k]? = some x) : ofR [] (l.take (k + 1)) = if Ok ⟨x.1, x.2, x.2⟩ then unionR (ofR [] (l.take k)) [⟨x.1, x.2, x.2⟩] else ofR [] (l.take k) := by
  rw [List.take_add_one, h]; exact ofR_snoc x _ _
theorem sub_len : ∀ (a b : List (Int × Int)), a.Nodup → (∀ x ∈ a, x ∈ b) → a.length ≤ b.length
  | [], b, _, _ => Nat.zero_le _
  | x :: a, b, hn, hs => by
    have hx := hs x (by simp)
    obtain ⟨h1, h2⟩ := List.nodup_cons.1 hn
    have := sub_len a (b.erase x) h2 (fun y hy => (List.mem_erase_of_ne (by intro e; subst e; exact h1 hy)).2 (hs y (by simp [hy])))
    rw [List.length_erase_of_mem hx] at this
    have hb : 0 < b.length := List.length_pos_of_mem hx
    rw [List.length_cons]; omega
/-- No more runs than dots were named. -/
theorem of_len (l : List (Int × Int)) : (ofR [] l).length ≤ l.length := by
  have h := of_may l
  have hh := of_has l
  generalize ofR [] l = R at *
  have hn : (R.map fun r => (r.d, r.f)).Nodup := by
    rw [List.Nodup, List.pairwise_map]
    refine List.Pairwise.imp_of_mem (fun {a b} ha hb hab e => ?_) h.2
    obtain ⟨_, _, _, k4, _⟩ := h.1 a ha
    have e1 : a.d = b.d := congrArg Prod.fst e
    have e2 : a.f = b.f := congrArg Prod.snd e
    rcases hab with h1 | ⟨_, h1⟩ <;> omega
  have hs : ∀ x ∈ R.map (fun r => (r.d, r.f)), x ∈ l := fun x hx => by
    obtain ⟨r, hr, rfl⟩ := List.mem_map.1 hx
    obtain ⟨_, _, _, k4, _⟩ := h.1 r hr
    exact ((hh r.d r.f).1 ⟨r, hr, rfl, Int.le_refl _, k4⟩).1
  have := sub_len _ _ hn hs
  rwa [List.length_map] at this
def runsV (l : List Rn) : Td.Spec := fun W v => ∃ A c, v = .slice A l.length c ∧ RL W A l.length l
theorem runsV_stays {l : List Rn} : Stays (fun a b => a.grownBy b none) (runsV l) := fun _ _ _ h ⟨A, c, e, hr⟩ => ⟨A, c, e, hr.keep h⟩
theorem rl_new1 (w : World) (x y z : Int) (t : TypeId) : RL (w.alloc (.cells #[.int .i64 x, .int .i64 y, .int .i64 z] t)) (some ⟨w.heap.size, 0, none⟩) 1 [⟨x, y, z⟩] := by
  have hr := Row.new w t #[.int .i64 x, .int .i64 y, .int .i64 z]
  refine ⟨rfl, fun _ => ⟨w.heap.size, 0, rfl, hr.lt, fun i r h => ?_⟩⟩
  have hi : i = 0 := by
    rcases i with _ | i
    · rfl
    · simp at h
  subst hi
  obtain rfl : (⟨x, y, z⟩ : Rn) = r := by simpa using h
  exact ⟨hr.at_ (i := 0) rfl, hr.at_ (i := 1) rfl, hr.at_ (i := 2) rfl⟩
-- the walk
attribute [local go_sem] Td.upon_value Td.upon_skip Td.upon_enter Td.upon_row Td.look_tmp Td.look_const Td.look_func Td.look_global
set_option maxHeartbeats 8000000 in
set_option maxRecDepth 100000 in
theorem refOf_of (hmix : MixC) (A : Option Addr) (n c : Nat) (l : List (Int × Int)) (w : World) (hl : DL w A n l) (hn : n ≤ 50000) :
    Calls Tryz.prog 65 #[.slice A n c] w (Runs (ofR [] l) w) := by
  have Hl := Lib.hid hl
  have Mx := Lib.hid hmix
  clear hl hmix
  go_enter Tryz.func65, Tryz.ntmps65
  go_wp2_with fail
  go_loopw [4, 3] (fun i v wr => ∃ (k : Nat) (A1 : Option Addr) (c1 : Nat) (R : List Rn), k ≤ n ∧ i = .int .i64 k ∧ Hid (R = ofR [] (l.take k)) ∧ v = .slice A1 R.length c1 ∧ RL wr A1 R.length R ∧ Hid ((R.length = 0 → A1 = none ∧ c1 = 0) ∧ R.length ≤ c1) ∧ w.grownBy wr none) (fun i _ _ => n - (intOf i).toNat)
  case atStart => exact ⟨0, none, 0, [], Nat.zero_le _, rfl, by show _ = _; rfl, rfl, RL.none _ _, ⟨fun _ => ⟨rfl, rfl⟩, Nat.le_refl _⟩, gb_refl _ _⟩
  case round =>
    obtain ⟨k, A1, c1, R, hk, rfl, HR, rfl, hR, H0, hg⟩ := hrel
    by_cases hlt : k < n
    · have d1 : decide (k < n) = true := decide_eq_true hlt
      have d2 : decide ((k : Int) < (n : Int)) = true := decide_eq_true (by omega)
      have bk : (k : Int) < (n : Int) := by omega
      obtain ⟨g, o, rfl, hgl, hcc⟩ := (Hl.out.keep hg).2 (by omega)
      obtain ⟨x, hx⟩ : ∃ x, l[k]? = some x := ⟨_, List.getElem?_eq_getElem (by rw [Hl.out.1]; exact hlt)⟩
      obtain ⟨h0, h1⟩ := hcc k x hx
      have HC0 : Hid (∀ W, wr.grownBy W none → W.cell? ⟨g, o + k * 2, none⟩ = some (.int .i64 x.1)) := fun W hW => (World.cell?_of_block (a := ⟨g, o + k * 2, none⟩) (hW.block g hgl (by simp))).trans h0
      have HC1 : Hid (∀ W, wr.grownBy W none → W.cell? ⟨g, o + k * 2 + 1, none⟩ = some (.int .i64 x.2)) := fun W hW => (World.cell?_of_block (a := ⟨g, o + k * 2 + 1, none⟩) (hW.block g hgl (by simp))).trans h1
      have Hm := Lib.hid (ofR_more hx)
      have hRl : R.length ≤ 50000 := by
        have := of_len (l.take k)
        rw [← HR.out, List.length_take] at this
        omega
      have HRm : Hid (May R) := by show May R; rw [HR.out]; exact of_may _
      have HRR := Lib.hid hR
      have G := Lib.hid hg
      clear h0 h1 hcc hx hR hg hgl
      go_upto_region 5 with fail
      apply wp_region_told (le := fun a b => a.grownBy b none) [isV _, isV _, isV _, isV _, isV _, isV _, isV _, isV _, isV _, isV _, isV _, isV _, isV _, isV _, isV _, isV _, runsV [⟨x.1, x.2, x.2⟩], runsV [⟨x.1, x.2, x.2⟩]]
      case hn => rfl
      case hm => kernel_rfl
      case hB => kernel_rfl
      case ht => exact fun _ _ _ h k => gb_none h k
      case hw => exact gb_drew (gb_refl _ _)
      -- 0: ref.go:98 move
      apply told_is
      · intro W f hW hE h0 K hK
        have e0 := h0 0 (by kernel_rfl)
        conv at e0 => rhs; whnf
        clear hE h0
        refine yes_of (want_free rfl) ?_
        go_simp; exact hK _ _ (gb_refl _ _) rfl
      -- 1: ref.go:98 move
      apply told_is
      · intro W f hW hE h0 K hK
        have e4 := h0 4 (by kernel_rfl)
        conv at e4 => rhs; whnf
        clear hE h0
        refine yes_of (want_free rfl) ?_
        go_simp; exact hK _ _ (gb_refl _ _) rfl
      -- 2: ref.go:98 indexAddr
      apply told_is
      · intro W f hW hE h0 K hK
        have e12 : f 12 = _ := hE 1 12 _ rfl (by kernel_rfl)
        have e13 : f 13 = _ := hE 0 13 _ rfl (by kernel_rfl)
        clear hE h0
        refine yes_of (want_free rfl) ?_
        go_simp; exact hK _ _ (gb_refl _ _) rfl
      -- 3: ref.go:98 fieldAddr
      apply told_is
      · intro W f hW hE h0 K hK
        have e14 : f 14 = _ := hE 0 14 _ rfl (by kernel_rfl)
        clear hE h0
        refine yes_of (want_free rfl) ?_
        go_simp; exact hK _ _ (gb_refl _ _) rfl
      -- 4: ref.go:98 load
      apply told_is
      · intro W f hW hE h0 K hK
        have e15 : f 15 = _ := hE 0 15 _ rfl (by kernel_rfl)
        clear hE h0
        refine yes_of (want_free rfl) ?_
        have hc := HC0.out W hW
        go_simp; exact hK _ _ (gb_refl _ _) rfl
      -- 5: ref.go:98 move
      apply told_is
      · intro W f hW hE h0 K hK
        have e0 := h0 0 (by kernel_rfl)
        conv at e0 => rhs; whnf
        clear hE h0
        refine yes_of (want_free rfl) ?_
        go_simp; exact hK _ _ (gb_refl _ _) rfl
      -- 6: ref.go:98 move
      apply told_is
      · intro W f hW hE h0 K hK
        have e4 := h0 4 (by kernel_rfl)
        conv at e4 => rhs; whnf
        clear hE h0
        refine yes_of (want_free rfl) ?_
        go_simp; exact hK _ _ (gb_refl _ _) rfl
      -- 7: ref.go:98 indexAddr
      apply told_is
      · intro W f hW hE h0 K hK
        have e17 : f 17 = _ := hE 1 17 _ rfl (by kernel_rfl)
        have e18 : f 18 = _ := hE 0 18 _ rfl (by kernel_rfl)
        clear hE h0
        refine yes_of (want_free rfl) ?_
        go_simp; exact hK _ _ (gb_refl _ _) rfl
      -- 8: ref.go:98 fieldAddr
      apply told_is
      · intro W f hW hE h0 K hK
        have e19 : f 19 = _ := hE 0 19 _ rfl (by kernel_rfl)
        clear hE h0
        refine yes_of (want_free rfl) ?_
        go_simp; exact hK _ _ (gb_refl _ _) rfl
      -- 9: ref.go:98 load
      apply told_is
      · intro W f hW hE h0 K hK
        have e20 : f 20 = _ := hE 0 20 _ rfl (by kernel_rfl)
        clear hE h0
        refine yes_of (want_free rfl) ?_
        have hc := HC1.out W hW
        go_simp; exact hK _ _ (gb_refl _ _) rfl
      -- 10: ref.go:98 move
      apply told_is
      · intro W f hW hE h0 K hK
        have e0 := h0 0 (by kernel_rfl)
        conv at e0 => rhs; whnf
        clear hE h0
        refine yes_of (want_free rfl) ?_
        go_simp; exact hK _ _ (gb_refl _ _) rfl
      -- 11: ref.go:98 move
      apply told_is
      · intro W f hW hE h0 K hK
        have e4 := h0 4 (by kernel_rfl)
        conv at e4 => rhs; whnf
        clear hE h0
        refine yes_of (want_free rfl) ?_
        go_simp; exact hK _ _ (gb_refl _ _) rfl
      -- 12: ref.go:98 indexAddr
      apply told_is
      · intro W f hW hE h0 K hK
        have e22 : f 22 = _ := hE 1 22 _ rfl (by kernel_rfl)
        have e23 : f 23 = _ := hE 0 23 _ rfl (by kernel_rfl)
        clear hE h0
        refine yes_of (want_free rfl) ?_
        go_simp; exact hK _ _ (gb_refl _ _) rfl
      -- 13: ref.go:98 fieldAddr
      apply told_is
      · intro W f hW hE h0 K hK
        have e24 : f 24 = _ := hE 0 24 _ rfl (by kernel_rfl)
        clear hE h0
        refine yes_of (want_free rfl) ?_
        go_simp; exact hK _ _ (gb_refl _ _) rfl
      -- 14: ref.go:98 load
      apply told_is
      · intro W f hW hE h0 K hK
        have e25 : f 25 = _ := hE 0 25 _ rfl (by kernel_rfl)
        clear hE h0
        refine yes_of (want_free rfl) ?_
        have hc := HC1.out W hW
        go_simp; exact hK _ _ (gb_refl _ _) rfl
      -- 15: ref.go:98 build
      apply told_is
      · intro W f hW hE h0 K hK
        have e16 : f 16 = _ := hE 10 16 _ rfl (by kernel_rfl)
        have e21 : f 21 = _ := hE 5 21 _ rfl (by kernel_rfl)
        have e26 : f 26 = _ := hE 0 26 _ rfl (by kernel_rfl)
        clear hE h0
        refine yes_of (want_free rfl) ?_
        go_simp; exact hK _ _ (gb_refl _ _) rfl
      -- 16: ref.go:98 buildSlice
      apply told_at runsV_stays
      · intro W f hW hE h0 K hK
        have e27 : f 27 = _ := hE 0 27 _ rfl (by kernel_rfl)
        clear hE h0
        refine yes_of (want_free rfl) ?_
        go_simp
        exact hK _ _ (gb_alloc (gb_refl _ _) _) ⟨_, _, rfl, rl_new1 _ _ _ _ _⟩
      -- 17: ref.go:98 assign
      apply told_at runsV_stays
      · intro W f hW hE h0 K hK
        have e28 := hE 0 28 _ rfl (by kernel_rfl)
        clear hE h0
        refine yes_of (want_free rfl) ?_
        go_simp
        exact hK _ _ (gb_refl _ _) e28
      intro W f hW hA
      simp only [lexIn, Act.put, List.setIfInBounds_toArray, List.set_cons_zero, List.set_cons_succ]
      have e5 := hA 0 (some 5) _ rfl
      clear hA
      obtain ⟨A5, c5, e5', hx5⟩ := e5
      rw [e5']
      have hR5 := HRR.out.keep hW
      have g5 := gb_none G.out hW
      clear e5' hW
      go_wp2_with fail
      refine (refMay_any A5 1 c5 [⟨x.1, x.2, x.2⟩] _ hx5 (by decide)).mono ?_
      rintro e w6 ⟨⟨b, rfl, hb⟩, g6⟩
      have hR6 := hR5.keep g6
      have hx6 := hx5.keep g6
      have g7 := gb_none g5 g6
      clear hR5 hx5 g5 g6
      cases b with
      | true =>
        have ho : Ok ⟨x.1, x.2, x.2⟩ := (hb.1 rfl).1 _ (by simp)
        have Hn : Hid (unionR R [⟨x.1, x.2, x.2⟩] = ofR [] (l.take (k + 1))) := by show _ = _; rw [Hm.out, if_pos ho, HR.out]
        have Hu := Lib.hid (refUnion_of Mx.out A1 A5 R.length c1 1 c5 R [⟨x.1, x.2, x.2⟩] w6 hR6 hx6 HRm.out.1 (one_may ho).1 (by omega) (by decide))
        clear hb ho hR6 hx6
        go_wp2_with fail
        refine Hu.out.mono ?_
        rintro e w7 ⟨A7, c7, rfl, hR7, h07, g8⟩
        have g9 := gb_none g7 g8
        go_wp2_with fail
        go_roundw
        case rel => exact ⟨k + 1, A7, c7, _, by omega, by go_num, Hn.out, rfl, hR7, h07, g9⟩
        case measure => simp [intOf]; omega
      | false =>
        have ho : ¬ Ok ⟨x.1, x.2, x.2⟩ := fun h => by have := hb.2 (one_may h); cases this
        have Hn : Hid (R = ofR [] (l.take (k + 1))) := by show _ = _; rw [Hm.out, if_neg ho, HR.out]
        clear hb ho hx6
        go_wp2_with fail
        go_roundw
        case rel => exact ⟨k + 1, A1, c1, R, by omega, by go_num, Hn, rfl, hR6, H0, g7⟩
        case measure => simp [intOf]; omega
    · have hkn : k = n := by omega
      subst hkn
      have d1 : decide (k < k) = false := by simp
      have d2 : decide ((k : Int) < (k : Int)) = false := by simp
      have He : Hid (R = ofR [] l) := by
        show _ = _
        have h := HR.out
        rwa [List.take_of_length_le (by rw [Hl.out.1]; exact Nat.le_refl _)] at h
      have hRR := Lib.hid hR
      clear hR
      go_wp2_with fail
      go_ret
      rw [← He.out]
      exact ⟨A1, c1, rfl, hRR.out, H0.out, hg⟩
end Go.Proofs.YthijiefopcnclaaGreatDoor.Dt
