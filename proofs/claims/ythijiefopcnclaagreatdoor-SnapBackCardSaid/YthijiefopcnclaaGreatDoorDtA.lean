/- Runs of dots as plain lists: what they have; two lists that may be and have the same are one. No program. The document's mark, mix, Union, Minus as plain lists. No program. Lists of runs in memory; the document's Has. The document's Union and Minus, given mix. -/
import Derived.Tactics
import Derived.Test.YthijiefopcnclaaGreatDoorBase
import Derived.WalkSpells
import Derived.WalkLawsBesides
import Derived.BigRegion
import Derived.BigQuiet
import Derived.IntWalk
import Derived.Lib.Hide
import Derived.Outline
import Derived.Deep.QuietTactic
import Derived.Laws.AppendOwn
import Derived.Laws.AppendOwnNone
import Derived.Deep.DeepCutAuto
namespace Go.Proofs.YthijiefopcnclaaGreatDoor.Dt

structure Rn where
  d : Int
  f : Int
  t : Int
def Ok (r : Rn) : Prop := 0 ≤ r.d ∧ r.d < 8 ∧ 1 ≤ r.f ∧ r.f ≤ r.t ∧ r.t ≤ 4503599627370496
def Bef (r s : Rn) : Prop := r.d < s.d ∨ (r.d = s.d ∧ r.t + 1 < s.f)
/-- They may be. -/
def May (l : List Rn) : Prop := (∀ r ∈ l, Ok r) ∧ l.Pairwise Bef
def In (r : Rn) (d n : Int) : Prop := r.d = d ∧ r.f ≤ n ∧ n ≤ r.t
instance (r : Rn) (d n : Int) : Decidable (In r d n) := inferInstanceAs (Decidable (r.d = d ∧ r.f ≤ n ∧ n ≤ r.t))
instance (r : Rn) : Decidable (Ok r) := inferInstanceAs (Decidable (0 ≤ r.d ∧ r.d < 8 ∧ 1 ≤ r.f ∧ r.f ≤ r.t ∧ r.t ≤ 4503599627370496))
/-- They have this dot. -/
def Has (l : List Rn) (d n : Int) : Prop := ∃ r ∈ l, In r d n

theorem ext {r s : Rn} (h1 : r.d = s.d) (h2 : r.f = s.f) (h3 : r.t = s.t) : r = s := by
  cases r; cases s; cases h1; cases h2; cases h3; rfl
theorem has_nil (d n : Int) : ¬ Has [] d n := fun ⟨_, h, _⟩ => by cases h
theorem has_cons (r : Rn) (l : List Rn) (d n : Int) : Has (r :: l) d n ↔ In r d n ∨ Has l d n := by
  constructor
  · rintro ⟨x, hx, hi⟩
    rcases List.mem_cons.1 hx with e | hx
    · subst e; exact .inl hi
    · exact .inr ⟨x, hx, hi⟩
  · rintro (hi | ⟨x, hx, hi⟩)
    · exact ⟨r, by simp, hi⟩
    · exact ⟨x, by simp [hx], hi⟩
theorem has_append (a b : List Rn) (d n : Int) : Has (a ++ b) d n ↔ Has a d n ∨ Has b d n := by
  constructor
  · rintro ⟨x, hx, hi⟩
    rcases List.mem_append.1 hx with hx | hx
    · exact .inl ⟨x, hx, hi⟩
    · exact .inr ⟨x, hx, hi⟩
  · rintro (⟨x, hx, hi⟩ | ⟨x, hx, hi⟩)
    · exact ⟨x, by simp [hx], hi⟩
    · exact ⟨x, by simp [hx], hi⟩
theorem may_nil : May [] := ⟨fun _ h => (by cases h), List.Pairwise.nil⟩
theorem May.tail {r : Rn} {l : List Rn} (h : May (r :: l)) : May l := ⟨fun x hx => h.1 x (by simp [hx]), (List.pairwise_cons.1 h.2).2⟩
theorem May.head {r : Rn} {l : List Rn} (h : May (r :: l)) : Ok r := h.1 r (by simp)
theorem May.bef {r : Rn} {l : List Rn} (h : May (r :: l)) : ∀ x ∈ l, Bef r x := (List.pairwise_cons.1 h.2).1
theorem May.ok {l : List Rn} (h : May l) {d n : Int} (hh : Has l d n) : 0 ≤ d ∧ d < 8 ∧ 1 ≤ n ∧ n ≤ 4503599627370496 := by
  obtain ⟨x, hx, h1, h2, h3⟩ := hh
  obtain ⟨k1, k2, k3, k4, k5⟩ := h.1 x hx
  omega
/-- The first dot of a list. -/
theorem first_le {r : Rn} {l : List Rn} (h : May (r :: l)) {d n : Int} (hh : Has (r :: l) d n) : r.d < d ∨ (r.d = d ∧ r.f ≤ n) := by
  rcases (has_cons r l d n).1 hh with ⟨h1, h2, _⟩ | ⟨x, hx, h1, h2, h3⟩
  · exact .inr ⟨h1, h2⟩
  · obtain ⟨_, _, _, k4, _⟩ := h.head
    rcases h.bef x hx with hb | ⟨hb, hb2⟩ <;> omega
theorem has_first {r : Rn} {l : List Rn} (h : May (r :: l)) : Has (r :: l) r.d r.f := by
  obtain ⟨_, _, _, k4, _⟩ := h.head
  exact ⟨r, by simp, rfl, by omega, k4⟩
/-- Behind the first run there is none at once. -/
theorem gap {r : Rn} {l : List Rn} (h : May (r :: l)) : ¬ Has (r :: l) r.d (r.t + 1) := by
  intro hh
  rcases (has_cons r l _ _).1 hh with ⟨_, _, h3⟩ | ⟨x, hx, h1, h2, h3⟩
  · omega
  · rcases h.bef x hx with hb | ⟨hb, hb2⟩ <;> omega
theorem tail_has {r : Rn} {l : List Rn} (h : May (r :: l)) (d n : Int) : Has l d n ↔ Has (r :: l) d n ∧ ¬ In r d n := by
  rw [has_cons]
  constructor
  · intro hh
    refine ⟨.inr hh, fun ⟨i1, i2, i3⟩ => ?_⟩
    obtain ⟨x, hx, h1, h2, h3⟩ := hh
    rcases h.bef x hx with hb | ⟨hb, hb2⟩ <;> omega
  · rintro ⟨h1 | h1, h2⟩
    · exact absurd h1 h2
    · exact h1
/-- Two lists that may be and have the same dots are one. -/
theorem canon : ∀ (a b : List Rn), May a → May b → (∀ d n, Has a d n ↔ Has b d n) → a = b
  | [], [], _, _, _ => rfl
  | [], s :: b, _, hb, h => absurd ((h _ _).2 (has_first hb)) (has_nil _ _)
  | r :: a, [], ha, _, h => absurd ((h _ _).1 (has_first ha)) (has_nil _ _)
  | r :: a, s :: b, ha, hb, h => by
    have h1 := first_le ha ((h _ _).2 (has_first hb))
    have h2 := first_le hb ((h _ _).1 (has_first ha))
    have hd : r.d = s.d := by omega
    have hf : r.f = s.f := by omega
    obtain ⟨_, _, _, k4, _⟩ := ha.head
    obtain ⟨_, _, _, j4, _⟩ := hb.head
    have ht : r.t = s.t := by
      by_cases h3 : r.t < s.t
      · exact absurd ((h r.d (r.t + 1)).2 ⟨s, by simp, hd.symm, by omega, by omega⟩) (gap ha)
      · by_cases h4 : s.t < r.t
        · exact absurd ((h s.d (s.t + 1)).1 ⟨r, by simp, hd, by omega, by omega⟩) (gap hb)
        · omega
    have e := ext hd hf ht
    subst e
    rw [canon a b ha.tail hb.tail fun d n => by rw [tail_has ha, tail_has hb, h]]
end Go.Proofs.YthijiefopcnclaaGreatDoor.Dt

namespace Go.Proofs.YthijiefopcnclaaGreatDoor.Dt

/-- A number in a rising list, once. -/
def mk (l : List Int) (n : Int) : List Int := l.filter (fun x => decide (x < n)) ++ n :: l.filter (fun x => decide (n < x))
def Rising (l : List Int) : Prop := l.Pairwise (fun x y => x < y)
theorem mk_mem (l : List Int) (n x : Int) : x ∈ mk l n ↔ x = n ∨ x ∈ l := by
  unfold mk
  simp only [List.mem_append, List.mem_cons, List.mem_filter, decide_eq_true_eq]
  constructor
  · rintro (⟨h, _⟩ | h | ⟨h, _⟩)
    · exact .inr h
    · exact .inl h
    · exact .inr h
  · rintro (h | h)
    · exact .inr (.inl h)
    · by_cases h1 : x < n
      · exact .inl ⟨h, h1⟩
      · by_cases h2 : x = n
        · exact .inr (.inl h2)
        · exact .inr (.inr ⟨h, by omega⟩)
theorem mk_rising {l : List Int} (n : Int) (h : Rising l) : Rising (mk l n) := by
  unfold mk Rising
  rw [List.pairwise_append]
  refine ⟨h.filter _, List.pairwise_cons.2 ⟨fun y hy => ?_, h.filter _⟩, fun x hx y hy => ?_⟩
  · simp only [List.mem_filter, decide_eq_true_eq] at hy; exact hy.2
  · simp only [List.mem_filter, decide_eq_true_eq] at hx
    rcases List.mem_cons.1 hy with e | hy
    · omega
    · simp only [List.mem_filter, decide_eq_true_eq] at hy; omega

/-- The places at which something of a device begins, or has ended. -/
def pts (dev : Int) (m : List Int) : List Rn → List Int
  | [] => m
  | r :: l => pts dev (if r.d = dev then mk (mk m r.f) (r.t + 1) else m) l
theorem pts_rising (dev : Int) : ∀ (l : List Rn) (m : List Int), Rising m → Rising (pts dev m l)
  | [], _, h => h
  | r :: l, m, h => by
    rw [pts]
    by_cases e : r.d = dev
    · rw [if_pos e]; exact pts_rising dev l _ (mk_rising _ (mk_rising _ h))
    · rw [if_neg e]; exact pts_rising dev l _ h
theorem pts_mem (dev : Int) : ∀ (l : List Rn) (m : List Int) (x : Int), x ∈ pts dev m l ↔ x ∈ m ∨ ∃ r ∈ l, r.d = dev ∧ (x = r.f ∨ x = r.t + 1)
  | [], m, x => by simp [pts]
  | r :: l, m, x => by
    rw [pts]
    by_cases e : r.d = dev
    · rw [if_pos e, pts_mem dev l, mk_mem, mk_mem]
      constructor
      · rintro ((h | h | h) | ⟨s, hs, h⟩)
        · exact .inr ⟨r, by simp, e, .inr h⟩
        · exact .inr ⟨r, by simp, e, .inl h⟩
        · exact .inl h
        · exact .inr ⟨s, by simp [hs], h⟩
      · rintro (h | ⟨s, hs, h1, h2⟩)
        · exact .inl (.inr (.inr h))
        · rcases List.mem_cons.1 hs with hs | hs
          · subst hs
            rcases h2 with h2 | h2
            · exact .inl (.inr (.inl h2))
            · exact .inl (.inl h2)
          · exact .inr ⟨s, hs, h1, h2⟩
    · rw [if_neg e, pts_mem dev l]
      constructor
      · rintro (h | ⟨s, hs, h⟩)
        · exact .inl h
        · exact .inr ⟨s, by simp [hs], h⟩
      · rintro (h | ⟨s, hs, h1, h2⟩)
        · exact .inl h
        · rcases List.mem_cons.1 hs with hs | hs
          · subst hs; exact absurd h1 e
          · exact .inr ⟨s, hs, h1, h2⟩

/-- One step: what lies from x to ahead of y is in, or not; the runs stand the last one first. -/
def step (dev : Int) (p : Int → Bool) (rs : List Rn) (x y : Int) : List Rn :=
  if p x = true then
    match rs with
    | [] => [⟨dev, x, y - 1⟩]
    | r :: rs' => if r.t = x - 1 then ⟨r.d, r.f, y - 1⟩ :: rs' else ⟨dev, x, y - 1⟩ :: r :: rs'
  else rs
def go (dev : Int) (p : Int → Bool) (rs : List Rn) : List Int → List Rn
  | x :: y :: m => go dev p (step dev p rs x y) (y :: m)
  | _ => rs
structure Inv (dev lo : Int) (p : Int → Bool) (rs : List Rn) (x : Int) : Prop where
  all : ∀ r ∈ rs, r.d = dev ∧ lo ≤ r.f ∧ r.f ≤ r.t ∧ r.t < x
  bef : rs.Pairwise fun s r => Bef r s
  has : ∀ n, (∃ r ∈ rs, r.f ≤ n ∧ n ≤ r.t) ↔ lo ≤ n ∧ n < x ∧ p n = true
theorem step_inv {dev lo : Int} {p : Int → Bool} {rs : List Rn} {x y : Int} (h : Inv dev lo p rs x) (hl : lo ≤ x) (hxy : x < y) (hp : ∀ n, x ≤ n → n < y → p n = p x) : Inv dev lo p (step dev p rs x y) y := by
  unfold step
  cases hpx : p x with
  | false =>
    rw [if_neg (by decide)]
    refine ⟨fun r hr => ?_, h.bef, fun n => ?_⟩
    · obtain ⟨h1, h2, h3, h4⟩ := h.all r hr; exact ⟨h1, h2, h3, by omega⟩
    · rw [h.has n]
      constructor
      · rintro ⟨h1, h2, h3⟩; exact ⟨h1, by omega, h3⟩
      · rintro ⟨h1, h2, h3⟩
        refine ⟨h1, ?_, h3⟩
        by_cases hn : n < x
        · exact hn
        · rw [hp n (by omega) h2, hpx] at h3; cases h3
  | true =>
    rw [if_pos rfl]
    have new : ∀ n, (lo ≤ n ∧ n < y ∧ p n = true) ↔ (lo ≤ n ∧ n < x ∧ p n = true) ∨ (x ≤ n ∧ n ≤ y - 1) := fun n => by
      constructor
      · rintro ⟨h1, h2, h3⟩
        by_cases hn : n < x
        · exact .inl ⟨h1, hn, h3⟩
        · exact .inr ⟨by omega, by omega⟩
      · rintro (⟨h1, h2, h3⟩ | ⟨h1, h2⟩)
        · exact ⟨h1, by omega, h3⟩
        · exact ⟨by omega, by omega, by rw [hp n h1 (by omega), hpx]⟩
    cases rs with
    | nil =>
      refine ⟨fun r hr => ?_, List.pairwise_singleton _ _, fun n => ?_⟩
      · rw [List.mem_singleton.1 hr]; exact ⟨rfl, hl, by show x ≤ y - 1; omega, by show y - 1 < y; omega⟩
      · rw [new n, ← h.has n]
        simp
    | cons r rs' =>
      obtain ⟨r1, r2, r3, r4⟩ := h.all r (by simp)
      have hb := List.pairwise_cons.1 h.bef
      simp only []
      by_cases e : r.t = x - 1
      · rw [if_pos e]
        refine ⟨fun s hs => ?_, List.pairwise_cons.2 ⟨fun s hs => ?_, hb.2⟩, fun n => ?_⟩
        · rcases List.mem_cons.1 hs with hs | hs
          · subst hs; exact ⟨r1, r2, by show r.f ≤ y - 1; omega, by show y - 1 < y; omega⟩
          · obtain ⟨h1, h2, h3, h4⟩ := h.all s (by simp [hs]); exact ⟨h1, h2, h3, by omega⟩
        · exact hb.1 s hs
        · rw [new n, ← h.has n]
          simp only [List.mem_cons, exists_eq_or_imp]
          constructor
          · rintro (⟨h1, h2⟩ | h1)
            · by_cases hn : n < x
              · exact .inl (.inl ⟨h1, by omega⟩)
              · exact .inr ⟨by omega, h2⟩
            · exact .inl (.inr h1)
          · rintro ((⟨h1, h2⟩ | h1) | ⟨h1, h2⟩)
            · exact .inl ⟨h1, by omega⟩
            · exact .inr h1
            · exact .inl ⟨by omega, h2⟩
      · rw [if_neg e]
        refine ⟨fun s hs => ?_, List.pairwise_cons.2 ⟨fun s hs => ?_, h.bef⟩, fun n => ?_⟩
        · rcases List.mem_cons.1 hs with hs | hs
          · subst hs; exact ⟨rfl, hl, by show x ≤ y - 1; omega, by show y - 1 < y; omega⟩
          · obtain ⟨h1, h2, h3, h4⟩ := h.all s hs; exact ⟨h1, h2, h3, by omega⟩
        · show s.d < dev ∨ (s.d = dev ∧ s.t + 1 < x)
          rcases List.mem_cons.1 hs with hs | hs
          · subst hs; exact .inr ⟨r1, by omega⟩
          · obtain ⟨h1, _, _, h4⟩ := h.all s (by simp [hs])
            rcases hb.1 s hs with hq | ⟨_, hq⟩
            · omega
            · exact .inr ⟨h1, by omega⟩
        · rw [new n, ← h.has n]
          simp only [List.mem_cons, exists_eq_or_imp]
          constructor
          · rintro (h1 | h1)
            · exact .inr h1
            · exact .inl h1
          · rintro (h1 | h1)
            · exact .inr h1
            · exact .inl h1
/-- All steps: from the first place to the last. -/
theorem go_inv {dev lo : Int} {p : Int → Bool} (Z : Int → Prop) (hZ : ∀ x y n, x ≤ n → n < y → (∀ z, Z z → z ≤ x ∨ y ≤ z) → p n = p x) :
    ∀ (m : List Int) (rs : List Rn) (x : Int), Rising (x :: m) → lo ≤ x → (∀ z, Z z → z ≤ x ∨ z ∈ m) → Inv dev lo p rs x → ∃ hi, (hi = x ∨ hi ∈ m) ∧ (∀ z, Z z → z ≤ hi) ∧ Inv dev lo p (go dev p rs (x :: m)) hi
  | [], rs, x, _, _, hz, h => ⟨x, .inl rfl, fun z hzz => (hz z hzz).elim (fun h1 => h1) (fun h1 => absurd h1 (by simp)), h⟩
  | y :: m, rs, x, hr, hl, hz, h => by
    have hr2 := List.pairwise_cons.1 hr
    have hxy : x < y := hr2.1 y (by simp)
    have hym := (List.pairwise_cons.1 hr2.2).1
    have hs := step_inv h hl hxy (fun n h1 h2 => hZ x y n h1 h2 fun z hzz => by
      rcases hz z hzz with h3 | h3
      · exact .inl h3
      · rcases List.mem_cons.1 h3 with h3 | h3
        · exact .inr (by omega)
        · exact .inr (by have := hym z h3; omega))
    obtain ⟨hi, h1, h2, h3⟩ := go_inv Z hZ m _ y hr2.2 (by omega) (fun z hzz => by
      rcases hz z hzz with h3 | h3
      · exact .inl (by omega)
      · rcases List.mem_cons.1 h3 with h3 | h3
        · exact .inl (by omega)
        · exact .inr h3) hs
    refine ⟨hi, ?_, h2, by rw [go]; exact h3⟩
    rcases h1 with h1 | h1
    · exact .inr (by simp [h1])
    · exact .inr (by simp [h1])

def hasB (l : List Rn) (d n : Int) : Bool := l.any fun r => decide (In r d n)
theorem hasB_iff (l : List Rn) (d n : Int) : hasB l d n = true ↔ Has l d n := by
  unfold hasB Has
  rw [List.any_eq_true]
  simp only [decide_eq_true_eq]
/-- What is kept of a device's dots: what either has, or what a alone has. -/
def keep (a b : List Rn) (alone : Bool) (dev n : Int) : Bool := if alone = true then hasB a dev n && !hasB b dev n else hasB a dev n || hasB b dev n
def mixR (dev : Int) (a b : List Rn) (alone : Bool) : List Rn := (go dev (keep a b alone dev) [] (pts dev (pts dev [] a) b)).reverse

theorem hasB_const {l : List Rn} {dev x y n : Int} (h1 : x ≤ n) (h2 : n < y) (h : ∀ r ∈ l, r.d = dev → (r.f ≤ x ∨ y ≤ r.f) ∧ (r.t + 1 ≤ x ∨ y ≤ r.t + 1)) : hasB l dev n = hasB l dev x := by
  rw [Bool.eq_iff_iff, hasB_iff, hasB_iff]
  constructor
  · rintro ⟨r, hr, e, k1, k2⟩
    obtain ⟨j1, j2⟩ := h r hr e
    exact ⟨r, hr, e, by omega, by omega⟩
  · rintro ⟨r, hr, e, k1, k2⟩
    obtain ⟨j1, j2⟩ := h r hr e
    exact ⟨r, hr, e, by omega, by omega⟩
theorem keep_in {a b : List Rn} {alone : Bool} {dev n : Int} (h : keep a b alone dev n = true) : Has a dev n ∨ Has b dev n := by
  unfold keep at h
  cases alone with
  | true =>
    rw [if_pos rfl, Bool.and_eq_true] at h
    exact .inl ((hasB_iff _ _ _).1 h.1)
  | false =>
    rw [if_neg (by decide), Bool.or_eq_true, hasB_iff, hasB_iff] at h
    exact h
theorem mix_spec (dev : Int) (a b : List Rn) (alone : Bool) (ha : ∀ r ∈ a, Ok r) (hb : ∀ r ∈ b, Ok r) :
    (∀ r ∈ mixR dev a b alone, r.d = dev ∧ 1 ≤ r.f ∧ r.f ≤ r.t ∧ r.t ≤ 4503599627370496) ∧ (mixR dev a b alone).Pairwise Bef ∧ ∀ d n, Has (mixR dev a b alone) d n ↔ d = dev ∧ keep a b alone dev n = true := by
  obtain ⟨M, hM⟩ : ∃ M, pts dev (pts dev [] a) b = M := ⟨_, rfl⟩
  have hR : Rising M := by rw [← hM]; exact pts_rising _ _ _ (pts_rising _ _ _ List.Pairwise.nil)
  have hmem : ∀ x, x ∈ M ↔ (∃ r ∈ a, r.d = dev ∧ (x = r.f ∨ x = r.t + 1)) ∨ ∃ r ∈ b, r.d = dev ∧ (x = r.f ∨ x = r.t + 1) := fun x => by
    rw [← hM, pts_mem, pts_mem]
    simp
  have inM : ∀ r, r ∈ a ∨ r ∈ b → r.d = dev → r.f ∈ M ∧ r.t + 1 ∈ M := fun r hr e => by
    rcases hr with hr | hr
    · exact ⟨(hmem _).2 (.inl ⟨r, hr, e, .inl rfl⟩), (hmem _).2 (.inl ⟨r, hr, e, .inr rfl⟩)⟩
    · exact ⟨(hmem _).2 (.inr ⟨r, hr, e, .inl rfl⟩), (hmem _).2 (.inr ⟨r, hr, e, .inr rfl⟩)⟩
  have bnd : ∀ x ∈ M, 1 ≤ x ∧ x ≤ 4503599627370497 := fun x hx => by
    rcases (hmem x).1 hx with ⟨r, hr, _, h | h⟩ | ⟨r, hr, _, h | h⟩
    · obtain ⟨_, _, k3, k4, k5⟩ := ha r hr; omega
    · obtain ⟨_, _, k3, k4, k5⟩ := ha r hr; omega
    · obtain ⟨_, _, k3, k4, k5⟩ := hb r hr; omega
    · obtain ⟨_, _, k3, k4, k5⟩ := hb r hr; omega
  unfold mixR
  rw [hM]
  cases M with
  | nil =>
    refine ⟨fun r hr => by simp [go] at hr, by simp [go], fun d n => ?_⟩
    simp only [go, List.reverse_nil]
    constructor
    · intro h; exact absurd h (has_nil _ _)
    · rintro ⟨_, h⟩
      rcases keep_in h with ⟨r, hr, e, _⟩ | ⟨r, hr, e, _⟩
      · exact absurd (inM r (.inl hr) e).1 (by simp)
      · exact absurd (inM r (.inr hr) e).1 (by simp)
  | cons x m =>
    have hZ : ∀ u v n, u ≤ n → n < v → (∀ z, z ∈ x :: m → z ≤ u ∨ v ≤ z) → keep a b alone dev n = keep a b alone dev u := fun u v n h1 h2 h3 => by
      unfold keep
      rw [hasB_const (l := a) h1 h2 fun r hr e => ⟨h3 _ (inM r (.inl hr) e).1, h3 _ (inM r (.inl hr) e).2⟩, hasB_const (l := b) h1 h2 fun r hr e => ⟨h3 _ (inM r (.inr hr) e).1, h3 _ (inM r (.inr hr) e).2⟩]
    obtain ⟨hi, h1, h2, h3⟩ := go_inv (dev := dev) (lo := x) (p := keep a b alone dev) (fun z => z ∈ x :: m) hZ m [] x hR (Int.le_refl _) (fun z hz => by
      rcases List.mem_cons.1 hz with e | hz
      · exact .inl (by omega)
      · exact .inr hz) ⟨fun r hr => by simp at hr, List.Pairwise.nil, fun n => ⟨fun ⟨r, hr, _⟩ => by simp at hr, fun ⟨j1, j2, _⟩ => by omega⟩⟩
    have hlo : ∀ z ∈ x :: m, x ≤ z := fun z hz => by
      rcases List.mem_cons.1 hz with e | hz
      · omega
      · have := (List.pairwise_cons.1 hR).1 z hz; omega
    have hhi : hi ≤ 4503599627370497 := (bnd hi (h1.elim (fun e => e ▸ List.mem_cons_self) (fun h => List.mem_cons_of_mem _ h))).2
    have hx1 := (bnd x (by simp)).1
    refine ⟨fun r hr => ?_, ?_, fun d n => ?_⟩
    · obtain ⟨k1, k2, k3, k4⟩ := h3.all r (List.mem_reverse.1 hr)
      exact ⟨k1, by omega, k3, by omega⟩
    · rw [List.pairwise_reverse]; exact h3.bef
    · constructor
      · rintro ⟨r, hr, e, k1, k2⟩
        have hr' := List.mem_reverse.1 hr
        exact ⟨by rw [← e]; exact (h3.all r hr').1, ((h3.has n).1 ⟨r, hr', k1, k2⟩).2.2⟩
      · rintro ⟨rfl, hk⟩
        have hn : x ≤ n ∧ n < hi := by
          rcases keep_in hk with ⟨r, hr, e, k1, k2⟩ | ⟨r, hr, e, k1, k2⟩
          · have j1 := hlo _ (inM r (.inl hr) e).1
            have j2 := h2 _ (inM r (.inl hr) e).2
            omega
          · have j1 := hlo _ (inM r (.inr hr) e).1
            have j2 := h2 _ (inM r (.inr hr) e).2
            omega
        obtain ⟨r, hr, k1, k2⟩ := (h3.has n).2 ⟨hn.1, hn.2, hk⟩
        exact ⟨r, List.mem_reverse.2 hr, (h3.all r hr).1, k1, k2⟩

theorem mix_ok (dev : Int) (a b : List Rn) (alone : Bool) (ha : ∀ r ∈ a, Ok r) (hb : ∀ r ∈ b, Ok r) (h0 : 0 ≤ dev) (h8 : dev < 8) : ∀ r ∈ mixR dev a b alone, Ok r := fun r hr => by
  obtain ⟨h1, h2, h3, h4⟩ := (mix_spec dev a b alone ha hb).1 r hr
  exact ⟨by omega, by omega, h2, h3, h4⟩

/-- Of the first k devices. -/
def upR (a b : List Rn) (alone : Bool) : Nat → List Rn
  | 0 => []
  | k + 1 => upR a b alone k ++ mixR (k : Int) a b alone
theorem up_spec (a b : List Rn) (alone : Bool) (ha : ∀ r ∈ a, Ok r) (hb : ∀ r ∈ b, Ok r) : ∀ k, k ≤ 8 → May (upR a b alone k) ∧ (∀ r ∈ upR a b alone k, r.d < (k : Int)) ∧ ∀ d n, Has (upR a b alone k) d n ↔ 0 ≤ d ∧ d < (k : Int) ∧ keep a b alone d n = true
  | 0, _ => ⟨may_nil, fun r hr => (by simp [upR] at hr), fun d n => ⟨fun h => absurd h (has_nil _ _), fun h => by omega⟩⟩
  | k + 1, hk => by
    obtain ⟨h1, h2, h3⟩ := up_spec a b alone ha hb k (by omega)
    obtain ⟨m1, m2, m3⟩ := mix_spec (k : Int) a b alone ha hb
    have mo := mix_ok (k : Int) a b alone ha hb (by omega) (by omega)
    refine ⟨⟨fun r hr => ?_, ?_⟩, fun r hr => ?_, fun d n => ?_⟩
    · rcases List.mem_append.1 hr with hr | hr
      · exact h1.1 r hr
      · exact mo r hr
    · rw [upR, List.pairwise_append]
      refine ⟨h1.2, m2, fun r hr s hs => .inl ?_⟩
      have := h2 r hr
      have := (m1 s hs).1
      omega
    · rcases List.mem_append.1 hr with hr | hr
      · have := h2 r hr; omega
      · have := (m1 r hr).1; omega
    · rw [upR, has_append, h3, m3]
      constructor
      · rintro (⟨j1, j2, j3⟩ | ⟨rfl, j3⟩)
        · exact ⟨j1, by omega, j3⟩
        · exact ⟨by omega, by omega, j3⟩
      · rintro ⟨j1, j2, j3⟩
        by_cases e : d = (k : Int)
        · exact .inr ⟨e, e ▸ j3⟩
        · exact .inl ⟨j1, by omega, j3⟩
/-- Together; apart. -/
def unionR (a b : List Rn) : List Rn := upR a b false 8
def minusR (a b : List Rn) : List Rn := upR a b true 8
theorem union_may {a b : List Rn} (ha : May a) (hb : May b) : May (unionR a b) := (up_spec a b false ha.1 hb.1 8 (Nat.le_refl _)).1
theorem minus_may {a b : List Rn} (ha : May a) (hb : May b) : May (minusR a b) := (up_spec a b true ha.1 hb.1 8 (Nat.le_refl _)).1
theorem union_has {a b : List Rn} (ha : May a) (hb : May b) (d n : Int) : Has (unionR a b) d n ↔ Has a d n ∨ Has b d n := by
  rw [unionR, (up_spec a b false ha.1 hb.1 8 (Nat.le_refl _)).2.2]
  unfold keep
  rw [if_neg (by decide), Bool.or_eq_true, hasB_iff, hasB_iff]
  constructor
  · rintro ⟨_, _, h⟩; exact h
  · intro h
    have hr : 0 ≤ d ∧ d < 8 := by
      rcases h with h | h
      · have := ha.ok h; omega
      · have := hb.ok h; omega
    exact ⟨hr.1, by omega, h⟩
theorem minus_has {a b : List Rn} (ha : May a) (hb : May b) (d n : Int) : Has (minusR a b) d n ↔ Has a d n ∧ ¬ Has b d n := by
  rw [minusR, (up_spec a b true ha.1 hb.1 8 (Nat.le_refl _)).2.2]
  unfold keep
  rw [if_pos rfl, Bool.and_eq_true, Bool.not_eq_true', hasB_iff, Bool.eq_false_iff, ne_eq, hasB_iff]
  constructor
  · rintro ⟨_, _, h⟩; exact h
  · intro h
    have := ha.ok h.1
    exact ⟨by omega, by omega, h⟩

/-- The dots of a list, one behind the other. -/
def ofR (acc : List Rn) : List (Int × Int) → List Rn
  | [] => acc
  | (d, n) :: l => ofR (if Ok ⟨d, n, n⟩ then unionR acc [⟨d, n, n⟩] else acc) l
theorem one_may {r : Rn} (h : Ok r) : May [r] := ⟨fun x hx => by rw [List.mem_singleton.1 hx]; exact h, List.pairwise_singleton _ _⟩
theorem has_one (d n e m : Int) : Has [⟨d, n, n⟩] e m ↔ e = d ∧ m = n := by
  rw [has_cons]
  constructor
  · rintro (⟨h1, h2, h3⟩ | h)
    · exact ⟨h1.symm, by show m = n; have : n ≤ m := h2; have : m ≤ n := h3; omega⟩
    · exact absurd h (has_nil _ _)
  · rintro ⟨rfl, rfl⟩
    exact .inl ⟨rfl, Int.le_refl _, Int.le_refl _⟩
theorem of_spec : ∀ (l : List (Int × Int)) (acc : List Rn), May acc → May (ofR acc l) ∧ ∀ d n, Has (ofR acc l) d n ↔ Has acc d n ∨ ((d, n) ∈ l ∧ Ok ⟨d, n, n⟩)
  | [], acc, h => ⟨h, fun d n => by simp [ofR]⟩
  | (e, m) :: l, acc, h => by
    rw [ofR]
    by_cases ho : Ok ⟨e, m, m⟩
    · rw [if_pos ho]
      have hu := union_may h (one_may ho)
      obtain ⟨h1, h2⟩ := of_spec l _ hu
      refine ⟨h1, fun d n => ?_⟩
      rw [h2, union_has h (one_may ho), has_one, List.mem_cons]
      constructor
      · rintro ((h3 | ⟨rfl, rfl⟩) | ⟨h3, h4⟩)
        · exact .inl h3
        · exact .inr ⟨.inl rfl, ho⟩
        · exact .inr ⟨.inr h3, h4⟩
      · rintro (h3 | ⟨h3 | h3, h4⟩)
        · exact .inl (.inl h3)
        · cases h3; exact .inl (.inr ⟨rfl, rfl⟩)
        · exact .inr ⟨h3, h4⟩
    · rw [if_neg ho]
      obtain ⟨h1, h2⟩ := of_spec l _ h
      refine ⟨h1, fun d n => ?_⟩
      rw [h2, List.mem_cons]
      constructor
      · rintro (h3 | ⟨h3, h4⟩)
        · exact .inl h3
        · exact .inr ⟨.inr h3, h4⟩
      · rintro (h3 | ⟨h3 | h3, h4⟩)
        · exact .inl h3
        · cases h3; exact absurd h4 ho
        · exact .inr ⟨h3, h4⟩
theorem of_may (l : List (Int × Int)) : May (ofR [] l) := (of_spec l [] may_nil).1
theorem of_has (l : List (Int × Int)) (d n : Int) : Has (ofR [] l) d n ↔ (d, n) ∈ l ∧ Ok ⟨d, n, n⟩ := by
  rw [(of_spec l [] may_nil).2]
  exact ⟨fun h => h.elim (fun h => absurd h (has_nil _ _)) id, .inr⟩
/-- What has just these dots, and may be, is this one. -/
theorem is_union {a b c : List Rn} (ha : May a) (hb : May b) (hc : May c) (h : ∀ d n, Has c d n ↔ Has a d n ∨ Has b d n) : c = unionR a b := canon _ _ hc (union_may ha hb) fun d n => by rw [h, union_has ha hb]
theorem is_minus {a b c : List Rn} (ha : May a) (hb : May b) (hc : May c) (h : ∀ d n, Has c d n ↔ Has a d n ∧ ¬ Has b d n) : c = minusR a b := canon _ _ hc (minus_may ha hb) fun d n => by rw [h, minus_has ha hb]
theorem is_of {l : List (Int × Int)} {c : List Rn} (hc : May c) (h : ∀ d n, Has c d n ↔ (d, n) ∈ l ∧ Ok ⟨d, n, n⟩) : c = ofR [] l := canon _ _ hc (of_may l) fun d n => by rw [h, of_has]
end Go.Proofs.YthijiefopcnclaaGreatDoor.Dt

namespace Go.Proofs.YthijiefopcnclaaGreatDoor.Dt
open Go Go.RowKit Go.Proofs.YthijiefopcnclaaGreatDoor.Mm

/-- The slice at A, of n runs, reads as these. -/
def RL (w : World) (A : Option Addr) (n : Nat) (l : List Rn) : Prop :=
  l.length = n ∧ (0 < n → ∃ g o, A = some ⟨g, o, none⟩ ∧ g < w.heap.size ∧ ∀ i x, l[i]? = some x → w.cell? ⟨g, o + i * 3, none⟩ = some (.int .i64 x.d) ∧ w.cell? ⟨g, o + i * 3 + 1, none⟩ = some (.int .i64 x.f) ∧ w.cell? ⟨g, o + i * 3 + 2, none⟩ = some (.int .i64 x.t))
theorem RL.keep {w w' : World} {A : Option Addr} {n : Nat} {l : List Rn} (h : RL w A n l) (hg : w.grownBy w' none) : RL w' A n l := by
  refine ⟨h.1, fun hn => ?_⟩
  obtain ⟨g, o, e, hl, hc⟩ := h.2 hn
  refine ⟨g, o, e, Nat.lt_of_lt_of_le hl hg.size, fun i x hx => ?_⟩
  have hb := hg.block g hl (by simp)
  obtain ⟨h0, h1, h2⟩ := hc i x hx
  exact ⟨(World.cell?_of_block (a := ⟨g, o + i * 3, none⟩) hb).trans h0, (World.cell?_of_block (a := ⟨g, o + i * 3 + 1, none⟩) hb).trans h1, (World.cell?_of_block (a := ⟨g, o + i * 3 + 2, none⟩) hb).trans h2⟩
theorem RL.none (w : World) (A : Option Addr) : RL w A 0 [] := ⟨rfl, fun h => absurd h (by omega)⟩
theorem take_more {l : List Rn} {k : Nat} {x : Rn} (h : l[k]? = some x) : l.take (k + 1) = l.take k ++ [x] := by
  rw [List.take_add_one, h]; rfl
theorem hasB_more {l : List Rn} {k : Nat} {x : Rn} (h : l[k]? = some x) (d m : Int) : hasB (l.take (k + 1)) d m = (hasB (l.take k) d m || decide (In x d m)) := by
  rw [take_more h]; unfold hasB; rw [List.any_append]; simp
theorem hasB_true {l : List Rn} {k : Nat} {x : Rn} (h : l[k]? = some x) {d m : Int} (hi : In x d m) : hasB l d m = true := (hasB_iff l d m).2 ⟨x, List.mem_of_getElem? h, hi⟩

set_option maxHeartbeats 4000000 in
set_option maxRecDepth 100000 in
theorem refHas_any (A : Option Addr) (n c : Nat) (l : List Rn) (d m : Int) (w : World) (hl : RL w A n l) (hn : n ≤ 1099511627776) :
    Calls Tryz.prog 40 #[.slice A n c, .agg #[.int .i64 d, .int .i64 m]] w fun e w' => e = .returned (.bool (hasB l d m)) ∧ w.grownBy w' none := by
  have Hl := Lib.hid hl
  clear hl
  go_enter Tryz.func40, Tryz.ntmps40
  go_wp2_with fail
  go_loopw [5] (fun i wr => ∃ k : Nat, k ≤ n ∧ i = .int .i64 k ∧ Hid (hasB (l.take k) d m = false) ∧ Row wr w.heap.size 44 #[.int .i64 d, .int .i64 m] ∧ w.grownBy wr none) (fun i _ => n - (intOf i).toNat)
  case atStart => exact ⟨0, Nat.zero_le _, rfl, by show _ = _; rfl, Row.new _ _ _, gb_alloc (gb_refl _ _) _⟩
  case round =>
    obtain ⟨k, hk, rfl, HX, hr, hg⟩ := hrel
    by_cases hlt : k < n
    · have d1 : decide (k < n) = true := decide_eq_true hlt
      have d2 : decide ((k : Int) < (n : Int)) = true := decide_eq_true (by omega)
      obtain ⟨g, o, rfl, hgl, hcc⟩ := (Hl.out.keep hg).2 (by omega)
      obtain ⟨x, hx⟩ : ∃ x, l[k]? = some x := ⟨_, List.getElem?_eq_getElem (by rw [Hl.out.1]; exact hlt)⟩
      obtain ⟨h0, h1, h2⟩ := hcc k x hx
      have q0 := hr.at_ (i := 0) rfl
      have q1 := hr.at_ (i := 1) rfl
      have Hx := Lib.hid hx
      have Hr := Lib.hid hr
      clear hcc hx hr
      by_cases e1 : x.d = d
      · have f1 : (x.d == d) = true := by rw [e1]; simp
        by_cases e2 : x.f ≤ m
        · have f2 : decide (x.f ≤ m) = true := decide_eq_true e2
          by_cases e3 : m ≤ x.t
          · have f3 : decide (m ≤ x.t) = true := decide_eq_true e3
            have Hyes : Hid (hasB l d m = true) := hasB_true Hx.out ⟨e1, e2, e3⟩
            clear e1 e2 e3
            go_wp2_with fail
            go_quiet (fail)
            go_wp2_with fail
            go_ret
            exact ⟨by rw [Hyes.out]; rfl, gb_drewN hg _⟩
          · have f3 : decide (m ≤ x.t) = false := decide_eq_false e3
            have Hno : Hid (hasB (l.take (k + 1)) d m = false) := by
              show _ = _
              rw [hasB_more Hx.out, HX.out, decide_eq_false (fun hi => e3 hi.2.2), Bool.or_false]
            clear e1 e2 e3
            go_wp2_with fail
            go_quiet (fail)
            go_wp2_with fail
            go_roundw
            case rel => exact ⟨k + 1, by omega, by go_num, Hno, by exact Hr.out.kept (gb_drewN (gb_refl wr none) _) (by simp), gb_drewN hg _⟩
            case measure => simp [intOf]; omega
        · have f2 : decide (x.f ≤ m) = false := decide_eq_false e2
          have Hno : Hid (hasB (l.take (k + 1)) d m = false) := by
            show _ = _
            rw [hasB_more Hx.out, HX.out, decide_eq_false (fun hi => e2 hi.2.1), Bool.or_false]
          clear e1 e2
          go_wp2_with fail
          go_quiet (fail)
          go_wp2_with fail
          go_roundw
          case rel => exact ⟨k + 1, by omega, by go_num, Hno, by exact Hr.out.kept (gb_drewN (gb_refl wr none) _) (by simp), gb_drewN hg _⟩
          case measure => simp [intOf]; omega
      · have f1 : (x.d == d) = false := by rw [beq_eq_false_iff_ne]; exact e1
        have Hno : Hid (hasB (l.take (k + 1)) d m = false) := by
          show _ = _
          rw [hasB_more Hx.out, HX.out, decide_eq_false (fun hi => e1 hi.1), Bool.or_false]
        clear e1
        go_wp2_with fail
        go_quiet (fail)
        go_wp2_with fail
        go_roundw
        case rel => exact ⟨k + 1, by omega, by go_num, Hno, by exact Hr.out.kept (gb_drewN (gb_refl wr none) _) (by simp), gb_drewN hg _⟩
        case measure => simp [intOf]; omega
    · have hkn : k = n := by omega
      subst hkn
      have d1 : decide (k < k) = false := by simp
      have d2 : decide ((k : Int) < (k : Int)) = false := by simp
      have He : Hid (hasB l d m = false) := by
        show _ = _
        rw [← HX.out, List.take_of_length_le (by rw [Hl.out.1]; exact Nat.le_refl _)]
      clear hr
      go_wp2_with fail
      go_ret
      exact ⟨by rw [He.out]; rfl, hg⟩
end Go.Proofs.YthijiefopcnclaaGreatDoor.Dt

namespace Go.Proofs.YthijiefopcnclaaGreatDoor.Dt
open Go Go.RowKit Go.Proofs.YthijiefopcnclaaGreatDoor.Mm

/-- The cells of runs. -/
def rv (l : List Rn) : List Value := l.flatMap fun r => [.int .i64 r.d, .int .i64 r.f, .int .i64 r.t]
theorem rv_cons (r : Rn) (l : List Rn) : rv (r :: l) = [.int .i64 r.d, .int .i64 r.f, .int .i64 r.t] ++ rv l := rfl
theorem rv_append (a b : List Rn) : rv (a ++ b) = rv a ++ rv b := by unfold rv; rw [List.flatMap_append]
theorem rv_len (l : List Rn) : (rv l).length = l.length * 3 := by
  induction l with
  | nil => rfl
  | cons r l ih => rw [rv_cons, List.length_append, ih, List.length_cons]; simp; omega
theorem rv_one (l : List Rn) : ∀ u ∈ rv l, u.oneCell' = true := by
  intro u hu
  simp only [rv, List.mem_flatMap, List.mem_cons, List.not_mem_nil, or_false] at hu
  obtain ⟨r, _, rfl | rfl | rfl⟩ := hu <;> rfl
theorem rv_at (l : List Rn) (i : Nat) (x : Rn) (h : l[i]? = some x) : (rv l)[i * 3]? = some (.int .i64 x.d) ∧ (rv l)[i * 3 + 1]? = some (.int .i64 x.f) ∧ (rv l)[i * 3 + 2]? = some (.int .i64 x.t) := by
  induction l generalizing i with
  | nil => simp at h
  | cons r l ih =>
    cases i with
    | zero =>
      obtain rfl : r = x := by simpa using h
      exact ⟨rfl, rfl, rfl⟩
    | succ i =>
      obtain ⟨h0, h1, h2⟩ := ih i (by simpa using h)
      rw [rv_cons]
      refine ⟨?_, ?_, ?_⟩
      · rw [List.getElem?_append_right (by simp; omega), show (i + 1) * 3 - [Value.int .i64 r.d, .int .i64 r.f, .int .i64 r.t].length = i * 3 by simp; omega]; exact h0
      · rw [List.getElem?_append_right (by simp; omega), show (i + 1) * 3 + 1 - [Value.int .i64 r.d, .int .i64 r.f, .int .i64 r.t].length = i * 3 + 1 by simp; omega]; exact h1
      · rw [List.getElem?_append_right (by simp; omega), show (i + 1) * 3 + 2 - [Value.int .i64 r.d, .int .i64 r.f, .int .i64 r.t].length = i * 3 + 2 by simp; omega]; exact h2
theorem rl_news {w : World} {g o n : Nat} {l : List Rn} (h : RL w (some ⟨g, o, none⟩) n l) (h0 : 0 < n) : ∀ j u, (rv l)[j]? = some u → w.cell? ((⟨g, o, none⟩ : Addr).add j) = some u := fun j u hu => by
  obtain ⟨g', o', e, _, hc⟩ := h.2 h0
  cases e
  have hadd : (⟨g, o, none⟩ : Addr).add j = ⟨g, o + j, none⟩ := by unfold Addr.add; split <;> simp_all
  rw [hadd]
  have hj : j < l.length * 3 := by rw [← rv_len]; exact (List.getElem?_eq_some_iff.1 hu).1
  obtain ⟨x, hx⟩ : ∃ x, l[j / 3]? = some x := ⟨_, List.getElem?_eq_getElem (by omega)⟩
  obtain ⟨c0, c1, c2⟩ := hc (j / 3) x hx
  obtain ⟨r0, r1, r2⟩ := rv_at l (j / 3) x hx
  have hm : j % 3 = 0 ∨ j % 3 = 1 ∨ j % 3 = 2 := by omega
  rcases hm with hm | hm | hm
  · have e : j = j / 3 * 3 := by omega
    rw [← e] at r0
    rw [r0] at hu
    rw [e, ← hu]; exact c0
  · have e : j = j / 3 * 3 + 1 := by omega
    rw [← e] at r1
    rw [r1] at hu
    rw [e, ← hu]; exact c1
  · have e : j = j / 3 * 3 + 2 := by omega
    rw [← e] at r2
    rw [r2] at hu
    rw [e, ← hu]; exact c2
theorem own_rl {w : World} {B n : Nat} {t : TypeId} {v : Value} {l : List Rn} (h : w.ownsRow B t 3 v n (rv l)) (hn : l.length = n) : ∃ A c, v = .slice A n c ∧ RL w A n l ∧ n ≤ c := by
  have hcells := fun (g : Nat) (hg : v.ownBlock = some g) => World.ownsRow.cells h hg
  rcases h.2 with ⟨rfl, h0⟩ | ⟨g, cap, cur, rfl, hB, hg, hle, _⟩
  · exact ⟨none, 0, by rw [h0], ⟨hn, fun hp => absurd hp (by omega)⟩, by omega⟩
  · refine ⟨_, cap, rfl, ⟨hn, fun _ => ⟨g, 0, rfl, (Array.getElem?_eq_some_iff.1 hg).1, fun i x hx => ?_⟩⟩, hle⟩
    have hat : ∀ j u, (rv l)[j]? = some u → w.cell? ⟨g, 0 + j, none⟩ = some u := fun j u hu => by
      have := hcells g rfl j u hu
      have hadd : (⟨g, 0, none⟩ : Addr).add j = ⟨g, 0 + j, none⟩ := by unfold Addr.add; split <;> simp_all
      rwa [hadd] at this
    obtain ⟨r0, r1, r2⟩ := rv_at l i x hx
    exact ⟨hat _ _ r0, hat _ _ r1, hat _ _ r2⟩
theorem own_far3 {w : World} {B : Nat} {e : TypeId} {v : Value} {n : Nat} {xs : List Value} (h : w.ownsRow B e 3 v n xs) : ∀ i, v.ownBlock = some i → B ≤ i := fun i hi => by
  rcases h.2 with ⟨rfl, _⟩ | ⟨g, cap, cur, rfl, hB, _⟩
  · simp [Value.ownBlock] at hi
  · simp [Value.ownBlock] at hi; omega
theorem run_inf : (Tryz.prog.info? 50).map (fun i => (i.zero, i.size, i.bytes)) = some (some (.agg #[.int .i64 0, .int .i64 0, .int .i64 0]), 3, 24) := by kernel_rfl

/-- What a call that answers runs leaves: new memory, nil where there are none. -/
def Runs (l : List Rn) (w : World) (e : Ending) (w' : World) : Prop := ∃ A c, e = .returned (.slice A l.length c) ∧ RL w' A l.length l ∧ ((l.length = 0 → A = none ∧ c = 0) ∧ l.length ≤ c) ∧ w.grownBy w' none
/-- mix's contract. -/
def MixC : Prop := ∀ (dev : Nat) (A B : Option Addr) (n c m d : Nat) (a b : List Rn) (alone : Bool) (W : World), dev < 8 → RL W A n a → RL W B m b → (∀ r ∈ a, Ok r) → (∀ r ∈ b, Ok r) → n ≤ 100000 → m ≤ 100000 →
    (mixR (dev : Int) a b alone).length ≤ 400000 ∧ Calls Tryz.prog 87 #[.int .i64 (dev : Int), .slice A n c, .slice B m d, .bool alone] W (Runs (mixR (dev : Int) a b alone) W)
-- the walks
set_option maxHeartbeats 8000000 in
set_option maxRecDepth 100000 in
theorem refUnion_of (hmix : MixC) (A B : Option Addr) (n c m d : Nat) (a b : List Rn) (w : World) (ha : RL w A n a) (hb : RL w B m b) (oa : ∀ r ∈ a, Ok r) (ob : ∀ r ∈ b, Ok r) (hn : n ≤ 100000) (hm : m ≤ 100000) :
    Calls Tryz.prog 61 #[.slice A n c, .slice B m d] w (Runs (unionR a b) w) := by
  have Ha := Lib.hid ha
  have Hb := Lib.hid hb
  have Oa := Lib.hid oa
  have Ob := Lib.hid ob
  have Mx := Lib.hid hmix
  obtain ⟨i0, hi0, hz0, hz1, hz2⟩ := info_parts run_inf
  have Hi0 := Lib.hid hi0
  have Hz0 := Lib.hid hz0
  have Hz1 := Lib.hid hz1
  have Hz2 := Lib.hid hz2
  clear ha hb oa ob hmix hi0 hz0 hz1 hz2
  go_enter Tryz.func61, Tryz.ntmps61
  go_wp2_with fail
  go_loopw [6, 5] (fun i v wr => ∃ (k N : Nat), k ≤ 8 ∧ i = .int .i64 k ∧ Hid (N = (upR a b false k).length) ∧ wr.ownsRow w.heap.size 50 3 v N (rv (upR a b false k)) ∧ Hid (N = 0 → v = .slice none 0 0) ∧ N ≤ 400000 * k ∧ w.grownBy wr none) (fun i _ _ => 8 - (intOf i).toNat)
  case atStart => exact ⟨0, 0, by omega, rfl, rfl, World.ownsRow_nil _ _ _ _, fun _ => rfl, by omega, gb_refl _ _⟩
  case round =>
    obtain ⟨k, N, hk, rfl, HN, hown, HV, hN, hg⟩ := hrel
    by_cases hlt : k < 8
    · have d1 : decide ((k : Int) < 8) = true := decide_eq_true (by omega)
      obtain ⟨hlen, hcall⟩ := Mx.out k A B n c m d a b false wr hlt (Ha.out.keep hg) (Hb.out.keep hg) Oa.out Ob.out hn hm
      have Hcall := Lib.hid hcall
      have hup : upR a b false (k + 1) = upR a b false k ++ mixR (k : Int) a b false := rfl
      generalize mixR (k : Int) a b false = M at *
      have Hup := Lib.hid hup
      clear hcall hup
      go_wp2_with fail
      refine Hcall.out.mono ?_
      rintro e w1 ⟨A1, c1, rfl, hR, h0, g1⟩
      have own1 := World.ownsRow.kept hown g1 (by cases hv : Value.ownBlock _ with | none => exact .inl rfl | some q => exact .inr (by simp))
      have g2 := gb_none hg g1
      have Hnew : Hid (N + M.length = (upR a b false (k + 1)).length) := by show _ = _; rw [Hup.out, List.length_append, HN.out]
      by_cases hz : M.length = 0
      · obtain ⟨rfl, rfl⟩ := h0.1 hz
        rw [hz]
        have hM : M = [] := List.eq_nil_of_length_eq_zero hz
        have Hown : Hid (w1.ownsRow w.heap.size 50 3 _ N (rv (upR a b false k))) := own1
        have Hnew2 : Hid (N = (upR a b false (k + 1)).length) := by show _ = _; rw [← Hnew.out, hz]; rfl
        have Hsame : Hid (rv (upR a b false (k + 1)) = rv (upR a b false k)) := by show _ = _; rw [Hup.out, hM, List.append_nil]
        clear h0 hR own1 hown hM hz
        go_wp2_with (at_builtin; refine wpList_append_own_none rfl (.tmp 11) (.tmp 15) 22 rfl w.heap.size 50 i0 3 Tryz.underlying22 Hi0.out _ N _ rfl Hown.out rfl ?_)
        go_roundw
        case rel => exact ⟨k + 1, N, by omega, by go_num, Hnew2, by rw [Hsame.out]; exact Hown.out, HV, by omega, g2⟩
        case measure => simp [intOf]; omega
      · obtain ⟨g, o, rfl, hgl, _⟩ := hR.2 (by omega)
        have Hown : Hid (w1.ownsRow w.heap.size 50 3 _ N (rv (upR a b false k))) := own1
        have Hnews := Lib.hid (rl_news hR (by omega))
        have Hrl : Hid ((rv M).length = M.length * 3) := rv_len M
        have hsz := g2.size
        clear h0 hR own1 hown
        go_wp2_with (at_builtin; refine wpList_append_own _ rfl (.tmp 11) (.tmp 15) 22 rfl w.heap.size 50 i0 (.agg #[.int .i64 0, .int .i64 0, .int .i64 0]) 3 24 Tryz.underlying22 Hi0.out Hz0.out Hz1.out Hz2.out rfl (by decide) _ N _ rfl Hown.out ⟨g, o, none⟩ M.length c1 (rv M) rfl Hrl.out Hnews.out (rv_one _) (by simp only [maxLen]; omega) (by omega) hsz ?_; intro v2 w2 own2 grow2 hnil)
        have g3 : w.grownBy w2 none := gb_step g2 grow2 (fun i e => .inr (own_far3 Hown.out i e))
        rw [← rv_append, ← Hup.out] at own2
        go_roundw
        case rel => exact ⟨k + 1, N + M.length, by omega, by go_num, Hnew, own2, fun h => absurd h (by omega), by omega, g3⟩
        case measure => simp [intOf]; omega
    · have hk8 : k = 8 := by omega
      subst hk8
      have d1 : decide (((8 : Nat) : Int) < 8) = false := by decide
      obtain ⟨A3, c3, hv, hR, hc3⟩ := own_rl hown HN.out.symm
      subst hv
      have Hfin : Hid (A3 = A3 ∧ (N = 0 → A3 = none ∧ c3 = 0)) := ⟨rfl, fun h => by have := HV.out h; rw [h] at this; cases this; exact ⟨rfl, rfl⟩⟩
      go_wp2_with fail
      go_ret
      have e := HN.out
      refine ⟨A3, c3, ?_, ?_, ?_, hg⟩
      · show _ = Ending.returned (.slice A3 (upR a b false 8).length c3); rw [← e]; rfl
      · show RL _ _ (upR a b false 8).length (upR a b false 8); rw [← e]; exact hR
      · show ((upR a b false 8).length = 0 → _) ∧ (upR a b false 8).length ≤ c3; rw [← e]; exact ⟨Hfin.out.2, hc3⟩

end Go.Proofs.YthijiefopcnclaaGreatDoor.Dt
