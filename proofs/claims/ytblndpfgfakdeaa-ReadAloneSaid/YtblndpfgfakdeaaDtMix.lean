/- The document's mark, mix, Union, Minus as plain lists. No program. -/
import Derived.Test.YtblndpfgfakdeaaDtRun
namespace Go.Proofs.Ytblndpfgfakdeaa.Dt

/-- A number in a rising list, once. -/
def mk (l : List Int) (n : Int) : List Int := l.filter (fun x => decide (x < n)) ++ n :: l.filter (fun x => decide (n < x))
def Rising (l : List Int) : Prop := l.Pairwise (fun x y => x < y)
theorem mk_mem (l : List Int) (n x : Int) : x ∈ mk l n ↔ x = n ∨ x ∈ l := by
  unfold mk
  simp only [List.mem_append, List.mem_cons, List.mem_filter, decide_eq_true_eq]
  constructor
  · rintro (⟨h, _⟩ | h | ⟨h, _⟩)
    · exact .inr h
    · exact .inl h
    · exact .inr h
  · rintro (h | h)
    · exact .inr (.inl h)
    · by_cases h1 : x < n
      · exact .inl ⟨h, h1⟩
      · by_cases h2 : x = n
        · exact .inr (.inl h2)
        · exact .inr (.inr ⟨h, by omega⟩)
theorem mk_rising {l : List Int} (n : Int) (h : Rising l) : Rising (mk l n) := by
  unfold mk Rising
  rw [List.pairwise_append]
  refine ⟨h.filter _, List.pairwise_cons.2 ⟨fun y hy => ?_, h.filter _⟩, fun x hx y hy => ?_⟩
  · simp only [List.mem_filter, decide_eq_true_eq] at hy; exact hy.2
  · simp only [List.mem_filter, decide_eq_true_eq] at hx
    rcases List.mem_cons.1 hy with e | hy
    · omega
    · simp only [List.mem_filter, decide_eq_true_eq] at hy; omega

/-- The places at which something of a device begins, or has ended. -/
def pts (dev : Int) (m : List Int) : List Rn → List Int
  | [] => m
  | r :: l => pts dev (if r.d = dev then mk (mk m r.f) (r.t + 1) else m) l
theorem pts_rising (dev : Int) : ∀ (l : List Rn) (m : List Int), Rising m → Rising (pts dev m l)
  | [], _, h => h
  | r :: l, m, h => by
    rw [pts]
    by_cases e : r.d = dev
    · rw [if_pos e]; exact pts_rising dev l _ (mk_rising _ (mk_rising _ h))
    · rw [if_neg e]; exact pts_rising dev l _ h
theorem pts_mem (dev : Int) : ∀ (l : List Rn) (m : List Int) (x : Int), x ∈ pts dev m l ↔ x ∈ m ∨ ∃ r ∈ l, r.d = dev ∧ (x = r.f ∨ x = r.t + 1)
  | [], m, x => by simp [pts]
  | r :: l, m, x => by
    rw [pts]
    by_cases e : r.d = dev
    · rw [if_pos e, pts_mem dev l, mk_mem, mk_mem]
      constructor
      · rintro ((h | h | h) | ⟨s, hs, h⟩)
        · exact .inr ⟨r, by simp, e, .inr h⟩
        · exact .inr ⟨r, by simp, e, .inl h⟩
        · exact .inl h
        · exact .inr ⟨s, by simp [hs], h⟩
      · rintro (h | ⟨s, hs, h1, h2⟩)
        · exact .inl (.inr (.inr h))
        · rcases List.mem_cons.1 hs with hs | hs
          · subst hs
            rcases h2 with h2 | h2
            · exact .inl (.inr (.inl h2))
            · exact .inl (.inl h2)
          · exact .inr ⟨s, hs, h1, h2⟩
    · rw [if_neg e, pts_mem dev l]
      constructor
      · rintro (h | ⟨s, hs, h⟩)
        · exact .inl h
        · exact .inr ⟨s, by simp [hs], h⟩
      · rintro (h | ⟨s, hs, h1, h2⟩)
        · exact .inl h
        · rcases List.mem_cons.1 hs with hs | hs
          · subst hs; exact absurd h1 e
          · exact .inr ⟨s, hs, h1, h2⟩

/-- One step: what lies from x to ahead of y is in, or not; the runs stand the last one first. -/
def step (dev : Int) (p : Int → Bool) (rs : List Rn) (x y : Int) : List Rn :=
  if p x = true then
    match rs with
    | [] => [⟨dev, x, y - 1⟩]
    | r :: rs' => if r.t = x - 1 then ⟨r.d, r.f, y - 1⟩ :: rs' else ⟨dev, x, y - 1⟩ :: r :: rs'
  else rs
def go (dev : Int) (p : Int → Bool) (rs : List Rn) : List Int → List Rn
  | x :: y :: m => go dev p (step dev p rs x y) (y :: m)
  | _ => rs
structure Inv (dev lo : Int) (p : Int → Bool) (rs : List Rn) (x : Int) : Prop where
  all : ∀ r ∈ rs, r.d = dev ∧ lo ≤ r.f ∧ r.f ≤ r.t ∧ r.t < x
  bef : rs.Pairwise fun s r => Bef r s
  has : ∀ n, (∃ r ∈ rs, r.f ≤ n ∧ n ≤ r.t) ↔ lo ≤ n ∧ n < x ∧ p n = true
theorem step_inv {dev lo : Int} {p : Int → Bool} {rs : List Rn} {x y : Int} (h : Inv dev lo p rs x) (hl : lo ≤ x) (hxy : x < y) (hp : ∀ n, x ≤ n → n < y → p n = p x) : Inv dev lo p (step dev p rs x y) y := by
  unfold step
  cases hpx : p x with
  | false =>
    rw [if_neg (by decide)]
    refine ⟨fun r hr => ?_, h.bef, fun n => ?_⟩
    · obtain ⟨h1, h2, h3, h4⟩ := h.all r hr; exact ⟨h1, h2, h3, by omega⟩
    · rw [h.has n]
      constructor
      · rintro ⟨h1, h2, h3⟩; exact ⟨h1, by omega, h3⟩
      · rintro ⟨h1, h2, h3⟩
        refine ⟨h1, ?_, h3⟩
        by_cases hn : n < x
        · exact hn
        · rw [hp n (by omega) h2, hpx] at h3; cases h3
  | true =>
    rw [if_pos rfl]
    have new : ∀ n, (lo ≤ n ∧ n < y ∧ p n = true) ↔ (lo ≤ n ∧ n < x ∧ p n = true) ∨ (x ≤ n ∧ n ≤ y - 1) := fun n => by
      constructor
      · rintro ⟨h1, h2, h3⟩
        by_cases hn : n < x
        · exact .inl ⟨h1, hn, h3⟩
        · exact .inr ⟨by omega, by omega⟩
      · rintro (⟨h1, h2, h3⟩ | ⟨h1, h2⟩)
        · exact ⟨h1, by omega, h3⟩
        · exact ⟨by omega, by omega, by rw [hp n h1 (by omega), hpx]⟩
    cases rs with
    | nil =>
      refine ⟨fun r hr => ?_, List.pairwise_singleton _ _, fun n => ?_⟩
      · rw [List.mem_singleton.1 hr]; exact ⟨rfl, hl, by show x ≤ y - 1; omega, by show y - 1 < y; omega⟩
      · rw [new n, ← h.has n]
        simp
    | cons r rs' =>
      obtain ⟨r1, r2, r3, r4⟩ := h.all r (by simp)
      have hb := List.pairwise_cons.1 h.bef
      simp only []
      by_cases e : r.t = x - 1
      · rw [if_pos e]
        refine ⟨fun s hs => ?_, List.pairwise_cons.2 ⟨fun s hs => ?_, hb.2⟩, fun n => ?_⟩
        · rcases List.mem_cons.1 hs with hs | hs
          · subst hs; exact ⟨r1, r2, by show r.f ≤ y - 1; omega, by show y - 1 < y; omega⟩
          · obtain ⟨h1, h2, h3, h4⟩ := h.all s (by simp [hs]); exact ⟨h1, h2, h3, by omega⟩
        · exact hb.1 s hs
        · rw [new n, ← h.has n]
          simp only [List.mem_cons, exists_eq_or_imp]
          constructor
          · rintro (⟨h1, h2⟩ | h1)
            · by_cases hn : n < x
              · exact .inl (.inl ⟨h1, by omega⟩)
              · exact .inr ⟨by omega, h2⟩
            · exact .inl (.inr h1)
          · rintro ((⟨h1, h2⟩ | h1) | ⟨h1, h2⟩)
            · exact .inl ⟨h1, by omega⟩
            · exact .inr h1
            · exact .inl ⟨by omega, h2⟩
      · rw [if_neg e]
        refine ⟨fun s hs => ?_, List.pairwise_cons.2 ⟨fun s hs => ?_, h.bef⟩, fun n => ?_⟩
        · rcases List.mem_cons.1 hs with hs | hs
          · subst hs; exact ⟨rfl, hl, by show x ≤ y - 1; omega, by show y - 1 < y; omega⟩
          · obtain ⟨h1, h2, h3, h4⟩ := h.all s hs; exact ⟨h1, h2, h3, by omega⟩
        · show s.d < dev ∨ (s.d = dev ∧ s.t + 1 < x)
          rcases List.mem_cons.1 hs with hs | hs
          · subst hs; exact .inr ⟨r1, by omega⟩
          · obtain ⟨h1, _, _, h4⟩ := h.all s (by simp [hs])
            rcases hb.1 s hs with hq | ⟨_, hq⟩
            · omega
            · exact .inr ⟨h1, by omega⟩
        · rw [new n, ← h.has n]
          simp only [List.mem_cons, exists_eq_or_imp]
          constructor
          · rintro (h1 | h1)
            · exact .inr h1
            · exact .inl h1
          · rintro (h1 | h1)
            · exact .inr h1
            · exact .inl h1
/-- All steps: from the first place to the last. -/
theorem go_inv {dev lo : Int} {p : Int → Bool} (Z : Int → Prop) (hZ : ∀ x y n, x ≤ n → n < y → (∀ z, Z z → z ≤ x ∨ y ≤ z) → p n = p x) :
    ∀ (m : List Int) (rs : List Rn) (x : Int), Rising (x :: m) → lo ≤ x → (∀ z, Z z → z ≤ x ∨ z ∈ m) → Inv dev lo p rs x → ∃ hi, (hi = x ∨ hi ∈ m) ∧ (∀ z, Z z → z ≤ hi) ∧ Inv dev lo p (go dev p rs (x :: m)) hi
  | [], rs, x, _, _, hz, h => ⟨x, .inl rfl, fun z hzz => (hz z hzz).elim (fun h1 => h1) (fun h1 => absurd h1 (by simp)), h⟩
  | y :: m, rs, x, hr, hl, hz, h => by
    have hr2 := List.pairwise_cons.1 hr
    have hxy : x < y := hr2.1 y (by simp)
    have hym := (List.pairwise_cons.1 hr2.2).1
    have hs := step_inv h hl hxy (fun n h1 h2 => hZ x y n h1 h2 fun z hzz => by
      rcases hz z hzz with h3 | h3
      · exact .inl h3
      · rcases List.mem_cons.1 h3 with h3 | h3
        · exact .inr (by omega)
        · exact .inr (by have := hym z h3; omega))
    obtain ⟨hi, h1, h2, h3⟩ := go_inv Z hZ m _ y hr2.2 (by omega) (fun z hzz => by
      rcases hz z hzz with h3 | h3
      · exact .inl (by omega)
      · rcases List.mem_cons.1 h3 with h3 | h3
        · exact .inl (by omega)
        · exact .inr h3) hs
    refine ⟨hi, ?_, h2, by rw [go]; exact h3⟩
    rcases h1 with h1 | h1
    · exact .inr (by simp [h1])
    · exact .inr (by simp [h1])

def hasB (l : List Rn) (d n : Int) : Bool := l.any fun r => decide (In r d n)
theorem hasB_iff (l : List Rn) (d n : Int) : hasB l d n = true ↔ Has l d n := by
  unfold hasB Has
  rw [List.any_eq_true]
  simp only [decide_eq_true_eq]
/-- What is kept of a device's dots: what either has, or what a alone has. -/
def keep (a b : List Rn) (alone : Bool) (dev n : Int) : Bool := if alone = true then hasB a dev n && !hasB b dev n else hasB a dev n || hasB b dev n
def mixR (dev : Int) (a b : List Rn) (alone : Bool) : List Rn := (go dev (keep a b alone dev) [] (pts dev (pts dev [] a) b)).reverse

theorem hasB_const {l : List Rn} {dev x y n : Int} (h1 : x ≤ n) (h2 : n < y) (h : ∀ r ∈ l, r.d = dev → (r.f ≤ x ∨ y ≤ r.f) ∧ (r.t + 1 ≤ x ∨ y ≤ r.t + 1)) : hasB l dev n = hasB l dev x := by
  rw [Bool.eq_iff_iff, hasB_iff, hasB_iff]
  constructor
  · rintro ⟨r, hr, e, k1, k2⟩
    obtain ⟨j1, j2⟩ := h r hr e
    exact ⟨r, hr, e, by omega, by omega⟩
  · rintro ⟨r, hr, e, k1, k2⟩
    obtain ⟨j1, j2⟩ := h r hr e
    exact ⟨r, hr, e, by omega, by omega⟩
theorem keep_in {a b : List Rn} {alone : Bool} {dev n : Int} (h : keep a b alone dev n = true) : Has a dev n ∨ Has b dev n := by
  unfold keep at h
  cases alone with
  | true =>
    rw [if_pos rfl, Bool.and_eq_true] at h
    exact .inl ((hasB_iff _ _ _).1 h.1)
  | false =>
    rw [if_neg (by decide), Bool.or_eq_true, hasB_iff, hasB_iff] at h
    exact h
theorem mix_spec (dev : Int) (a b : List Rn) (alone : Bool) (ha : ∀ r ∈ a, Ok r) (hb : ∀ r ∈ b, Ok r) :
    (∀ r ∈ mixR dev a b alone, r.d = dev ∧ 1 ≤ r.f ∧ r.f ≤ r.t ∧ r.t ≤ 4503599627370496) ∧ (mixR dev a b alone).Pairwise Bef ∧ ∀ d n, Has (mixR dev a b alone) d n ↔ d = dev ∧ keep a b alone dev n = true := by
  obtain ⟨M, hM⟩ : ∃ M, pts dev (pts dev [] a) b = M := ⟨_, rfl⟩
  have hR : Rising M := by rw [← hM]; exact pts_rising _ _ _ (pts_rising _ _ _ List.Pairwise.nil)
  have hmem : ∀ x, x ∈ M ↔ (∃ r ∈ a, r.d = dev ∧ (x = r.f ∨ x = r.t + 1)) ∨ ∃ r ∈ b, r.d = dev ∧ (x = r.f ∨ x = r.t + 1) := fun x => by
    rw [← hM, pts_mem, pts_mem]
    simp
  have inM : ∀ r, r ∈ a ∨ r ∈ b → r.d = dev → r.f ∈ M ∧ r.t + 1 ∈ M := fun r hr e => by
    rcases hr with hr | hr
    · exact ⟨(hmem _).2 (.inl ⟨r, hr, e, .inl rfl⟩), (hmem _).2 (.inl ⟨r, hr, e, .inr rfl⟩)⟩
    · exact ⟨(hmem _).2 (.inr ⟨r, hr, e, .inl rfl⟩), (hmem _).2 (.inr ⟨r, hr, e, .inr rfl⟩)⟩
  have bnd : ∀ x ∈ M, 1 ≤ x ∧ x ≤ 4503599627370497 := fun x hx => by
    rcases (hmem x).1 hx with ⟨r, hr, _, h | h⟩ | ⟨r, hr, _, h | h⟩
    · obtain ⟨_, _, k3, k4, k5⟩ := ha r hr; omega
    · obtain ⟨_, _, k3, k4, k5⟩ := ha r hr; omega
    · obtain ⟨_, _, k3, k4, k5⟩ := hb r hr; omega
    · obtain ⟨_, _, k3, k4, k5⟩ := hb r hr; omega
  unfold mixR
  rw [hM]
  cases M with
  | nil =>
    refine ⟨fun r hr => by simp [go] at hr, by simp [go], fun d n => ?_⟩
    simp only [go, List.reverse_nil]
    constructor
    · intro h; exact absurd h (has_nil _ _)
    · rintro ⟨_, h⟩
      rcases keep_in h with ⟨r, hr, e, _⟩ | ⟨r, hr, e, _⟩
      · exact absurd (inM r (.inl hr) e).1 (by simp)
      · exact absurd (inM r (.inr hr) e).1 (by simp)
  | cons x m =>
    have hZ : ∀ u v n, u ≤ n → n < v → (∀ z, z ∈ x :: m → z ≤ u ∨ v ≤ z) → keep a b alone dev n = keep a b alone dev u := fun u v n h1 h2 h3 => by
      unfold keep
      rw [hasB_const (l := a) h1 h2 fun r hr e => ⟨h3 _ (inM r (.inl hr) e).1, h3 _ (inM r (.inl hr) e).2⟩, hasB_const (l := b) h1 h2 fun r hr e => ⟨h3 _ (inM r (.inr hr) e).1, h3 _ (inM r (.inr hr) e).2⟩]
    obtain ⟨hi, h1, h2, h3⟩ := go_inv (dev := dev) (lo := x) (p := keep a b alone dev) (fun z => z ∈ x :: m) hZ m [] x hR (Int.le_refl _) (fun z hz => by
      rcases List.mem_cons.1 hz with e | hz
      · exact .inl (by omega)
      · exact .inr hz) ⟨fun r hr => by simp at hr, List.Pairwise.nil, fun n => ⟨fun ⟨r, hr, _⟩ => by simp at hr, fun ⟨j1, j2, _⟩ => by omega⟩⟩
    have hlo : ∀ z ∈ x :: m, x ≤ z := fun z hz => by
      rcases List.mem_cons.1 hz with e | hz
      · omega
      · have := (List.pairwise_cons.1 hR).1 z hz; omega
    have hhi : hi ≤ 4503599627370497 := (bnd hi (h1.elim (fun e => e ▸ List.mem_cons_self) (fun h => List.mem_cons_of_mem _ h))).2
    have hx1 := (bnd x (by simp)).1
    refine ⟨fun r hr => ?_, ?_, fun d n => ?_⟩
    · obtain ⟨k1, k2, k3, k4⟩ := h3.all r (List.mem_reverse.1 hr)
      exact ⟨k1, by omega, k3, by omega⟩
    · rw [List.pairwise_reverse]; exact h3.bef
    · constructor
      · rintro ⟨r, hr, e, k1, k2⟩
        have hr' := List.mem_reverse.1 hr
        exact ⟨by rw [← e]; exact (h3.all r hr').1, ((h3.has n).1 ⟨r, hr', k1, k2⟩).2.2⟩
      · rintro ⟨rfl, hk⟩
        have hn : x ≤ n ∧ n < hi := by
          rcases keep_in hk with ⟨r, hr, e, k1, k2⟩ | ⟨r, hr, e, k1, k2⟩
          · have j1 := hlo _ (inM r (.inl hr) e).1
            have j2 := h2 _ (inM r (.inl hr) e).2
            omega
          · have j1 := hlo _ (inM r (.inr hr) e).1
            have j2 := h2 _ (inM r (.inr hr) e).2
            omega
        obtain ⟨r, hr, k1, k2⟩ := (h3.has n).2 ⟨hn.1, hn.2, hk⟩
        exact ⟨r, List.mem_reverse.2 hr, (h3.all r hr).1, k1, k2⟩

theorem mix_ok (dev : Int) (a b : List Rn) (alone : Bool) (ha : ∀ r ∈ a, Ok r) (hb : ∀ r ∈ b, Ok r) (h0 : 0 ≤ dev) (h8 : dev < 8) : ∀ r ∈ mixR dev a b alone, Ok r := fun r hr => by
  obtain ⟨h1, h2, h3, h4⟩ := (mix_spec dev a b alone ha hb).1 r hr
  exact ⟨by omega, by omega, h2, h3, h4⟩

/-- Of the first k devices. -/
def upR (a b : List Rn) (alone : Bool) : Nat → List Rn
  | 0 => []
  | k + 1 => upR a b alone k ++ mixR (k : Int) a b alone
theorem up_spec (a b : List Rn) (alone : Bool) (ha : ∀ r ∈ a, Ok r) (hb : ∀ r ∈ b, Ok r) : ∀ k, k ≤ 8 → May (upR a b alone k) ∧ (∀ r ∈ upR a b alone k, r.d < (k : Int)) ∧ ∀ d n, Has (upR a b alone k) d n ↔ 0 ≤ d ∧ d < (k : Int) ∧ keep a b alone d n = true
  | 0, _ => ⟨may_nil, fun r hr => (by simp [upR] at hr), fun d n => ⟨fun h => absurd h (has_nil _ _), fun h => by omega⟩⟩
  | k + 1, hk => by
    obtain ⟨h1, h2, h3⟩ := up_spec a b alone ha hb k (by omega)
    obtain ⟨m1, m2, m3⟩ := mix_spec (k : Int) a b alone ha hb
    have mo := mix_ok (k : Int) a b alone ha hb (by omega) (by omega)
    refine ⟨⟨fun r hr => ?_, ?_⟩, fun r hr => ?_, fun d n => ?_⟩
    · rcases List.mem_append.1 hr with hr | hr
      · exact h1.1 r hr
      · exact mo r hr
    · rw [upR, List.pairwise_append]
      refine ⟨h1.2, m2, fun r hr s hs => .inl ?_⟩
      have := h2 r hr
      have := (m1 s hs).1
      omega
    · rcases List.mem_append.1 hr with hr | hr
      · have := h2 r hr; omega
      · have := (m1 r hr).1; omega
    · rw [upR, has_append, h3, m3]
      constructor
      · rintro (⟨j1, j2, j3⟩ | ⟨rfl, j3⟩)
        · exact ⟨j1, by omega, j3⟩
        · exact ⟨by omega, by omega, j3⟩
      · rintro ⟨j1, j2, j3⟩
        by_cases e : d = (k : Int)
        · exact .inr ⟨e, e ▸ j3⟩
        · exact .inl ⟨j1, by omega, j3⟩
/-- Together; apart. -/
def unionR (a b : List Rn) : List Rn := upR a b false 8
def minusR (a b : List Rn) : List Rn := upR a b true 8
theorem union_may {a b : List Rn} (ha : May a) (hb : May b) : May (unionR a b) := (up_spec a b false ha.1 hb.1 8 (Nat.le_refl _)).1
theorem minus_may {a b : List Rn} (ha : May a) (hb : May b) : May (minusR a b) := (up_spec a b true ha.1 hb.1 8 (Nat.le_refl _)).1
theorem union_has {a b : List Rn} (ha : May a) (hb : May b) (d n : Int) : Has (unionR a b) d n ↔ Has a d n ∨ Has b d n := by
  rw [unionR, (up_spec a b false ha.1 hb.1 8 (Nat.le_refl _)).2.2]
  unfold keep
  rw [if_neg (by decide), Bool.or_eq_true, hasB_iff, hasB_iff]
  constructor
  · rintro ⟨_, _, h⟩; exact h
  · intro h
    have hr : 0 ≤ d ∧ d < 8 := by
      rcases h with h | h
      · have := ha.ok h; omega
      · have := hb.ok h; omega
    exact ⟨hr.1, by omega, h⟩
theorem minus_has {a b : List Rn} (ha : May a) (hb : May b) (d n : Int) : Has (minusR a b) d n ↔ Has a d n ∧ ¬ Has b d n := by
  rw [minusR, (up_spec a b true ha.1 hb.1 8 (Nat.le_refl _)).2.2]
  unfold keep
  rw [if_pos rfl, Bool.and_eq_true, Bool.not_eq_true', hasB_iff, Bool.eq_false_iff, ne_eq, hasB_iff]
  constructor
  · rintro ⟨_, _, h⟩; exact h
  · intro h
    have := ha.ok h.1
    exact ⟨by omega, by omega, h⟩

/-- The dots of a list, one behind the other. -/
def ofR (acc : List Rn) : List (Int × Int) → List Rn
  | [] => acc
  | (d, n) :: l => ofR (if Ok ⟨d, n, n⟩ then unionR acc [⟨d, n, n⟩] else acc) l
theorem one_may {r : Rn} (h : Ok r) : May [r] := ⟨fun x hx => by rw [List.mem_singleton.1 hx]; exact h, List.pairwise_singleton _ _⟩
theorem has_one (d n e m : Int) : Has [⟨d, n, n⟩] e m ↔ e = d ∧ m = n := by
  rw [has_cons]
  constructor
  · rintro (⟨h1, h2, h3⟩ | h)
    · exact ⟨h1.symm, by show m = n; have : n ≤ m := h2; have : m ≤ n := h3; omega⟩
    · exact absurd h (has_nil _ _)
  · rintro ⟨rfl, rfl⟩
    exact .inl ⟨rfl, Int.le_refl _, Int.le_refl _⟩
theorem of_spec : ∀ (l : List (Int × Int)) (acc : List Rn), May acc → May (ofR acc l) ∧ ∀ d n, Has (ofR acc l) d n ↔ Has acc d n ∨ ((d, n) ∈ l ∧ Ok ⟨d, n, n⟩)
  | [], acc, h => ⟨h, fun d n => by simp [ofR]⟩
  | (e, m) :: l, acc, h => by
    rw [ofR]
    by_cases ho : Ok ⟨e, m, m⟩
    · rw [if_pos ho]
      have hu := union_may h (one_may ho)
      obtain ⟨h1, h2⟩ := of_spec l _ hu
      refine ⟨h1, fun d n => ?_⟩
      rw [h2, union_has h (one_may ho), has_one, List.mem_cons]
      constructor
      · rintro ((h3 | ⟨rfl, rfl⟩) | ⟨h3, h4⟩)
        · exact .inl h3
        · exact .inr ⟨.inl rfl, ho⟩
        · exact .inr ⟨.inr h3, h4⟩
      · rintro (h3 | ⟨h3 | h3, h4⟩)
        · exact .inl (.inl h3)
        · cases h3; exact .inl (.inr ⟨rfl, rfl⟩)
        · exact .inr ⟨h3, h4⟩
    · rw [if_neg ho]
      obtain ⟨h1, h2⟩ := of_spec l _ h
      refine ⟨h1, fun d n => ?_⟩
      rw [h2, List.mem_cons]
      constructor
      · rintro (h3 | ⟨h3, h4⟩)
        · exact .inl h3
        · exact .inr ⟨.inr h3, h4⟩
      · rintro (h3 | ⟨h3 | h3, h4⟩)
        · exact .inl h3
        · cases h3; exact absurd h4 ho
        · exact .inr ⟨h3, h4⟩
theorem of_may (l : List (Int × Int)) : May (ofR [] l) := (of_spec l [] may_nil).1
theorem of_has (l : List (Int × Int)) (d n : Int) : Has (ofR [] l) d n ↔ (d, n) ∈ l ∧ Ok ⟨d, n, n⟩ := by
  rw [(of_spec l [] may_nil).2]
  exact ⟨fun h => h.elim (fun h => absurd h (has_nil _ _)) id, .inr⟩
/-- What has just these dots, and may be, is this one. -/
theorem is_union {a b c : List Rn} (ha : May a) (hb : May b) (hc : May c) (h : ∀ d n, Has c d n ↔ Has a d n ∨ Has b d n) : c = unionR a b := canon _ _ hc (union_may ha hb) fun d n => by rw [h, union_has ha hb]
theorem is_minus {a b c : List Rn} (ha : May a) (hb : May b) (hc : May c) (h : ∀ d n, Has c d n ↔ Has a d n ∧ ¬ Has b d n) : c = minusR a b := canon _ _ hc (minus_may ha hb) fun d n => by rw [h, minus_has ha hb]
theorem is_of {l : List (Int × Int)} {c : List Rn} (hc : May c) (h : ∀ d n, Has c d n ↔ (d, n) ∈ l ∧ Ok ⟨d, n, n⟩) : c = ofR [] l := canon _ _ hc (of_may l) fun d n => by rw [h, of_has]
end Go.Proofs.Ytblndpfgfakdeaa.Dt
