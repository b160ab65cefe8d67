/- A deed's delta, by the document; states that deeds make: what may be of them. -/
import Derived.Test.YtblndpfgfakdeaaFtPure
set_option linter.unusedVariables false
namespace Go.Proofs.Ytblndpfgfakdeaa.Dt

/-- An op. -/
structure Opn where
  kind : Int
  key : ByteArray
  item : ByteArray
  v : Int
/-- A fact goes by an op of a device. -/
def Goes (f : Fc) (dev : Int) (o : Opn) : Prop :=
  f.key = o.key ∧ ((o.kind = 1 ∧ f.kind = 1) ∨ ((o.kind = 2 ∨ o.kind = 3) ∧ f.kind = 2 ∧ f.item = o.item) ∨ (o.kind = 4 ∧ f.kind = 3 ∧ f.d = dev) ∨ (o.kind ≠ 1 ∧ o.kind ≠ 2 ∧ o.kind ≠ 3 ∧ o.kind ≠ 4))
instance (f : Fc) (dev : Int) (o : Opn) : Decidable (Goes f dev o) := inferInstanceAs (Decidable (f.key = o.key ∧ ((o.kind = 1 ∧ f.kind = 1) ∨ ((o.kind = 2 ∨ o.kind = 3) ∧ f.kind = 2 ∧ f.item = o.item) ∨ (o.kind = 4 ∧ f.kind = 3 ∧ f.d = dev) ∨ (o.kind ≠ 1 ∧ o.kind ≠ 2 ∧ o.kind ≠ 3 ∧ o.kind ≠ 4))))
def goesB (f : Fc) (dev : Int) (o : Opn) : Bool := decide (Goes f dev o)
/-- The op may not be. -/
def Bad (dev : Int) (o : Opn) : Prop := dev < 0 ∨ 8 ≤ dev ∨ o.kind < 1 ∨ 5 < o.kind ∨ 40 < o.key.size ∨ ((o.kind = 1 ∨ o.kind = 2 ∨ o.kind = 3) ∧ 200 < o.item.size) ∨ (o.kind = 4 ∧ (o.v < -1099511627776 ∨ 1099511627776 < o.v))
instance (dev : Int) (o : Opn) : Decidable (Bad dev o) := inferInstanceAs (Decidable (dev < 0 ∨ 8 ≤ dev ∨ o.kind < 1 ∨ 5 < o.kind ∨ 40 < o.key.size ∨ ((o.kind = 1 ∨ o.kind = 2 ∨ o.kind = 3) ∧ 200 < o.item.size) ∨ (o.kind = 4 ∧ (o.v < -1099511627776 ∨ 1099511627776 < o.v))))
/-- It makes no fact. -/
def Away (o : Opn) : Prop := o.kind = 3 ∨ o.kind = 5
instance (o : Opn) : Decidable (Away o) := inferInstanceAs (Decidable (o.kind = 3 ∨ o.kind = 5))
def gone (l : List Fc) (dev : Int) (o : Opn) : List Fc := l.filter fun f => goesB f dev o
def sumV : List Fc → Int
  | [] => 0
  | f :: l => f.v + sumV l
def dotsF (l : List Fc) : List (Int × Int) := l.map fun f => (f.d, f.n)
def newF (s : St) (dev : Int) (o : Opn) : Fc := if o.kind = 4 then ⟨dev, lastR dev s.seen 0 + 1, o.key, 3, ⟨#[]⟩, o.v + sumV (gone s.facts dev o)⟩ else ⟨dev, lastR dev s.seen 0 + 1, o.key, o.kind, o.item, 0⟩
def delta (s : St) (dev : Int) (o : Opn) : St := if Away o then ⟨ofR [] (dotsF (gone s.facts dev o)), []⟩ else ⟨ofR [] (dotsF (gone s.facts dev o) ++ [(dev, lastR dev s.seen 0 + 1)]), [newF s dev o]⟩
def none_ : St := ⟨[], []⟩
def Over (s : St) (dev : Int) (o : Opn) : Prop := ¬ Away o ∧ (4503599627370496 < (newF s dev o).n ∨ (newF s dev o).v < -1099511627776 ∨ 1099511627776 < (newF s dev o).v)
instance (s : St) (dev : Int) (o : Opn) : Decidable (Over s dev o) := inferInstanceAs (Decidable (¬ Away o ∧ (4503599627370496 < (newF s dev o).n ∨ (newF s dev o).v < -1099511627776 ∨ 1099511627776 < (newF s dev o).v)))
def doS (s : St) (dev : Int) (o : Opn) : St × Int :=
  if Bad dev o then (none_, 1) else
  if gone s.facts dev o = [] ∧ Away o then (none_, 2) else
  if Over s dev o then (none_, 4) else
  if 400 < (joinS s (delta s dev o)).facts.length then (none_, 4) else (delta s dev o, 0)

theorem last_ge {l : List Rn} (h : Dt.May l) (dev : Int) : 0 ≤ lastR dev l 0 := (lastR_spec dev l 0).1
theorem last_not {l : List Rn} {dev n : Int} (h : lastR dev l 0 < n) : ¬ Has l dev n := fun ⟨r, hr, h1, h2, h3⟩ => by
  have := (lastR_spec dev l 0).2.1 r hr h1
  omega
theorem last_has {l : List Rn} (h : Dt.May l) {dev : Int} (h0 : 0 < lastR dev l 0) : Has l dev (lastR dev l 0) := by
  rcases (lastR_spec dev l 0).2.2 with e | ⟨r, hr, h1, h2⟩
  · omega
  · exact ⟨r, hr, h1, by rw [h2]; exact (h.1 r hr).2.2.2.1, by rw [h2]; exact Int.le_refl _⟩
theorem none_ss : SS none_ := ⟨may_nil, fun _ h => (by cases h), List.Pairwise.nil⟩
theorem none_may : MayS none_ := mayS_of none_ss (fun _ h => (by cases h)) (by decide)
theorem newF_dot (s : St) (dev : Int) (o : Opn) : (newF s dev o).d = dev ∧ (newF s dev o).n = lastR dev s.seen 0 + 1 := by unfold newF; split <;> exact ⟨rfl, rfl⟩
/-- What a deed tells where it is no error. -/
theorem do_is {s : St} {dev : Int} {o : Opn} (h : (doS s dev o).2 = 0) : (doS s dev o).1 = delta s dev o ∧ ¬ Bad dev o ∧ ¬ (gone s.facts dev o = [] ∧ Away o) ∧ ¬ Over s dev o ∧ (joinS s (delta s dev o)).facts.length ≤ 400 := by
  unfold doS at *
  split at h
  · cases h
  · split at h
    · cases h
    · split at h
      · cases h
      · split at h
        · cases h
        · rename_i h1 h2 h3 h4
          rw [if_neg h1, if_neg h2, if_neg h3, if_neg h4]
          exact ⟨rfl, h1, h2, h3, Nat.le_of_not_lt h4⟩
theorem do_err (s : St) (dev : Int) (o : Opn) : (doS s dev o).2 = 0 ∨ ((doS s dev o).1 = none_ ∧ ((doS s dev o).2 = 1 ∨ (doS s dev o).2 = 2 ∨ (doS s dev o).2 = 4)) := by
  unfold doS
  split
  · exact .inr ⟨rfl, .inl rfl⟩
  · split
    · exact .inr ⟨rfl, .inr (.inl rfl)⟩
    · split
      · exact .inr ⟨rfl, .inr (.inr rfl)⟩
      · split
        · exact .inr ⟨rfl, .inr (.inr rfl)⟩
        · exact .inl rfl
theorem new_ok {s : St} {dev : Int} {o : Opn} (hs : SS s) (hb : ¬ Bad dev o) (ha : ¬ Away o) (ho : ¬ Over s dev o) : Ok ⟨dev, lastR dev s.seen 0 + 1, lastR dev s.seen 0 + 1⟩ := by
  have h0 := last_ge hs.1 dev
  have h1 := (newF_dot s dev o).2
  unfold Bad at hb
  unfold Over at ho
  rw [h1] at ho
  refine ⟨by show 0 ≤ dev; omega, by show dev < 8; omega, by show 1 ≤ lastR dev s.seen 0 + 1; omega, Int.le_refl _, ?_⟩
  show lastR dev s.seen 0 + 1 ≤ 4503599627370496
  exact Int.not_lt.1 fun h => ho ⟨ha, .inl h⟩
theorem new_right {s : St} {dev : Int} {o : Opn} (hb : ¬ Bad dev o) (ha : ¬ Away o) (ho : ¬ Over s dev o) : RightF (newF s dev o) := by
  have hov : ¬ ((newF s dev o).v < -1099511627776) ∧ ¬ (1099511627776 < (newF s dev o).v) := ⟨fun h => ho ⟨ha, .inr (.inl h)⟩, fun h => ho ⟨ha, .inr (.inr h)⟩⟩
  unfold Bad at hb
  unfold Away at ha
  unfold RightF
  unfold newF at *
  split at hov
  · rename_i h4
    rw [if_pos h4]
    exact ⟨by show o.key.size ≤ 40; omega, .inr ⟨rfl, rfl, by omega, by omega⟩⟩
  · rename_i h4
    rw [if_neg h4]
    exact ⟨by show o.key.size ≤ 40; omega, .inl ⟨by show o.kind = 1 ∨ o.kind = 2; omega, by show o.item.size ≤ 200; omega, rfl⟩⟩
theorem delta_ss {s : St} {dev : Int} {o : Opn} (hs : SS s) (hb : ¬ Bad dev o) (ho : ¬ Over s dev o) : SS (delta s dev o) := by
  unfold delta
  split
  · exact ⟨of_may _, fun _ h => (by cases h), List.Pairwise.nil⟩
  · rename_i ha
    refine ⟨of_may _, fun f hf => ?_, List.pairwise_singleton _ _⟩
    rw [List.mem_singleton.1 hf, (newF_dot s dev o).1, (newF_dot s dev o).2]
    rw [of_has]
    exact ⟨by simp, new_ok hs hb ha ho⟩
theorem delta_right {s : St} {dev : Int} {o : Opn} (hb : ¬ Bad dev o) (ho : ¬ Over s dev o) : ∀ f ∈ (delta s dev o).facts, RightF f := by
  unfold delta
  split
  · exact fun _ h => (by cases h)
  · rename_i ha
    exact fun f hf => by rw [List.mem_singleton.1 hf]; exact new_right hb ha ho
/-- Which dots a delta names. -/
theorem delta_has {s : St} {dev : Int} {o : Opn} (hs : SS s) (hb : ¬ Bad dev o) (ho : ¬ Over s dev o) (d n : Int) : Has (delta s dev o).seen d n ↔ (∃ f ∈ s.facts, Goes f dev o ∧ f.d = d ∧ f.n = n) ∨ (¬ Away o ∧ d = dev ∧ n = lastR dev s.seen 0 + 1) := by
  have hg : ∀ d n, (d, n) ∈ dotsF (gone s.facts dev o) ↔ ∃ f ∈ s.facts, Goes f dev o ∧ f.d = d ∧ f.n = n := fun d n => by
    unfold dotsF gone
    rw [List.mem_map]
    constructor
    · rintro ⟨f, hf, e⟩
      obtain ⟨h1, h2⟩ := List.mem_filter.1 hf
      exact ⟨f, h1, of_decide_eq_true h2, congrArg Prod.fst e, congrArg Prod.snd e⟩
    · rintro ⟨f, h1, h2, rfl, rfl⟩
      exact ⟨f, List.mem_filter.2 ⟨h1, decide_eq_true h2⟩, rfl⟩
  have hok : ∀ d n, (∃ f ∈ s.facts, Goes f dev o ∧ f.d = d ∧ f.n = n) → Ok ⟨d, n, n⟩ := fun d n ⟨f, h1, _, e1, e2⟩ => by
    obtain ⟨k1, k2, k3, k4⟩ := hs.1.ok (hs.2.1 f h1)
    rw [e1] at k1 k2
    rw [e2] at k3 k4
    exact ⟨k1, k2, k3, Int.le_refl _, k4⟩
  unfold delta
  split
  · rename_i ha
    rw [of_has, hg]
    exact ⟨fun h => .inl h.1, fun h => h.elim (fun h => ⟨h, hok _ _ h⟩) fun h => absurd ha h.1⟩
  · rename_i ha
    rw [of_has, List.mem_append, hg, List.mem_singleton]
    constructor
    · rintro ⟨h | h, _⟩
      · exact .inl h
      · exact .inr ⟨ha, congrArg Prod.fst h, congrArg Prod.snd h⟩
    · rintro (h | ⟨_, rfl, rfl⟩)
      · exact ⟨.inl h, hok _ _ h⟩
      · exact ⟨.inr rfl, new_ok hs hb ha ho⟩
/-- What comes of a deed may be. -/
theorem do_may {s : St} {dev : Int} {o : Opn} (hs : MayS s) (h : (doS s dev o).2 = 0) : MayS (doS s dev o).1 ∧ MayS (joinS s (doS s dev o).1) := by
  obtain ⟨e, hb, hn, ho, hl⟩ := do_is h
  rw [e]
  have h1 := delta_ss hs.ss hb ho
  have h2 := delta_right hb ho
  refine ⟨mayS_of h1 h2 ?_, mayS_of (join_ss hs.ss h1) (join_right (fun f hf => (hs.2.2.1 f hf).1) h2) hl⟩
  unfold delta
  split
  · exact Nat.zero_le _
  · exact Nat.le_of_lt (by decide : 1 < 400)
/-- Runs that stay below a number are few. -/
theorem runs_len {l : List Rn} (h : Dt.May l) (K : Nat) (hk : ∀ d n, Has l d n → n ≤ (K : Int)) : l.length ≤ 8 * K := by
  have hn : (l.map fun r => (r.d, r.f)).Nodup := by
    rw [List.Nodup, List.pairwise_map]
    refine List.Pairwise.imp_of_mem (fun {a b} ha hb hab e => ?_) h.2
    obtain ⟨_, _, _, k4, _⟩ := h.1 a ha
    have e1 : a.d = b.d := congrArg Prod.fst e
    have e2 : a.f = b.f := congrArg Prod.snd e
    rcases hab with h1 | ⟨_, h1⟩ <;> omega
  have := sub_len _ ((List.range (8 * K)).map fun q => (((q / K : Nat) : Int), ((q % K : Nat) : Int) + 1)) hn fun x hx => by
    obtain ⟨r, hr, rfl⟩ := List.mem_map.1 hx
    obtain ⟨k1, k2, k3, k4, k5⟩ := h.1 r hr
    have k6 := hk r.d r.f ⟨r, hr, rfl, Int.le_refl _, k4⟩
    obtain ⟨D, hD⟩ : ∃ D : Nat, r.d = (D : Int) := ⟨r.d.toNat, by omega⟩
    obtain ⟨m, hm⟩ : ∃ m : Nat, r.f = (m : Int) + 1 := ⟨(r.f - 1).toNat, by omega⟩
    have hmK : m < K := by omega
    have hD8 : D ≤ 7 := by omega
    refine List.mem_map.2 ⟨D * K + m, List.mem_range.2 ?_, ?_⟩
    · have : D * K ≤ 7 * K := Nat.mul_le_mul_right K hD8
      omega
    · have e1 : (D * K + m) / K = D := by rw [Nat.mul_comm, Nat.mul_add_div (by omega), Nat.div_eq_of_lt hmK]; omega
      have e2 : (D * K + m) % K = m := by rw [Nat.mul_comm, Nat.mul_add_mod, Nat.mod_eq_of_lt hmK]
      rw [e1, e2, hD, hm]
  rwa [List.length_map, List.length_map, List.length_range] at this
/-- So are facts whose dots were seen. -/
theorem facts_len {s : St} (h : SS s) (K : Nat) (hk : ∀ d n, Has s.seen d n → n ≤ (K : Int)) : s.facts.length ≤ 8 * K := by
  have hn : (dotsF s.facts).Nodup := by
    unfold dotsF
    rw [List.Nodup, List.pairwise_map]
    exact List.Pairwise.imp (fun {a b} hab e => hab.irr ⟨congrArg Prod.fst e, congrArg Prod.snd e⟩) h.2.2
  have := sub_len _ ((List.range (8 * K)).map fun q => (((q / K : Nat) : Int), ((q % K : Nat) : Int) + 1)) hn fun x hx => by
    obtain ⟨f, hf, rfl⟩ := List.mem_map.1 hx
    have hh := h.2.1 f hf
    obtain ⟨k1, k2, k3, k4⟩ := h.1.ok hh
    have k6 := hk _ _ hh
    obtain ⟨D, hD⟩ : ∃ D : Nat, f.d = (D : Int) := ⟨f.d.toNat, by omega⟩
    obtain ⟨m, hm⟩ : ∃ m : Nat, f.n = (m : Int) + 1 := ⟨(f.n - 1).toNat, by omega⟩
    have hmK : m < K := by omega
    have hD8 : D ≤ 7 := by omega
    refine List.mem_map.2 ⟨D * K + m, List.mem_range.2 ?_, ?_⟩
    · have : D * K ≤ 7 * K := Nat.mul_le_mul_right K hD8
      omega
    · have e1 : (D * K + m) / K = D := by rw [Nat.mul_comm, Nat.mul_add_div (by omega), Nat.div_eq_of_lt hmK]; omega
      have e2 : (D * K + m) % K = m := by rw [Nat.mul_comm, Nat.mul_add_mod, Nat.mod_eq_of_lt hmK]
      rw [e1, e2, hD, hm]
  unfold dotsF at this
  rwa [List.length_map, List.length_map, List.length_range] at this
/-- The next number of a device is no greater than one more than all that was seen. -/
theorem last_le {l : List Rn} (h : Dt.May l) (K : Nat) (hk : ∀ d n, Has l d n → n ≤ (K : Int)) (dev : Int) : lastR dev l 0 ≤ (K : Int) := by
  by_cases h0 : 0 < lastR dev l 0
  · exact hk _ _ (last_has h h0)
  · omega
end Go.Proofs.Ytblndpfgfakdeaa.Dt
