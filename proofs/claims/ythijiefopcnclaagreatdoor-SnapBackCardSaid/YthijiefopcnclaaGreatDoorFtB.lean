/- A deed's delta, by the document; states that deeds make: what may be of them. States that deeds by numbers make; states of a group, apart: they may be, they agree. What a deed does to the facts; who goes on from there; states of one group under join. Facts found by key and kind; states that may not be: two facts the wrong way round, one twice, one not seen. -/
import Derived.Test.YthijiefopcnclaaGreatDoorFtA
section
set_option linter.unusedVariables false
namespace Go.Proofs.YthijiefopcnclaaGreatDoor.Dt

/-- An op. -/
structure Opn where
  kind : Int
  key : ByteArray
  item : ByteArray
  v : Int
/-- A fact goes by an op of a device. -/
def Goes (f : Fc) (dev : Int) (o : Opn) : Prop :=
  f.key = o.key ∧ ((o.kind = 1 ∧ f.kind = 1) ∨ ((o.kind = 2 ∨ o.kind = 3) ∧ f.kind = 2 ∧ f.item = o.item) ∨ (o.kind = 4 ∧ f.kind = 3 ∧ f.d = dev) ∨ (o.kind ≠ 1 ∧ o.kind ≠ 2 ∧ o.kind ≠ 3 ∧ o.kind ≠ 4))
instance (f : Fc) (dev : Int) (o : Opn) : Decidable (Goes f dev o) := inferInstanceAs (Decidable (f.key = o.key ∧ ((o.kind = 1 ∧ f.kind = 1) ∨ ((o.kind = 2 ∨ o.kind = 3) ∧ f.kind = 2 ∧ f.item = o.item) ∨ (o.kind = 4 ∧ f.kind = 3 ∧ f.d = dev) ∨ (o.kind ≠ 1 ∧ o.kind ≠ 2 ∧ o.kind ≠ 3 ∧ o.kind ≠ 4))))
def goesB (f : Fc) (dev : Int) (o : Opn) : Bool := decide (Goes f dev o)
/-- The op may not be. -/
def Bad (dev : Int) (o : Opn) : Prop := dev < 0 ∨ 8 ≤ dev ∨ o.kind < 1 ∨ 5 < o.kind ∨ 40 < o.key.size ∨ ((o.kind = 1 ∨ o.kind = 2 ∨ o.kind = 3) ∧ 200 < o.item.size) ∨ (o.kind = 4 ∧ (o.v < -1099511627776 ∨ 1099511627776 < o.v))
instance (dev : Int) (o : Opn) : Decidable (Bad dev o) := inferInstanceAs (Decidable (dev < 0 ∨ 8 ≤ dev ∨ o.kind < 1 ∨ 5 < o.kind ∨ 40 < o.key.size ∨ ((o.kind = 1 ∨ o.kind = 2 ∨ o.kind = 3) ∧ 200 < o.item.size) ∨ (o.kind = 4 ∧ (o.v < -1099511627776 ∨ 1099511627776 < o.v))))
/-- It makes no fact. -/
def Away (o : Opn) : Prop := o.kind = 3 ∨ o.kind = 5
instance (o : Opn) : Decidable (Away o) := inferInstanceAs (Decidable (o.kind = 3 ∨ o.kind = 5))
def gone (l : List Fc) (dev : Int) (o : Opn) : List Fc := l.filter fun f => goesB f dev o
def sumV : List Fc → Int
  | [] => 0
  | f :: l => f.v + sumV l
def dotsF (l : List Fc) : List (Int × Int) := l.map fun f => (f.d, f.n)
def newF (s : St) (dev : Int) (o : Opn) : Fc := if o.kind = 4 then ⟨dev, lastR dev s.seen 0 + 1, o.key, 3, ⟨#[]⟩, o.v + sumV (gone s.facts dev o)⟩ else ⟨dev, lastR dev s.seen 0 + 1, o.key, o.kind, o.item, 0⟩
def delta (s : St) (dev : Int) (o : Opn) : St := if Away o then ⟨ofR [] (dotsF (gone s.facts dev o)), []⟩ else ⟨ofR [] (dotsF (gone s.facts dev o) ++ [(dev, lastR dev s.seen 0 + 1)]), [newF s dev o]⟩
def none_ : St := ⟨[], []⟩
def Over (s : St) (dev : Int) (o : Opn) : Prop := ¬ Away o ∧ (4503599627370496 < (newF s dev o).n ∨ (newF s dev o).v < -1099511627776 ∨ 1099511627776 < (newF s dev o).v)
instance (s : St) (dev : Int) (o : Opn) : Decidable (Over s dev o) := inferInstanceAs (Decidable (¬ Away o ∧ (4503599627370496 < (newF s dev o).n ∨ (newF s dev o).v < -1099511627776 ∨ 1099511627776 < (newF s dev o).v)))
def doS (s : St) (dev : Int) (o : Opn) : St × Int :=
  if Bad dev o then (none_, 1) else
  if gone s.facts dev o = [] ∧ Away o then (none_, 2) else
  if Over s dev o then (none_, 4) else
  if 400 < (joinS s (delta s dev o)).facts.length then (none_, 4) else (delta s dev o, 0)

theorem last_ge {l : List Rn} (h : Dt.May l) (dev : Int) : 0 ≤ lastR dev l 0 := (lastR_spec dev l 0).1
theorem last_not {l : List Rn} {dev n : Int} (h : lastR dev l 0 < n) : ¬ Has l dev n := fun ⟨r, hr, h1, h2, h3⟩ => by
  have := (lastR_spec dev l 0).2.1 r hr h1
  omega
theorem last_has {l : List Rn} (h : Dt.May l) {dev : Int} (h0 : 0 < lastR dev l 0) : Has l dev (lastR dev l 0) := by
  rcases (lastR_spec dev l 0).2.2 with e | ⟨r, hr, h1, h2⟩
  · omega
  · exact ⟨r, hr, h1, by rw [h2]; exact (h.1 r hr).2.2.2.1, by rw [h2]; exact Int.le_refl _⟩
theorem none_ss : SS none_ := ⟨may_nil, fun _ h => (by cases h), List.Pairwise.nil⟩
theorem none_may : MayS none_ := mayS_of none_ss (fun _ h => (by cases h)) (by decide)
theorem newF_dot (s : St) (dev : Int) (o : Opn) : (newF s dev o).d = dev ∧ (newF s dev o).n = lastR dev s.seen 0 + 1 := by unfold newF; split <;> exact ⟨rfl, rfl⟩
/-- What a deed tells where it is no error. -/
theorem do_is {s : St} {dev : Int} {o : Opn} (h : (doS s dev o).2 = 0) : (doS s dev o).1 = delta s dev o ∧ ¬ Bad dev o ∧ ¬ (gone s.facts dev o = [] ∧ Away o) ∧ ¬ Over s dev o ∧ (joinS s (delta s dev o)).facts.length ≤ 400 := by
  unfold doS at *
  split at h
  · cases h
  · split at h
    · cases h
    · split at h
      · cases h
      · split at h
        · cases h
        · rename_i h1 h2 h3 h4
          rw [if_neg h1, if_neg h2, if_neg h3, if_neg h4]
          exact ⟨rfl, h1, h2, h3, Nat.le_of_not_lt h4⟩
theorem do_err (s : St) (dev : Int) (o : Opn) : (doS s dev o).2 = 0 ∨ ((doS s dev o).1 = none_ ∧ ((doS s dev o).2 = 1 ∨ (doS s dev o).2 = 2 ∨ (doS s dev o).2 = 4)) := by
  unfold doS
  split
  · exact .inr ⟨rfl, .inl rfl⟩
  · split
    · exact .inr ⟨rfl, .inr (.inl rfl)⟩
    · split
      · exact .inr ⟨rfl, .inr (.inr rfl)⟩
      · split
        · exact .inr ⟨rfl, .inr (.inr rfl)⟩
        · exact .inl rfl
theorem new_ok {s : St} {dev : Int} {o : Opn} (hs : SS s) (hb : ¬ Bad dev o) (ha : ¬ Away o) (ho : ¬ Over s dev o) : Ok ⟨dev, lastR dev s.seen 0 + 1, lastR dev s.seen 0 + 1⟩ := by
  have h0 := last_ge hs.1 dev
  have h1 := (newF_dot s dev o).2
  unfold Bad at hb
  unfold Over at ho
  rw [h1] at ho
  refine ⟨by show 0 ≤ dev; omega, by show dev < 8; omega, by show 1 ≤ lastR dev s.seen 0 + 1; omega, Int.le_refl _, ?_⟩
  show lastR dev s.seen 0 + 1 ≤ 4503599627370496
  exact Int.not_lt.1 fun h => ho ⟨ha, .inl h⟩
theorem new_right {s : St} {dev : Int} {o : Opn} (hb : ¬ Bad dev o) (ha : ¬ Away o) (ho : ¬ Over s dev o) : RightF (newF s dev o) := by
  have hov : ¬ ((newF s dev o).v < -1099511627776) ∧ ¬ (1099511627776 < (newF s dev o).v) := ⟨fun h => ho ⟨ha, .inr (.inl h)⟩, fun h => ho ⟨ha, .inr (.inr h)⟩⟩
  unfold Bad at hb
  unfold Away at ha
  unfold RightF
  unfold newF at *
  split at hov
  · rename_i h4
    rw [if_pos h4]
    exact ⟨by show o.key.size ≤ 40; omega, .inr ⟨rfl, rfl, by omega, by omega⟩⟩
  · rename_i h4
    rw [if_neg h4]
    exact ⟨by show o.key.size ≤ 40; omega, .inl ⟨by show o.kind = 1 ∨ o.kind = 2; omega, by show o.item.size ≤ 200; omega, rfl⟩⟩
theorem delta_ss {s : St} {dev : Int} {o : Opn} (hs : SS s) (hb : ¬ Bad dev o) (ho : ¬ Over s dev o) : SS (delta s dev o) := by
  unfold delta
  split
  · exact ⟨of_may _, fun _ h => (by cases h), List.Pairwise.nil⟩
  · rename_i ha
    refine ⟨of_may _, fun f hf => ?_, List.pairwise_singleton _ _⟩
    rw [List.mem_singleton.1 hf, (newF_dot s dev o).1, (newF_dot s dev o).2]
    rw [of_has]
    exact ⟨by simp, new_ok hs hb ha ho⟩
theorem delta_right {s : St} {dev : Int} {o : Opn} (hb : ¬ Bad dev o) (ho : ¬ Over s dev o) : ∀ f ∈ (delta s dev o).facts, RightF f := by
  unfold delta
  split
  · exact fun _ h => (by cases h)
  · rename_i ha
    exact fun f hf => by rw [List.mem_singleton.1 hf]; exact new_right hb ha ho
/-- Which dots a delta names. -/
theorem delta_has {s : St} {dev : Int} {o : Opn} (hs : SS s) (hb : ¬ Bad dev o) (ho : ¬ Over s dev o) (d n : Int) : Has (delta s dev o).seen d n ↔ (∃ f ∈ s.facts, Goes f dev o ∧ f.d = d ∧ f.n = n) ∨ (¬ Away o ∧ d = dev ∧ n = lastR dev s.seen 0 + 1) := by
  have hg : ∀ d n, (d, n) ∈ dotsF (gone s.facts dev o) ↔ ∃ f ∈ s.facts, Goes f dev o ∧ f.d = d ∧ f.n = n := fun d n => by
    unfold dotsF gone
    rw [List.mem_map]
    constructor
    · rintro ⟨f, hf, e⟩
      obtain ⟨h1, h2⟩ := List.mem_filter.1 hf
      exact ⟨f, h1, of_decide_eq_true h2, congrArg Prod.fst e, congrArg Prod.snd e⟩
    · rintro ⟨f, h1, h2, rfl, rfl⟩
      exact ⟨f, List.mem_filter.2 ⟨h1, decide_eq_true h2⟩, rfl⟩
  have hok : ∀ d n, (∃ f ∈ s.facts, Goes f dev o ∧ f.d = d ∧ f.n = n) → Ok ⟨d, n, n⟩ := fun d n ⟨f, h1, _, e1, e2⟩ => by
    obtain ⟨k1, k2, k3, k4⟩ := hs.1.ok (hs.2.1 f h1)
    rw [e1] at k1 k2
    rw [e2] at k3 k4
    exact ⟨k1, k2, k3, Int.le_refl _, k4⟩
  unfold delta
  split
  · rename_i ha
    rw [of_has, hg]
    exact ⟨fun h => .inl h.1, fun h => h.elim (fun h => ⟨h, hok _ _ h⟩) fun h => absurd ha h.1⟩
  · rename_i ha
    rw [of_has, List.mem_append, hg, List.mem_singleton]
    constructor
    · rintro ⟨h | h, _⟩
      · exact .inl h
      · exact .inr ⟨ha, congrArg Prod.fst h, congrArg Prod.snd h⟩
    · rintro (h | ⟨_, rfl, rfl⟩)
      · exact ⟨.inl h, hok _ _ h⟩
      · exact ⟨.inr rfl, new_ok hs hb ha ho⟩
/-- What comes of a deed may be. -/
theorem do_may {s : St} {dev : Int} {o : Opn} (hs : MayS s) (h : (doS s dev o).2 = 0) : MayS (doS s dev o).1 ∧ MayS (joinS s (doS s dev o).1) := by
  obtain ⟨e, hb, hn, ho, hl⟩ := do_is h
  rw [e]
  have h1 := delta_ss hs.ss hb ho
  have h2 := delta_right hb ho
  refine ⟨mayS_of h1 h2 ?_, mayS_of (join_ss hs.ss h1) (join_right (fun f hf => (hs.2.2.1 f hf).1) h2) hl⟩
  unfold delta
  split
  · exact Nat.zero_le _
  · exact Nat.le_of_lt (by decide : 1 < 400)
/-- Runs that stay below a number are few. -/
theorem runs_len {l : List Rn} (h : Dt.May l) (K : Nat) (hk : ∀ d n, Has l d n → n ≤ (K : Int)) : l.length ≤ 8 * K := by
  have hn : (l.map fun r => (r.d, r.f)).Nodup := by
    rw [List.Nodup, List.pairwise_map]
    refine List.Pairwise.imp_of_mem (fun {a b} ha hb hab e => ?_) h.2
    obtain ⟨_, _, _, k4, _⟩ := h.1 a ha
    have e1 : a.d = b.d := congrArg Prod.fst e
    have e2 : a.f = b.f := congrArg Prod.snd e
    rcases hab with h1 | ⟨_, h1⟩ <;> omega
  have := sub_len _ ((List.range (8 * K)).map fun q => (((q / K : Nat) : Int), ((q % K : Nat) : Int) + 1)) hn fun x hx => by
    obtain ⟨r, hr, rfl⟩ := List.mem_map.1 hx
    obtain ⟨k1, k2, k3, k4, k5⟩ := h.1 r hr
    have k6 := hk r.d r.f ⟨r, hr, rfl, Int.le_refl _, k4⟩
    obtain ⟨D, hD⟩ : ∃ D : Nat, r.d = (D : Int) := ⟨r.d.toNat, by omega⟩
    obtain ⟨m, hm⟩ : ∃ m : Nat, r.f = (m : Int) + 1 := ⟨(r.f - 1).toNat, by omega⟩
    have hmK : m < K := by omega
    have hD8 : D ≤ 7 := by omega
    refine List.mem_map.2 ⟨D * K + m, List.mem_range.2 ?_, ?_⟩
    · have : D * K ≤ 7 * K := Nat.mul_le_mul_right K hD8
      omega
    · have e1 : (D * K + m) / K = D := by rw [Nat.mul_comm, Nat.mul_add_div (by omega), Nat.div_eq_of_lt hmK]; omega
      have e2 : (D * K + m) % K = m := by rw [Nat.mul_comm, Nat.mul_add_mod, Nat.mod_eq_of_lt hmK]
      rw [e1, e2, hD, hm]
  rwa [List.length_map, List.length_map, List.length_range] at this
/-- So are facts whose dots were seen. -/
theorem facts_len {s : St} (h : SS s) (K : Nat) (hk : ∀ d n, Has s.seen d n → n ≤ (K : Int)) : s.facts.length ≤ 8 * K := by
  have hn : (dotsF s.facts).Nodup := by
    unfold dotsF
    rw [List.Nodup, List.pairwise_map]
    exact List.Pairwise.imp (fun {a b} hab e => hab.irr ⟨congrArg Prod.fst e, congrArg Prod.snd e⟩) h.2.2
  have := sub_len _ ((List.range (8 * K)).map fun q => (((q / K : Nat) : Int), ((q % K : Nat) : Int) + 1)) hn fun x hx => by
    obtain ⟨f, hf, rfl⟩ := List.mem_map.1 hx
    have hh := h.2.1 f hf
    obtain ⟨k1, k2, k3, k4⟩ := h.1.ok hh
    have k6 := hk _ _ hh
    obtain ⟨D, hD⟩ : ∃ D : Nat, f.d = (D : Int) := ⟨f.d.toNat, by omega⟩
    obtain ⟨m, hm⟩ : ∃ m : Nat, f.n = (m : Int) + 1 := ⟨(f.n - 1).toNat, by omega⟩
    have hmK : m < K := by omega
    have hD8 : D ≤ 7 := by omega
    refine List.mem_map.2 ⟨D * K + m, List.mem_range.2 ?_, ?_⟩
    · have : D * K ≤ 7 * K := Nat.mul_le_mul_right K hD8
      omega
    · have e1 : (D * K + m) / K = D := by rw [Nat.mul_comm, Nat.mul_add_div (by omega), Nat.div_eq_of_lt hmK]; omega
      have e2 : (D * K + m) % K = m := by rw [Nat.mul_comm, Nat.mul_add_mod, Nat.mod_eq_of_lt hmK]
      rw [e1, e2, hD, hm]
  unfold dotsF at this
  rwa [List.length_map, List.length_map, List.length_range] at this
/-- The next number of a device is no greater than one more than all that was seen. -/
theorem last_le {l : List Rn} (h : Dt.May l) (K : Nat) (hk : ∀ d n, Has l d n → n ≤ (K : Int)) (dev : Int) : lastR dev l 0 ≤ (K : Int) := by
  by_cases h0 : 0 < lastR dev l 0
  · exact hk _ _ (last_has h h0)
  · omega
end Go.Proofs.YthijiefopcnclaaGreatDoor.Dt
end

section
set_option linter.unusedVariables false
namespace Go.Proofs.YthijiefopcnclaaGreatDoor.Dt

/-- A text of one byte. -/
def b1 (j : Int) : ByteArray := ⟨#[UInt8.ofNat j.toNat]⟩
theorem b1_size (j : Int) : (b1 j).size = 1 := rfl
theorem b1_inj {i j : Int} (hi : 0 ≤ i ∧ i < 256) (hj : 0 ≤ j ∧ j < 256) (h : b1 i = b1 j) : i = j := by
  unfold b1 at h
  have h1 : (#[UInt8.ofNat i.toNat] : Array UInt8) = #[UInt8.ofNat j.toNat] := congrArg ByteArray.data h
  have h2 : UInt8.ofNat i.toNat = UInt8.ofNat j.toNat := by simpa using h1
  have h3 := congrArg UInt8.toNat h2
  rw [UInt8.toNat_ofNat', UInt8.toNat_ofNat'] at h3
  omega
/-- An op by numbers. -/
def opN (a b : Int) : Opn := ⟨1 + a % 5, b1 (107 + a / 5 % 3), b1 (97 + b % 5), b - 100⟩
def stepM (s : St) (dev : Int) (o : Opn) : St := if (doS s dev o).2 = 0 then joinS s (doS s dev o).1 else s
theorem stepM_may {s : St} {dev : Int} {o : Opn} (h : MayS s) : MayS (stepM s dev o) := by
  unfold stepM
  split
  · rename_i h1; exact (do_may h h1).2
  · exact h
/-- What was seen behind a deed. -/
theorem stepM_seen {s : St} {dev : Int} {o : Opn} (h : MayS s) {d n : Int} (hh : Has (stepM s dev o).seen d n) : Has s.seen d n ∨ (d = dev ∧ n = lastR dev s.seen 0 + 1) := by
  unfold stepM at hh
  split at hh
  · rename_i h1
    obtain ⟨e, hb, hn, ho, hl⟩ := do_is h1
    rw [e] at hh
    rcases (join_seen h.ss (delta_ss h.ss hb ho) d n).1 hh with k | k
    · exact .inl k
    · rcases (delta_has h.ss hb ho d n).1 k with ⟨f, hf, _, rfl, rfl⟩ | ⟨_, e1, e2⟩
      · exact .inl (h.ss.2.1 f hf)
      · exact .inr ⟨e1, e2⟩
  · exact .inl hh
theorem stepM_more {s : St} {dev : Int} {o : Opn} (h : MayS s) {d n : Int} (hh : Has s.seen d n) : Has (stepM s dev o).seen d n := by
  unfold stepM
  split
  · rename_i h1
    obtain ⟨e, hb, hn, ho, hl⟩ := do_is h1
    rw [e]
    exact (join_seen h.ss (delta_ss h.ss hb ho) d n).2 (.inl hh)
  · exact hh
/-- Which facts there are behind a deed. -/
theorem stepM_facts {s : St} {dev : Int} {o : Opn} (h : MayS s) {f : Fc} (hf : f ∈ (stepM s dev o).facts) : f ∈ s.facts ∨ (f = newF s dev o ∧ ¬ Away o ∧ ¬ Bad dev o ∧ ¬ Over s dev o) := by
  unfold stepM at hf
  split at hf
  · rename_i h1
    obtain ⟨e, hb, hn, ho, hl⟩ := do_is h1
    rw [e] at hf
    rcases (joinF_mem _ _ f).1 hf with k | k
    · exact .inl k.1
    · have k1 := k.1
      unfold delta at k1
      split at k1
      · cases k1
      · rename_i ha
        exact .inr ⟨List.mem_singleton.1 k1, ha, hb, ho⟩
  · exact .inl hf
/-- No number above K was seen. -/
def Low (s : St) (K : Nat) : Prop := ∀ d n, Has s.seen d n → n ≤ (K : Int)
theorem stepM_low {s : St} {dev : Int} {o : Opn} {K : Nat} (h : MayS s) (hl : Low s K) : Low (stepM s dev o) (K + 1) := fun d n hh => by
  rcases stepM_seen h hh with k | ⟨_, k⟩
  · have := hl d n k; omega
  · have := last_le h.1 K hl dev; omega
theorem low_none : Low none_ 0 := fun d n ⟨_, h, _⟩ => by cases h
theorem Low.more {s : St} {K M : Nat} (h : Low s K) (hm : K ≤ M) : Low s M := fun d n hh => by have := h d n hh; omega
theorem low_join {a b : St} {K : Nat} (ha : SS a) (hb : SS b) (h1 : Low a K) (h2 : Low b K) : Low (joinS a b) K := fun d n hh => by
  rcases (join_seen ha hb d n).1 hh with k | k
  · exact h1 d n k
  · exact h2 d n k
/-- What stays low is short. -/
theorem Low.short {s : St} {K : Nat} (h : Low s K) (hs : MayS s) : s.seen.length ≤ 8 * K ∧ s.facts.length ≤ 8 * K := ⟨runs_len hs.1 K h, facts_len hs.ss K h⟩
/-- All keys are among those that ops by numbers have. -/
def Keyed (s : St) : Prop := ∀ f ∈ s.facts, f.key = b1 107 ∨ f.key = b1 108 ∨ f.key = b1 109
theorem newF_key (s : St) (dev : Int) (o : Opn) : (newF s dev o).key = o.key := by unfold newF; split <;> rfl
theorem opN_key {a : Int} (b : Int) : (opN a b).key = b1 107 ∨ (opN a b).key = b1 108 ∨ (opN a b).key = b1 109 := by
  show b1 (107 + a / 5 % 3) = _ ∨ b1 (107 + a / 5 % 3) = _ ∨ b1 (107 + a / 5 % 3) = _
  have h : a / 5 % 3 = 0 ∨ a / 5 % 3 = 1 ∨ a / 5 % 3 = 2 := by omega
  rcases h with h | h | h <;> rw [h]
  · exact .inl rfl
  · exact .inr (.inl rfl)
  · exact .inr (.inr rfl)
theorem stepM_keyed {s : St} {dev a b : Int} (h : MayS s) (hk : Keyed s) : Keyed (stepM s dev (opN a b)) := fun f hf => by
  rcases stepM_facts h hf with k | ⟨rfl, _⟩
  · exact hk f k
  · rw [newF_key]; exact opN_key b
theorem join_keyed {a b : St} (h1 : Keyed a) (h2 : Keyed b) : Keyed (joinS a b) := fun f hf => by
  rcases (joinF_mem a b f).1 hf with h | h
  · exact h1 f h.1
  · exact h2 f h.1

/-! One behind the other. -/
def makeK (ns : List Int) : Nat → St
  | 0 => none_
  | k + 1 => stepM (makeK ns k) (ns.getD (2 * k) 0 / 16 % 4) (opN (ns.getD (2 * k) 0) (ns.getD (2 * k + 1) 0))
theorem makeK_may (ns : List Int) : ∀ k, MayS (makeK ns k)
  | 0 => none_may
  | k + 1 => stepM_may (makeK_may ns k)
theorem makeK_low (ns : List Int) : ∀ k, Low (makeK ns k) k
  | 0 => low_none
  | k + 1 => stepM_low (makeK_may ns k) (makeK_low ns k)
theorem makeK_keyed (ns : List Int) : ∀ k, Keyed (makeK ns k)
  | 0 => fun _ h => (by cases h)
  | k + 1 => stepM_keyed (makeK_may ns k) (makeK_keyed ns k)

/-! Apart: four states of one group. -/
structure Grp where
  s0 : St
  s1 : St
  s2 : St
  s3 : St
def Grp.at_ (g : Grp) (i : Int) : St := if i = 0 then g.s0 else if i = 1 then g.s1 else if i = 2 then g.s2 else g.s3
def Grp.set_ (g : Grp) (i : Int) (s : St) : Grp := if i = 0 then { g with s0 := s } else if i = 1 then { g with s1 := s } else if i = 2 then { g with s2 := s } else { g with s3 := s }
def In4 (i : Int) : Prop := i = 0 ∨ i = 1 ∨ i = 2 ∨ i = 3
theorem in4_mod (x : Int) : In4 (x % 4) := by unfold In4; omega
theorem Grp.at_set {g : Grp} {i j : Int} {s : St} (hi : In4 i) (hj : In4 j) : (g.set_ i s).at_ j = if j = i then s else g.at_ j := by
  rcases hi with rfl | rfl | rfl | rfl <;> rcases hj with rfl | rfl | rfl | rfl <;> rfl
/-- A group: each may be, all agree, each has seen all its own deeds. -/
structure Fine (g : Grp) (K : Nat) : Prop where
  may : ∀ i, In4 i → MayS (g.at_ i)
  low : ∀ i, In4 i → Low (g.at_ i) K
  agree : ∀ i j, In4 i → In4 j → Agree (g.at_ i) (g.at_ j)
  own : ∀ i j n, In4 i → In4 j → Has (g.at_ j).seen i n → n ≤ lastR i (g.at_ i).seen 0
  devs : ∀ i d n, In4 i → Has (g.at_ i).seen d n → In4 d
  keyed : ∀ i, In4 i → Keyed (g.at_ i)
theorem fine_none : Fine ⟨none_, none_, none_, none_⟩ 0 := by
  have h : ∀ i, In4 i → (⟨none_, none_, none_, none_⟩ : Grp).at_ i = none_ := fun i hi => by rcases hi with rfl | rfl | rfl | rfl <;> rfl
  refine ⟨fun i hi => ?_, fun i hi => ?_, fun i j hi hj => ?_, fun i j n hi hj hh => ?_, fun i d n hi hh => ?_, fun i hi => ?_⟩
  · rw [h i hi]; exact none_may
  · rw [h i hi]; exact low_none
  · rw [h i hi]; exact fun _ hf => (by cases hf)
  · rw [h j hj] at hh; obtain ⟨_, k, _⟩ := hh; cases k
  · rw [h i hi] at hh; obtain ⟨_, k, _⟩ := hh; cases k
  · rw [h i hi]; exact fun _ hf => (by cases hf)
theorem last_mono {a b : List Rn} (ha : Dt.May a) (hb : Dt.May b) (dev : Int) (h : ∀ n, Has a dev n → Has b dev n) : lastR dev a 0 ≤ lastR dev b 0 := by
  by_cases h0 : 0 < lastR dev a 0
  · exact Int.not_lt.1 fun hl => last_not hl (h _ (last_has ha h0))
  · have := last_ge hb dev; omega
theorem may_join {a b : St} (ha : MayS a) (hb : MayS b) {K : Nat} (h1 : Low a K) (h2 : Low b K) (hk : K ≤ 50) : MayS (joinS a b) := by
  have h := join_ss ha.ss hb.ss
  refine mayS_of h (join_right (fun f hf => (ha.2.2.1 f hf).1) fun f hf => (hb.2.2.1 f hf).1) ?_
  have := facts_len h K (low_join ha.ss hb.ss h1 h2)
  omega
/-- One joins another one. -/
theorem Fine.join {g : Grp} {K : Nat} (h : Fine g K) (hK : K ≤ 50) {i j : Int} (hi : In4 i) (hj : In4 j) : Fine (g.set_ i (joinS (g.at_ i) (g.at_ j))) K := by
  have mi := h.may i hi
  have mj := h.may j hj
  have hm := may_join mi mj (h.low i hi) (h.low j hj) hK
  have seen := fun d n => join_seen mi.ss mj.ss d n
  refine ⟨fun a ha => ?_, fun a ha => ?_, fun a b ha hb => ?_, fun a b n ha hb hh => ?_, fun a d n ha hh => ?_, fun a ha => ?_⟩
  · rw [g.at_set hi ha]; split
    · exact hm
    · exact h.may a ha
  · rw [g.at_set hi ha]; split
    · exact low_join mi.ss mj.ss (h.low i hi) (h.low j hj)
    · exact h.low a ha
  · rw [g.at_set hi ha, g.at_set hi hb]
    have key : ∀ c, In4 c → Agree (joinS (g.at_ i) (g.at_ j)) (g.at_ c) := fun c hc => agree_join mi.ss mj.ss (h.agree i c hi hc) (h.agree j c hj hc)
    split
    · split
      · exact hm.ss.agree
      · exact key b hb
    · split
      · exact (key a ha).symm
      · exact h.agree a b ha hb
  · rw [g.at_set hi hb] at hh
    have old : ∃ c, In4 c ∧ Has (g.at_ c).seen a n := by
      split at hh
      · rcases (seen a n).1 hh with k | k
        · exact ⟨i, hi, k⟩
        · exact ⟨j, hj, k⟩
      · exact ⟨b, hb, hh⟩
    obtain ⟨c, hc, hcn⟩ := old
    have h1 := h.own a c n ha hc hcn
    rw [g.at_set hi ha]
    split
    · rename_i e
      subst e
      exact Int.le_trans h1 (last_mono mi.1 hm.1 a fun n hn => (seen a n).2 (.inl hn))
    · exact h1
  · rw [g.at_set hi ha] at hh
    split at hh
    · rcases (seen d n).1 hh with k | k
      · exact h.devs i d n hi k
      · exact h.devs j d n hj k
    · exact h.devs a d n ha hh
  · rw [g.at_set hi ha]; split
    · exact join_keyed (h.keyed i hi) (h.keyed j hj)
    · exact h.keyed a ha
/-- One does a deed. -/
theorem Fine.deed {g : Grp} {K : Nat} (h : Fine g K) {i : Int} (hi : In4 i) (a b : Int) : Fine (g.set_ i (stepM (g.at_ i) i (opN a b))) (K + 1) := by
  have mi := h.may i hi
  have hm := stepM_may (dev := i) (o := opN a b) mi
  refine ⟨fun c hc => ?_, fun c hc => ?_, fun c e hc he => ?_, fun c e n hc he hh => ?_, fun c d n hc hh => ?_, fun c hc => ?_⟩
  · rw [g.at_set hi hc]; split
    · exact hm
    · exact h.may c hc
  · rw [g.at_set hi hc]; split
    · exact stepM_low mi (h.low i hi)
    · exact (h.low c hc).more (Nat.le_succ _)
  · rw [g.at_set hi hc, g.at_set hi he]
    have key : ∀ c, In4 c → Agree (stepM (g.at_ i) i (opN a b)) (g.at_ c) := fun c hc f hf f2 hf2 e1 e2 => by
      rcases stepM_facts mi hf with k | ⟨rfl, _⟩
      · exact h.agree i c hi hc f k f2 hf2 e1 e2
      · exfalso
        have hs := (h.may c hc).ss.2.1 f2 hf2
        rw [(newF_dot _ _ _).1] at e1
        rw [(newF_dot _ _ _).2] at e2
        rw [← e1, ← e2] at hs
        have := h.own i c _ hi hc hs
        omega
    split
    · split
      · exact hm.ss.agree
      · exact key e he
    · split
      · exact (key c hc).symm
      · exact h.agree c e hc he
  · rw [g.at_set hi he] at hh
    have old : (∃ q, In4 q ∧ Has (g.at_ q).seen c n) ∨ (c = i ∧ Has (stepM (g.at_ i) i (opN a b)).seen c n) := by
      split at hh
      · rcases stepM_seen mi hh with k | k
        · exact .inl ⟨i, hi, k⟩
        · exact .inr ⟨k.1, hh⟩
      · exact .inl ⟨e, he, hh⟩
    rw [g.at_set hi hc]
    rcases old with ⟨q, hq, k⟩ | ⟨rfl, k⟩
    · have h1 := h.own c q n hc hq k
      split
      · rename_i e
        subst e
        exact Int.le_trans h1 (last_mono mi.1 hm.1 c fun n hn => stepM_more mi hn)
      · exact h1
    · rw [if_pos rfl]
      exact Int.not_lt.1 fun hl => last_not hl k
  · rw [g.at_set hi hc] at hh
    split at hh
    · rcases stepM_seen mi hh with k | ⟨e, _⟩
      · exact h.devs i d n hi k
      · rw [e]; exact hi
    · exact h.devs c d n hc hh
  · rw [g.at_set hi hc]; split
    · exact stepM_keyed mi (h.keyed i hi)
    · exact h.keyed c hc
def apartStep (g : Grp) (x y z : Int) : Grp := if 160 ≤ x then g.set_ (x % 4) (joinS (g.at_ (x % 4)) (g.at_ (y % 4))) else g.set_ (x % 4) (stepM (g.at_ (x % 4)) (x % 4) (opN y z))
def apartK (ns : List Int) : Nat → Grp
  | 0 => ⟨none_, none_, none_, none_⟩
  | k + 1 => apartStep (apartK ns k) (ns.getD (3 * k) 0) (ns.getD (3 * k + 1) 0) (ns.getD (3 * k + 2) 0)
theorem Fine.more {g : Grp} {K M : Nat} (h : Fine g K) (hm : K ≤ M) : Fine g M := ⟨h.may, fun i hi => (h.low i hi).more hm, h.agree, h.own, h.devs, h.keyed⟩
theorem apartK_fine (ns : List Int) : ∀ k, k ≤ 40 → Fine (apartK ns k) k
  | 0, _ => fine_none
  | k + 1, hk => by
    have ih := apartK_fine ns k (by omega)
    rw [apartK]
    unfold apartStep
    split
    · exact (ih.join (by omega) (in4_mod _) (in4_mod _)).more (Nat.le_succ _)
    · exact ih.deed (in4_mod _) _ _
end Go.Proofs.YthijiefopcnclaaGreatDoor.Dt
end

section
set_option linter.unusedVariables false
namespace Go.Proofs.YthijiefopcnclaaGreatDoor.Dt

/-- The new dot was not seen. -/
theorem new_unseen {s : St} (hs : SS s) (dev : Int) : ¬ Has s.seen dev (lastR dev s.seen 0 + 1) := last_not (by omega)
/-- Behind a deed: what was there and does not go, and what is new. -/
theorem do_facts {s : St} {dev : Int} {o : Opn} (hs : SS s) (hb : ¬ Bad dev o) (ho : ¬ Over s dev o) (f : Fc) :
    f ∈ (joinS s (delta s dev o)).facts ↔ (f ∈ s.facts ∧ ¬ Goes f dev o) ∨ (¬ Away o ∧ f = newF s dev o) := by
  have hd := delta_has hs hb ho
  have hat : ∀ d n, atB (delta s dev o).facts d n = true ↔ ¬ Away o ∧ dev = d ∧ lastR dev s.seen 0 + 1 = n := fun d n => by
    rw [atB_iff]
    unfold delta
    split
    · rename_i h; exact ⟨fun ⟨_, k, _⟩ => (by cases k), fun k => absurd h k.1⟩
    · rename_i h
      constructor
      · rintro ⟨f, hf, e1, e2⟩
        rw [List.mem_singleton.1 hf, (newF_dot s dev o).1] at e1
        rw [List.mem_singleton.1 hf, (newF_dot s dev o).2] at e2
        exact ⟨h, e1, e2⟩
      · rintro ⟨_, e1, e2⟩
        exact ⟨newF s dev o, List.mem_singleton.2 rfl, by rw [(newF_dot s dev o).1, e1], by rw [(newF_dot s dev o).2, e2]⟩
  have hmem : f ∈ (delta s dev o).facts ↔ ¬ Away o ∧ f = newF s dev o := by
    unfold delta
    split
    · rename_i h; exact ⟨fun k => (by cases k), fun k => absurd h k.1⟩
    · rename_i h; exact ⟨fun k => ⟨h, List.mem_singleton.1 k⟩, fun k => List.mem_singleton.2 k.2⟩
  show f ∈ joinF s (delta s dev o) ↔ _
  rw [joinF_mem, hmem]
  unfold stayA stayB
  rw [Bool.or_eq_true, Bool.not_eq_true', Bool.eq_false_iff, ne_eq, hasB_iff, hat, Bool.not_eq_true', Bool.eq_false_iff, ne_eq, hasB_iff, hd]
  constructor
  · rintro (⟨h1, h2⟩ | ⟨⟨h1, h2⟩, h3⟩)
    · refine .inl ⟨h1, fun hg => ?_⟩
      rcases h2 with h2 | ⟨_, e1, e2⟩
      · exact h2 (.inl ⟨f, h1, hg, rfl, rfl⟩)
      · exact new_unseen hs dev (by have := hs.2.1 f h1; rwa [← e1, ← e2] at this)
    · exact .inr ⟨h1, h2⟩
  · rintro (⟨h1, h2⟩ | ⟨h1, h2⟩)
    · refine .inl ⟨h1, .inl fun hh => ?_⟩
      rcases hh with ⟨g, hg, k, e1, e2⟩ | ⟨_, e1, e2⟩
      · rw [hs.2.2.one hg h1 ⟨e1, e2⟩] at k; exact h2 k
      · exact new_unseen hs dev (by have := hs.2.1 f h1; rwa [e1, e2] at this)
    · refine .inr ⟨⟨h1, h2⟩, ?_⟩
      rw [h2, (newF_dot s dev o).1, (newF_dot s dev o).2]
      exact new_unseen hs dev
theorem do_seen {s : St} {dev : Int} {o : Opn} (hs : SS s) (hb : ¬ Bad dev o) (ho : ¬ Over s dev o) (d n : Int) :
    Has (joinS s (delta s dev o)).seen d n ↔ Has s.seen d n ∨ (¬ Away o ∧ d = dev ∧ n = lastR dev s.seen 0 + 1) := by
  rw [join_seen hs (delta_ss hs hb ho), delta_has hs hb ho]
  constructor
  · rintro (h | ⟨f, hf, _, rfl, rfl⟩ | h)
    · exact .inl h
    · exact .inl (hs.2.1 f hf)
    · exact .inr h
  · rintro (h | h)
    · exact .inl h
    · exact .inr (.inr h)
/-- A state and a delta of it agree; so do two deltas of two devices. -/
theorem delta_mem {s : St} {dev : Int} {o : Opn} {f : Fc} (h : f ∈ (delta s dev o).facts) : ¬ Away o ∧ f = newF s dev o := by
  unfold delta at h
  split at h
  · cases h
  · rename_i ha; exact ⟨ha, List.mem_singleton.1 h⟩
theorem delta_agree {s : St} {dev : Int} {o : Opn} (hs : SS s) : Agree s (delta s dev o) := fun f hf g hg e1 e2 => by
  exfalso
  have h := hs.2.1 f hf
  rw [(delta_mem hg).2, (newF_dot s dev o).1] at e1
  rw [(delta_mem hg).2, (newF_dot s dev o).2] at e2
  rw [e1, e2] at h
  exact new_unseen hs dev h
theorem delta_two {s : St} {d e : Int} {o p : Opn} (hde : d ≠ e) : Agree (delta s d o) (delta s e p) := fun f hf g hg e1 e2 => by
  rw [(delta_mem hf).2, (delta_mem hg).2, (newF_dot s d o).1, (newF_dot s e p).1] at e1
  exact absurd e1 hde

/-! What comes of a group by joins. -/
inductive Gen (g : Grp) : St → Prop where
  | nothing : Gen g none_
  | one (i : Int) (h : In4 i) : Gen g (g.at_ i)
  | two (a b : St) (ha : Gen g a) (hb : Gen g b) : Gen g (joinS a b)
section
variable {g : Grp} {K : Nat}
theorem Gen.ss (h : Fine g K) {s : St} (hs : Gen g s) : SS s := by
  induction hs with
  | nothing => exact none_ss
  | one i hi => exact (h.may i hi).ss
  | two a b _ _ ia ib => exact join_ss ia ib
theorem Gen.agree1 (h : Fine g K) {s : St} (hs : Gen g s) (i : Int) (hi : In4 i) : Agree s (g.at_ i) := by
  induction hs with
  | nothing => exact fun _ hf => (by cases hf)
  | one j hj => exact h.agree j i hj hi
  | two a b ha hb ia ib => exact agree_join (ha.ss h) (hb.ss h) ia ib
theorem Gen.agree (h : Fine g K) {s t : St} (hs : Gen g s) (ht : Gen g t) : Agree s t := by
  induction ht with
  | nothing => exact fun _ _ _ hf => (by cases hf)
  | one j hj => exact hs.agree1 h j hj
  | two a b ha hb ia ib => exact (agree_join (ha.ss h) (hb.ss h) ia.symm ib.symm).symm
theorem Gen.low (h : Fine g K) {s : St} (hs : Gen g s) : Low s K := by
  induction hs with
  | nothing => exact low_none.more (Nat.zero_le _)
  | one i hi => exact h.low i hi
  | two a b ha hb ia ib => exact low_join (ha.ss h) (hb.ss h) ia ib
theorem Gen.may (h : Fine g K) (hK : K ≤ 50) {s : St} (hs : Gen g s) : MayS s := by
  induction hs with
  | nothing => exact none_may
  | one i hi => exact h.may i hi
  | two a b ha hb ia ib => exact may_join ia ib (ha.low h) (hb.low h) hK
theorem Gen.keyed (h : Fine g K) {s : St} (hs : Gen g s) : Keyed s := by
  induction hs with
  | nothing => exact fun _ hf => (by cases hf)
  | one i hi => exact h.keyed i hi
  | two a b _ _ ia ib => exact join_keyed ia ib
theorem Gen.devs (h : Fine g K) {s : St} (hs : Gen g s) {d n : Int} (hh : Has s.seen d n) : In4 d := by
  induction hs with
  | nothing => obtain ⟨_, k, _⟩ := hh; cases k
  | one i hi => exact h.devs i d n hi hh
  | two a b ha hb ia ib => exact ((join_seen (ha.ss h) (hb.ss h) d n).1 hh).elim ia ib
theorem Gen.comm (h : Fine g K) {a b : St} (ha : Gen g a) (hb : Gen g b) : joinS a b = joinS b a := join_comm (ha.ss h) (hb.ss h) (ha.agree h hb)
theorem Gen.assoc (h : Fine g K) {a b c : St} (ha : Gen g a) (hb : Gen g b) (hc : Gen g c) : joinS (joinS a b) c = joinS a (joinS b c) := join_assoc (ha.ss h) (hb.ss h) (hc.ss h) (ha.agree h hb) (ha.agree h hc) (hb.agree h hc)
theorem Gen.self (h : Fine g K) {a : St} (ha : Gen g a) : joinS a a = a := join_self (ha.ss h)
end
theorem join_none {a : St} (ha : SS a) : joinS a none_ = a ∧ joinS none_ a = a := by
  have ag : Agree a none_ := fun _ _ _ hf => (by cases hf)
  have e1 : joinS a none_ = a := st_canon (join_ss ha none_ss) ha (fun d n => by
      rw [join_seen ha none_ss]
      exact ⟨fun h => h.elim id fun ⟨_, k, _⟩ => (by cases k), .inl⟩) fun f => by
    rw [join_iff ha none_ss ag]
    exact ⟨fun h => h.elim (·.1) fun k => (by cases k.1), fun h => .inl ⟨h, .inr fun ⟨_, k, _⟩ => (by cases k)⟩⟩
  exact ⟨e1, by rw [join_comm none_ss ha ag.symm, e1]⟩
/-- All, one behind the other. -/
def allS (l : List St) : St := l.foldl joinS none_
/-- One is within another one. -/
def LeS (a b : St) : Prop := joinS b a = b
section
variable {g : Grp} {K : Nat}
theorem LeS.refl (h : Fine g K) {a : St} (ha : Gen g a) : LeS a a := ha.self h
theorem LeS.left (h : Fine g K) {a b : St} (ha : Gen g a) (hb : Gen g b) : LeS a (joinS a b) := by
  show joinS (joinS a b) a = joinS a b
  exact join_more (ha.ss h) (hb.ss h) (ha.agree h hb)
theorem LeS.right (h : Fine g K) {a b : St} (ha : Gen g a) (hb : Gen g b) : LeS b (joinS a b) := by rw [ha.comm h hb]; exact LeS.left h hb ha
theorem LeS.trans (h : Fine g K) {a b c : St} (ha : Gen g a) (hb : Gen g b) (hc : Gen g c) (k1 : LeS a b) (k2 : LeS b c) : LeS a c := by
  unfold LeS at *
  rw [← k2, hc.assoc h hb ha, k1]
theorem LeS.least (h : Fine g K) {a b c : St} (ha : Gen g a) (hb : Gen g b) (hc : Gen g c) (k1 : LeS a c) (k2 : LeS b c) : LeS (joinS a b) c := by
  unfold LeS at *
  rw [← hc.assoc h ha hb, k1, k2]
theorem LeS.anti (h : Fine g K) {a b : St} (ha : Gen g a) (hb : Gen g b) (k1 : LeS a b) (k2 : LeS b a) : a = b := by
  unfold LeS at *
  rw [← k2, ha.comm h hb, k1]
/-- What all have together: the least above all four. -/
theorem all_above (h : Fine g K) : Gen g (allS [g.s0, g.s1, g.s2, g.s3]) ∧ (∀ i, In4 i → LeS (g.at_ i) (allS [g.s0, g.s1, g.s2, g.s3])) ∧ ∀ t, Gen g t → (∀ i, In4 i → LeS (g.at_ i) t) → LeS (allS [g.s0, g.s1, g.s2, g.s3]) t := by
  have g0 : Gen g g.s0 := .one 0 (.inl rfl)
  have g1 : Gen g g.s1 := .one 1 (.inr (.inl rfl))
  have g2 : Gen g g.s2 := .one 2 (.inr (.inr (.inl rfl)))
  have g3 : Gen g g.s3 := .one 3 (.inr (.inr (.inr rfl)))
  show Gen g (joinS (joinS (joinS (joinS none_ g.s0) g.s1) g.s2) g.s3) ∧ _
  have hn := (join_none (g0.ss h)).2
  have e : allS [g.s0, g.s1, g.s2, g.s3] = joinS (joinS (joinS g.s0 g.s1) g.s2) g.s3 := by
    show joinS (joinS (joinS (joinS none_ g.s0) g.s1) g.s2) g.s3 = _
    rw [hn]
  rw [e, hn]
  have p1 := Gen.two _ _ g0 g1
  have p2 := Gen.two _ _ p1 g2
  have p3 := Gen.two _ _ p2 g3
  refine ⟨p3, fun i hi => ?_, fun t ht hall => ?_⟩
  · rcases hi with rfl | rfl | rfl | rfl
    · exact LeS.trans h g0 p2 p3 (LeS.trans h g0 p1 p2 (LeS.left h g0 g1) (LeS.left h p1 g2)) (LeS.left h p2 g3)
    · exact LeS.trans h g1 p2 p3 (LeS.trans h g1 p1 p2 (LeS.right h g0 g1) (LeS.left h p1 g2)) (LeS.left h p2 g3)
    · exact LeS.trans h g2 p2 p3 (LeS.right h p1 g2) (LeS.left h p2 g3)
    · exact LeS.right h p2 g3
  · exact LeS.least h p2 g3 ht (LeS.least h p1 g2 ht (LeS.least h g0 g1 ht (hall 0 (.inl rfl)) (hall 1 (.inr (.inl rfl)))) (hall 2 (.inr (.inr (.inl rfl))))) (hall 3 (.inr (.inr (.inr rfl))))
/-- One that comes of joins, and is above all four, is what all have together. -/
theorem top_is (h : Fine g K) {t : St} (ht : Gen g t) (hall : ∀ i, In4 i → LeS (g.at_ i) t) (hbel : LeS t (allS [g.s0, g.s1, g.s2, g.s3])) : t = allS [g.s0, g.s1, g.s2, g.s3] :=
  LeS.anti h ht (all_above h).1 hbel ((all_above h).2.2 t ht hall)
/-- All that comes of joins is below. -/
theorem Gen.under (h : Fine g K) {s : St} (hs : Gen g s) : LeS s (allS [g.s0, g.s1, g.s2, g.s3]) := by
  induction hs with
  | nothing => exact (join_none ((all_above h).1.ss h)).1
  | one i hi => exact (all_above h).2.1 i hi
  | two a b ha hb ia ib => exact LeS.least h ha hb (all_above h).1 ia ib
end
/-- Which facts stay, by dots. -/
theorem join_at {a b : St} (ha : SS a) (hb : SS b) (d n : Int) : atB (joinS a b).facts d n = (atB a.facts d n && atB b.facts d n || atB a.facts d n && !hasB b.seen d n || atB b.facts d n && !hasB a.seen d n) := by
  rw [Bool.eq_iff_iff, atB_iff]
  constructor
  · rintro ⟨f, hf, rfl, rfl⟩
    rcases (joinF_mem a b f).1 hf with ⟨h1, h2⟩ | ⟨h1, h2⟩
    · have e1 : atB a.facts f.d f.n = true := (atB_iff _ _ _).2 ⟨f, h1, rfl, rfl⟩
      unfold stayA at h2
      rw [e1]
      revert h2
      cases hasB b.seen f.d f.n <;> cases atB b.facts f.d f.n <;> simp
    · have e1 : atB b.facts f.d f.n = true := (atB_iff _ _ _).2 ⟨f, h1, rfl, rfl⟩
      unfold stayB at h2
      rw [e1, h2]; simp
  · intro h
    rw [Bool.or_eq_true, Bool.or_eq_true, Bool.and_eq_true, Bool.and_eq_true, Bool.and_eq_true, atB_iff, atB_iff] at h
    rcases h with (⟨⟨f, hf, rfl, rfl⟩, hq⟩ | ⟨⟨f, hf, rfl, rfl⟩, hq⟩) | ⟨⟨f, hf, rfl, rfl⟩, hq⟩
    · exact ⟨f, (joinF_mem a b f).2 (.inl ⟨hf, by unfold stayA; rw [(atB_iff b.facts f.d f.n).2 hq]; simp⟩), rfl, rfl⟩
    · exact ⟨f, (joinF_mem a b f).2 (.inl ⟨hf, by unfold stayA; rw [hq]; simp⟩), rfl, rfl⟩
    · exact ⟨f, (joinF_mem a b f).2 (.inr ⟨hf, by unfold stayB; rw [hq]⟩), rfl, rfl⟩
end Go.Proofs.YthijiefopcnclaaGreatDoor.Dt
end

section
set_option linter.unusedVariables false
namespace Go.Proofs.YthijiefopcnclaaGreatDoor.Dt

def Fits (f : Fc) (key : ByteArray) (kind : Int) : Prop := f.key = key ∧ (kind = 0 ∨ f.kind = kind)
instance (f : Fc) (key : ByteArray) (kind : Int) : Decidable (Fits f key kind) := inferInstanceAs (Decidable (f.key = key ∧ (kind = 0 ∨ f.kind = kind)))
def findL (l : List Fc) (key : ByteArray) (kind : Int) : List Fc := l.filter fun f => decide (Fits f key kind)
theorem find_mem {l : List Fc} {key : ByteArray} {kind : Int} {f : Fc} : f ∈ findL l key kind ↔ f ∈ l ∧ Fits f key kind := by
  unfold findL; rw [List.mem_filter, decide_eq_true_eq]
theorem find_more {l : List Fc} {k : Nat} {x : Fc} (h : l[k]? = some x) (key : ByteArray) (kind : Int) : findL (l.take (k + 1)) key kind = if Fits x key kind then findL (l.take k) key kind ++ [x] else findL (l.take k) key kind := by
  unfold findL
  rw [List.take_add_one, h, List.filter_append]
  by_cases hf : Fits x key kind
  · rw [if_pos hf]; simp [hf]
  · rw [if_neg hf]; simp [hf]
theorem find_len (l : List Fc) (key : ByteArray) (kind : Int) : (findL l key kind).length ≤ l.length := List.length_filter_le _ _
/-- All of a key are those of its three kinds. -/
theorem find_sum {l : List Fc} (h : ∀ f ∈ l, RightF f) (key : ByteArray) : (findL l key 0).length = (findL l key 1).length + (findL l key 2).length + (findL l key 3).length := by
  induction l with
  | nil => rfl
  | cons f l ih =>
    have ih := ih fun x hx => h x (by simp [hx])
    have hf := h f (by simp)
    have hk : f.kind = 1 ∨ f.kind = 2 ∨ f.kind = 3 := by unfold RightF at hf; omega
    unfold findL at *
    rw [List.filter_cons, List.filter_cons, List.filter_cons, List.filter_cons]
    by_cases e : f.key = key
    · have h0 : Fits f key 0 := ⟨e, .inl rfl⟩
      rcases hk with k | k | k
      · have p1 : Fits f key 1 := ⟨e, .inr k⟩
        have p2 : ¬ Fits f key 2 := fun ⟨_, q⟩ => by omega
        have p3 : ¬ Fits f key 3 := fun ⟨_, q⟩ => by omega
        simp only [h0, p1, p2, p3, decide_true, decide_false, if_true, Bool.false_eq_true, if_false, List.length_cons]; omega
      · have p1 : ¬ Fits f key 1 := fun ⟨_, q⟩ => by omega
        have p2 : Fits f key 2 := ⟨e, .inr k⟩
        have p3 : ¬ Fits f key 3 := fun ⟨_, q⟩ => by omega
        simp only [h0, p1, p2, p3, decide_true, decide_false, if_true, Bool.false_eq_true, if_false, List.length_cons]; omega
      · have p1 : ¬ Fits f key 1 := fun ⟨_, q⟩ => by omega
        have p2 : ¬ Fits f key 2 := fun ⟨_, q⟩ => by omega
        have p3 : Fits f key 3 := ⟨e, .inr k⟩
        simp only [h0, p1, p2, p3, decide_true, decide_false, if_true, Bool.false_eq_true, if_false, List.length_cons]; omega
    · have p : ∀ k, ¬ Fits f key k := fun k q => e q.1
      simp only [p, decide_false, Bool.false_eq_true, if_false]; exact ih
theorem find_four {l : List Fc} (h : ∀ f ∈ l, RightF f) (key : ByteArray) : findL l key 4 = [] := by
  rw [List.eq_nil_iff_forall_not_mem]
  intro f hf
  obtain ⟨h1, _, h2⟩ := find_mem.1 hf
  have := h f h1
  unfold RightF at this
  omega
theorem find_other {s : St} (h : Keyed s) {key : ByteArray} (hk : key.size ≠ 1) (kind : Int) : findL s.facts key kind = [] := by
  rw [List.eq_nil_iff_forall_not_mem]
  intro f hf
  obtain ⟨h1, h2, _⟩ := find_mem.1 hf
  rcases h f h1 with e | e | e <;> rw [e] at h2 <;> rw [← h2] at hk <;> exact hk rfl
theorem find_sor {l : List Fc} (h : Sor l) (key : ByteArray) (kind : Int) : Sor (findL l key kind) := h.filter _
theorem Sor.next {l : List Fc} (h : Sor l) {i j : Nat} {x y : Fc} (hx : l[i]? = some x) (hy : l[j]? = some y) (hij : i < j) : FLt x y := by
  obtain ⟨hi, rfl⟩ := List.getElem?_eq_some_iff.1 hx
  obtain ⟨hj, rfl⟩ := List.getElem?_eq_some_iff.1 hy
  exact List.pairwise_iff_getElem.1 h i j hi hj hij
theorem flt_cmp {x y : Fc} (h : FLt x y) : cmpD x.d x.n y.d y.n = -1 := if_pos h
/-- Not in order where one that stands behind another one is not behind it. -/
theorem not_sor {l : List Fc} {i j : Nat} {x y : Fc} (hx : l[i]? = some x) (hy : l[j]? = some y) (hij : i < j) (h : ¬ FLt x y) : ¬ Sor l := fun hs => h (hs.next hx hy hij)
theorem not_may_sor {s : St} (h : ¬ Sor s.facts) : ¬ MayS s := fun hm => h hm.2.2.2
theorem not_may_seen {s : St} {f : Fc} (hf : f ∈ s.facts) (h : ¬ Has s.seen f.d f.n) : ¬ MayS s := fun hm => h (hm.2.2.1 f hf).2
/-- Without facts it still may be. -/
theorem may_bare {s : St} (h : MayS s) : MayS ⟨s.seen, []⟩ := ⟨h.1, Nat.zero_le _, fun _ hf => (by cases hf), List.Pairwise.nil⟩
end Go.Proofs.YthijiefopcnclaaGreatDoor.Dt
end
