/- What a deed does to the facts; who goes on from there; states of one group under join. -/
import Derived.Test.YtblndpfgfakdeaaFtMade
set_option linter.unusedVariables false
namespace Go.Proofs.Ytblndpfgfakdeaa.Dt

/-- The new dot was not seen. -/
theorem new_unseen {s : St} (hs : SS s) (dev : Int) : ¬ Has s.seen dev (lastR dev s.seen 0 + 1) := last_not (by omega)
/-- Behind a deed: what was there and does not go, and what is new. -/
theorem do_facts {s : St} {dev : Int} {o : Opn} (hs : SS s) (hb : ¬ Bad dev o) (ho : ¬ Over s dev o) (f : Fc) :
    f ∈ (joinS s (delta s dev o)).facts ↔ (f ∈ s.facts ∧ ¬ Goes f dev o) ∨ (¬ Away o ∧ f = newF s dev o) := by
  have hd := delta_has hs hb ho
  have hat : ∀ d n, atB (delta s dev o).facts d n = true ↔ ¬ Away o ∧ dev = d ∧ lastR dev s.seen 0 + 1 = n := fun d n => by
    rw [atB_iff]
    unfold delta
    split
    · rename_i h; exact ⟨fun ⟨_, k, _⟩ => (by cases k), fun k => absurd h k.1⟩
    · rename_i h
      constructor
      · rintro ⟨f, hf, e1, e2⟩
        rw [List.mem_singleton.1 hf, (newF_dot s dev o).1] at e1
        rw [List.mem_singleton.1 hf, (newF_dot s dev o).2] at e2
        exact ⟨h, e1, e2⟩
      · rintro ⟨_, e1, e2⟩
        exact ⟨newF s dev o, List.mem_singleton.2 rfl, by rw [(newF_dot s dev o).1, e1], by rw [(newF_dot s dev o).2, e2]⟩
  have hmem : f ∈ (delta s dev o).facts ↔ ¬ Away o ∧ f = newF s dev o := by
    unfold delta
    split
    · rename_i h; exact ⟨fun k => (by cases k), fun k => absurd h k.1⟩
    · rename_i h; exact ⟨fun k => ⟨h, List.mem_singleton.1 k⟩, fun k => List.mem_singleton.2 k.2⟩
  show f ∈ joinF s (delta s dev o) ↔ _
  rw [joinF_mem, hmem]
  unfold stayA stayB
  rw [Bool.or_eq_true, Bool.not_eq_true', Bool.eq_false_iff, ne_eq, hasB_iff, hat, Bool.not_eq_true', Bool.eq_false_iff, ne_eq, hasB_iff, hd]
  constructor
  · rintro (⟨h1, h2⟩ | ⟨⟨h1, h2⟩, h3⟩)
    · refine .inl ⟨h1, fun hg => ?_⟩
      rcases h2 with h2 | ⟨_, e1, e2⟩
      · exact h2 (.inl ⟨f, h1, hg, rfl, rfl⟩)
      · exact new_unseen hs dev (by have := hs.2.1 f h1; rwa [← e1, ← e2] at this)
    · exact .inr ⟨h1, h2⟩
  · rintro (⟨h1, h2⟩ | ⟨h1, h2⟩)
    · refine .inl ⟨h1, .inl fun hh => ?_⟩
      rcases hh with ⟨g, hg, k, e1, e2⟩ | ⟨_, e1, e2⟩
      · rw [hs.2.2.one hg h1 ⟨e1, e2⟩] at k; exact h2 k
      · exact new_unseen hs dev (by have := hs.2.1 f h1; rwa [e1, e2] at this)
    · refine .inr ⟨⟨h1, h2⟩, ?_⟩
      rw [h2, (newF_dot s dev o).1, (newF_dot s dev o).2]
      exact new_unseen hs dev
theorem do_seen {s : St} {dev : Int} {o : Opn} (hs : SS s) (hb : ¬ Bad dev o) (ho : ¬ Over s dev o) (d n : Int) :
    Has (joinS s (delta s dev o)).seen d n ↔ Has s.seen d n ∨ (¬ Away o ∧ d = dev ∧ n = lastR dev s.seen 0 + 1) := by
  rw [join_seen hs (delta_ss hs hb ho), delta_has hs hb ho]
  constructor
  · rintro (h | ⟨f, hf, _, rfl, rfl⟩ | h)
    · exact .inl h
    · exact .inl (hs.2.1 f hf)
    · exact .inr h
  · rintro (h | h)
    · exact .inl h
    · exact .inr (.inr h)
/-- A state and a delta of it agree; so do two deltas of two devices. -/
theorem delta_mem {s : St} {dev : Int} {o : Opn} {f : Fc} (h : f ∈ (delta s dev o).facts) : ¬ Away o ∧ f = newF s dev o := by
  unfold delta at h
  split at h
  · cases h
  · rename_i ha; exact ⟨ha, List.mem_singleton.1 h⟩
theorem delta_agree {s : St} {dev : Int} {o : Opn} (hs : SS s) : Agree s (delta s dev o) := fun f hf g hg e1 e2 => by
  exfalso
  have h := hs.2.1 f hf
  rw [(delta_mem hg).2, (newF_dot s dev o).1] at e1
  rw [(delta_mem hg).2, (newF_dot s dev o).2] at e2
  rw [e1, e2] at h
  exact new_unseen hs dev h
theorem delta_two {s : St} {d e : Int} {o p : Opn} (hde : d ≠ e) : Agree (delta s d o) (delta s e p) := fun f hf g hg e1 e2 => by
  rw [(delta_mem hf).2, (delta_mem hg).2, (newF_dot s d o).1, (newF_dot s e p).1] at e1
  exact absurd e1 hde

/-! What comes of a group by joins. -/
inductive Gen (g : Grp) : St → Prop where
  | nothing : Gen g none_
  | one (i : Int) (h : In4 i) : Gen g (g.at_ i)
  | two (a b : St) (ha : Gen g a) (hb : Gen g b) : Gen g (joinS a b)
section
variable {g : Grp} {K : Nat}
theorem Gen.ss (h : Fine g K) {s : St} (hs : Gen g s) : SS s := by
  induction hs with
  | nothing => exact none_ss
  | one i hi => exact (h.may i hi).ss
  | two a b _ _ ia ib => exact join_ss ia ib
theorem Gen.agree1 (h : Fine g K) {s : St} (hs : Gen g s) (i : Int) (hi : In4 i) : Agree s (g.at_ i) := by
  induction hs with
  | nothing => exact fun _ hf => (by cases hf)
  | one j hj => exact h.agree j i hj hi
  | two a b ha hb ia ib => exact agree_join (ha.ss h) (hb.ss h) ia ib
theorem Gen.agree (h : Fine g K) {s t : St} (hs : Gen g s) (ht : Gen g t) : Agree s t := by
  induction ht with
  | nothing => exact fun _ _ _ hf => (by cases hf)
  | one j hj => exact hs.agree1 h j hj
  | two a b ha hb ia ib => exact (agree_join (ha.ss h) (hb.ss h) ia.symm ib.symm).symm
theorem Gen.low (h : Fine g K) {s : St} (hs : Gen g s) : Low s K := by
  induction hs with
  | nothing => exact low_none.more (Nat.zero_le _)
  | one i hi => exact h.low i hi
  | two a b ha hb ia ib => exact low_join (ha.ss h) (hb.ss h) ia ib
theorem Gen.may (h : Fine g K) (hK : K ≤ 50) {s : St} (hs : Gen g s) : MayS s := by
  induction hs with
  | nothing => exact none_may
  | one i hi => exact h.may i hi
  | two a b ha hb ia ib => exact may_join ia ib (ha.low h) (hb.low h) hK
theorem Gen.keyed (h : Fine g K) {s : St} (hs : Gen g s) : Keyed s := by
  induction hs with
  | nothing => exact fun _ hf => (by cases hf)
  | one i hi => exact h.keyed i hi
  | two a b _ _ ia ib => exact join_keyed ia ib
theorem Gen.devs (h : Fine g K) {s : St} (hs : Gen g s) {d n : Int} (hh : Has s.seen d n) : In4 d := by
  induction hs with
  | nothing => obtain ⟨_, k, _⟩ := hh; cases k
  | one i hi => exact h.devs i d n hi hh
  | two a b ha hb ia ib => exact ((join_seen (ha.ss h) (hb.ss h) d n).1 hh).elim ia ib
theorem Gen.comm (h : Fine g K) {a b : St} (ha : Gen g a) (hb : Gen g b) : joinS a b = joinS b a := join_comm (ha.ss h) (hb.ss h) (ha.agree h hb)
theorem Gen.assoc (h : Fine g K) {a b c : St} (ha : Gen g a) (hb : Gen g b) (hc : Gen g c) : joinS (joinS a b) c = joinS a (joinS b c) := join_assoc (ha.ss h) (hb.ss h) (hc.ss h) (ha.agree h hb) (ha.agree h hc) (hb.agree h hc)
theorem Gen.self (h : Fine g K) {a : St} (ha : Gen g a) : joinS a a = a := join_self (ha.ss h)
end
theorem join_none {a : St} (ha : SS a) : joinS a none_ = a ∧ joinS none_ a = a := by
  have ag : Agree a none_ := fun _ _ _ hf => (by cases hf)
  have e1 : joinS a none_ = a := st_canon (join_ss ha none_ss) ha (fun d n => by
      rw [join_seen ha none_ss]
      exact ⟨fun h => h.elim id fun ⟨_, k, _⟩ => (by cases k), .inl⟩) fun f => by
    rw [join_iff ha none_ss ag]
    exact ⟨fun h => h.elim (·.1) fun k => (by cases k.1), fun h => .inl ⟨h, .inr fun ⟨_, k, _⟩ => (by cases k)⟩⟩
  exact ⟨e1, by rw [join_comm none_ss ha ag.symm, e1]⟩
/-- All, one behind the other. -/
def allS (l : List St) : St := l.foldl joinS none_
/-- One is within another one. -/
def LeS (a b : St) : Prop := joinS b a = b
section
variable {g : Grp} {K : Nat}
theorem LeS.refl (h : Fine g K) {a : St} (ha : Gen g a) : LeS a a := ha.self h
theorem LeS.left (h : Fine g K) {a b : St} (ha : Gen g a) (hb : Gen g b) : LeS a (joinS a b) := by
  show joinS (joinS a b) a = joinS a b
  exact join_more (ha.ss h) (hb.ss h) (ha.agree h hb)
theorem LeS.right (h : Fine g K) {a b : St} (ha : Gen g a) (hb : Gen g b) : LeS b (joinS a b) := by rw [ha.comm h hb]; exact LeS.left h hb ha
theorem LeS.trans (h : Fine g K) {a b c : St} (ha : Gen g a) (hb : Gen g b) (hc : Gen g c) (k1 : LeS a b) (k2 : LeS b c) : LeS a c := by
  unfold LeS at *
  rw [← k2, hc.assoc h hb ha, k1]
theorem LeS.least (h : Fine g K) {a b c : St} (ha : Gen g a) (hb : Gen g b) (hc : Gen g c) (k1 : LeS a c) (k2 : LeS b c) : LeS (joinS a b) c := by
  unfold LeS at *
  rw [← hc.assoc h ha hb, k1, k2]
theorem LeS.anti (h : Fine g K) {a b : St} (ha : Gen g a) (hb : Gen g b) (k1 : LeS a b) (k2 : LeS b a) : a = b := by
  unfold LeS at *
  rw [← k2, ha.comm h hb, k1]
/-- What all have together: the least above all four. -/
theorem all_above (h : Fine g K) : Gen g (allS [g.s0, g.s1, g.s2, g.s3]) ∧ (∀ i, In4 i → LeS (g.at_ i) (allS [g.s0, g.s1, g.s2, g.s3])) ∧ ∀ t, Gen g t → (∀ i, In4 i → LeS (g.at_ i) t) → LeS (allS [g.s0, g.s1, g.s2, g.s3]) t := by
  have g0 : Gen g g.s0 := .one 0 (.inl rfl)
  have g1 : Gen g g.s1 := .one 1 (.inr (.inl rfl))
  have g2 : Gen g g.s2 := .one 2 (.inr (.inr (.inl rfl)))
  have g3 : Gen g g.s3 := .one 3 (.inr (.inr (.inr rfl)))
  show Gen g (joinS (joinS (joinS (joinS none_ g.s0) g.s1) g.s2) g.s3) ∧ _
  have hn := (join_none (g0.ss h)).2
  have e : allS [g.s0, g.s1, g.s2, g.s3] = joinS (joinS (joinS g.s0 g.s1) g.s2) g.s3 := by
    show joinS (joinS (joinS (joinS none_ g.s0) g.s1) g.s2) g.s3 = _
    rw [hn]
  rw [e, hn]
  have p1 := Gen.two _ _ g0 g1
  have p2 := Gen.two _ _ p1 g2
  have p3 := Gen.two _ _ p2 g3
  refine ⟨p3, fun i hi => ?_, fun t ht hall => ?_⟩
  · rcases hi with rfl | rfl | rfl | rfl
    · exact LeS.trans h g0 p2 p3 (LeS.trans h g0 p1 p2 (LeS.left h g0 g1) (LeS.left h p1 g2)) (LeS.left h p2 g3)
    · exact LeS.trans h g1 p2 p3 (LeS.trans h g1 p1 p2 (LeS.right h g0 g1) (LeS.left h p1 g2)) (LeS.left h p2 g3)
    · exact LeS.trans h g2 p2 p3 (LeS.right h p1 g2) (LeS.left h p2 g3)
    · exact LeS.right h p2 g3
  · exact LeS.least h p2 g3 ht (LeS.least h p1 g2 ht (LeS.least h g0 g1 ht (hall 0 (.inl rfl)) (hall 1 (.inr (.inl rfl)))) (hall 2 (.inr (.inr (.inl rfl))))) (hall 3 (.inr (.inr (.inr rfl))))
/-- One that comes of joins, and is above all four, is what all have together. -/
theorem top_is (h : Fine g K) {t : St} (ht : Gen g t) (hall : ∀ i, In4 i → LeS (g.at_ i) t) (hbel : LeS t (allS [g.s0, g.s1, g.s2, g.s3])) : t = allS [g.s0, g.s1, g.s2, g.s3] :=
  LeS.anti h ht (all_above h).1 hbel ((all_above h).2.2 t ht hall)
/-- All that comes of joins is below. -/
theorem Gen.under (h : Fine g K) {s : St} (hs : Gen g s) : LeS s (allS [g.s0, g.s1, g.s2, g.s3]) := by
  induction hs with
  | nothing => exact (join_none ((all_above h).1.ss h)).1
  | one i hi => exact (all_above h).2.1 i hi
  | two a b ha hb ia ib => exact LeS.least h ha hb (all_above h).1 ia ib
end
/-- Which facts stay, by dots. -/
theorem join_at {a b : St} (ha : SS a) (hb : SS b) (d n : Int) : atB (joinS a b).facts d n = (atB a.facts d n && atB b.facts d n || atB a.facts d n && !hasB b.seen d n || atB b.facts d n && !hasB a.seen d n) := by
  rw [Bool.eq_iff_iff, atB_iff]
  constructor
  · rintro ⟨f, hf, rfl, rfl⟩
    rcases (joinF_mem a b f).1 hf with ⟨h1, h2⟩ | ⟨h1, h2⟩
    · have e1 : atB a.facts f.d f.n = true := (atB_iff _ _ _).2 ⟨f, h1, rfl, rfl⟩
      unfold stayA at h2
      rw [e1]
      revert h2
      cases hasB b.seen f.d f.n <;> cases atB b.facts f.d f.n <;> simp
    · have e1 : atB b.facts f.d f.n = true := (atB_iff _ _ _).2 ⟨f, h1, rfl, rfl⟩
      unfold stayB at h2
      rw [e1, h2]; simp
  · intro h
    rw [Bool.or_eq_true, Bool.or_eq_true, Bool.and_eq_true, Bool.and_eq_true, Bool.and_eq_true, atB_iff, atB_iff] at h
    rcases h with (⟨⟨f, hf, rfl, rfl⟩, hq⟩ | ⟨⟨f, hf, rfl, rfl⟩, hq⟩) | ⟨⟨f, hf, rfl, rfl⟩, hq⟩
    · exact ⟨f, (joinF_mem a b f).2 (.inl ⟨hf, by unfold stayA; rw [(atB_iff b.facts f.d f.n).2 hq]; simp⟩), rfl, rfl⟩
    · exact ⟨f, (joinF_mem a b f).2 (.inl ⟨hf, by unfold stayA; rw [hq]; simp⟩), rfl, rfl⟩
    · exact ⟨f, (joinF_mem a b f).2 (.inr ⟨hf, by unfold stayB; rw [hq]⟩), rfl, rfl⟩
end Go.Proofs.Ytblndpfgfakdeaa.Dt
