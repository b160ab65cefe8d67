/- What one device does alone, in pure words: the last text, who is in, the sum. -/
import Derived.Test.YtblndpfgfakdeaaRdAll
set_option linter.unusedVariables false
namespace Go.Proofs.Ytblndpfgfakdeaa.Dt
open Go Go.Lib

/-- The laws' key. -/
def kK : ByteArray := ⟨#[107]⟩
theorem kK_b1 : b1 107 = kK := rfl
/-- What one would think. -/
structure Th where
  text : ByteArray
  sum : Int
  mem : List Bool
def th0 : Th := ⟨⟨#[]⟩, 0, List.replicate 5 false⟩
def nextT (t : Th) (o : Opn) (j : Nat) : Th :=
  if o.kind = 1 then ⟨o.item, t.sum, t.mem⟩ else
  if o.kind = 2 ∨ o.kind = 3 then ⟨t.text, t.sum, t.mem.set j (decide (o.kind = 2))⟩ else
  if o.kind = 4 then ⟨t.text, IntKind.i64.wrap (t.sum + o.v), t.mem⟩ else th0
/-- A state says what one thinks. -/
structure AlI (s : St) (t : Th) : Prop where
  key : ∀ f ∈ s.facts, f.key = kK
  dev : ∀ f ∈ s.facts, f.d = 2
  reg : ∀ f ∈ s.facts, f.kind = 1 → f.item = t.text
  regs : (∃ f ∈ s.facts, f.kind = 1) ↔ t.text.size ≠ 0
  len : t.mem.length = 5
  mem : ∀ j, j < 5 → (t.mem.getD j false = true ↔ ∃ f ∈ s.facts, f.kind = 2 ∧ f.item = b1 (97 + ((j : Nat) : Int)))
  mems : ∀ f ∈ s.facts, f.kind = 2 → ∃ j : Nat, j < 5 ∧ f.item = b1 (97 + (j : Int))
  cnt : ∀ f ∈ s.facts, f.kind = 3 → f.v = t.sum
  cnts : (∀ f ∈ s.facts, f.kind ≠ 3) → t.sum = 0
  one : ∀ f ∈ s.facts, ∀ g ∈ s.facts, f.kind = 3 → g.kind = 3 → f = g
theorem al_start : AlI none_ th0 := by
  have h : ∀ f, ¬ f ∈ none_.facts := fun f hf => by cases hf
  refine ⟨fun f hf => absurd hf (h f), fun f hf => absurd hf (h f), fun f hf => absurd hf (h f), ⟨fun ⟨f, hf, _⟩ => absurd hf (h f), fun k => absurd rfl k⟩, rfl, fun j hj => ⟨fun k => ?_, fun ⟨f, hf, _⟩ => absurd hf (h f)⟩, fun f hf => absurd hf (h f), fun f hf => absurd hf (h f), fun _ => rfl, fun f hf => absurd hf (h f)⟩
  have e : (List.replicate 5 false).getD j false = false := by
    match j, hj with
    | 0, _ => rfl
    | 1, _ => rfl
    | 2, _ => rfl
    | 3, _ => rfl
    | 4, _ => rfl
  rw [show th0.mem = List.replicate 5 false from rfl, e] at k
  cases k
/-- Facts in order of which no two are two: none, or one. -/
theorem sor_one : ∀ {l : List Fc}, Sor l → (∀ f ∈ l, ∀ g ∈ l, f = g) → l = [] ∨ ∃ f, l = [f]
  | [], _, _ => .inl rfl
  | [f], _, _ => .inr ⟨f, rfl⟩
  | f :: g :: l, h, k => by
    have e := k f (by simp) g (by simp)
    subst e
    exact ((h.head f (by simp)).irr ⟨rfl, rfl⟩).elim
theorem b1_at {i j : Nat} (hi : i < 5) (hj : j < 5) (h : b1 (97 + (i : Int)) = b1 (97 + (j : Int))) : i = j := by
  have := b1_inj (i := 97 + (i : Int)) (j := 97 + (j : Int)) (by omega) (by omega) h
  omega
theorem getD_set {l : List Bool} {i j : Nat} {b : Bool} (hi : i < l.length) : (l.set i b).getD j false = if i = j then b else l.getD j false := by
  rw [List.getD_eq_getElem?_getD, List.getElem?_set, List.getD_eq_getElem?_getD]
  by_cases e : i = j
  · subst e; rw [if_pos rfl, if_pos hi, if_pos rfl]; rfl
  · rw [if_neg e, if_neg e]
/-- Which facts go, in a state of one key and one device. -/
theorem al_goes {s : St} {t : Th} {o : Opn} (h : AlI s t) (hk : o.key = kK) {f : Fc} (hf : f ∈ s.facts) : Goes f 2 o ↔ (o.kind = 1 ∧ f.kind = 1) ∨ ((o.kind = 2 ∨ o.kind = 3) ∧ f.kind = 2 ∧ f.item = o.item) ∨ (o.kind = 4 ∧ f.kind = 3) ∨ (o.kind ≠ 1 ∧ o.kind ≠ 2 ∧ o.kind ≠ 3 ∧ o.kind ≠ 4) := by
  unfold Goes
  have h1 := h.key f hf
  have h2 := h.dev f hf
  constructor
  · rintro ⟨_, h3 | h3 | h3 | h3⟩
    · exact .inl h3
    · exact .inr (.inl h3)
    · exact .inr (.inr (.inl ⟨h3.1, h3.2.1⟩))
    · exact .inr (.inr (.inr h3))
  · intro h3
    refine ⟨by rw [h1, hk], ?_⟩
    rcases h3 with h3 | h3 | h3 | h3
    · exact .inl h3
    · exact .inr (.inl h3)
    · exact .inr (.inr (.inl ⟨h3.1, h3.2, h2⟩))
    · exact .inr (.inr (.inr h3))
theorem right_kind {f : Fc} (h : RightF f) : (f.kind = 1 ∨ f.kind = 2 ∨ f.kind = 3) := by
  unfold RightF at h
  rcases h.2 with h | h
  · rcases h.1 with k | k
    · exact .inl k
    · exact .inr (.inl k)
  · exact .inr (.inr h.1)
/-- Behind a deed that is no error the state says what one thinks then. -/
theorem al_step {s : St} {t : Th} {o : Opn} {j : Nat} (h : AlI s t) (hs : MayS s) (hz : (doS s 2 o).2 = 0) (hkey : o.key = kK) (hkind : 1 ≤ o.kind ∧ o.kind ≤ 5) (hj : j < 5) (hitem : o.item = b1 (97 + (j : Int))) : AlI (joinS s (doS s 2 o).1) (nextT t o j) := by
  obtain ⟨e, hb, hn, ho, hl⟩ := do_is hz
  rw [e]
  have hf := fun f => do_facts (f := f) hs.ss hb ho
  have hG := fun f (hm : f ∈ s.facts) => al_goes h hkey hm
  have hz' : o.item.size = 1 := by rw [hitem]; rfl
  have k5 : o.kind = 1 ∨ o.kind = 2 ∨ o.kind = 3 ∨ o.kind = 4 ∨ o.kind = 5 := by omega
  rcases k5 with k | k | k | k | k
  · -- a text is set
    have hA : ¬ Away o := by unfold Away; omega
    have hnf : newF s 2 o = ⟨2, lastR 2 s.seen 0 + 1, kK, 1, o.item, 0⟩ := by unfold newF; rw [if_neg (by omega), hkey, k]
    have hm : ∀ f, f ∈ (joinS s (delta s 2 o)).facts ↔ (f ∈ s.facts ∧ f.kind ≠ 1) ∨ f = ⟨2, lastR 2 s.seen 0 + 1, kK, 1, o.item, 0⟩ := fun f => by
      rw [hf, hnf]
      constructor
      · rintro (⟨h1, h2⟩ | ⟨_, h2⟩)
        · exact .inl ⟨h1, fun h3 => h2 ((hG f h1).2 (.inl ⟨k, h3⟩))⟩
        · exact .inr h2
      · rintro (⟨h1, h2⟩ | h2)
        · refine .inl ⟨h1, fun h3 => ?_⟩
          rcases (hG f h1).1 h3 with h4 | h4 | h4 | h4
          · exact h2 h4.2
          · omega
          · omega
          · exact h4.1 k
        · exact .inr ⟨hA, h2⟩
    have ht : nextT t o j = ⟨o.item, t.sum, t.mem⟩ := by unfold nextT; rw [if_pos k]
    rw [ht]
    refine ⟨fun f hf => ?_, fun f hf => ?_, fun f hf hk => ?_, ⟨fun _ => ?_, fun _ => ?_⟩, h.len, fun i hi => ?_, fun f hf hk => ?_, fun f hf hk => ?_, fun hall => ?_, fun f hf g hg hk hk2 => ?_⟩
    · rcases (hm f).1 hf with h1 | rfl
      · exact h.key f h1.1
      · rfl
    · rcases (hm f).1 hf with h1 | rfl
      · exact h.dev f h1.1
      · rfl
    · rcases (hm f).1 hf with h1 | rfl
      · exact absurd hk h1.2
      · rfl
    · show o.item.size ≠ 0; omega
    · exact ⟨_, (hm _).2 (.inr rfl), rfl⟩
    · show t.mem.getD i false = true ↔ _
      rw [h.mem i hi]
      constructor
      · rintro ⟨f, h1, h2, h3⟩
        exact ⟨f, (hm f).2 (.inl ⟨h1, by omega⟩), h2, h3⟩
      · rintro ⟨f, h1, h2, h3⟩
        rcases (hm f).1 h1 with h4 | rfl
        · exact ⟨f, h4.1, h2, h3⟩
        · exact absurd h2 (by simp)
    · rcases (hm f).1 hf with h1 | rfl
      · exact h.mems f h1.1 hk
      · exact absurd hk (by simp)
    · rcases (hm f).1 hf with h1 | rfl
      · exact h.cnt f h1.1 hk
      · exact absurd hk (by simp)
    · exact h.cnts fun f h1 h2 => hall f ((hm f).2 (.inl ⟨h1, by omega⟩)) h2
    · rcases (hm f).1 hf with h1 | rfl
      · rcases (hm g).1 hg with h2 | rfl
        · exact h.one f h1.1 g h2.1 hk hk2
        · exact absurd hk2 (by simp)
      · exact absurd hk (by simp)
  · -- who is added
    have hA : ¬ Away o := by unfold Away; omega
    have hnf : newF s 2 o = ⟨2, lastR 2 s.seen 0 + 1, kK, 2, o.item, 0⟩ := by unfold newF; rw [if_neg (by omega), hkey, k]
    have hm : ∀ f, f ∈ (joinS s (delta s 2 o)).facts ↔ (f ∈ s.facts ∧ ¬ (f.kind = 2 ∧ f.item = o.item)) ∨ f = ⟨2, lastR 2 s.seen 0 + 1, kK, 2, o.item, 0⟩ := fun f => by
      rw [hf, hnf]
      constructor
      · rintro (⟨h1, h2⟩ | ⟨_, h2⟩)
        · exact .inl ⟨h1, fun h3 => h2 ((hG f h1).2 (.inr (.inl ⟨.inl k, h3⟩)))⟩
        · exact .inr h2
      · rintro (⟨h1, h2⟩ | h2)
        · refine .inl ⟨h1, fun h3 => ?_⟩
          rcases (hG f h1).1 h3 with h4 | h4 | h4 | h4
          · omega
          · exact h2 h4.2
          · omega
          · exact h4.2.1 k
        · exact .inr ⟨hA, h2⟩
    have ht : nextT t o j = ⟨t.text, t.sum, t.mem.set j true⟩ := by unfold nextT; rw [if_neg (by omega), if_pos (.inl k), decide_eq_true k]
    rw [ht]
    refine ⟨fun f hf => ?_, fun f hf => ?_, fun f hf hk => ?_, ⟨fun h1 => ?_, fun h1 => ?_⟩, by show (t.mem.set j true).length = 5; rw [List.length_set]; exact h.len, fun i hi => ?_, fun f hf hk => ?_, fun f hf hk => ?_, fun hall => ?_, fun f hf g hg hk hk2 => ?_⟩
    · rcases (hm f).1 hf with h1 | rfl
      · exact h.key f h1.1
      · rfl
    · rcases (hm f).1 hf with h1 | rfl
      · exact h.dev f h1.1
      · rfl
    · rcases (hm f).1 hf with h1 | rfl
      · exact h.reg f h1.1 hk
      · exact absurd hk (by simp)
    · obtain ⟨f, h2, h3⟩ := h1
      rcases (hm f).1 h2 with h4 | rfl
      · exact h.regs.1 ⟨f, h4.1, h3⟩
      · exact absurd h3 (by simp)
    · obtain ⟨f, h2, h3⟩ := h.regs.2 h1
      exact ⟨f, (hm f).2 (.inl ⟨h2, fun h4 => by omega⟩), h3⟩
    · show (t.mem.set j true).getD i false = true ↔ _
      rw [getD_set (by rw [h.len]; exact hj)]
      by_cases hij : j = i
      · subst hij
        rw [if_pos rfl]
        exact ⟨fun _ => ⟨_, (hm _).2 (.inr rfl), rfl, hitem⟩, fun _ => rfl⟩
      · rw [if_neg hij, h.mem i hi]
        constructor
        · rintro ⟨f, h1, h2, h3⟩
          refine ⟨f, (hm f).2 (.inl ⟨h1, fun h4 => hij ?_⟩), h2, h3⟩
          exact b1_at hj hi (by rw [← hitem, ← h4.2, h3])
        · rintro ⟨f, h1, h2, h3⟩
          rcases (hm f).1 h1 with h4 | rfl
          · exact ⟨f, h4.1, h2, h3⟩
          · exact absurd (b1_at hj hi (by rw [← hitem]; exact h3)) hij
    · rcases (hm f).1 hf with h1 | rfl
      · exact h.mems f h1.1 hk
      · exact ⟨j, hj, hitem⟩
    · rcases (hm f).1 hf with h1 | rfl
      · exact h.cnt f h1.1 hk
      · exact absurd hk (by simp)
    · exact h.cnts fun f h1 h2 => hall f ((hm f).2 (.inl ⟨h1, fun h3 => by omega⟩)) h2
    · rcases (hm f).1 hf with h1 | rfl
      · rcases (hm g).1 hg with h2 | rfl
        · exact h.one f h1.1 g h2.1 hk hk2
        · exact absurd hk2 (by simp)
      · exact absurd hk (by simp)
  · -- who is taken away
    have hA : Away o := .inl k
    have hm : ∀ f, f ∈ (joinS s (delta s 2 o)).facts ↔ (f ∈ s.facts ∧ ¬ (f.kind = 2 ∧ f.item = o.item)) := fun f => by
      rw [hf]
      constructor
      · rintro (⟨h1, h2⟩ | ⟨h2, _⟩)
        · exact ⟨h1, fun h3 => h2 ((hG f h1).2 (.inr (.inl ⟨.inr k, h3⟩)))⟩
        · exact absurd hA h2
      · rintro ⟨h1, h2⟩
        refine .inl ⟨h1, fun h3 => ?_⟩
        rcases (hG f h1).1 h3 with h4 | h4 | h4 | h4
        · omega
        · exact h2 h4.2
        · omega
        · exact h4.2.2.1 k
    have ht : nextT t o j = ⟨t.text, t.sum, t.mem.set j false⟩ := by unfold nextT; rw [if_neg (by omega), if_pos (.inr k), decide_eq_false (by omega)]
    rw [ht]
    refine ⟨fun f hf => h.key f ((hm f).1 hf).1, fun f hf => h.dev f ((hm f).1 hf).1, fun f hf hk => h.reg f ((hm f).1 hf).1 hk, ⟨fun h1 => ?_, fun h1 => ?_⟩, by show (t.mem.set j false).length = 5; rw [List.length_set]; exact h.len, fun i hi => ?_, fun f hf hk => h.mems f ((hm f).1 hf).1 hk, fun f hf hk => h.cnt f ((hm f).1 hf).1 hk, fun hall => ?_, fun f hf g hg hk hk2 => h.one f ((hm f).1 hf).1 g ((hm g).1 hg).1 hk hk2⟩
    · obtain ⟨f, h2, h3⟩ := h1
      exact h.regs.1 ⟨f, ((hm f).1 h2).1, h3⟩
    · obtain ⟨f, h2, h3⟩ := h.regs.2 h1
      exact ⟨f, (hm f).2 ⟨h2, fun h4 => by omega⟩, h3⟩
    · show (t.mem.set j false).getD i false = true ↔ _
      rw [getD_set (by rw [h.len]; exact hj)]
      by_cases hij : j = i
      · subst hij
        rw [if_pos rfl]
        refine ⟨fun h1 => (by cases h1), fun ⟨f, h1, h2, h3⟩ => ?_⟩
        exact absurd ⟨h2, by rw [h3, hitem]⟩ ((hm f).1 h1).2
      · rw [if_neg hij, h.mem i hi]
        constructor
        · rintro ⟨f, h1, h2, h3⟩
          refine ⟨f, (hm f).2 ⟨h1, fun h4 => hij ?_⟩, h2, h3⟩
          exact b1_at hj hi (by rw [← hitem, ← h4.2, h3])
        · rintro ⟨f, h1, h2, h3⟩
          exact ⟨f, ((hm f).1 h1).1, h2, h3⟩
    · exact h.cnts fun f h1 h2 => hall f ((hm f).2 ⟨h1, fun h3 => by omega⟩) h2
  · -- what is counted
    have hA : ¬ Away o := by unfold Away; omega
    have hgone : sumV (gone s.facts 2 o) = t.sum := by
      have hg : ∀ f, f ∈ gone s.facts 2 o ↔ f ∈ s.facts ∧ f.kind = 3 := fun f => by
        unfold gone
        rw [List.mem_filter]
        constructor
        · rintro ⟨h1, h2⟩
          refine ⟨h1, ?_⟩
          rcases (hG f h1).1 (of_decide_eq_true h2) with h4 | h4 | h4 | h4
          · omega
          · omega
          · exact h4.2
          · exact absurd k h4.2.2.2
        · rintro ⟨h1, h2⟩
          exact ⟨h1, decide_eq_true ((hG f h1).2 (.inr (.inr (.inl ⟨k, h2⟩))))⟩
      rcases sor_one (hs.ss.2.2.filter fun f => goesB f 2 o) (fun f hf g hg' => h.one f ((hg f).1 hf).1 g ((hg g).1 hg').1 ((hg f).1 hf).2 ((hg g).1 hg').2) with h1 | ⟨f, h1⟩
      · show sumV (s.facts.filter fun f => goesB f 2 o) = _
        rw [h1]
        exact (h.cnts fun f hf hk => by
          have := (hg f).2 ⟨hf, hk⟩
          rw [show gone s.facts 2 o = [] from h1] at this
          cases this).symm
      · show sumV (s.facts.filter fun f => goesB f 2 o) = _
        rw [h1]
        have hm : f ∈ gone s.facts 2 o := by rw [show gone s.facts 2 o = [f] from h1]; exact List.mem_singleton.2 rfl
        have := h.cnt f ((hg f).1 hm).1 ((hg f).1 hm).2
        show f.v + 0 = t.sum
        omega
    have hnf : newF s 2 o = ⟨2, lastR 2 s.seen 0 + 1, kK, 3, ⟨#[]⟩, o.v + t.sum⟩ := by unfold newF; rw [if_pos k, hkey, hgone]
    have hw : IntKind.i64.wrap (t.sum + o.v) = o.v + t.sum := by
      have h1 : ¬ ((newF s 2 o).v < -1099511627776) := fun h1 => ho ⟨hA, .inr (.inl h1)⟩
      have h2 : ¬ (1099511627776 < (newF s 2 o).v) := fun h1 => ho ⟨hA, .inr (.inr h1)⟩
      rw [hnf] at h1 h2
      dsimp only at h1 h2
      rw [IntKind.wrap_i64]
      omega
    have hm : ∀ f, f ∈ (joinS s (delta s 2 o)).facts ↔ (f ∈ s.facts ∧ f.kind ≠ 3) ∨ f = ⟨2, lastR 2 s.seen 0 + 1, kK, 3, ⟨#[]⟩, o.v + t.sum⟩ := fun f => by
      rw [hf, hnf]
      constructor
      · rintro (⟨h1, h2⟩ | ⟨_, h2⟩)
        · exact .inl ⟨h1, fun h3 => h2 ((hG f h1).2 (.inr (.inr (.inl ⟨k, h3⟩))))⟩
        · exact .inr h2
      · rintro (⟨h1, h2⟩ | h2)
        · refine .inl ⟨h1, fun h3 => ?_⟩
          rcases (hG f h1).1 h3 with h4 | h4 | h4 | h4
          · omega
          · omega
          · exact h2 h4.2
          · exact absurd k h4.2.2.2
        · exact .inr ⟨hA, h2⟩
    have ht : nextT t o j = ⟨t.text, o.v + t.sum, t.mem⟩ := by unfold nextT; rw [if_neg (by omega), if_neg (by omega), if_pos k, hw]
    rw [ht]
    refine ⟨fun f hf => ?_, fun f hf => ?_, fun f hf hk => ?_, ⟨fun h1 => ?_, fun h1 => ?_⟩, h.len, fun i hi => ?_, fun f hf hk => ?_, fun f hf hk => ?_, fun hall => ?_, fun f hf g hg hk hk2 => ?_⟩
    · rcases (hm f).1 hf with h1 | rfl
      · exact h.key f h1.1
      · rfl
    · rcases (hm f).1 hf with h1 | rfl
      · exact h.dev f h1.1
      · rfl
    · rcases (hm f).1 hf with h1 | rfl
      · exact h.reg f h1.1 hk
      · exact absurd hk (by simp)
    · obtain ⟨f, h2, h3⟩ := h1
      rcases (hm f).1 h2 with h4 | rfl
      · exact h.regs.1 ⟨f, h4.1, h3⟩
      · exact absurd h3 (by simp)
    · obtain ⟨f, h2, h3⟩ := h.regs.2 h1
      exact ⟨f, (hm f).2 (.inl ⟨h2, by omega⟩), h3⟩
    · show t.mem.getD i false = true ↔ _
      rw [h.mem i hi]
      constructor
      · rintro ⟨f, h1, h2, h3⟩
        exact ⟨f, (hm f).2 (.inl ⟨h1, by omega⟩), h2, h3⟩
      · rintro ⟨f, h1, h2, h3⟩
        rcases (hm f).1 h1 with h4 | rfl
        · exact ⟨f, h4.1, h2, h3⟩
        · exact absurd h2 (by simp)
    · rcases (hm f).1 hf with h1 | rfl
      · exact h.mems f h1.1 hk
      · exact absurd hk (by simp)
    · rcases (hm f).1 hf with h1 | rfl
      · exact absurd hk h1.2
      · rfl
    · exact absurd rfl (hall _ ((hm _).2 (.inr rfl)))
    · rcases (hm f).1 hf with h1 | rfl
      · exact absurd hk h1.2
      · rcases (hm g).1 hg with h2 | h2
        · exact absurd hk2 h2.2
        · exact h2.symm
  · -- all goes
    have hA : Away o := .inr k
    have hm : ∀ f, ¬ f ∈ (joinS s (delta s 2 o)).facts := fun f h1 => by
      rcases (hf f).1 h1 with ⟨h1, h2⟩ | ⟨h2, _⟩
      · exact h2 ((hG f h1).2 (.inr (.inr (.inr ⟨by omega, by omega, by omega, by omega⟩))))
      · exact h2 hA
    have ht : nextT t o j = th0 := by unfold nextT; rw [if_neg (by omega), if_neg (by omega), if_neg (by omega)]
    rw [ht]
    have h0 := al_start
    refine ⟨fun f hf => absurd hf (hm f), fun f hf => absurd hf (hm f), fun f hf => absurd hf (hm f), ⟨fun ⟨f, hf, _⟩ => absurd hf (hm f), fun k => absurd rfl k⟩, rfl, fun i hi => ?_, fun f hf => absurd hf (hm f), fun f hf => absurd hf (hm f), fun _ => rfl, fun f hf => absurd hf (hm f)⟩
    rw [h0.mem i hi]
    exact ⟨fun ⟨f, hf, _⟩ => (by cases hf), fun ⟨f, hf, _⟩ => absurd hf (hm f)⟩

/-! What is read of it. -/
theorem items_mem (l : List Fc) (key : ByteArray) (kind : Int) (x : Tx) : x ∈ itemsT l key kind ↔ ∃ f ∈ l, Fits f key kind ∧ tx f.item = x := by
  unfold itemsT
  rw [setT_mem, List.mem_map]
  exact ⟨fun ⟨f, h1, h2⟩ => ⟨f, (find_mem.1 h1).1, (find_mem.1 h1).2, h2⟩, fun ⟨f, h1, h2, h3⟩ => ⟨f, find_mem.2 ⟨h1, h2⟩, h3⟩⟩
theorem al_text {s : St} {t : Th} (h : AlI s t) : itemsT s.facts kK 1 = if t.text.size = 0 then [] else [tx t.text] := by
  split
  · rename_i h0
    refine ri_canon (setT_ri _) List.Pairwise.nil fun x => ⟨fun hx => ?_, fun hx => (by cases hx)⟩
    obtain ⟨f, h1, h2, _⟩ := (items_mem _ _ _ _).1 hx
    exact absurd h0 (h.regs.1 ⟨f, h1, h2.2.resolve_left (by decide)⟩)
  · rename_i h0
    refine ri_canon (setT_ri _) (List.pairwise_singleton _ _) fun x => ?_
    show x ∈ itemsT s.facts kK 1 ↔ _
    rw [items_mem, List.mem_singleton]
    constructor
    · rintro ⟨f, h1, h2, h3⟩
      rw [← h3, h.reg f h1 (h2.2.resolve_left (by decide))]
    · rintro rfl
      obtain ⟨f, h1, h2⟩ := h.regs.2 h0
      exact ⟨f, h1, ⟨h.key f h1, .inr h2⟩, by rw [h.reg f h1 h2]⟩
/-- Who is in, of the first k letters. -/
def wantT (m : List Bool) (k : Nat) : List Tx := ((List.range k).filter fun j => m.getD j false).map fun j => tx (b1 (97 + ((j : Nat) : Int)))
theorem want_more (m : List Bool) (k : Nat) : wantT m (k + 1) = if m.getD k false = true then wantT m k ++ [tx (b1 (97 + (k : Int)))] else wantT m k := by
  unfold wantT
  rw [List.range_succ, List.filter_append, List.map_append]
  split
  · rename_i h
    rw [List.filter_cons_of_pos (by exact h)]; rfl
  · rename_i h
    rw [List.filter_cons_of_neg (by exact h)]
    exact List.append_nil _
theorem want_len (m : List Bool) (k : Nat) : (wantT m k).length ≤ k := by
  unfold wantT
  rw [List.length_map]
  exact Nat.le_trans (List.length_filter_le _ _) (by rw [List.length_range]; exact Nat.le_refl _)
theorem want_ri (m : List Bool) : Ri (wantT m 5) := by
  have h : Ri ((List.range 5).map fun j => tx (b1 (97 + ((j : Nat) : Int)))) := by unfold Ri; decide +kernel
  exact List.Pairwise.sublist (List.Sublist.map _ List.filter_sublist) h
theorem al_members {s : St} {t : Th} (h : AlI s t) : itemsT s.facts kK 2 = wantT t.mem 5 := by
  refine ri_canon (setT_ri _) (want_ri _) fun x => ?_
  show x ∈ itemsT s.facts kK 2 ↔ _
  rw [items_mem]
  unfold wantT
  rw [List.mem_map]
  constructor
  · rintro ⟨f, h1, h2, h3⟩
    have h4 := h2.2.resolve_left (by decide)
    obtain ⟨j, hj, h5⟩ := h.mems f h1 h4
    exact ⟨j, List.mem_filter.2 ⟨List.mem_range.2 hj, (h.mem j hj).2 ⟨f, h1, h4, h5⟩⟩, by rw [← h3, h5]⟩
  · rintro ⟨j, hj, h3⟩
    obtain ⟨h4, h5⟩ := List.mem_filter.1 hj
    obtain ⟨f, h6, h7, h8⟩ := (h.mem j (List.mem_range.1 h4)).1 h5
    exact ⟨f, h6, ⟨h.key f h6, .inr h7⟩, by rw [h8, h3]⟩
theorem al_count {s : St} {t : Th} (h : AlI s t) (hs : MayS s) : countT s.facts kK = t.sum := by
  have hg : ∀ f, f ∈ findL s.facts kK 3 ↔ f ∈ s.facts ∧ f.kind = 3 := fun f => by
    rw [find_mem]
    exact ⟨fun ⟨h1, h2⟩ => ⟨h1, h2.2.resolve_left (by decide)⟩, fun ⟨h1, h2⟩ => ⟨h1, h.key f h1, .inr h2⟩⟩
  unfold countT
  rcases sor_one (hs.ss.2.2.filter fun f => decide (Fits f kK 3)) (fun f hf g hg' => h.one f ((hg f).1 hf).1 g ((hg g).1 hg').1 ((hg f).1 hf).2 ((hg g).1 hg').2) with h1 | ⟨f, h1⟩
  · rw [show findL s.facts kK 3 = [] from h1]
    exact (h.cnts fun f hf hk => by
      have := (hg f).2 ⟨hf, hk⟩
      rw [show findL s.facts kK 3 = [] from h1] at this
      cases this).symm
  · rw [show findL s.facts kK 3 = [f] from h1]
    have hm : f ∈ findL s.facts kK 3 := by rw [show findL s.facts kK 3 = [f] from h1]; exact List.mem_singleton.2 rfl
    obtain ⟨h2, h3⟩ := (hg f).1 hm
    have hr := (hs.2.2.1 f h2).1
    unfold RightF at hr
    show IntKind.i64.wrap (0 + f.v) = t.sum
    rw [← h.cnt f h2 h3, IntKind.wrap_i64]
    rcases hr.2 with h4 | h4
    · omega
    · have h5 := h4.2.2; omega
/-- One behind the other. -/
def aloneK (ns : List Int) : Nat → St
  | 0 => none_
  | k + 1 => stepM (aloneK ns k) 2 (opN (ns.getD (2 * k) 0 % 5) (ns.getD (2 * k + 1) 0))
theorem alone_may (ns : List Int) : ∀ k, MayS (aloneK ns k)
  | 0 => none_may
  | k + 1 => stepM_may (alone_may ns k)
theorem alone_low (ns : List Int) : ∀ k, Low (aloneK ns k) k
  | 0 => low_none
  | k + 1 => stepM_low (alone_may ns k) (alone_low ns k)
theorem next1 {t : Th} {o : Opn} {j : Nat} (k : o.kind = 1) : nextT t o j = ⟨o.item, t.sum, t.mem⟩ := by unfold nextT; rw [if_pos k]
theorem next2 {t : Th} {o : Opn} {j : Nat} (k : o.kind = 2) : nextT t o j = ⟨t.text, t.sum, t.mem.set j true⟩ := by unfold nextT; rw [if_neg (by omega), if_pos (.inl k), decide_eq_true k]
theorem next3 {t : Th} {o : Opn} {j : Nat} (k : o.kind = 3) : nextT t o j = ⟨t.text, t.sum, t.mem.set j false⟩ := by unfold nextT; rw [if_neg (by omega), if_pos (.inr k), decide_eq_false (by omega)]
theorem next4 {t : Th} {o : Opn} {j : Nat} (k : o.kind = 4) : nextT t o j = ⟨t.text, IntKind.i64.wrap (t.sum + o.v), t.mem⟩ := by unfold nextT; rw [if_neg (by omega), if_neg (by omega), if_pos k]
theorem next5 {t : Th} {o : Opn} {j : Nat} (k : o.kind = 5) : nextT t o j = th0 := by unfold nextT; rw [if_neg (by omega), if_neg (by omega), if_neg (by omega)]
/-- The cells of Booleans. -/
def boolsA (m : List Bool) : Array Value := (m.map Value.bool).toArray
theorem boolsA_set (m : List Bool) (j : Nat) (b : Bool) : (boolsA m).setIfInBounds j (.bool b) = boolsA (m.set j b) := by
  unfold boolsA
  rw [List.setIfInBounds_toArray, List.map_set]
theorem boolsA_at {m : List Bool} {j : Nat} (h : j < m.length) : (boolsA m)[j]? = some (.bool (m.getD j false)) := by
  unfold boolsA
  rw [List.getElem?_toArray, List.getElem?_map, List.getElem?_eq_getElem h, List.getD_eq_getElem?_getD, List.getElem?_eq_getElem h]; rfl
theorem row_ne {W : World} {g g' : Nat} {t t' : TypeId} {cs cs' : Array Value} (h : Mm.Row W g t cs) (h' : Mm.Row W g' t' cs') (ht : t ≠ t') : g ≠ g' := by
  rintro rfl
  unfold Mm.Row at h h'
  rw [h] at h'
  simp only [Option.some.injEq, Obj.cells.injEq] at h'
  exact ht h'.2.1
/-- A state stays where a row of Booleans is written. -/
theorem sl_bool {w w' : World} {A B : Option Addr} {n m h : Nat} {s : St} {t : TypeId} {bs : List Bool} (hr : SL w A n B m s) (hg : w.grownBy w' (some h)) (hrow : Mm.Row w h t (boolsA bs)) : SL w' A n B m s := by
  have hno : ∀ (o : Nat) (v : Value), (∀ b, v ≠ .bool b) → w.cell? ⟨h, o, none⟩ ≠ some v := fun o v hv e => by
    rw [hrow.get] at e
    unfold boolsA at e
    rw [List.getElem?_toArray, List.getElem?_map] at e
    cases hb : bs[o]? with
    | none => rw [hb] at e; cases e
    | some b => rw [hb] at e; exact hv b (Option.some.inj e).symm
  refine ⟨⟨hr.1.1, fun h0 => ?_⟩, ⟨hr.2.1, fun h0 => ?_⟩⟩
  · obtain ⟨g, o, e, hl, hc⟩ := hr.1.2 h0
    obtain ⟨x, hx⟩ : ∃ x, s.seen[0]? = some x := ⟨_, List.getElem?_eq_getElem (by rw [hr.1.1]; exact h0)⟩
    have hne : some g ≠ some h := by
      intro e2
      obtain rfl := Option.some.inj e2
      exact hno _ _ (fun b h => by cases h) (hc 0 x hx).1
    have hb := hg.block g hl hne
    exact ⟨g, o, e, Nat.lt_of_lt_of_le hl hg.size, fun i y hy => ⟨(World.cell?_of_block (a := ⟨g, _, none⟩) hb).trans (hc i y hy).1, (World.cell?_of_block (a := ⟨g, _, none⟩) hb).trans (hc i y hy).2.1, (World.cell?_of_block (a := ⟨g, _, none⟩) hb).trans (hc i y hy).2.2⟩⟩
  · obtain ⟨g, o, e, hl, hc⟩ := hr.2.2 h0
    obtain ⟨x, hx⟩ : ∃ x, s.facts[0]? = some x := ⟨_, List.getElem?_eq_getElem (by rw [hr.2.1]; exact h0)⟩
    have hne : some g ≠ some h := by
      intro e2
      obtain rfl := Option.some.inj e2
      exact hno _ _ (fun b h => by cases h) (hc 0 x hx).1
    exact ⟨g, o, e, Nat.lt_of_lt_of_le hl hg.size, fun i y hy => (hc i y hy).kept hl hg hne⟩
theorem ix0 (W : World) : (Instr.index 9 (.string (b1 97)) (.int .i64 0)).run Try.prog W = .ok (.int .u8 97) W := by kernel_rfl
theorem ix1 (W : World) : (Instr.index 9 (.string (b1 98)) (.int .i64 0)).run Try.prog W = .ok (.int .u8 98) W := by kernel_rfl
theorem ix2 (W : World) : (Instr.index 9 (.string (b1 99)) (.int .i64 0)).run Try.prog W = .ok (.int .u8 99) W := by kernel_rfl
theorem ix3 (W : World) : (Instr.index 9 (.string (b1 100)) (.int .i64 0)).run Try.prog W = .ok (.int .u8 100) W := by kernel_rfl
theorem ix4 (W : World) : (Instr.index 9 (.string (b1 101)) (.int .i64 0)).run Try.prog W = .ok (.int .u8 101) W := by kernel_rfl
/-- The letter of a text of one byte. -/
theorem index_b1 (j : Nat) (hj : j < 5) (W : World) : (Instr.index 9 (.string (b1 (97 + (j : Int)))) (.int .i64 0)).run Try.prog W = .ok (.int .u8 (97 + (j : Int))) W := by
  match j, hj with
  | 0, _ => exact ix0 W
  | 1, _ => exact ix1 W
  | 2, _ => exact ix2 W
  | 3, _ => exact ix3 W
  | 4, _ => exact ix4 W
end Go.Proofs.Ytblndpfgfakdeaa.Dt
