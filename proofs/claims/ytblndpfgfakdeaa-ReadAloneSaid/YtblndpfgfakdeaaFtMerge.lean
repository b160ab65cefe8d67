/- Two states together, fact by fact: what a merge holds to, as plain lists. -/
import Derived.Test.YtblndpfgfakdeaaFtMay
import Derived.Test.YtblndpfgfakdeaaFtMade
namespace Go.Proofs.Ytblndpfgfakdeaa.Dt

/-- As far as i facts of one and k of the other have been looked at. -/
structure JI (s t : St) (i k : Nat) (L : List Fc) : Prop where
  sor : Sor L
  mem : ∀ f, f ∈ L ↔ (f ∈ s.facts.take i ∧ stayA s t f = true) ∨ (f ∈ t.facts.take k ∧ stayB s f = true)
  na : ∀ f ∈ L, ∀ g ∈ s.facts.drop i, FLt f g
  nb : ∀ f ∈ L, ∀ g ∈ t.facts.drop k, ¬ FLt g f
theorem ji_nil (s t : St) : JI s t 0 0 [] := ⟨List.Pairwise.nil, fun f => by simp, fun f h => by simp at h, fun f h => by simp at h⟩
theorem fdrop_eq {l : List Fc} {k : Nat} {x : Fc} (h : l[k]? = some x) : l.drop k = x :: l.drop (k + 1) := by
  obtain ⟨hk, rfl⟩ := List.getElem?_eq_some_iff.1 h
  exact List.drop_eq_getElem_cons hk
theorem Sor.drop {l : List Fc} (h : Sor l) (k : Nat) : Sor (l.drop k) := h.sublist (List.drop_sublist k l)
theorem flt_tot {x y : Fc} (h : ¬ (x.d = y.d ∧ x.n = y.n)) (h2 : ¬ FLt y x) : FLt x y := by unfold FLt Lt at *; omega
/-- The next of the first is looked at. -/
theorem JI.a_ {s t : St} {i k : Nat} {L : List Fc} {x : Fc} (h : JI s t i k L) (hs : SS s) (ht : SS t) (hx : s.facts[i]? = some x) (hle : ∀ y, t.facts[k]? = some y → ¬ FLt y x) (hst : stayA s t x = true) : JI s t (i + 1) k (L ++ [x]) := by
  have hd := fdrop_eq hx
  have hsd := hs.2.2.drop i
  rw [hd] at hsd
  have hnb : ∀ g ∈ t.facts.drop k, ¬ FLt g x := by
    cases hy : t.facts[k]? with
    | none => rw [List.drop_eq_nil_of_le (List.getElem?_eq_none_iff.1 hy)]; intro g hg; cases hg
    | some y =>
      have htd := ht.2.2.drop k
      rw [fdrop_eq hy] at htd ⊢
      intro g hg hlt
      rcases List.mem_cons.1 hg with e | h1
      · subst e; exact hle _ hy hlt
      · exact hle _ hy ((htd.head g h1).trans hlt)
  refine ⟨List.pairwise_append.2 ⟨h.sor, List.pairwise_singleton _ _, fun f hf b hb => ?_⟩, fun f => ?_, fun f hf g hg => ?_, fun f hf g hg => ?_⟩
  · rw [List.mem_singleton.1 hb]; exact h.na f hf x (by rw [hd]; simp)
  · rw [List.mem_append, h.mem, ftake_more hx, List.mem_append, List.mem_singleton]
    constructor
    · rintro ((h1 | h1) | h1)
      · exact .inl ⟨.inl h1.1, h1.2⟩
      · exact .inr h1
      · subst h1; exact .inl ⟨.inr rfl, hst⟩
    · rintro (⟨h1 | h1, h2⟩ | h1)
      · exact .inl (.inl ⟨h1, h2⟩)
      · exact .inr h1
      · exact .inl (.inr h1)
  · rcases List.mem_append.1 hf with h1 | h1
    · exact h.na f h1 g (by rw [hd]; simp [hg])
    · rw [List.mem_singleton.1 h1]; exact hsd.head g hg
  · rcases List.mem_append.1 hf with h1 | h1
    · exact h.nb f h1 g hg
    · rw [List.mem_singleton.1 h1]; exact hnb g hg
theorem JI.skipA {s t : St} {i k : Nat} {L : List Fc} {x : Fc} (h : JI s t i k L) (hx : s.facts[i]? = some x) (hst : stayA s t x = false) : JI s t (i + 1) k L := by
  have hd := fdrop_eq hx
  refine ⟨h.sor, fun f => ?_, fun f hf g hg => h.na f hf g (by rw [hd]; simp [hg]), h.nb⟩
  rw [h.mem, ftake_more hx, List.mem_append, List.mem_singleton]
  constructor
  · rintro (h1 | h1)
    · exact .inl ⟨.inl h1.1, h1.2⟩
    · exact .inr h1
  · rintro (⟨h1 | h1, h2⟩ | h1)
    · exact .inl ⟨h1, h2⟩
    · subst h1; rw [hst] at h2; cases h2
    · exact .inr h1
/-- The next of the other is looked at. -/
theorem JI.b_ {s t : St} {i k : Nat} {L : List Fc} {y : Fc} (h : JI s t i k L) (hs : SS s) (ht : SS t) (hy : t.facts[k]? = some y) (hlt : ∀ x, s.facts[i]? = some x → FLt y x) (hst : stayB s y = true) : JI s t i (k + 1) (L ++ [y]) := by
  have hd := fdrop_eq hy
  have htd := ht.2.2.drop k
  rw [hd] at htd
  have hsy : ¬ Has s.seen y.d y.n := by
    unfold stayB at hst
    intro hh
    rw [(hasB_iff _ _ _).2 hh] at hst; cases hst
  have hna : ∀ g ∈ s.facts.drop i, FLt y g := by
    cases hx : s.facts[i]? with
    | none => rw [List.drop_eq_nil_of_le (List.getElem?_eq_none_iff.1 hx)]; intro g hg; cases hg
    | some x =>
      have hsd := hs.2.2.drop i
      rw [fdrop_eq hx] at hsd ⊢
      intro g hg
      rcases List.mem_cons.1 hg with e | h1
      · subst e; exact hlt _ hx
      · exact (hlt _ hx).trans (hsd.head g h1)
  refine ⟨List.pairwise_append.2 ⟨h.sor, List.pairwise_singleton _ _, fun f hf b hb => ?_⟩, fun f => ?_, fun f hf g hg => ?_, fun f hf g hg => ?_⟩
  · rw [List.mem_singleton.1 hb]
    have h2 := h.nb f hf y (by rw [hd]; simp)
    rcases (h.mem f).1 hf with h1 | h1
    · exact flt_tot (fun e => hsy (by rw [← e.1, ← e.2]; exact hs.2.1 f (List.mem_of_mem_take h1.1))) h2
    · obtain ⟨j, hj⟩ := List.mem_iff_getElem?.1 h1.1
      rw [List.getElem?_take] at hj
      split at hj
      · rename_i hjk
        obtain ⟨q1, rfl⟩ := List.getElem?_eq_some_iff.1 hj
        obtain ⟨q2, rfl⟩ := List.getElem?_eq_some_iff.1 hy
        exact List.pairwise_iff_getElem.1 ht.2.2 j k q1 q2 hjk
      · cases hj
  · rw [List.mem_append, h.mem, ftake_more hy, List.mem_append, List.mem_singleton]
    constructor
    · rintro ((h1 | h1) | h1)
      · exact .inl h1
      · exact .inr ⟨.inl h1.1, h1.2⟩
      · subst h1; exact .inr ⟨.inr rfl, hst⟩
    · rintro (h1 | ⟨h1 | h1, h2⟩)
      · exact .inl (.inl h1)
      · exact .inl (.inr ⟨h1, h2⟩)
      · exact .inr h1
  · rcases List.mem_append.1 hf with h1 | h1
    · exact h.na f h1 g hg
    · rw [List.mem_singleton.1 h1]; exact hna g hg
  · rcases List.mem_append.1 hf with h1 | h1
    · exact h.nb f h1 g (by rw [hd]; simp [hg])
    · rw [List.mem_singleton.1 h1]; exact fun q => (htd.head g hg).asym q
theorem JI.skipB {s t : St} {i k : Nat} {L : List Fc} {y : Fc} (h : JI s t i k L) (hy : t.facts[k]? = some y) (hst : stayB s y = false) : JI s t i (k + 1) L := by
  have hd := fdrop_eq hy
  refine ⟨h.sor, fun f => ?_, h.na, fun f hf g hg => h.nb f hf g (by rw [hd]; simp [hg])⟩
  rw [h.mem, ftake_more hy, List.mem_append, List.mem_singleton]
  constructor
  · rintro (h1 | h1)
    · exact .inl h1
    · exact .inr ⟨.inl h1.1, h1.2⟩
  · rintro (h1 | ⟨h1 | h1, h2⟩)
    · exact .inl h1
    · exact .inr ⟨h1, h2⟩
    · subst h1; rw [hst] at h2; cases h2
/-- All have been looked at. -/
theorem JI.done {s t : St} {i k : Nat} {L : List Fc} (h : JI s t i k L) (hs : SS s) (ht : SS t) (hi : s.facts.length ≤ i) (hk : t.facts.length ≤ k) : L = joinF s t :=
  is_join hs ht h.sor fun f => by
    rw [h.mem, List.take_of_length_le hi, List.take_of_length_le hk]
theorem cmp_le {x y : Fc} : decide (cmpD x.d x.n y.d y.n ≤ 0) = !decide (FLt y x) := by
  by_cases h1 : FLt x y
  · have h2 : ¬ FLt y x := fun h => h1.asym h
    rw [cmp_lt h1, decide_eq_false h2]; rfl
  · by_cases h2 : x.d = y.d ∧ x.n = y.n
    · have h3 : ¬ FLt y x := fun h => h.irr ⟨h2.1.symm, h2.2.symm⟩
      rw [cmp_is h1 h2, decide_eq_false h3]; rfl
    · have h3 : FLt y x := flt_tot (fun e => h2 ⟨e.1.symm, e.2.symm⟩) h1
      rw [cmp_gt h1 h2, decide_eq_true h3]; rfl
end Go.Proofs.Ytblndpfgfakdeaa.Dt
