/- What the laws lean on: lengths, and the laws of sets as lists. No program but for Runs. -/
import Derived.Test.YtkibojoochlggaaDtLaw
namespace Go.Proofs.Ytkibojoochlggaa.Dt
open Go Go.RowKit Go.Proofs.Ytkibojoochlggaa.Mm

/-- Runs, their number by a name. -/
def RunsN (L : Nat) (l : List Rn) (w : World) (e : Ending) (w' : World) : Prop := ∃ A c, e = .returned (.slice A L c) ∧ RL w' A L l ∧ L ≤ c ∧ w.grownBy w' none
theorem Runs.n {l : List Rn} {w w' : World} {e : Ending} {L : Nat} (h : Runs l w e w') (hl : l.length = L) : RunsN L l w e w' := by
  obtain ⟨A, c, rfl, hr, ⟨_, hc⟩, g⟩ := h
  subst hl
  exact ⟨A, c, rfl, hr, hc, g⟩
theorem up_len (a b : List Rn) (al : Bool) : ∀ k, (upR a b al k).length ≤ k * (2 * (a.length + b.length))
  | 0 => by simp [upR]
  | k + 1 => by
    have h := up_len a b al k
    have h2 := mix_len_le (k : Int) a b al
    rw [upR, List.length_append, Nat.succ_mul]; omega
theorem union_len (a b : List Rn) : (unionR a b).length ≤ 16 * (a.length + b.length) := by have := up_len a b false 8; unfold unionR; omega
theorem minus_len (a b : List Rn) : (minusR a b).length ≤ 16 * (a.length + b.length) := by have := up_len a b true 8; unfold minusR; omega
theorem set_len (bs : List Int) : (ofR [] (dotsN bs)).length ≤ bs.length := by
  have := of_len (dotsN bs)
  unfold dotsN at this ⊢
  rwa [List.length_map] at this

variable {a b c : List Rn}
theorem law_comm (ha : May a) (hb : May b) : unionR a b = unionR b a :=
  canon _ _ (union_may ha hb) (union_may hb ha) fun d n => by rw [union_has ha hb, union_has hb ha]; exact Or.comm
theorem law_assoc (ha : May a) (hb : May b) (hc : May c) : unionR (unionR a b) c = unionR a (unionR b c) :=
  canon _ _ (union_may (union_may ha hb) hc) (union_may ha (union_may hb hc)) fun d n => by
    rw [union_has (union_may ha hb) hc, union_has ha hb, union_has ha (union_may hb hc), union_has hb hc]; exact or_assoc
theorem law_self (ha : May a) : unionR a a = a := canon _ _ (union_may ha ha) ha fun d n => by rw [union_has ha ha]; exact or_self_iff
theorem law_whole (ha : May a) (hb : May b) : unionR (minusR a b) (minusR a (minusR a b)) = a :=
  canon _ _ (union_may (minus_may ha hb) (minus_may ha (minus_may ha hb))) ha fun d n => by
    rw [union_has (minus_may ha hb) (minus_may ha (minus_may ha hb)), minus_has ha (minus_may ha hb), minus_has ha hb]
    by_cases h1 : Has a d n <;> by_cases h2 : Has b d n <;> simp [h1, h2]
theorem law_both (ha : May a) (hb : May b) : leB (minusR a (minusR a b)) b = true :=
  (leB_iff (minus_may ha (minus_may ha hb)) hb).2 fun d n h => by
    rw [minus_has ha (minus_may ha hb), minus_has ha hb] at h
    by_cases h2 : Has b d n
    · exact h2
    · exact absurd ⟨h.1, h2⟩ h.2
theorem law_less (ha : May a) (hb : May b) : leB (minusR a b) a = true := (leB_iff (minus_may ha hb) ha).2 fun d n h => ((minus_has ha hb d n).1 h).1
theorem law_more (ha : May a) (hb : May b) : leB a (unionR a b) = true := (leB_iff ha (union_may ha hb)).2 fun d n h => (union_has ha hb d n).2 (.inl h)
theorem law_none (ha : May a) (hb : May b) : (minusR (minusR a b) a).length = 0 := (minus_nil (minus_may ha hb) ha).2 (law_less ha hb)
theorem law_nil (ha : May a) (hb : May b) (L : Nat) (hL : (minusR a b).length = L) : ((L : Int) == 0) = leB a b := by
  have h := minus_nil ha hb
  rw [hL] at h
  cases hl : leB a b with
  | true => rw [h.2 hl]; rfl
  | false =>
    rw [beq_eq_false_iff_ne]
    intro e
    have : L = 0 := by omega
    rw [h.1 this] at hl; cases hl
theorem union_hasB (ha : May a) (hb : May b) (d n : Int) : hasB (unionR a b) d n = (hasB a d n || hasB b d n) := by
  rw [Bool.eq_iff_iff, hasB_iff, union_has ha hb, Bool.or_eq_true, hasB_iff, hasB_iff]
theorem minus_hasB (ha : May a) (hb : May b) (d n : Int) : hasB (minusR a b) d n = (hasB a d n && !hasB b d n) := by
  rw [Bool.eq_iff_iff, hasB_iff, minus_has ha hb, Bool.and_eq_true, Bool.not_eq_true', hasB_iff, Bool.eq_false_iff, ne_eq, hasB_iff]
end Go.Proofs.Ytkibojoochlggaa.Dt
