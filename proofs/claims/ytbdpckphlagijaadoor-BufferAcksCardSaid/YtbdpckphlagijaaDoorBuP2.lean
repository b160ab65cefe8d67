/- Deltas of one device's deeds: all of them together are what was done. -/
import Derived.Test.YtbdpckphlagijaaDoorBuP
import Derived.Test.YtbdpckphlagijaaDoorFtB
set_option linter.unusedVariables false
namespace Go.Proofs.YtbdpckphlagijaaDoor.Dt
open Go

theorem all_may_from {K : Nat} (hK : K ≤ 50) : ∀ {l : List St} {a : St}, MayS a ∧ Low a K → (∀ s ∈ l, MayS s ∧ Low s K) → MayS (l.foldl joinS a) ∧ Low (l.foldl joinS a) K
  | [], a, ha, _ => ha
  | s :: l, a, ha, h => by
    have hs := h s (List.mem_cons_self ..)
    exact all_may_from hK (l := l) (a := joinS a s) ⟨may_join ha.1 hs.1 ha.2 hs.2 hK, low_join ha.1.ss hs.1.ss ha.2 hs.2⟩ fun x hx => h x (List.mem_cons_of_mem _ hx)
/-- What few deeds make, joined, may be. -/
theorem all_may {K : Nat} (hK : K ≤ 50) {l : List St} (h : ∀ s ∈ l, MayS s ∧ Low s K) : MayS (allS l) ∧ Low (allS l) K :=
  all_may_from hK ⟨none_may, fun d n hh => by have := low_none d n hh; omega⟩ h
theorem doS_low {s : St} {dev : Int} {o : Opn} {K : Nat} (hs : MayS s) (hl : Low s K) (h : (doS s dev o).2 = 0) : Low (doS s dev o).1 (K + 1) := fun d n hh => by
  obtain ⟨e, hb, -, ho, -⟩ := do_is h
  rw [e] at hh
  rcases (delta_has hs.ss hb ho d n).1 hh with ⟨f, hf, -, rfl, rfl⟩ | ⟨-, rfl, rfl⟩
  · have := hl _ _ (hs.ss.2.1 f hf)
    omega
  · have := last_le hs.1 K hl d
    omega
/-- The deltas so far, and the state. -/
def deltaK (ns : List Int) : Nat → List St × St
  | 0 => ([], none_)
  | k + 1 =>
    if (doS (deltaK ns k).2 1 (opN (ns.getD (2 * k) 0) (ns.getD (2 * k + 1) 0))).2 = 0 then
      ((deltaK ns k).1 ++ [(doS (deltaK ns k).2 1 (opN (ns.getD (2 * k) 0) (ns.getD (2 * k + 1) 0))).1], joinS (deltaK ns k).2 (doS (deltaK ns k).2 1 (opN (ns.getD (2 * k) 0) (ns.getD (2 * k + 1) 0))).1)
    else deltaK ns k
theorem deltaK_len (ns : List Int) : ∀ k, (deltaK ns k).1.length ≤ k
  | 0 => Nat.le_refl _
  | k + 1 => by
    have := deltaK_len ns k
    rw [deltaK]
    split
    · rw [List.length_append, List.length_singleton]; omega
    · omega
theorem deltaK_is (ns : List Int) : ∀ k, (MayS (deltaK ns k).2 ∧ Low (deltaK ns k).2 k) ∧ (∀ s ∈ (deltaK ns k).1, MayS s ∧ Low s k) ∧ allS (deltaK ns k).1 = (deltaK ns k).2
  | 0 => ⟨⟨none_may, low_none⟩, fun _ h => (by cases h), rfl⟩
  | k + 1 => by
    obtain ⟨⟨h1, h2⟩, h3, h4⟩ := deltaK_is ns k
    rw [deltaK]
    split
    · rename_i h
      have hd := do_may h1 h
      have hl := doS_low h1 h2 h
      refine ⟨⟨hd.2, low_join h1.ss hd.1.ss (h2.more (Nat.le_succ k)) hl⟩, fun s hs => ?_, ?_⟩
      · rcases List.mem_append.1 hs with hs | hs
        · exact ⟨(h3 s hs).1, (h3 s hs).2.more (Nat.le_succ k)⟩
        · rw [List.mem_singleton.1 hs]; exact ⟨hd.1, hl⟩
      · rw [all_more, h4]
    · exact ⟨⟨h1, h2.more (Nat.le_succ k)⟩, fun s hs => ⟨(h3 s hs).1, (h3 s hs).2.more (Nat.le_succ k)⟩, h4⟩
/-- Those from a number on, so many of them: what is asked of a buffer. -/
def sinceB (b : Bu) (n many : Int) : Option St := if n < b.first ∨ b.first + (b.l.length : Int) < n ∨ many < 0 then none else some (allS ((b.l.drop (n - b.first).toNat).take many.toNat))
theorem since_all {b : Bu} : sinceB b b.first (b.l.length : Int) = some (allS b.l) := by
  unfold sinceB
  rw [if_neg (by omega), show (b.first - b.first).toNat = 0 by omega, List.drop_zero, Int.toNat_natCast, List.take_length]
theorem since_head {b : Bu} (k : Nat) : sinceB b b.first (k : Int) = some (allS (b.l.take k)) := by
  unfold sinceB
  rw [if_neg (by omega), show (b.first - b.first).toNat = 0 by omega, List.drop_zero, Int.toNat_natCast]
theorem since_tail {b : Bu} {k : Nat} (hk : k ≤ b.l.length) {m : Int} (hm : (b.l.length : Int) ≤ m) : sinceB b (b.first + (k : Int)) m = some (allS (b.l.drop k)) := by
  unfold sinceB
  rw [if_neg (by omega), show (b.first + (k : Int) - b.first).toNat = k by omega, List.take_of_length_le (by rw [List.length_drop]; omega)]
theorem ackB_at {b : Bu} {k : Nat} (hk : k ≤ b.l.length) : ackB b (b.first + (k : Int)) = ⟨b.first + (k : Int), b.l.drop k⟩ := by
  have e : ackN b (b.first + (k : Int)) = k := by unfold ackN; rw [show (b.first + (k : Int) - b.first).toNat = k by omega]; exact Nat.min_eq_left hk
  unfold ackB; rw [e]
/-- What was acked is asked no more, and what is left is as before. -/
theorem since_acked {b : Bu} {k : Nat} (hk : k ≤ b.l.length) {m : Int} (hm : (b.l.length : Int) ≤ m) : sinceB (ackB b (b.first + (k : Int))) (b.first + (k : Int)) m = sinceB b (b.first + (k : Int)) m := by
  rw [since_tail hk hm, ackB_at hk]
  have := @since_tail ⟨b.first + (k : Int), b.l.drop k⟩ 0 (Nat.zero_le _) m (by show ((b.l.drop k).length : Int) ≤ m; rw [List.length_drop]; omega)
  rw [show ((⟨b.first + (k : Int), b.l.drop k⟩ : Bu).first + ((0 : Nat) : Int)) = b.first + (k : Int) by simp, List.drop_zero] at this
  exact this
theorem since_below {b : Bu} {n m : Int} (h : n < b.first) : sinceB b n m = none := by unfold sinceB; rw [if_pos (.inl h)]
theorem since_above {b : Bu} {n m : Int} (h : b.first + (b.l.length : Int) < n) : sinceB b n m = none := by unfold sinceB; rw [if_pos (.inr (.inl h))]
end Go.Proofs.YtbdpckphlagijaaDoor.Dt
