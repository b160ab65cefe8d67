/- Why there is no next record, by Booleans. Written by gen_wcdc.py. -/
import Derived.Test.YtpcjbjpofcdjeaaGreatDoorWcPq
set_option linter.unusedVariables false
namespace Go.Proofs.YtpcjbjpofcdjeaaGreatDoor.Wc
open Go Go.RowKit Mm Td Vw Dt
open Mb Ro
def deedB (a b c d e z g m q : Bool) : Int := if (!(a || b) || c || d || !e || (g && !(a && z)) || (b && z)) = true then 1 else if (a && q) = true then 3 else if (b && !q) = true then 2 else if m = true then 12 else 0
theorem deed_tree : ∀ a b c d e z g m q : Bool, (a && b) = false → (a = false ∧ b = false) ∨ (a = true ∧ b = false ∧ c = true) ∨ (a = true ∧ b = false ∧ c = false ∧ d = true) ∨ (a = true ∧ b = false ∧ c = false ∧ d = false ∧ e = false) ∨ (a = true ∧ b = false ∧ c = false ∧ d = false ∧ e = true ∧ z = false ∧ g = true) ∨ (a = true ∧ b = false ∧ c = false ∧ d = false ∧ e = true ∧ z = true ∧ g = true ∧ q = true) ∨ (a = true ∧ b = false ∧ c = false ∧ d = false ∧ e = true ∧ z = true ∧ g = true ∧ m = true ∧ q = false) ∨ (a = true ∧ b = false ∧ c = false ∧ d = false ∧ e = true ∧ z = true ∧ g = true ∧ m = false ∧ q = false) ∨ (a = true ∧ b = false ∧ c = false ∧ d = false ∧ e = true ∧ z = true ∧ g = false ∧ q = true) ∨ (a = true ∧ b = false ∧ c = false ∧ d = false ∧ e = true ∧ z = true ∧ g = false ∧ m = true ∧ q = false) ∨ (a = true ∧ b = false ∧ c = false ∧ d = false ∧ e = true ∧ z = true ∧ g = false ∧ m = false ∧ q = false) ∨ (a = true ∧ b = false ∧ c = false ∧ d = false ∧ e = true ∧ z = false ∧ g = false ∧ q = true) ∨ (a = true ∧ b = false ∧ c = false ∧ d = false ∧ e = true ∧ z = false ∧ g = false ∧ m = true ∧ q = false) ∨ (a = true ∧ b = false ∧ c = false ∧ d = false ∧ e = true ∧ z = false ∧ g = false ∧ m = false ∧ q = false) ∨ (a = false ∧ b = true ∧ c = true) ∨ (a = false ∧ b = true ∧ c = false ∧ d = true) ∨ (a = false ∧ b = true ∧ c = false ∧ d = false ∧ e = false) ∨ (a = false ∧ b = true ∧ c = false ∧ d = false ∧ e = true ∧ z = true ∧ g = true) ∨ (a = false ∧ b = true ∧ c = false ∧ d = false ∧ e = true ∧ z = true ∧ g = false) ∨ (a = false ∧ b = true ∧ c = false ∧ d = false ∧ e = true ∧ z = false ∧ g = true) ∨ (a = false ∧ b = true ∧ c = false ∧ d = false ∧ e = true ∧ z = false ∧ g = false ∧ q = false) ∨ (a = false ∧ b = true ∧ c = false ∧ d = false ∧ e = true ∧ z = false ∧ g = false ∧ m = true ∧ q = true) ∨ (a = false ∧ b = true ∧ c = false ∧ d = false ∧ e = true ∧ z = false ∧ g = false ∧ m = false ∧ q = true) := by
 intro a b c d e z g m q
 cases a <;> cases b <;> cases c <;> cases d <;> cases e <;> cases z <;> cases g <;> cases m <;> cases q <;> simp
theorem deed_facts {l : List Rc} {kind dev : Int} {n : Nat} {q : Bool} (hn : l.length = n) (hq : inB l (n : Int) dev = q) : ∃ a b c d e z g m : Bool, (kind == 1) = a ∧ (kind == 2) = b ∧ decide (dev < 0) = c ∧ decide (8 ≤ dev) = d ∧ (e = true ↔ ChainR l) ∧ (dev == 0) = z ∧ (n == 0) = g ∧ decide (40 ≤ n) = m ∧ deedE l kind dev = deedB a b c d e z g m q ∧ (a && b) = false := by
 subst hn
 obtain ⟨e, he⟩ : ∃ e : Bool, (e = true ↔ ChainR l) := by
  by_cases h : ChainR l
  ·exact ⟨true, by simp [h]⟩
  ·exact ⟨false, by simp [h]⟩
 refine ⟨_, _, _, _, e, _, _, _, rfl, rfl, rfl, rfl, he, rfl, rfl, rfl, ?_, ?_⟩
 ·have hA : DeedArg l kind dev ↔ (!((kind == 1) || (kind == 2)) || decide (dev < 0) || decide (8 ≤ dev) || !e || ((l.length == 0) && !((kind == 1) && (dev == 0))) || ((kind == 2) && (dev == 0))) = true := by
   unfold DeedArg
   simp only [Bool.or_eq_true, Bool.not_eq_true', Bool.and_eq_true, decide_eq_true_eq, beq_iff_eq, Bool.or_eq_false_iff, beq_eq_false_iff_ne, Bool.and_eq_false_iff]
   rw [← he]
   cases e
   ·simp
   ·simp only [reduceCtorEq, not_true_eq_false, false_or, or_false]
    omega
  have hB : (kind = 1 ∧ inB l (l.length : Int) dev = true) ↔ ((kind == 1) && q) = true := by rw [hq]; simp
  have hC : (kind = 2 ∧ inB l (l.length : Int) dev = false) ↔ ((kind == 2) && !q) = true := by rw [hq]; simp
  unfold deedE deedB
  simp only [hA, hB, hC, decide_eq_true_eq]
 ·by_cases h : kind = 1
  ·rw [h]; rfl
  ·rw [show (kind == 1) = false from by rw [beq_eq_false_iff_ne]; exact h]; rfl
end Go.Proofs.YtpcjbjpofcdjeaaGreatDoor.Wc
