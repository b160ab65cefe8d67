/- Buffers as plain lists: what is acked, and asked. -/
import Derived.Test.YtbdpckphlagijaaDoorFtB
set_option linter.unusedVariables false
namespace Go.Proofs.YtbdpckphlagijaaDoor.Dt
open Go

/-- A buffer: the first one's number, and the states. -/
structure Bu where
  first : Int
  l : List St
/-- How many are acked. -/
def ackN (b : Bu) (n : Int) : Nat := min (n - b.first).toNat b.l.length
def ackB (b : Bu) (n : Int) : Bu := ⟨b.first + (ackN b n : Int), b.l.drop (ackN b n)⟩
theorem ack_none {b : Bu} {n : Int} (h : n ≤ b.first) : ackB b n = b := by
  have e : ackN b n = 0 := by unfold ackN; rw [show (n - b.first).toNat = 0 by omega]; exact Nat.zero_min _
  unfold ackB
  rw [e, List.drop_zero]
  cases b
  simp
theorem ack_end (b : Bu) (n : Int) : (ackB b n).first + ((ackB b n).l.length : Int) = b.first + (b.l.length : Int) := by
  unfold ackB
  dsimp only
  rw [List.length_drop]
  have : ackN b n ≤ b.l.length := Nat.min_le_right _ _
  omega
theorem ack_two (b : Bu) (m n : Int) : ackB (ackB b m) n = ackB b (max m n) := by
  have h1 : ackN b m + ackN (ackB b m) n = ackN b (max m n) := by
    unfold ackB ackN
    dsimp only
    rw [List.length_drop]
    omega
  show (⟨(ackB b m).first + (ackN (ackB b m) n : Int), (ackB b m).l.drop (ackN (ackB b m) n)⟩ : Bu) = ⟨b.first + (ackN b (max m n) : Int), b.l.drop (ackN b (max m n))⟩
  rw [← h1]
  show (⟨b.first + (ackN b m : Int) + (ackN (ackB b m) n : Int), (b.l.drop (ackN b m)).drop (ackN (ackB b m) n)⟩ : Bu) = _
  rw [List.drop_drop]
  congr 1
  omega
/-- One behind the other is as at once, as far as the furthest. -/
theorem ack_all (b : Bu) (first : Int) : ∀ (ks : List Int) (most : Int), ks.foldl (fun c k => ackB c (first + k - 5)) (ackB b (first + most - 5)) = ackB b (first + ks.foldl max most - 5)
  | [], most => rfl
  | k :: ks, most => by
    rw [List.foldl_cons, List.foldl_cons, ack_two, show max (first + most - 5) (first + k - 5) = first + max most k - 5 by omega]
    exact ack_all b first ks (max most k)
/-- All of some, and all of the others, are all. -/
theorem all_more (l : List St) (s : St) : allS (l ++ [s]) = joinS (allS l) s := by
  unfold allS; rw [List.foldl_append]; rfl
end Go.Proofs.YtbdpckphlagijaaDoor.Dt
