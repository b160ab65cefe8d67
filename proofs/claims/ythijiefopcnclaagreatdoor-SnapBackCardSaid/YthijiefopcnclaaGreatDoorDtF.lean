/- byBegin. The program's Union. -/
import Derived.Test.YthijiefopcnclaaGreatDoorFtA
import Derived.Test.YthijiefopcnclaaGreatDoorDtJoin
import Derived.Test.YthijiefopcnclaaGreatDoorDtB
import Derived.Deep.RegionHeld3
namespace Go.Proofs.YthijiefopcnclaaGreatDoor.Dt
open Go Go.RowKit Go.Proofs.YthijiefopcnclaaGreatDoor.Mm Go.Proofs.YthijiefopcnclaaGreatDoor.Td

/-- The order of where runs begin. -/
def byB (r s : Rn) : Int := orI (cmpI r.d s.d) (cmpI r.f s.f)
theorem byB_neg (r s : Rn) : byB r s < 0 ↔ r.d < s.d ∨ (r.d = s.d ∧ r.f < s.f) := by
  unfold byB orI cmpI
  by_cases h1 : r.d < s.d
  · simp [h1]
  · by_cases h2 : s.d < r.d
    · simp [h1, h2]; omega
    · have e : r.d = s.d := by omega
      by_cases h3 : r.f < s.f
      · simp [h1, h2, h3]; omega
      · by_cases h4 : s.f < r.f
        · simp [h1, h2, h3, h4]
        · simp [h1, h2, h3, h4]
attribute [local go_sem] Td.upon_value Td.upon_skip Td.upon_enter Td.upon_row Td.look_tmp Td.look_const Td.look_func Td.look_global
end Go.Proofs.YthijiefopcnclaaGreatDoor.Dt

namespace Go.Proofs.YthijiefopcnclaaGreatDoor.Dt
open Go Go.RowKit Go.Proofs.YthijiefopcnclaaGreatDoor.Mm Go.Proofs.YthijiefopcnclaaGreatDoor.Td

/-- What is left of a slice behind its first j. -/
def Sub (B : Option Addr) (j L : Nat) (Bj : Option Addr) : Prop := 0 < L → ∃ g o, B = some ⟨g, o, none⟩ ∧ Bj = some ⟨g, o + j * 3, none⟩
theorem Sub.start (B : Option Addr) (L : Nat) {w : World} {b : List Rn} (h : RL w B L b) : Sub B 0 L B := fun hL => by
  obtain ⟨g, o, e, _⟩ := h.2 hL
  exact ⟨g, o, e, by rw [e]; simp⟩
theorem may_len {a : List Rn} {n : Nat} {w : World} {A : Option Addr} (h : RL w A n a) : a.length = n := h.1
attribute [local go_sem] Td.upon_value Td.upon_skip Td.upon_enter Td.upon_row Td.look_tmp Td.look_const Td.look_func Td.look_global
end Go.Proofs.YthijiefopcnclaaGreatDoor.Dt
