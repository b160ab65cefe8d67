/- Errors made by errors.New: two of them are different pointers. -/
import Derived.Test.YtdlafgkiddhejaaGreatDoorBase
import Derived.LaidEql
namespace Go.Proofs.YtdlafgkiddhejaaGreatDoor.Sn
open Go Go.RowKit Go.Proofs.YtdlafgkiddhejaaGreatDoor.Wd Go.Proofs.YtdlafgkiddhejaaGreatDoor.Mm

/-- Two variables hold pointers to two different things. -/
def Two (w : World) (g h : Nat) : Prop := ∃ (a b : Addr) (c d : Array Value) (t u : TypeId), w.cell? ⟨g, 0, none⟩ = some (.iface 168 (.pointer (some a))) ∧ w.cell? ⟨h, 0, none⟩ = some (.iface 168 (.pointer (some b))) ∧ a ≠ b ∧
  w.heap[a.block]? = some (.cells c t (0, 0)) ∧ w.heap[b.block]? = some (.cells d u (0, 0))
theorem Two.keep {w w' : World} {g h : Nat} (x : Two w g h) (k : w.grownBy w' none) : Two w' g h := by
  obtain ⟨a, b, c, d, t, u, h1, h2, h3, h4, h5⟩ := x
  exact ⟨a, b, c, d, t, u, (World.cell?_of_block (k.block _ (block_lt_of_cell h1) (by simp))).trans h1, (World.cell?_of_block (k.block _ (block_lt_of_cell h2) (by simp))).trans h2, h3,
    (k.block _ (Array.getElem?_eq_some_iff.1 h4).1 (by simp)).trans h4, (k.block _ (Array.getElem?_eq_some_iff.1 h5).1 (by simp)).trans h5⟩
theorem same {w : World} {g : Nat} {a b : Addr} {t : TypeId} (h1 : w.cell? ⟨g, 0, none⟩ = some (.iface t (.pointer (some a)))) (h2 : w.cell? ⟨g, 0, none⟩ = some (.iface t (.pointer (some b)))) : a = b := by
  have := h1.symm.trans h2
  simpa using this
/-- Three, each with its place. -/
theorem three {w : World} {g h k : Nat} (x : Two w g h) (y : Two w g k) (z : Two w h k) :
    ∃ (a b c : Addr) (ca cb cc : Array Value) (ta tb tc : TypeId), w.cell? ⟨g, 0, none⟩ = some (.iface 168 (.pointer (some a))) ∧ w.cell? ⟨h, 0, none⟩ = some (.iface 168 (.pointer (some b))) ∧ w.cell? ⟨k, 0, none⟩ = some (.iface 168 (.pointer (some c))) ∧
      a ≠ b ∧ a ≠ c ∧ b ≠ c ∧ w.heap[a.block]? = some (.cells ca ta (0, 0)) ∧ w.heap[b.block]? = some (.cells cb tb (0, 0)) ∧ w.heap[c.block]? = some (.cells cc tc (0, 0)) := by
  obtain ⟨a, b, ca, cb, ta, tb, h1, h2, h3, h4, h5⟩ := x
  obtain ⟨a', c, _, cc, _, tc, k1, k2, k3, _, k5⟩ := y
  obtain ⟨b', c', _, _, _, _, l1, l2, l3, _, _⟩ := z
  obtain rfl := same h1 k1
  obtain rfl := same h2 l1
  obtain rfl := same k2 l2
  exact ⟨a, b, c, ca, cb, cc, ta, tb, tc, h1, h2, k2, h3, k3, l3, h4, h5, k5⟩
end Go.Proofs.YtdlafgkiddhejaaGreatDoor.Sn
