/- A block that bears a mark behind its cells: plain laws, no program. -/
import Derived.Test.YtbammjhafgbfkaaDoorMem
namespace Go.Proofs.YtbammjhafgbfkaaDoor
open Go Go.RowKit Mm

/-- A block whose cells are cs, none of them frozen (what is frozen lies behind them). -/
def RowF (w : World) (g : Nat) (t : TypeId) (cs : Array Value) : Prop := ∃ f, cs.size ≤ f ∧ w.heap[g]? = some (.cells cs t (f, f + 1))
section
variable {w w' : World} {g : Nat} {t : TypeId} {cs : Array Value}
theorem RowF.at_ (h : RowF w g t cs) {i : Nat} {v : Value} (hv : cs[i]? = some v) : w.cell? ⟨g, i, none⟩ = some v := by
  obtain ⟨f, _, h⟩ := h
  rw [cell_of_row w g i cs t _ h, hv]
theorem RowF.free (h : RowF w g t cs) {i : Nat} (hi : i < cs.size) : w.frozen? ⟨g, i, none⟩ = false := by
  obtain ⟨f, hf, h⟩ := h
  simp [World.frozen?, h]; omega
theorem RowF.kept {r : Option Nat} (h : RowF w g t cs) (hg : w.grownBy w' r) (hn : some g ≠ r) : RowF w' g t cs := by
  obtain ⟨f, hf, h⟩ := h
  exact ⟨f, hf, (hg.block g (Array.getElem?_eq_some_iff.1 h).1 hn).trans h⟩
theorem RowF.set_ (h : RowF w g t cs) (i : Nat) (v : Value) : RowF (w.setCell ⟨g, i, none⟩ v) g t (cs.setIfInBounds i v) := by
  obtain ⟨f, hf, h⟩ := h
  refine ⟨f, by simpa using hf, ?_⟩
  simp [World.setCell, Array.getElem?_modify, h]
theorem RowF.drew (h : RowF w g t cs) : RowF w.drew g t cs := h
end
end Go.Proofs.YtbammjhafgbfkaaDoor
