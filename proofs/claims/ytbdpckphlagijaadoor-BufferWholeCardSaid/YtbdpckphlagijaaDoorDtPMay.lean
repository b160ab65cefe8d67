/- The program's May. -/
import Derived.Test.YtbdpckphlagijaaDoorFtA
import Derived.Test.YtbdpckphlagijaaDoorDtB
namespace Go.Proofs.YtbdpckphlagijaaDoor.Dt
open Go Go.RowKit Go.Proofs.YtbdpckphlagijaaDoor.Mm Go.Proofs.YtbdpckphlagijaaDoor.Td

/-- The three cells of a run lie here. -/
def At3 (W : World) (g o : Nat) (r : Rn) : Prop := W.cell? ⟨g, o, none⟩ = some (.int .i64 r.d) ∧ W.cell? ⟨g, o + 1, none⟩ = some (.int .i64 r.f) ∧ W.cell? ⟨g, o + 2, none⟩ = some (.int .i64 r.t)
theorem At3.keep {W W' : World} {g o : Nat} {r : Rn} (h : At3 W g o r) (hg : g < W.heap.size) (k : W.grownBy W' none) : At3 W' g o r := by
  have hb := k.block g hg (by simp)
  obtain ⟨h0, h1, h2⟩ := h
  exact ⟨(World.cell?_of_block (a := ⟨g, o, none⟩) hb).trans h0, (World.cell?_of_block (a := ⟨g, o + 1, none⟩) hb).trans h1, (World.cell?_of_block (a := ⟨g, o + 2, none⟩) hb).trans h2⟩
theorem At3.kept {W W' : World} {g o : Nat} {r : Rn} {row : Option Nat} (h : At3 W g o r) (hg : g < W.heap.size) (k : W.grownBy W' row) (hr : some g ≠ row) : At3 W' g o r := by
  have hb := k.block g hg hr
  obtain ⟨h0, h1, h2⟩ := h
  exact ⟨(World.cell?_of_block (a := ⟨g, o, none⟩) hb).trans h0, (World.cell?_of_block (a := ⟨g, o + 1, none⟩) hb).trans h1, (World.cell?_of_block (a := ⟨g, o + 2, none⟩) hb).trans h2⟩
theorem box3 (w : World) (r : Rn) (t : TypeId) : At3 (w.alloc (.cells #[.int .i64 r.d, .int .i64 r.f, .int .i64 r.t] t)) w.heap.size 0 r :=
  ⟨(Row.new w t _).at_ (i := 0) rfl, (Row.new w t _).at_ (i := 1) rfl, (Row.new w t _).at_ (i := 2) rfl⟩
theorem rl_at3 {w : World} {g o n : Nat} {l : List Rn} (h : RL w (some ⟨g, o, none⟩) n l) {i : Nat} {x : Rn} (hx : l[i]? = some x) : At3 w g (o + i * 3) x := by
  have hi : i < l.length := (List.getElem?_eq_some_iff.1 hx).1
  obtain ⟨g', o', e, _, hc⟩ := h.2 (by have := h.1; omega)
  cases e
  exact hc i x hx
attribute [local go_sem] Td.upon_value Td.upon_skip Td.upon_enter Td.upon_row Td.look_tmp Td.look_const Td.look_func Td.look_global
end Go.Proofs.YtbdpckphlagijaaDoor.Dt
