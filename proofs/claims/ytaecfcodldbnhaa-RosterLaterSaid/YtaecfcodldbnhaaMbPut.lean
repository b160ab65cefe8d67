/- Records as bytes, as the program makes them. Written by gen_mbput.py. -/
import Derived.Test.YtaecfcodldbnhaaMbMay
import Derived.Test.YtaecfcodldbnhaaMbC
import Derived.Test.YtaecfcodldbnhaaVA
import Derived.Deep.DeepCutAuto
set_option linter.unusedVariables false
namespace Go.Proofs.Ytaecfcodldbnhaa.Mb
open Go Go.RowKit Go.Proofs.Ytaecfcodldbnhaa.Mm Go.Proofs.Ytaecfcodldbnhaa.Td Go.Proofs.Ytaecfcodldbnhaa.Vw Go.Proofs.Ytaecfcodldbnhaa.Dt

attribute [local go_sem] Td.upon_value Td.upon_skip Td.upon_enter Td.upon_row Td.look_tmp Td.look_const Td.look_func Td.look_global
/-- One more list in a row of wires. -/
theorem part_list {w : World} {g n k : Nat} {l : List Wr} {ys : List Wr} {A : Option Addr} {m c : Nat} (h : Part w g l n k) (hk : k < n) (hx : l[k]? = some (lW ys)) (hv : HL w (g + 1) (.slice A m c) ys) :
    Part ((((w.setCell ⟨g, k * 4, none⟩ (.int .i64 3)).setCell ⟨g, k * 4 + 1, none⟩ (.int .i64 0)).setCell ⟨g, k * 4 + 2, none⟩ (.string ⟨#[]⟩)).setCell ⟨g, k * 4 + 3, none⟩ (.slice A m c)) g l n (k + 1) := by
  have h2 := h.more (v := .slice A m c) (gb_refl _ _) (fun cs hr => hr) hk hx (show HL w (g + 1) (.slice A m c) (lW ys).l from hv)
  unfold lW at h2
  simpa only [Wr.k_mk, Wr.n_mk, Wr.s_mk, Wr.l_mk] using h2
theorem strs1 (w : World) (p : ByteArray) : Hh.Strs (w.alloc (.cells #[.string p] 9)) (some ⟨w.heap.size, 0, none⟩) 1 [p] := by
  refine ⟨rfl, fun _ => ⟨w.heap.size, 0, rfl, by simp, fun i hi => ?_⟩⟩
  obtain rfl : i = 0 := by omega
  exact cell_of_row _ _ 0 #[.string p] 9 (0, 0) (heap_alloc_new _ _)
theorem cat1 (p : ByteArray) : Hh.catB [p] = p.data.toList := by simp [Hh.catB]
theorem small1 {p : ByteArray} (h : p.size ≤ 2000) : ∀ i, i < 1 → (([p] : List ByteArray).getD i ByteArray.empty).size ≤ 9223372036854775807 := fun i hi => by
  obtain rfl : i = 0 := by omega
  show p.size ≤ _
  omega
end Go.Proofs.Ytaecfcodldbnhaa.Mb
