/- joined: a run joined to what lies behind, in the slice's own memory. -/
import Derived.Test.YthijiefopcnclaaGreatDoorDtPMay
import Derived.Test.YthijiefopcnclaaGreatDoorDtA
import Derived.Test.YthijiefopcnclaaGreatDoorDtB
import Derived.Deep.AppendLies
import Derived.Laws.OwnMore
namespace Go.Proofs.YthijiefopcnclaaGreatDoor.Dt
open Go Go.RowKit Go.Proofs.YthijiefopcnclaaGreatDoor.Mm Go.Proofs.YthijiefopcnclaaGreatDoor.Td

theorem ints3' (x y z : Int) : ∀ u ∈ [Value.int .i64 x, .int .i64 y, .int .i64 z], u.oneCell' = true := by
  intro u hu
  simp only [List.mem_cons, List.not_mem_nil, or_false] at hu
  obtain rfl | rfl | rfl := hu <;> rfl
theorem rv_set' (l : List Rn) (r : Rn) (t : Int) : (rv (l ++ [r])).set (l.length * 3 + 2) (.int .i64 t) = rv (l ++ [⟨r.d, r.f, t⟩]) := by
  rw [rv_append, rv_append, List.set_append_right _ _ (by rw [rv_len]; omega), rv_len, show l.length * 3 + 2 - l.length * 3 = 2 by omega]; rfl
theorem news3 (w : World) (x y z : Int) (t : TypeId) : ∀ j u, [Value.int .i64 x, .int .i64 y, .int .i64 z][j]? = some u → (w.alloc (.cells #[.int .i64 x, .int .i64 y, .int .i64 z] t)).cell? ((⟨w.heap.size, 0, none⟩ : Addr).add j) = some u :=
  World.news_of_block (cs := #[.int .i64 x, .int .i64 y, .int .i64 z]) (t := t) (fr := (0, 0)) (heap_alloc_new w _)
/-- The last run of a row that the call owns. -/
theorem own_last {w : World} {B M c gO : Nat} {s : Rn} {rs : List Rn} (h : w.ownsRow B 50 3 (.slice (some ⟨gO, 0, none⟩) (M + 1) c) (M + 1) (rv (s :: rs).reverse)) (hM : rs.length = M) : At3 w gO (M * 3) s := by
  have hx : (s :: rs).reverse[M]? = some s := by rw [List.reverse_cons, List.getElem?_append_right (by simp; omega)]; simp [hM]
  obtain ⟨r0, r1, r2⟩ := rv_at _ M s hx
  exact ⟨by rw [World.ownsRow.cellAt h _ (by omega)]; exact r0, by rw [World.ownsRow.cellAt h _ (by omega)]; exact r1, by rw [World.ownsRow.cellAt h _ (by omega)]; exact r2⟩
/-- What joined leaves. -/
def Joined (B : Nat) (v : Value) (rs : List Rn) (r : Rn) (w : World) (e : Ending) (w' : World) : Prop := ∃ A' c', e = .returned (.slice A' (jn rs r).length c') ∧ w'.ownsRow B 50 3 (.slice A' (jn rs r).length c') (jn rs r).length (rv (jn rs r).reverse) ∧ w.grownBy w' v.ownBlock ∧ ∀ i, Value.ownBlock (.slice A' (jn rs r).length c') = some i → v.ownBlock = some i ∨ w.heap.size ≤ i
attribute [local go_sem] Td.upon_value Td.upon_skip Td.upon_enter Td.upon_row Td.look_tmp Td.look_const Td.look_func Td.look_global
end Go.Proofs.YthijiefopcnclaaGreatDoor.Dt
