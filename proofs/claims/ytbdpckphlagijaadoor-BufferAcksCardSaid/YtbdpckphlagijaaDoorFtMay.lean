/- May of a state: the program's and the document's. -/
import Derived.Test.YtbdpckphlagijaaDoorFtA
import Derived.Test.YtbdpckphlagijaaDoorDtPMay
import Derived.Test.YtbdpckphlagijaaDoorDtB
import Derived.Test.YtbdpckphlagijaaDoorDtE
namespace Go.Proofs.YtbdpckphlagijaaDoor.Dt
open Go Go.RowKit Go.Proofs.YtbdpckphlagijaaDoor.Mm Go.Proofs.YtbdpckphlagijaaDoor.Td

theorem MayIs.b {l : List Rn} {w w' : World} {e : Ending} (h : MayIs l w e w') : BoolIs (May l) w e w' := h
/-- Facts as far as they have been looked at. -/
def Good (rs : List Rn) (l : List Fc) : Prop := (∀ f ∈ l, RightF f ∧ Has rs f.d f.n) ∧ Sor l
theorem good_nil (rs : List Rn) : Good rs [] := ⟨fun _ h => by simp at h, List.Pairwise.nil⟩
theorem sor_snoc {l : List Fc} {z x : Fc} (h : Sor (l ++ [z])) (hz : FLt z x) : Sor (l ++ [z] ++ [x]) := by
  refine List.pairwise_append.2 ⟨h, List.pairwise_singleton _ _, fun y hy b hb => ?_⟩
  rw [List.mem_singleton.1 hb]
  rcases List.mem_append.1 hy with h1 | h1
  · exact ((List.pairwise_append.1 h).2.2 y h1 z (by simp)).trans hz
  · rw [List.mem_singleton.1 h1]; exact hz
theorem good_next {rs : List Rn} {l : List Fc} {k : Nat} {x : Fc} (h : Good rs (l.take k)) (hx : l[k]? = some x) (hr : RightF x) (hh : Has rs x.d x.n) (hs : k = 0 ∨ ∃ j z, k = j + 1 ∧ l[j]? = some z ∧ FLt z x) : Good rs (l.take (k + 1)) := by
  rw [ftake_more hx]
  refine ⟨fun f hf => ?_, ?_⟩
  · rcases List.mem_append.1 hf with h1 | h1
    · exact h.1 f h1
    · rw [List.mem_singleton.1 h1]; exact ⟨hr, hh⟩
  · rcases hs with rfl | ⟨j, z, rfl, hz, hl⟩
    · rw [List.take_zero]; exact List.pairwise_singleton _ _
    · have h2 := h.2
      rw [ftake_more hz] at h2 ⊢
      exact sor_snoc h2 hl
theorem not_right {rs : List Rn} {l : List Fc} {k : Nat} {x : Fc} (hx : l[k]? = some x) (h : ¬ RightF x) : ¬ MayS ⟨rs, l⟩ := fun hm => h (hm.2.2.1 x (List.mem_of_getElem? hx)).1
theorem not_has {rs : List Rn} {l : List Fc} {k : Nat} {x : Fc} (hx : l[k]? = some x) (h : ¬ Has rs x.d x.n) : ¬ MayS ⟨rs, l⟩ := fun hm => h (hm.2.2.1 x (List.mem_of_getElem? hx)).2
theorem not_next {rs : List Rn} {l : List Fc} {j : Nat} {z x : Fc} (hz : l[j]? = some z) (hx : l[j + 1]? = some x) (h : ¬ FLt z x) : ¬ MayS ⟨rs, l⟩ := fun hm => h (by
  obtain ⟨hi, rfl⟩ := List.getElem?_eq_some_iff.1 hz
  obtain ⟨hj, rfl⟩ := List.getElem?_eq_some_iff.1 hx
  exact List.pairwise_iff_getElem.1 hm.2.2.2 j (j + 1) hi hj (Nat.lt_succ_self _))
theorem cmp_ge (z x : Fc) : decide (0 ≤ cmpD z.d z.n x.d x.n) = !decide (FLt z x) := by
  by_cases h : FLt z x
  · rw [cmp_lt h, decide_eq_true h]; rfl
  · rw [decide_eq_false h]
    by_cases h2 : z.d = x.d ∧ z.n = x.n
    · rw [cmp_is h h2]; rfl
    · rw [cmp_gt h h2]; rfl
theorem box6 (w : World) (x : Fc) (t : TypeId) : At6 (w.alloc (.cells #[.int .i64 x.d, .int .i64 x.n, .string x.key, .int .i64 x.kind, .string x.item, .int .i64 x.v] t)) w.heap.size 0 x :=
  have h := Row.new w t #[.int .i64 x.d, .int .i64 x.n, .string x.key, .int .i64 x.kind, .string x.item, .int .i64 x.v]
  ⟨h.at_ (i := 0) rfl, h.at_ (i := 1) rfl, h.at_ (i := 2) rfl, h.at_ (i := 3) rfl, h.at_ (i := 4) rfl, h.at_ (i := 5) rfl⟩
attribute [local go_sem] Td.upon_value Td.upon_skip Td.upon_enter Td.upon_row Td.look_tmp Td.look_const Td.look_func Td.look_global

end Go.Proofs.YtbdpckphlagijaaDoor.Dt
