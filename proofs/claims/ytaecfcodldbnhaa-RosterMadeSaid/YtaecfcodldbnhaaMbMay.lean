/- Which records may be, as the program tells it. Written by gen_mbmay.py. -/
import Derived.Test.YtaecfcodldbnhaaMbW
set_option linter.unusedVariables false
namespace Go.Proofs.Ytaecfcodldbnhaa.Mb
open Go Go.RowKit Go.Proofs.Ytaecfcodldbnhaa.Mm Go.Proofs.Ytaecfcodldbnhaa.Td Go.Proofs.Ytaecfcodldbnhaa.Vw Go.Proofs.Ytaecfcodldbnhaa.Dt

attribute [local go_sem] Td.upon_value Td.upon_skip Td.upon_enter Td.upon_row Td.look_tmp Td.look_const Td.look_func Td.look_global
theorem eq_yes {a b : Int} (h : a = b) : (a == b) = true := by rw [h]; exact beq_self_eq_true _
theorem eq_no {a b : Int} (h : a ≠ b) : (a == b) = false := by rw [beq_eq_false_iff_ne]; exact h
/-- Wraps that may be, by rising devices. -/
def WrapsOk (l : List Wp) : Prop := (∀ w ∈ l, RightW w) ∧ RiseW l
theorem take_snoc {l : List Wp} {k : Nat} {x : Wp} (hx : l[k]? = some x) : l.take (k + 1) = l.take k ++ [x] := by rw [List.take_add_one, hx]; rfl
theorem last_take {l : List Wp} {j : Nat} {z : Wp} (hz : l[j]? = some z) : (l.take (j + 1)).getLast? = some z := by rw [take_snoc hz, List.getLast?_concat]
theorem wraps_nil {l : List Wp} : WrapsOk (l.take 0) := ⟨fun w h => by simp at h, rise_nil⟩
theorem wraps_next {l : List Wp} {k : Nat} {x : Wp} (h : WrapsOk (l.take k)) (hx : l[k]? = some x) (hr : RightW x) (hp : ∀ j z, k = j + 1 → l[j]? = some z → z.d < x.d) : WrapsOk (l.take (k + 1)) := by
  rw [take_snoc hx]
  refine ⟨fun w hw => ?_, rise_snoc.2 ⟨h.2, fun a ha => ?_⟩⟩
  · rcases List.mem_append.1 hw with h1 | h1
    · exact h.1 w h1
    · rw [List.mem_singleton.1 h1]; exact hr
  · cases k with
    | zero => simp at ha
    | succ j =>
      obtain ⟨z, hz⟩ : ∃ z, l[j]? = some z := ⟨_, List.getElem?_eq_getElem (by have := (List.getElem?_eq_some_iff.1 hx).1; omega)⟩
      rw [last_take hz] at ha
      obtain rfl := Option.some.inj ha
      exact hp j z rfl hz
theorem wraps_bad {l : List Wp} {k : Nat} {x : Wp} (hx : l[k]? = some x) (hr : ¬ RightW x) : ¬ WrapsOk l := fun h => hr (h.1 x (List.mem_of_getElem? hx))
theorem wraps_fall {l : List Wp} {j : Nat} {z x : Wp} (hz : l[j]? = some z) (hx : l[j + 1]? = some x) (h : x.d ≤ z.d) : ¬ WrapsOk l := fun k => by
  have := k.2 j z x hz hx
  omega
theorem wraps_all {l : List Wp} {n : Nat} (h : WrapsOk (l.take n)) (hn : l.length = n) : WrapsOk l := by rwa [List.take_of_length_le (by omega)] at h
theorem wbox {w : World} {x : Wp} {t : TypeId} : WAt (w.alloc (.cells #[.int .i64 x.d, .string x.box] t)) w.heap.size 0 x := ⟨(Row.new w t _).at_ (i := 0) rfl, (Row.new w t _).at_ (i := 1) rfl⟩
theorem wl_of {w : World} {g o n : Nat} {l : List Wp} (h : WL w (some ⟨g, o, none⟩) n l) {i : Nat} {x : Wp} (hx : l[i]? = some x) : g < w.heap.size ∧ WAt w g (o + i * 2) x := by
  obtain ⟨g', o', e, hg, hc⟩ := wl_at h hx
  cases e
  exact ⟨hg, hc⟩
theorem at_last {l : List Wp} {j : Nat} {z : Wp} {d : Int} (hz : l[j]? = some z) (h : z.d < d) : ∀ i y, j + 1 = i + 1 → l[i]? = some y → y.d < d := fun i y e hy => by
  obtain rfl : j = i := by omega
  rw [hz] at hy
  obtain rfl := Option.some.inj hy
  exact h
end Go.Proofs.Ytaecfcodldbnhaa.Mb
