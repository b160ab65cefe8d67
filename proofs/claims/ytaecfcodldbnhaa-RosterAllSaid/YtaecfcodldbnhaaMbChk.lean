/- checkChain, Check. Written by gen_mbchk2.py. -/
import Derived.Test.YtaecfcodldbnhaaMbTail
set_option linter.unusedVariables false
namespace Go.Proofs.Ytaecfcodldbnhaa.Mb
open Go Go.RowKit Go.Proofs.Ytaecfcodldbnhaa.Mm Go.Proofs.Ytaecfcodldbnhaa.Td Go.Proofs.Ytaecfcodldbnhaa.Vw Go.Proofs.Ytaecfcodldbnhaa.Dt

open Go.Proofs.Ytaecfcodldbnhaa.Me
attribute [local go_sem] Td.upon_value Td.upon_skip Td.upon_enter Td.upon_row Td.look_tmp Td.look_const Td.look_func Td.look_global
theorem tail_zero : tailCs [] = #[.int .i64 0, .string ⟨#[]⟩, .bool false, .bool false, .bool false, .bool false, .bool false, .bool false, .bool false, .bool false] := rfl
theorem log_rec {w : World} {g o n : Nat} {l : List Rc} (h : LogL w (some ⟨g, o, none⟩) n l) {i : Nat} {r : Rc} (hr : l[i]? = some r) : g < w.heap.size ∧ RcAt w g (o + i * 6) r := by
  obtain ⟨g', o', e, hg, hc⟩ := log_at h hr
  cases e
  exact ⟨hg, hc⟩
theorem take_rec {l : List Rc} {k : Nat} {r : Rc} (h : l[k]? = some r) : l.take (k + 1) = l.take k ++ [r] := by rw [List.take_add_one, h]; rfl
theorem step_good {l : List Rc} {k : Nat} {r : Rc} (hr : l[k]? = some r) (hg : GoodR (l.take k)) (hm : MayR r) (hs : r.seq = ((l.take k).length : Int) + 1) (hp : r.prev = lastH (l.take k)) (hc : CheckT (l.take k) r.kind r.dev) : GoodR (l.take (k + 1)) := by
  refine good_upto hr hg ⟨hm, hs, hp, fun e => hc.1 (by rw [e]; rfl), fun h1 => ?_, fun h2 => ?_⟩
  · rw [good_mem hg]; exact hc.2.1 h1
  · rw [good_mem hg]; exact hc.2.2 h2
theorem good_step {l : List Rc} {k : Nat} {r : Rc} (hr : l[k]? = some r) (h : GoodR l) : MayR r ∧ r.seq = ((l.take k).length : Int) + 1 ∧ r.prev = lastH (l.take k) ∧ CheckT (l.take k) r.kind r.dev := by
  have hs := h k r hr
  have hg := good_take h k
  refine ⟨hs.1, hs.2.1, hs.2.2.1, fun e => hs.2.2.2.1 (List.length_eq_zero_iff.1 e), fun h1 => ?_, fun h2 => ?_⟩
  · rw [← good_mem hg]; exact hs.2.2.2.2.1 h1
  · rw [← good_mem hg]; exact hs.2.2.2.2.2 h2
end Go.Proofs.Ytaecfcodldbnhaa.Mb
