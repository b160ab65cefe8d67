/- What the laws of stage 15 share. Written by gen_mblaw.py. -/
import Derived.Test.YtaecfcodldbnhaaMbChk
import Derived.Test.YtaecfcodldbnhaaMbGet
import Derived.Test.YtaecfcodldbnhaaMbSame
import Derived.Test.YtaecfcodldbnhaaMbRefC
set_option linter.unusedVariables false
namespace Go.Proofs.Ytaecfcodldbnhaa.Mb
open Go Go.RowKit Go.Proofs.Ytaecfcodldbnhaa.Mm Go.Proofs.Ytaecfcodldbnhaa.Td Go.Proofs.Ytaecfcodldbnhaa.Vw Go.Proofs.Ytaecfcodldbnhaa.Dt

open Go.Proofs.Ytaecfcodldbnhaa.Me
attribute [local go_sem] Td.upon_value Td.upon_skip Td.upon_enter Td.upon_row Td.look_tmp Td.look_const Td.look_func Td.look_global
theorem isRec_rec {r : Rc} (h : MayR r) : IsRec (recB r).data.toList r := ⟨h, by rw [recB_yes h]⟩
theorem recB_len (r : Rc) : (recB r).data.toList.length ≤ 2000 := by
  have h := recB_size (r := r)
  have e : (recB r).data.toList.length = (recB r).size := by rw [Array.length_toList]; rfl
  omega
/-- Records without wraps in a row of their own. -/
theorem log_bare {W : World} {g : Nat} {T : TypeId} {l : List Rc} (hr : Row W g T (bv l).toArray) (h0 : ∀ r ∈ l, r.wraps = []) : LogL W (some ⟨g, 0, none⟩) l.length l := by
  refine ⟨rfl, fun _ => ⟨g, 0, rfl, hr.lt, fun i x hx => ?_⟩⟩
  have hat : ∀ j u, (bv l)[j]? = some u → W.cell? ⟨g, 0 + j, none⟩ = some u := fun j u hu => by
    rw [Nat.zero_add]
    exact hr.at_ (by rw [List.getElem?_toArray]; exact hu)
  have r := bv_at l i x hx
  have hw := h0 x (List.mem_of_getElem? hx)
  refine ⟨none, 0, hat _ _ (r 0 (by decide)), hat _ _ (r 1 (by decide)), hat _ _ (r 2 (by decide)), hat _ _ (r 3 (by decide)), ?_, hat _ _ (r 5 (by decide)), ?_, ?_⟩
  · rw [hw]; exact hat _ _ (r 4 (by decide))
  · rw [hw]; exact WL.none _ _
  · rw [hw]; exact Nat.le_refl _
theorem bare_len {l : List Rc} (h0 : ∀ r ∈ l, r.wraps = []) : ∀ r ∈ l, r.wraps.length ≤ 1099511627776 := fun r hr => by rw [h0 r hr]; exact Nat.zero_le _
theorem chain_nil : ChainR [] := ⟨Nat.zero_le _, good_nil⟩
theorem chain_first : ChainR [firstR] := ⟨by decide, first_good⟩
theorem first_may : MayR firstR := first_step.1
theorem one_bare {r : Rc} (h : r.wraps = []) : ∀ x ∈ [r], x.wraps = [] := fun x hx => by rw [List.mem_singleton.1 hx]; exact h
theorem two_bare {r t : Rc} (h : r.wraps = []) (k : t.wraps = []) : ∀ x ∈ [r, t], x.wraps = [] := fun x hx => by
  rcases List.mem_cons.1 hx with rfl | hx
  · exact h
  · rw [List.mem_singleton.1 hx]; exact k
end Go.Proofs.Ytaecfcodldbnhaa.Mb
