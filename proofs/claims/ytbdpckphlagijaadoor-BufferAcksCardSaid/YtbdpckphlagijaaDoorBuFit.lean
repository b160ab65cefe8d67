/- Deltas whose parts come to states that are not too long. -/
import Derived.Test.YtbdpckphlagijaaDoorBuP2
import Derived.Test.YtbdpckphlagijaaDoorJnB
set_option linter.unusedVariables false
namespace Go.Proofs.YtbdpckphlagijaaDoor.Dt
open Go

/-- All parts of a list come to something that is not too long. -/
def Fit (ls : List St) : Prop := (∀ s ∈ ls, SS s ∧ Lens s) ∧ ∀ i j, Lens (allS ((ls.drop i).take j))
theorem Fit.parts {ls : List St} (h : Fit ls) (i j : Nat) : Parts ((ls.drop i).take j) := by
  refine ⟨fun s hs => h.1 s (List.mem_of_mem_drop (List.mem_of_mem_take hs)), fun a b _ => ?_⟩
  have := h.2 (i + a) (min b (j - a))
  rw [← List.drop_drop, ← List.take_take] at this
  rw [List.drop_take, List.take_take]
  rwa [List.take_take] at this
theorem Fit.lens {ls : List St} (h : Fit ls) : ∀ s ∈ ls, Lens s := fun s hs => (h.1 s hs).2
theorem Fit.drop {ls : List St} (h : Fit ls) (k : Nat) : Fit (ls.drop k) := by
  refine ⟨fun s hs => h.1 s (List.mem_of_mem_drop hs), fun i j => ?_⟩
  rw [List.drop_drop]
  exact h.2 (k + i) j
theorem fit_of_low {K : Nat} (hK : K ≤ 40) {ls : List St} (h : ∀ s ∈ ls, MayS s ∧ Low s K) : Fit ls := by
  have len : ∀ {s : St}, MayS s ∧ Low s K → Lens s := fun hs => by
    have := hs.2.short hs.1
    exact ⟨by omega, by omega⟩
  exact ⟨fun s hs => ⟨(h s hs).1.ss, len (h s hs)⟩, fun i j => len (all_may (by omega) fun s hs => h s (List.mem_of_mem_drop (List.mem_of_mem_take hs)))⟩
theorem delta_fit (ns : List Int) {k : Nat} (hk : k ≤ 40) : Fit (deltaK ns k).1 := fit_of_low hk (deltaK_is ns k).2.1
theorem delta_state (ns : List Int) {k : Nat} (hk : k ≤ 40) : SS (deltaK ns k).2 ∧ (deltaK ns k).2.seen.length ≤ 320 ∧ (deltaK ns k).2.facts.length ≤ 320 := by
  obtain ⟨⟨h1, h2⟩, _⟩ := deltaK_is ns k
  have := h2.short h1
  exact ⟨h1.ss, by omega, by omega⟩
/-- Two parts side by side are the whole. -/
theorem two_parts {ls : List St} (h : Fit ls) (k : Nat) : joinS (allS (ls.take k)) (allS (ls.drop k)) = allS ls := (allS_halves (fun s hs => (h.1 s hs).1) k).symm
end Go.Proofs.YtbdpckphlagijaaDoor.Dt
