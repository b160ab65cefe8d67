/- Arguments opened, whatever the type of a slice's elements: each element's cells read as something of one's own. -/
import Derived.Test.YtaecfcodldbnhaaBase
import Derived.Lib.SmallJoins
import Derived.Deep.Slices
import Derived.Deep.Fields
import Derived.ChangeArms
import Derived.ChangeSame
namespace Go.Proofs.Ytaecfcodldbnhaa.Op
open Go Go.RowKit Go.ChangeShapes Go.WideShapes

/-- The slice at A, of n elements of N cells each, reads as l: each element's cells are as R says. -/
def LR {α : Type} (w : World) (N : Nat) (R : α → List Value → Prop) (A : Option Addr) (n : Nat) (l : List α) : Prop :=
  l.length = n ∧ (0 < n → ∃ g o, A = some ⟨g, o, none⟩ ∧ g < w.heap.size ∧ ∀ i a, l[i]? = some a → ∃ cs : List Value, R a cs ∧ cs.length = N ∧ ∀ j, j < N → w.cell? ⟨g, o + i * N + j, none⟩ = cs[j]?)
section
variable {H : Type} {enc : TypeId × Value → H} {P : Program} {w : World} {spare : Nat → Bool} {held : Bool}
theorem lr_of {t e : TypeId} {N : Nat} {α : Type} [Inhabited α] (R : α → List Value → Prop) (ht : P.underlying t = some (.slice e)) (hN : P.cellsOf e = N) (hp : 0 < N)
    (hd : ∀ (fuel : Nat) (cs : List Value) (x : DataW H × List MemPlace), cs.length = N → DataW.trod enc P w 0 spare held fuel e cs = some x → ∃ a, R a cs)
    {fuel : Nat} {u : Value} {x : DataW H × List MemPlace} (h : DataW.trod enc P w 0 spare held fuel t [u] = some x) : ∃ A n c l, u = .slice A n c ∧ n ≤ c ∧ c ≤ maxLen ∧ (c = 0 ∨ A ≠ none) ∧ (A = none → c = 0) ∧ LR w N R A n l := by
  rcases Go.Deep.open_slice ht h with ⟨hu, _⟩ | ⟨a, len, cap, m, k, D, Pl, hu, _, hlc, hcm, hm, _, hi⟩
  · simp only [List.cons.injEq, and_true] at hu
    subst hu
    exact ⟨none, 0, 0, [], rfl, Nat.le_refl _, by decide, .inl rfl, fun _ => rfl, rfl, fun h => absurd h (by omega)⟩
  · simp only [List.cons.injEq, and_true] at hu
    subst hu
    have hel : ∀ i, i < len → ∃ p : α × List Value, R p.1 p.2 ∧ p.2.length = N ∧ ∀ j, j < N → w.cell? ((a.add (i * N)).add j) = p.2[j]? := fun i hil => by
      obtain ⟨cs', hc, ht'⟩ := hi i (by rw [hm]; split <;> omega)
      rw [hN] at hc
      obtain ⟨_, hlen, hat⟩ := World.cells?_some hc
      obtain ⟨b, hb⟩ := hd _ _ _ hlen ht'
      exact ⟨(b, cs'), hb, hlen, fun j hj => by rw [hat j hj]⟩
    haveI : Inhabited (α × List Value) := ⟨(default, [])⟩
    obtain ⟨f, hf⟩ := Go.Deep.choose_lt hel
    refine ⟨some a, len, cap, (List.range len).map fun i => (f i).1, rfl, hlc, hcm, .inr (by simp), (fun h => by simp at h), by simp, fun h0 => ?_⟩
    obtain ⟨b, o, sp⟩ := a
    obtain ⟨_, l0, c0⟩ := hf 0 h0
    have c00 := c0 0 hp
    rw [List.getElem?_eq_getElem (by omega)] at c00
    cases sp with
    | some sp =>
      exfalso
      simp only [Addr.add, World.cell?] at c00
      split at c00 <;> simp at c00
    | none =>
      have hadd : ∀ i, (⟨b, o, none⟩ : Addr).add i = ⟨b, o + i, none⟩ := fun i => by unfold Addr.add; split <;> simp_all
      have hadd2 : ∀ i j, ((⟨b, o, none⟩ : Addr).add i).add j = ⟨b, o + i + j, none⟩ := fun i j => by rw [hadd]; unfold Addr.add; split <;> simp_all
      have hbl : b < w.heap.size := by
        rw [hadd2] at c00
        have := block_lt_of_cell c00; simpa using this
      refine ⟨b, o, rfl, hbl, fun i y hy => ?_⟩
      obtain ⟨hil, rfl⟩ := List.getElem?_eq_some_iff.1 hy
      simp only [List.length_map, List.length_range] at hil
      obtain ⟨r1, r2, r3⟩ := hf i hil
      refine ⟨(f i).2, by simpa using r1, r2, fun j hj => ?_⟩
      have := r3 j hj
      rwa [hadd2] at this
theorem open_lr {r : Reach} {b0 : Nat} {t e : TypeId} {N : Nat} {α : Type} [Inhabited α] (R : α → List Value → Prop) (ht : P.underlying t = some (.slice e)) (hN : P.cellsOf e = N) (hp : 0 < N)
    (hd : ∀ (fuel : Nat) (cs : List Value) (x : DataW H × List MemPlace), cs.length = N → DataW.trod enc P w 0 spare held fuel e cs = some x → ∃ a, R a cs)
    {v : Value} {d : DataW H} {p : List MemPlace} (hv : Value.okWide P w r b0 t v) (h : DataW.Trod enc P w 0 spare held t v d p) : ∃ A n c l, v = .slice A n c ∧ n ≤ c ∧ c ≤ maxLen ∧ (c = 0 ∨ A ≠ none) ∧ (A = none → c = 0) ∧ LR w N R A n l := by
  obtain ⟨A, n, c, rfl⟩ := okWide_slice ht hv
  obtain ⟨fuel, hf⟩ := h
  obtain ⟨A', n', c', l, e1, h1⟩ := lr_of R ht hN hp hd (u := .slice A n c) (by simpa [Value.cells] using hf)
  cases e1
  exact ⟨A, n, c, l, rfl, h1⟩
end
end Go.Proofs.Ytaecfcodldbnhaa.Op
