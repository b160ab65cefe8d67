/- A row of wires that the call appends to; texts and bytes that came in. -/
import Derived.Test.YtbammjhafgbfkaaDoorVLaw
import Derived.Laws.AppendOwn
namespace Go.Proofs.YtbammjhafgbfkaaDoor
open Go.RowKit Wd Mm Vw

/-- The cells of wires, each with its list's slice. -/
def flat (ps : List (Wr × Value)) : List Value := ps.flatMap fun p => [.int .i64 p.1.k, .int .i64 p.1.n, .string p.1.s, p.2]
theorem flat_cons (p : Wr × Value) (ps : List (Wr × Value)) : flat (p :: ps) = [.int .i64 p.1.k, .int .i64 p.1.n, .string p.1.s, p.2] ++ flat ps := rfl
theorem flat_len (ps : List (Wr × Value)) : (flat ps).length = ps.length * 4 := by
  induction ps with
  | nil => rfl
  | cons p ps ih => rw [flat_cons, List.length_append, ih, List.length_cons]; simp; omega
theorem flat_snoc (ps : List (Wr × Value)) (p : Wr × Value) : flat (ps ++ [p]) = flat ps ++ [.int .i64 p.1.k, .int .i64 p.1.n, .string p.1.s, p.2] := by
  unfold flat; rw [List.flatMap_append]; rfl
theorem flat_get (ps : List (Wr × Value)) (i : Nat) (p : Wr × Value) (h : ps[i]? = some p) :
    (flat ps)[i * 4]? = some (.int .i64 p.1.k) ∧ (flat ps)[i * 4 + 1]? = some (.int .i64 p.1.n) ∧ (flat ps)[i * 4 + 2]? = some (.string p.1.s) ∧ (flat ps)[i * 4 + 3]? = some p.2 := by
  induction ps generalizing i with
  | nil => simp at h
  | cons q ps ih =>
    cases i with
    | zero =>
      obtain rfl : q = p := by simpa using h
      exact ⟨rfl, rfl, rfl, rfl⟩
    | succ i =>
      obtain ⟨h0, h1, h2, h3⟩ := ih i (by simpa using h)
      rw [flat_cons]
      refine ⟨?_, ?_, ?_, ?_⟩
      · rw [List.getElem?_append_right (by simp; omega), show (i + 1) * 4 - [Value.int .i64 q.1.k, .int .i64 q.1.n, .string q.1.s, q.2].length = i * 4 by simp; omega]; exact h0
      · rw [List.getElem?_append_right (by simp; omega), show (i + 1) * 4 + 1 - [Value.int .i64 q.1.k, .int .i64 q.1.n, .string q.1.s, q.2].length = i * 4 + 1 by simp; omega]; exact h1
      · rw [List.getElem?_append_right (by simp; omega), show (i + 1) * 4 + 2 - [Value.int .i64 q.1.k, .int .i64 q.1.n, .string q.1.s, q.2].length = i * 4 + 2 by simp; omega]; exact h2
      · rw [List.getElem?_append_right (by simp; omega), show (i + 1) * 4 + 3 - [Value.int .i64 q.1.k, .int .i64 q.1.n, .string q.1.s, q.2].length = i * 4 + 3 by simp; omega]; exact h3
/-- A row of the call's own that holds these wires. -/
def Own (B : Nat) (v : Value) (ps : List (Wr × Value)) (w : World) : Prop := w.ownsRow B 24 4 v ps.length (flat ps)
theorem Own.kept {B : Nat} {v : Value} {ps : List (Wr × Value)} {w w' : World} (h : Own B v ps w) (hg : w.grownBy w' none) : Own B v ps w' := by
  refine World.ownsRow.kept h hg ?_
  cases hv : v.ownBlock with
  | none => exact .inl rfl
  | some k => exact .inr (by simp)
theorem Own.nil (B : Nat) (w : World) : Own B (.slice none 0 0) [] w := World.ownsRow_nil w B _ 4
theorem Own.slice {B : Nat} {v : Value} {ps : List (Wr × Value)} {w : World} (h : Own B v ps w) : ∃ A c, v = .slice A ps.length c := by
  rcases h.2 with ⟨rfl, h0⟩ | ⟨g, cap, cur, rfl, _⟩
  · exact ⟨none, 0, by rw [h0]⟩
  · exact ⟨_, _, rfl⟩
/-- .. as a list in memory. -/
theorem Own.list {B : Nat} {v : Value} {ps : List (Wr × Value)} {w : World} (h : Own B v ps w) (hn : ps.length ≤ 1099511627776) (hp : ∀ p ∈ ps, HL w 0 p.2 p.1.l) : HL w 0 v (ps.map Prod.fst) := by
  have hcells := fun (g : Nat) (hg : v.ownBlock = some g) => World.ownsRow.cells h hg
  rcases h.2 with ⟨rfl, h0⟩ | ⟨g, cap, cur, rfl, hB, hg, _⟩
  · rw [List.length_eq_zero_iff.1 h0]; exact .nil _ _
  · have hc : ∀ j u, (flat ps)[j]? = some u → w.cell? ⟨g, 0 + j, none⟩ = some u := fun j u hu => by
      have := hcells g rfl j u hu
      have hadd : (⟨g, 0, none⟩ : Addr).add j = ⟨g, 0 + j, none⟩ := by unfold Addr.add; split <;> simp_all
      rwa [hadd] at this
    have hl : (ps.map Prod.fst).length = ps.length := List.length_map _
    have key : ∀ (i : Nat) (x : Wr), (ps.map Prod.fst)[i]? = some x → ∃ p : Wr × Value, ps[i]? = some p ∧ p.1 = x := fun i x hx => by
      rw [List.getElem?_map] at hx
      obtain ⟨p, h1, h2⟩ := Option.map_eq_some_iff.1 hx
      exact ⟨p, h1, h2⟩
    rw [← hl]
    refine .row g 0 cap _ (fun i => match ps[i]? with | some p => p.2 | none => .nilIface) (Nat.zero_le _) (Array.getElem?_eq_some_iff.1 hg).1 (by rw [hl]; exact hn) ?_ ?_ ?_ ?_ ?_
    · intro i x hx; obtain ⟨p, h1, rfl⟩ := key i x hx; exact hc _ _ (flat_get ps i p h1).1
    · intro i x hx; obtain ⟨p, h1, rfl⟩ := key i x hx; exact hc _ _ (flat_get ps i p h1).2.1
    · intro i x hx; obtain ⟨p, h1, rfl⟩ := key i x hx; exact hc _ _ (flat_get ps i p h1).2.2.1
    · intro i x hx; obtain ⟨p, h1, rfl⟩ := key i x hx; simp only [h1]; exact hc _ _ (flat_get ps i p h1).2.2.2
    · intro i x hx; obtain ⟨p, h1, rfl⟩ := key i x hx; simp only [h1]; exact hp p (List.mem_of_getElem? h1)
/-- A wire's cells, just laid, one slice long. -/
theorem cells4 (w : World) (a0 a1 a2 a3 : Value) : ∀ (j : Nat) (u : Value), [a0, a1, a2, a3][j]? = some u → (w.alloc (.cells #[a0, a1, a2, a3] 24)).cell? ((⟨w.heap.size, 0, none⟩ : Addr).add j) = some u := by
  intro j u hj
  have hadd : (⟨w.heap.size, 0, none⟩ : Addr).add j = ⟨w.heap.size, j, none⟩ := by unfold Addr.add; split <;> simp_all
  rw [hadd]
  have := cell_of_row _ w.heap.size j #[a0, a1, a2, a3] 24 (0, 0) (heap_alloc_new w _)
  rw [this]
  simpa using hj
theorem one4 (k n : Int) (s : ByteArray) (A : Option Addr) (m c : Nat) : ∀ u ∈ [Value.int .i64 k, .int .i64 n, .string s, .slice A m c], u.oneCell' = true := by
  intro u hu
  simp only [List.mem_cons, List.not_mem_nil, or_false] at hu
  rcases hu with rfl | rfl | rfl | rfl <;> rfl
theorem own_slice4 {w : World} {B : Nat} {e : TypeId} {v : Value} {n : Nat} {xs : List Value} (h : w.ownsRow B e 4 v n xs) : ∃ A m c, v = .slice A m c := by
  rcases h.2 with ⟨rfl, _⟩ | ⟨g, cap, cur, rfl, _⟩
  · exact ⟨_, _, _, rfl⟩
  · exact ⟨_, _, _, rfl⟩

/-- Texts that came in. -/
def HeldT (w : World) (a : Option Addr) (len : Nat) (zs : List ByteArray) : Prop := 0 < len → ∃ g o, a = some ⟨g, o, none⟩ ∧ g < w.heap.size ∧ ∀ i, i < len → w.cell? ⟨g, o + i, none⟩ = some (.string (zs.getD i ByteArray.empty))
theorem HeldT.keep {w w' : World} {a : Option Addr} {n : Nat} {zs : List ByteArray} (h : HeldT w a n zs) (hg : w.grownBy w' none) : HeldT w' a n zs := fun hn => by
  obtain ⟨g, o, e, hl, hc⟩ := h hn
  refine ⟨g, o, e, Nat.lt_of_lt_of_le hl hg.size, fun i hi => ?_⟩
  have := hg.block g hl (by simp)
  rw [World.cell?_of_block (w := w) (a := ⟨g, o + i, none⟩) this]
  exact hc i hi
theorem heldT_of {w : World} {a : Option Addr} {len cap : Nat} {zs : List ByteArray} (h : IsStrs w a len cap zs) : HeldT w a len zs ∧ len ≤ 9223372036854775807 ∧ ∀ i, i < len → (zs.getD i ByteArray.empty).size ≤ 9223372036854775807 := by
  rcases h with ⟨rfl, rfl, rfl, rfl⟩ | ⟨x, rfl, hl, hc, hz, hcell, hwf⟩
  · exact ⟨fun h => absurd h (by omega), by omega, fun i hi => absurd hi (by omega)⟩
  · unfold maxLen at hc hwf
    refine ⟨fun h0 => ?_, by omega, fun i hi => ?_⟩
    · obtain ⟨b, o, sp⟩ := x
      have c0 := hcell 0 (by omega)
      cases sp with
      | some sp =>
        exfalso
        simp only [Addr.add, World.cell?] at c0
        split at c0 <;> simp at c0
      | none =>
        refine ⟨b, o, rfl, ?_, fun i hi => ?_⟩
        · have := block_lt_of_cell c0
          simpa [Addr.add] using this
        · have ci := hcell i (by omega)
          have hadd : (⟨b, o, none⟩ : Addr).add i = ⟨b, o + i, none⟩ := by unfold Addr.add; split <;> simp_all
          rwa [hadd] at ci
    · have := hwf (zs.getD i ByteArray.empty) (by rw [List.getD_eq_getElem?_getD, List.getElem?_eq_getElem (by omega)]; exact List.getElem_mem _)
      omega
end Go.Proofs.YtbammjhafgbfkaaDoor
