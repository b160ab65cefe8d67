/- Bytes written into a running sum's block: plain laws, and two of the builtins. -/
import Derived.Test.YtalobkggpdniaaaDoorSState
import Derived.Lib.SliceRun
import Derived.Lib.LazyBuf
import Derived.Laws.IdiomCopy
namespace Go.Proofs.YtalobkggpdniaaaDoor
open Go.RowKit Wd Mm

/-- The world under a name, within a region. -/
theorem namedL {P : Program} {ops : Array Oper} {Q : Exit → Act → World → Prop} {l : List Oper} {a : Act} {W0 : World} (R : World → Prop) (h0 : R W0) (h : ∀ W, R W → wpList P ops Q l a W) : wpList P ops Q l a W0 := h W0 h0

/-- B with X in the place of as many bytes from o on. -/
def patch (B : List UInt8) (o : Nat) (X : List UInt8) : List UInt8 := B.take o ++ (X ++ B.drop (o + X.length))
theorem patch_len {B X : List UInt8} {o : Nat} (h : o + X.length ≤ B.length) : (patch B o X).length = B.length := by
  simp [patch]; omega
theorem patch_getD {B X : List UInt8} {o : Nat} (h : o + X.length ≤ B.length) (i : Nat) : (patch B o X).getD i 0 = if o ≤ i ∧ i < o + X.length then X.getD (i - o) 0 else B.getD i 0 := by
  unfold patch
  simp only [List.getD_eq_getElem?_getD]
  by_cases h1 : i < o
  · rw [List.getElem?_append_left (by simp; omega), if_neg (by omega), List.getElem?_take_of_lt h1]
  · have hl : (B.take o).length = o := by simp; omega
    rw [List.getElem?_append_right (by omega), hl]
    by_cases h2 : i < o + X.length
    · rw [List.getElem?_append_left (by omega), if_pos ⟨by omega, h2⟩]
    · rw [List.getElem?_append_right (by omega), if_neg (by omega), List.getElem?_drop]
      congr 2; omega
theorem stC_get {l : List UInt32} {B : List UInt8} {h t : Nat} (hl : l.length = 8) (hB : B.length = 64) (i : Nat) :
    (stC l B h t)[i]? = if i < 8 then some (w32 (l.getD i 0)) else if i < 72 then some (w8 (B.getD (i - 8) 0)) else if i = 72 then some (Value.int .i64 (h : Int)) else if i = 73 then some (Value.int .u64 (t : Int)) else none := by
  by_cases h1 : i < 8
  · rw [if_pos h1, stC_word hl h1]; rfl
  · rw [if_neg h1]
    by_cases h2 : i < 72
    · rw [if_pos h2]
      have := stC_byte (h := h) (t := t) hl hB (i := i - 8) (by omega)
      rw [show 8 + (i - 8) = i by omega] at this
      exact this
    · rw [if_neg h2]
      by_cases h3 : i = 72
      · rw [if_pos h3, h3, stC_held hl hB]
      · rw [if_neg h3]
        by_cases h4 : i = 73
        · rw [if_pos h4, h4, stC_tot hl hB]
        · rw [if_neg h4, Array.getElem?_eq_none (by rw [stC_size hl hB]; omega)]
theorem stC_patch {l : List UInt32} {B X : List UInt8} {h t o : Nat} (hl : l.length = 8) (hB : B.length = 64) (hX : o + X.length ≤ 64) :
    put (stC l B h t) (8 + o) (fun i => w8 (X.getD i 0)) X.length = stC l (patch B o X) h t := by
  have hp : (patch B o X).length = 64 := by rw [patch_len (by omega), hB]
  apply Array.ext_getElem?
  intro i
  rw [put_get, stC_get hl hB, stC_get hl hp, stC_size hl hB]
  by_cases hc : 8 + o ≤ i ∧ i < 8 + o + X.length ∧ i < 74
  · rw [if_pos hc, if_neg (by omega), if_pos (by omega), patch_getD (by omega), if_pos (by omega)]
    rw [show i - (8 + o) = i - 8 - o by omega]
  · rw [if_neg hc]
    by_cases h1 : i < 8
    · rw [if_pos h1, if_pos h1]
    · rw [if_neg h1, if_neg h1]
      by_cases h2 : i < 72
      · rw [if_pos h2, if_pos h2, patch_getD (by omega), if_neg (by omega)]
      · rw [if_neg h2, if_neg h2]
theorem stC_setHeld {l : List UInt32} {B : List UInt8} {h t : Nat} (hl : l.length = 8) (hB : B.length = 64) (h' : Nat) : (stC l B h t).setIfInBounds 72 (.int .i64 (h' : Int)) = stC l B h' t := by
  apply Array.ext_getElem?
  intro i
  rw [Array.getElem?_setIfInBounds, stC_get hl hB, stC_get hl hB, stC_size hl hB]
  by_cases e : 72 = i
  · subst e; simp
  · rw [if_neg e]
    by_cases e2 : i = 72
    · omega
    · simp [e2]
theorem stC_setTot {l : List UInt32} {B : List UInt8} {h t : Nat} (hl : l.length = 8) (hB : B.length = 64) (t' : Nat) : (stC l B h t).setIfInBounds 73 (.int .u64 (t' : Int)) = stC l B h t' := by
  apply Array.ext_getElem?
  intro i
  rw [Array.getElem?_setIfInBounds, stC_get hl hB, stC_get hl hB, stC_size hl hB]
  by_cases e : 73 = i
  · subst e; simp
  · rw [if_neg e]
    by_cases e2 : i = 73
    · omega
    · simp [e2]

theorem row_setCells {g : Nat} {t : TypeId} (L : List Value) : ∀ (o : Nat) (cs : Array Value) (w : World), Row w g t cs → Row (w.setCells g o L) g t (put cs o (fun i => L.getD i undef) L.length) := by
  induction L with
  | nil => intro o cs w h; exact h
  | cons v L ih =>
    intro o cs w h
    have := ih (o + 1) _ _ (h.set_ o v)
    have e : put cs o (fun i => (v :: L).getD i undef) (v :: L).length = put (cs.setIfInBounds o v) (o + 1) (fun i => L.getD i undef) L.length := by
      apply Array.ext_getElem?
      intro i
      rw [put_get, put_get, Array.getElem?_setIfInBounds, Array.size_setIfInBounds, List.length_cons]
      by_cases h1 : o = i
      · subst h1
        by_cases hs : o < cs.size
        · rw [if_pos (by omega), if_neg (by omega), if_pos rfl, if_pos hs]; simp
        · rw [if_neg (by omega), if_neg (by omega), if_pos rfl, if_neg hs, Array.getElem?_eq_none (by omega)]
      · by_cases h2 : o ≤ i ∧ i < o + (L.length + 1) ∧ i < cs.size
        · rw [if_pos h2, if_pos (by omega)]
          obtain ⟨j, hj⟩ : ∃ j, i - o = j + 1 := ⟨i - o - 1, by omega⟩
          rw [hj, show i - (o + 1) = j by omega]; simp
        · rw [if_neg h2, if_neg (by omega), if_neg h1]
    rw [e]
    exact this
theorem gb_setCells (g : Nat) (L : List Value) : ∀ (o : Nat) (w : World), w.grownBy (w.setCells g o L) (some g) := by
  induction L with
  | nil => intro o w; exact gb_refl _ _
  | cons v L ih => intro o w; exact gb_then (gb_set1 w g o v) (ih (o + 1) _)
/-- copy of a string, as much as has room. -/
theorem run_copy_min {P : Program} (w : World) (dT sT ty elem : TypeId) (b o dLen dCap n : Nat) (t : ByteArray)
    (hu : P.underlying dT = some (.slice elem)) (hz : ∀ w, (Go.sizeOf elem).run P w = .ok 1 w) (hn : Nat.min t.size dLen = n)
    (hc : ∀ j, j < n → (w.cell? ⟨b, o + j, none⟩).isSome = true) (hf : ∀ j, j < n → w.frozen? ⟨b, o + j, none⟩ = false) :
    (Builtin.copy_ #[dT, sT] ty #[.slice (some ⟨b, o, none⟩) dLen dCap, .string t]).run P w = .ok (goInt n) (w.setCells b o ((t.data.toList.map w8).take n)) := by
  have hle : n ≤ t.size := by rw [← hn]; exact Nat.min_le_left _ _
  have hl : ((t.data.toList.map w8).take n).length = n := by
    rw [List.length_take, List.length_map, ← Lib.size_eq]; omega
  have hst := run_storeCells_cells (P := P) b o ((t.data.toList.map w8).take n) 0 w (by rw [hl]; simpa using hc) (by rw [hl]; simpa using hf) (by
    intro v hv
    obtain ⟨x, _, rfl⟩ := List.mem_map.1 (List.mem_of_mem_take hv)
    rfl)
  simp only [Nat.add_zero] at hst
  simp [Builtin.copy_, run_underlying hu, Builtin.lenOf, Builtin.firstCells, hz, hn]
  have e : List.take n (List.map (fun x : UInt8 => Value.int IntKind.u8 (x.toNat : Int)) t.data.toList) = (t.data.toList.map w8).take n := rfl
  rw [e, hst]
  rfl
end Go.Proofs.YtalobkggpdniaaaDoor
