/- Many cells of one block written: what the block then is; copy of a string. Plain lemmas, no numbers of the program. -/
import Derived.Test.YtlpanplebagmbaaDoorMem
import Derived.Test.YtlpanplebagmbaaDoorWord
import Derived.Lib.SliceRun
import Derived.Lib.LazyBuf
import Derived.Laws.IdiomCopy
namespace Go.Proofs.YtlpanplebagmbaaDoor
open Go.RowKit Wd Mm

theorem row_setCells {g : Nat} {t : TypeId} (L : List Value) : ∀ (o : Nat) (cs : Array Value) (w : World), Row w g t cs → Row (w.setCells g o L) g t (put cs o (fun i => L.getD i undef) L.length) := by
  induction L with
  | nil => intro o cs w h; exact h
  | cons v L ih =>
    intro o cs w h
    have := ih (o + 1) _ _ (h.set_ o v)
    have e : put cs o (fun i => (v :: L).getD i undef) (v :: L).length = put (cs.setIfInBounds o v) (o + 1) (fun i => L.getD i undef) L.length := by
      apply Array.ext_getElem?
      intro i
      rw [put_get, put_get, Array.getElem?_setIfInBounds, Array.size_setIfInBounds, List.length_cons]
      by_cases h1 : o = i
      · subst h1
        by_cases hs : o < cs.size
        · rw [if_pos (by omega), if_neg (by omega), if_pos rfl, if_pos hs]; simp
        · rw [if_neg (by omega), if_neg (by omega), if_pos rfl, if_neg hs, Array.getElem?_eq_none (by omega)]
      · by_cases h2 : o ≤ i ∧ i < o + (L.length + 1) ∧ i < cs.size
        · rw [if_pos h2, if_pos (by omega)]
          obtain ⟨j, hj⟩ : ∃ j, i - o = j + 1 := ⟨i - o - 1, by omega⟩
          rw [hj, show i - (o + 1) = j by omega]; simp
        · rw [if_neg h2, if_neg (by omega), if_neg h1]
    rw [e]
    exact this
theorem gb_setCells (g : Nat) (L : List Value) : ∀ (o : Nat) (w : World), w.grownBy (w.setCells g o L) (some g) := by
  induction L with
  | nil => intro o w; exact gb_refl _ _
  | cons v L ih => intro o w; exact gb_then (gb_set1 w g o v) (ih (o + 1) _)
/-- copy of a string, as much as has room. -/
theorem run_copy_min {P : Program} (w : World) (dT sT ty elem : TypeId) (b o dLen dCap n : Nat) (t : ByteArray)
    (hu : P.underlying dT = some (.slice elem)) (hz : ∀ w, (Go.sizeOf elem).run P w = .ok 1 w) (hn : Nat.min t.size dLen = n)
    (hc : ∀ j, j < n → (w.cell? ⟨b, o + j, none⟩).isSome = true) (hf : ∀ j, j < n → w.frozen? ⟨b, o + j, none⟩ = false) :
    (Builtin.copy_ #[dT, sT] ty #[.slice (some ⟨b, o, none⟩) dLen dCap, .string t]).run P w = .ok (goInt n) (w.setCells b o ((t.data.toList.map w8).take n)) := by
  have hle : n ≤ t.size := by rw [← hn]; exact Nat.min_le_left _ _
  have hl : ((t.data.toList.map w8).take n).length = n := by
    rw [List.length_take, List.length_map, ← Lib.size_eq]; omega
  have hst := run_storeCells_cells (P := P) b o ((t.data.toList.map w8).take n) 0 w (by rw [hl]; simpa using hc) (by rw [hl]; simpa using hf) (by
    intro v hv
    obtain ⟨x, _, rfl⟩ := List.mem_map.1 (List.mem_of_mem_take hv)
    rfl)
  simp only [Nat.add_zero] at hst
  simp [Builtin.copy_, run_underlying hu, Builtin.lenOf, Builtin.firstCells, hz, hn]
  have e : List.take n (List.map (fun x : UInt8 => Value.int IntKind.u8 (x.toNat : Int)) t.data.toList) = (t.data.toList.map w8).take n := rfl
  rw [e, hst]
  rfl
end Go.Proofs.YtlpanplebagmbaaDoor
