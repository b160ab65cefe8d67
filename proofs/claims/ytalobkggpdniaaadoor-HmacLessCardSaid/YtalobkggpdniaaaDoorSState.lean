/- The cells of a running sum; the two tables. -/
import Derived.Test.YtalobkggpdniaaaDoorSSpread
import Derived.BigQuiet
import Derived.Deep.QuietTactic
namespace Go.Proofs.YtalobkggpdniaaaDoor
open Go.RowKit Wd Mm

/-- What the two tables hold. -/
def Tabs (w : World) : Prop := 3 < w.heap.size ∧ (∀ i, i < 8 → w.cell? ⟨0, i, none⟩ = some (w32 (firstH.getD i 0))) ∧ ∀ i, i < 64 → w.cell? ⟨3, i, none⟩ = some (w32 (konst.getD i 0))
theorem Tabs.keep {w w' : World} {r : Option Nat} (h : Tabs w) (hg : w.grownBy w' r) (hr : ∀ i, r = some i → 3 < i) : Tabs w' := by
  obtain ⟨h0, h1, h2⟩ := h
  refine ⟨Nat.lt_of_lt_of_le h0 hg.size, fun i hi => ?_, fun i hi => ?_⟩
  · rw [World.cell?_of_block (w := w) (a := ⟨0, i, none⟩) (hg.block _ (by show (0 : Nat) < w.heap.size; omega) (fun e => by have := hr _ e.symm; simp at this))]
    exact h1 i hi
  · rw [World.cell?_of_block (w := w) (a := ⟨3, i, none⟩) (hg.block _ (by show (3 : Nat) < w.heap.size; omega) (fun e => by have := hr _ e.symm; simp at this))]
    exact h2 i hi

/-- The cells of a running sum. -/
def stC (l : List UInt32) (B : List UInt8) (held tot : Nat) : Array Value := (l.map w32 ++ (B.map w8 ++ [Value.int .i64 (held : Int), Value.int .u64 (tot : Int)])).toArray
theorem stC_size {l : List UInt32} {B : List UInt8} {h t : Nat} (hl : l.length = 8) (hB : B.length = 64) : (stC l B h t).size = 74 := by simp [stC, hl, hB]
theorem stC_word {l : List UInt32} {B : List UInt8} {h t i : Nat} (hl : l.length = 8) (hi : i < 8) : (stC l B h t)[i]? = some (.int .u32 ((l.getD i 0).toNat : Int)) := by
  simp [stC, hl, hi, w32, List.getElem?_append]
theorem stC_byte {l : List UInt32} {B : List UInt8} {h t i : Nat} (hl : l.length = 8) (hB : B.length = 64) (hi : i < 64) : (stC l B h t)[8 + i]? = some (w8 (B.getD i 0)) := by
  simp only [stC, List.getElem?_toArray]
  rw [List.getElem?_append_right (by simp [hl]), List.getElem?_append_left (by simp [hl, hB, hi])]
  simp [hl, hB, hi]
theorem stC_held {l : List UInt32} {B : List UInt8} {h t : Nat} (hl : l.length = 8) (hB : B.length = 64) : (stC l B h t)[72]? = some (.int .i64 (h : Int)) := by
  simp only [stC, List.getElem?_toArray]
  rw [List.getElem?_append_right (by simp [hl]), List.getElem?_append_right (by simp [hl, hB])]
  simp [hl, hB]
theorem stC_tot {l : List UInt32} {B : List UInt8} {h t : Nat} (hl : l.length = 8) (hB : B.length = 64) : (stC l B h t)[73]? = some (.int .u64 (t : Int)) := by
  simp only [stC, List.getElem?_toArray]
  rw [List.getElem?_append_right (by simp [hl]), List.getElem?_append_right (by simp [hl, hB])]
  simp [hl, hB]
theorem tail_same (X Y Z : List Value) (i : Nat) (hX : X.length = 8) (hY : Y.length = 8) (hi : 8 ≤ i) : (X ++ Z)[i]? = (Y ++ Z)[i]? := by
  rw [List.getElem?_append_right (by omega), List.getElem?_append_right (by omega), hX, hY]
theorem stC_words (l m : List UInt32) (B : List UInt8) (h t : Nat) (hl : l.length = 8) (hm : m.length = 8) : put (stC l B h t) 0 (fun i => w32 (m.getD i 0)) 8 = stC m B h t := by
  apply Array.ext_getElem?
  intro i
  rw [put_get]
  by_cases hi : i < 8
  · by_cases hs : i < (stC l B h t).size
    · rw [if_pos ⟨Nat.zero_le _, by omega, hs⟩, stC_word hm hi]; rfl
    · simp [stC, hl] at hs; omega
  · rw [if_neg (by omega)]
    unfold stC
    rw [List.getElem?_toArray, List.getElem?_toArray]
    exact tail_same _ _ _ _ (by simp [hl]) (by simp [hm]) (by omega)
theorem idx8 (a b c d e f g h : UInt32) (k : Nat) (hk : k < 8) (W : World) : (Instr.index 43 (.agg #[.int .u32 (a.toNat : Int), .int .u32 (b.toNat : Int), .int .u32 (c.toNat : Int), .int .u32 (d.toNat : Int), .int .u32 (e.toNat : Int), .int .u32 (f.toNat : Int), .int .u32 (g.toNat : Int), .int .u32 (h.toNat : Int)]) (.int .i64 (k : Int))).run Tryd.prog W = .ok (.int .u32 (([a, b, c, d, e, f, g, h].getD k 0).toNat : Int)) W := by
  have e : k = 0 ∨ k = 1 ∨ k = 2 ∨ k = 3 ∨ k = 4 ∨ k = 5 ∨ k = 6 ∨ k = 7 := by omega
  rcases e with rfl | rfl | rfl | rfl | rfl | rfl | rfl | rfl <;> (show _ = _; kernel_rfl)
theorem comp_getD (l : List UInt32) (b : List UInt8) (k : Nat) (hl : l.length = 8) (hk : k < 8) : (comp l b).getD k 0 = pl (l.getD k 0) ((rnds (St.of l) (wS b) 64).list.getD k 0) := by
  have h2 : k < (rnds (St.of l) (wS b) 64).list.length := by simp [St.list, hk]
  unfold comp
  simp only [List.getD_eq_getElem?_getD, List.getElem?_zipWith, List.getElem?_eq_getElem (show k < l.length by omega), List.getElem?_eq_getElem h2]
  rfl
theorem ws_size (b : List UInt8) : (Tryd.prog.info? 82).map (·.size) = some ((wS b).map w32).toArray.size := by rw [size64]; simp [wS_len]

end Go.Proofs.YtalobkggpdniaaaDoor
