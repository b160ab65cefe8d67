/- Words for the statements over sums: slices of texts, told; rows of bytes, written one by one. Plain laws. -/
import Derived.Test.YtalobkggpdniaaaDoorSRefD
import Derived.IntWalk
namespace Go.Proofs.YtalobkggpdniaaaDoor
open Go.RowKit Wd Mm Td

/-- A slice of texts, told. -/
def strsV (n : Nat) (ss : List ByteArray) : Td.Spec := fun (W : World) (v : Value) => ∃ A c, v = Value.slice A n c ∧ Strs W A n ss
theorem strs_stays {n : Nat} {ss : List ByteArray} : Stays (fun a b => a.grownBy b none) (strsV n ss) := fun _ _ _ h ⟨A, c, e, hs⟩ => ⟨A, c, e, hs.keep h⟩
theorem strs_new1 (w : World) (p : ByteArray) (o : Obj) (ho : o = .cells #[.string p] 9 (0, 0)) : Strs (w.alloc o) (some ⟨w.heap.size, 0, none⟩) 1 [p] := by
  subst ho
  exact strs_one w p
theorem strs_new2 (w : World) (p q : ByteArray) (o : Obj) (ho : o = .cells #[.string p, .string q] 9 (0, 0)) : Strs (w.alloc o) (some ⟨w.heap.size, 0, none⟩) 2 [p, q] := by
  subst ho
  refine ⟨rfl, fun _ => ⟨w.heap.size, 0, rfl, by simp, fun i hi => ?_⟩⟩
  have h : i = 0 ∨ i = 1 := by omega
  rcases h with rfl | rfl
  · exact cell_of_row _ _ 0 #[.string p, .string q] 9 (0, 0) (heap_alloc_new _ _)
  · exact cell_of_row _ _ 1 #[.string p, .string q] 9 (0, 0) (heap_alloc_new _ _)
theorem two_small (p q : ByteArray) (h : p.size ≤ 9223372036854775807) (h2 : q.size ≤ 9223372036854775807) : ∀ j, j < 2 → ([p, q].getD j ByteArray.empty).size ≤ 9223372036854775807 := fun j hj => by
  have e : j = 0 ∨ j = 1 := by omega
  rcases e with rfl | rfl
  · exact h
  · exact h2
theorem catB_two (p q : ByteArray) : catB [p, q] = (p ++ q).data.toList := by
  simp [catB, ByteArray.data_append]
theorem catB_three (p q r : ByteArray) : catB [p, q, r] = (p ++ q ++ r).data.toList := by
  simp [catB, ByteArray.data_append]
theorem strs_new3 (w : World) (p q r : ByteArray) (o : Obj) (ho : o = .cells #[.string p, .string q, .string r] 9 (0, 0)) : Strs (w.alloc o) (some ⟨w.heap.size, 0, none⟩) 3 [p, q, r] := by
  subst ho
  refine ⟨rfl, fun _ => ⟨w.heap.size, 0, rfl, by simp, fun i hi => ?_⟩⟩
  have h : i = 0 ∨ i = 1 ∨ i = 2 := by omega
  rcases h with rfl | rfl | rfl
  · exact cell_of_row _ _ 0 #[.string p, .string q, .string r] 9 (0, 0) (heap_alloc_new _ _)
  · exact cell_of_row _ _ 1 #[.string p, .string q, .string r] 9 (0, 0) (heap_alloc_new _ _)
  · exact cell_of_row _ _ 2 #[.string p, .string q, .string r] 9 (0, 0) (heap_alloc_new _ _)
/-- A text's sum, as a text. -/
def sumB (s : ByteArray) : ByteArray := ⟨(shaS s.data.toList).toArray⟩
theorem sumB_size (s : ByteArray) : (sumB s).size = 32 := by rw [← len_data]; unfold sumB; rw [ba]; exact shaS_len _
theorem sum_text (ss : List ByteArray) (s : ByteArray) (h : catB ss = s.data.toList) : (⟨(shaS (catB ss)).toArray⟩ : ByteArray) = sumB s := by rw [h]; rfl
/-- A row of bytes with one byte anew. -/
theorem bytes_set (l : List UInt8) (i : Nat) (z : Int) (h0 : 0 ≤ z) (h1 : z ≤ 255) : (l.map w8).toArray.setIfInBounds i (.int .u8 z) = ((l.set i (UInt8.ofNat z.toNat)).map w8).toArray := by
  have e : Value.int .u8 z = w8 (UInt8.ofNat z.toNat) := by
    unfold w8
    congr 1
    rw [UInt8.toNat_ofNat']
    omega
  rw [e]
  simp [List.map_set]
def madeB (n : Nat) : Array Value := madeCells #[.int .u8 0] n
theorem madeB_eq (n : Nat) : madeB n = ((List.replicate n (0 : UInt8)).map w8).toArray := by
  unfold madeB
  apply Array.ext_getElem?
  intro i
  by_cases h : i < n
  · simp [madeCells, h, w8, Nat.mod_one]
  · rw [Array.getElem?_eq_none (by rw [size_madeCells]; omega), Array.getElem?_eq_none (by simp; omega)]
theorem makeB_at (n : Nat) (hn : n ≤ 1024) (W : World) : (Instr.makeSlice 26 (.int .i64 (n : Int)) (.int .i64 (n : Int))).run Tryd.prog W = .ok (.slice (some ⟨W.heap.size, 0, none⟩) n n) (W.alloc (.cells (madeB n) 5)) := by
  obtain ⟨i, hi, hz, hs, hb⟩ := info_parts byte_inf
  have h := run_makeSlice (P := Tryd.prog) W 26 5 i (.int .u8 0) Tryd.underlying26 hi hz .i64 .i64 n n (by omega) (by omega) (by rw [hs]; omega) (by rw [hb]; omega) (by omega)
  simpa [hs, Value.cells, madeB] using h
/-- A row of bytes, as a string, in whatever world keeps it. -/
theorem row_string {w : World} {g : Nat} {l : List UInt8} (h : Row w g 5 (l.map w8).toArray) (c : Nat) : (convert 26 9 (.slice (some ⟨g, 0, none⟩) l.length c)).run Tryd.prog w = .ok (.string ⟨l.toArray⟩) w :=
  run_convert_bytes_back (P := Tryd.prog) w 26 9 5 ⟨g, 0, none⟩ c l Tryd.underlying26 Tryd.underlying5 Tryd.underlying9 (row_bytes h)
theorem u8_bound {a : Int} (h : (Lit.int .u8 a).wf = true) : 0 ≤ a ∧ a ≤ 255 := by
  have h1 : IntKind.u8.min = 0 := by decide
  have h2 : IntKind.u8.max = 255 := by decide
  simp only [Lit.wf, h1, h2, Bool.and_eq_true, decide_eq_true_eq] at h
  exact h
/-- Two bytes, xor, are a byte. -/
theorem xor_byte (a b : Nat) (ha : a ≤ 255) (hb : b ≤ 255) : 0 ≤ bits .xor .u8 (a : Int) (b : Int) ∧ bits .xor .u8 (a : Int) (b : Int) ≤ 255 := by
  have h := xor8 (UInt8.ofNat a) (UInt8.ofNat b)
  rw [UInt8.toNat_ofNat', UInt8.toNat_ofNat', Nat.mod_eq_of_lt (by omega), Nat.mod_eq_of_lt (by omega)] at h
  rw [h]
  have := lt8 (UInt8.ofNat a ^^^ UInt8.ofNat b)
  omega
theorem row_len {k : IntKind} {a : Option Addr} {len cap : Nat} {zs : List Int} {w : World} (h : (a = none ∧ len = 0 ∧ cap = 0 ∧ zs = []) ∨ ∃ x, a = some x ∧ len ≤ cap ∧ cap ≤ maxLen ∧ zs.length = cap ∧ (∀ i, i < zs.length → w.cell? (x.add i) = some (.int k (zs.getD i 0))) ∧ ∀ n ∈ zs, (Lit.int k n).wf = true) : len ≤ 9223372036854775807 := by
  have hm : len ≤ maxLen := by
    rcases h with ⟨_, rfl, _⟩ | ⟨x, _, h1, h2, _⟩
    · exact Nat.zero_le _
    · exact Nat.le_trans h1 h2
  exact Nat.le_trans hm (by unfold maxLen; decide)
end Go.Proofs.YtalobkggpdniaaaDoor
