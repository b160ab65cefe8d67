/- Rows of bytes and texts: a row that holds a list; a row of noughts (as XPRow, for a seat without pad). -/
import Derived.Test.YthijiefopcnclaaGreatDoorVA
import Derived.Test.YthijiefopcnclaaGreatDoorBase
import Derived.Deep.OwnRows
namespace Go.Proofs.YthijiefopcnclaaGreatDoor
open Go.RowKit Wd Mm

theorem byte_info : (Tryz.prog.info? 5).map (fun i => (i.zero, i.size, i.bytes)) = some (some (.int .u8 0), 1, 1) := by kernel_rfl
theorem row_bytes {w : World} {g : Nat} {t : TypeId} {l : List UInt8} (h : Row w g t (l.map w8).toArray) : ∀ j (hj : j < l.length), w.cell? ((⟨g, 0, none⟩ : Addr).add j) = some (.int .u8 (l[j].toNat : Int)) := fun j hj => by
  have hadd : (⟨g, 0, none⟩ : Addr).add j = ⟨g, j, none⟩ := by unfold Addr.add; split <;> simp_all
  rw [hadd]
  exact h.at_ (by simp [hj, w8])
theorem row_string {w : World} {g : Nat} {l : List UInt8} (h : Row w g 5 (l.map w8).toArray) (c : Nat) : (convert 36 9 (.slice (some ⟨g, 0, none⟩) l.length c)).run Tryz.prog w = .ok (.string ⟨l.toArray⟩) w :=
  run_convert_bytes_back (P := Tryz.prog) w 36 9 5 ⟨g, 0, none⟩ c l Tryz.underlying36 Tryz.underlying5 Tryz.underlying9 (row_bytes h)
/-- n noughts: cells, text. -/
def zl (n : Nat) : List UInt8 := List.replicate n 0
def zs (n : Nat) : ByteArray := ⟨(zl n).toArray⟩
def zc (n : Nat) : Array Value := ((zl n).map w8).toArray
theorem zl_len (n : Nat) : (zl n).length = n := by simp [zl]
theorem zs_size (n : Nat) : (zs n).size = n := by
  show (zl n).toArray.size = n
  simp [zl]
theorem zc_made (n : Nat) : madeCells #[.int .u8 0] n = zc n := by
  apply Array.ext_getElem?
  intro i
  by_cases h : i < n
  · simp [madeCells, zc, zl, w8, h, Nat.mod_one]
  · rw [Array.getElem?_eq_none (by rw [size_madeCells]; omega), Array.getElem?_eq_none (by simp [zc, zl]; omega)]
theorem make_zero (n : Nat) (m : Int) (hm : m = (n : Int)) (hn : n ≤ 281474976710656) (W : World) : (Instr.makeSlice 36 (.int .i64 m) (.int .i64 m)).run Tryz.prog W = .ok (.slice (some ⟨W.heap.size, 0, none⟩) n n) (W.alloc (.cells (zc n) 5)) := by
  subst hm
  have := run_make_row' (P := Tryz.prog) 36 5 (.int .u8 0) 1 Tryz.underlying36 byte_info rfl .i64 .i64 n (by omega) (by omega) W
  rw [zc_made] at this
  exact this
theorem text_zero (n : Nat) (W : World) (W' : World) (h : Row W' W.heap.size 5 (zc n)) : (convert 36 9 (.slice (some ⟨W.heap.size, 0, none⟩) n n)).run Tryz.prog W' = .ok (.string (zs n)) W' := by
  have := row_string (l := zl n) h n
  rw [zl_len] at this
  exact this
end Go.Proofs.YthijiefopcnclaaGreatDoor
