/- The document's example, which every statement asks. -/
import Derived.Test.YtkeincmmcdcggaaBytes
import Derived.RegionTactic
namespace Go.Proofs.Ytkeincmmcdcggaa
open Go.RowKit Wd Mm

def exKey : ByteArray := ⟨(bytesS [] 32).toArray⟩
def exNonce : ByteArray := ⟨#[0, 0, 0, 9, 0, 0, 0, 74, 0, 0, 0, 0]⟩
theorem example_head : (blockA exKey exNonce 1).data.toList.take 4 = [16, 241, 231, 228] := by decide +kernel
theorem example_size : (blockA exKey exNonce 1).data.toList.length = 64 := by decide +kernel

theorem row_bytes {w : World} {g : Nat} {t : TypeId} {l : List UInt8} (h : Row w g t (l.map w8).toArray) : ∀ j (hj : j < l.length), w.cell? ((⟨g, 0, none⟩ : Addr).add j) = some (.int .u8 (l[j].toNat : Int)) :=
  fun j hj => list_cells h j _ (by simp [hj, w8])

set_option maxHeartbeats 1000000 in
theorem awake_any (w : World) : Calls Try.prog 12 #[] w fun e w' => e = .returned (.bool true) ∧ w.grownBy w' none := by
  obtain ⟨K, HK⟩ : ∃ K, Hid (blockA exKey exNonce 1 = K) := ⟨_, rfl⟩
  have hs : K.size = 64 := by rw [← HK.out, ← len_data]; exact example_size
  have hh : K.data.toList.take 4 = [16, 241, 231, 228] := by rw [← HK.out]; exact example_head
  have t1 : ((K.size : Int) == 64) = true := by rw [hs]; rfl
  have h4 : (4 : Int) ≤ (K.size : Int) := by omega
  have h5 : 4 ≤ K.size := by omega
  have Hh := Lib.hid hh
  clear hs hh
  go_enter Try.func12, Try.ntmps12
  go_wp2_with fail
  refine (bytes_any none 0 0 32 [] _ ⟨rfl, fun h => absurd h (by omega)⟩ (by omega) (by omega)).mono ?_
  rintro e w1 ⟨rfl, g1⟩
  go_wp2_with fail
  refine (block_any _ _ _ _).mono ?_
  rintro e w2 ⟨rfl, g2⟩
  rw [show blockA ⟨(bytesS [] 32).toArray⟩ ⟨#[0, 0, 0, 9, 0, 0, 0, 74, 0, 0, 0, 0]⟩ 1 = K from HK.out]
  have hconv : (convert 25 9 (.slice (some ⟨w2.heap.size, 0, none⟩) 4 4)).run Try.prog (w2.alloc (.cells #[.int .u8 16, .int .u8 241, .int .u8 231, .int .u8 228] 5)).drew =
      .ok (.string ⟨#[16, 241, 231, 228]⟩) (w2.alloc (.cells #[.int .u8 16, .int .u8 241, .int .u8 231, .int .u8 228] 5)).drew :=
    run_convert_bytes_back (P := Try.prog) _ 25 9 5 ⟨w2.heap.size, 0, none⟩ 4 [16, 241, 231, 228] Try.underlying25 Try.underlying5 Try.underlying9 (row_bytes (l := [16, 241, 231, 228]) (Row.new w2 _ _).drew)
  go_wp2_with fail
  go_region
  go_wp2
  go_ret
  refine ⟨ret_bool ?_, gb_drew (gb_alloc (gb_none g1 g2) _)⟩
  have e : (K.extract 0 4).toList = K.data.toList.take 4 := by
    rw [ByteArray.toList_eq, ByteArray.data_extract, Array.toList_extract]
    simp
  rw [e, Hh.out]; rfl
end Go.Proofs.Ytkeincmmcdcggaa
