/- The document's example, which every statement of layer 2 asks. -/
import Derived.Test.YtalobkggpdniaaaDoorSSum
import Derived.RegionTactic
namespace Go.Proofs.YtalobkggpdniaaaDoor
open Go.RowKit Wd Mm

theorem nothing_head : (shaS (catB [])).take 4 = [227, 176, 196, 66] := by
  have e : catB [] = [] := rfl
  rw [e]; decide +kernel
theorem shaS_len (m : List UInt8) : (shaS m).length = 32 := tellB_len _
theorem len_data (s : ByteArray) : s.data.toList.length = s.size := by simp
theorem ba (l : List UInt8) : (⟨l.toArray⟩ : ByteArray).data.toList = l := by simp
theorem row_bytes {w : World} {g : Nat} {t : TypeId} {l : List UInt8} (h : Row w g t (l.map w8).toArray) : ∀ j (hj : j < l.length), w.cell? ((⟨g, 0, none⟩ : Addr).add j) = some (.int .u8 (l[j].toNat : Int)) := fun j hj => by
  have hadd : (⟨g, 0, none⟩ : Addr).add j = ⟨g, j, none⟩ := by unfold Addr.add; split <;> simp_all
  rw [hadd]
  exact h.at_ (by simp [hj, w8])
theorem gb_drew_eq (a w : World) (r : Option Nat) : a.grownBy w.drew r = a.grownBy w r := propext ⟨fun h => ⟨h.os, h.tape, h.output, h.size, h.block⟩, fun h => gb_drew h⟩
theorem below_of {w w' : World} (h : w.grownBy w' none) : Below w.heap.size w w' := gb_below h (Nat.le_refl _)
theorem ret_bool {a b : Bool} (h : a = b) : Ending.returned (.bool a) = .returned (.bool b) := by rw [h]
/-- No parts. -/
theorem strs_none (w : World) (c : Nat) : Strs w none 0 [] ∧ c = c := ⟨⟨rfl, fun h => absurd h (by omega)⟩, rfl⟩

set_option maxHeartbeats 1000000 in
theorem awake_any (w : World) (hT : Tabs w) : Calls Tryd.prog 16 #[] w fun e w' => e = .returned (.bool true) ∧ w.grownBy w' none := by
  obtain ⟨K, HK⟩ : ∃ K : ByteArray, Hid ((⟨(shaS (catB [])).toArray⟩ : ByteArray) = K) := ⟨_, rfl⟩
  have hs : K.size = 32 := by rw [← HK.out, ← len_data, ba]; exact shaS_len _
  have hh : K.data.toList.take 4 = [227, 176, 196, 66] := by rw [← HK.out, ba]; exact nothing_head
  have t1 : ((K.size : Int) == 32) = true := by rw [hs]; rfl
  have h4 : (4 : Int) ≤ (K.size : Int) := by omega
  have h5 : 4 ≤ K.size := by omega
  have Hh := Lib.hid hh
  clear hs hh
  go_enter Tryd.func16, Tryd.ntmps16
  go_wp2_with fail
  refine (sum_any none 0 0 [] _ (by omega) (fun i hi => absurd hi (by omega)) (strs_none _ 0).1 hT).mono ?_
  rintro e w2 ⟨rfl, g2⟩
  rw [HK.out]
  have hconv : (convert 26 9 (.slice (some ⟨w2.heap.size, 0, none⟩) 4 4)).run Tryd.prog (w2.alloc (.cells #[.int .u8 227, .int .u8 176, .int .u8 196, .int .u8 66] 5)).drew =
      .ok (.string ⟨#[227, 176, 196, 66]⟩) (w2.alloc (.cells #[.int .u8 227, .int .u8 176, .int .u8 196, .int .u8 66] 5)).drew :=
    run_convert_bytes_back (P := Tryd.prog) _ 26 9 5 ⟨w2.heap.size, 0, none⟩ 4 [227, 176, 196, 66] Tryd.underlying26 Tryd.underlying5 Tryd.underlying9 (row_bytes (l := [227, 176, 196, 66]) (Row.new w2 _ _).drew)
  go_wp2_with fail
  go_region
  go_wp2
  go_ret
  refine ⟨ret_bool ?_, gb_drew (gb_alloc g2 _)⟩
  have e : (K.extract 0 4).toList = K.data.toList.take 4 := by
    rw [ByteArray.toList_eq, ByteArray.data_extract, Array.toList_extract]
    simp
  rw [e, Hh.out]; rfl
end Go.Proofs.YtalobkggpdniaaaDoor
