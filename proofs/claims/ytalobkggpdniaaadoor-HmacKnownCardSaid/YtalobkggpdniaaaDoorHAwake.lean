/- The document's example, which every statement of layer 3 asks. -/
import Derived.Test.YtalobkggpdniaaaDoorHMac
import Derived.RegionTactic
namespace Go.Proofs.YtalobkggpdniaaaDoor
open Go.RowKit Wd Mm

def jefe : ByteArray := ⟨#[74, 101, 102, 101]⟩
def ask1 : ByteArray := ⟨#[119, 104, 97, 116, 32, 100, 111, 32, 121, 97, 32, 119, 97, 110, 116, 32]⟩
def ask2 : ByteArray := ⟨#[102, 111, 114, 32, 110, 111, 116, 104, 105, 110, 103, 63]⟩
theorem jefe_head : (macB jefe (ask1 ++ ask2)).data.toList.take 4 = [91, 220, 193, 70] := by decide +kernel
theorem asks_small : ∀ x ∈ [ask1, ask2], x.size ≤ 549755813888 := by
  intro x hx
  simp only [List.mem_cons, List.not_mem_nil, or_false] at hx
  rcases hx with rfl | rfl
  · decide
  · decide

set_option maxHeartbeats 1000000 in
theorem awake3_any (w : World) (hT : Tabs w) : Calls Tryd.prog 17 #[] w fun e w' => e = .returned (.bool true) ∧ w.grownBy w' none := by
  obtain ⟨K, HK⟩ : ∃ K : ByteArray, Hid (macB jefe (ask1 ++ ask2) = K) := ⟨_, rfl⟩
  have hs : K.size = 32 := by rw [← HK.out]; exact macB_size _ _
  have hh : K.data.toList.take 4 = [91, 220, 193, 70] := by rw [← HK.out]; exact jefe_head
  have t1 : ((K.size : Int) == 32) = true := by rw [hs]; rfl
  have h4 : (4 : Int) ≤ (K.size : Int) := by omega
  have h5 : 4 ≤ K.size := by omega
  have Hh := Lib.hid hh
  clear hs hh
  have hm := mac_any jefe (ask1 ++ ask2) (some ⟨w.heap.size, 0, none⟩) 2 2 [ask1, ask2] (w.alloc (.cells #[.string ask1, .string ask2] 9)) (by decide) (strs_new2 _ _ _ _ rfl) (catB_two _ _) (by decide) (fun h => by cases h) asks_small (hT.keep (gb_alloc (gb_refl w none) _) (by simp))
  rw [HK.out] at hm
  have Hm := Lib.hid hm
  clear hm
  go_enter Tryd.func17, Tryd.ntmps17
  go_wp2_with fail
  refine Hm.out.mono ?_
  rintro e w2 ⟨rfl, g2⟩
  replace g2 := gb_none (gb_alloc (gb_refl w none) _) g2
  have hconv : (convert 26 9 (.slice (some ⟨w2.heap.size, 0, none⟩) 4 4)).run Tryd.prog (w2.alloc (.cells #[.int .u8 91, .int .u8 220, .int .u8 193, .int .u8 70] 5)).drew =
      .ok (.string ⟨#[91, 220, 193, 70]⟩) (w2.alloc (.cells #[.int .u8 91, .int .u8 220, .int .u8 193, .int .u8 70] 5)).drew :=
    run_convert_bytes_back (P := Tryd.prog) _ 26 9 5 ⟨w2.heap.size, 0, none⟩ 4 [91, 220, 193, 70] Tryd.underlying26 Tryd.underlying5 Tryd.underlying9 (row_bytes (l := [91, 220, 193, 70]) (Row.new w2 _ _).drew)
  clear Hm
  go_wp2_with fail
  go_region
  go_wp2
  go_ret
  refine ⟨ret_bool ?_, gb_drew (gb_alloc g2 _)⟩
  have e : (K.extract 0 4).toList = K.data.toList.take 4 := by
    rw [ByteArray.toList_eq, ByteArray.data_extract, Array.toList_extract]
    simp
  rw [e, Hh.out]; rfl
end Go.Proofs.YtalobkggpdniaaaDoor
