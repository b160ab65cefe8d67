/- Pad: the text, the mark, noughts up to the bucket. -/
import Derived.Test.YtlpanplebagmbaaDoorPBucket
import Derived.Test.YtlpanplebagmbaaDoorShelf
namespace Go.Proofs.YtlpanplebagmbaaDoor
open Go.RowKit Wd Mm

/-- The text, the mark, noughts. -/
def padL (l : List UInt8) : List UInt8 := l ++ 128 :: List.replicate (bk l.length - l.length - 1) 0
def padB (s : ByteArray) : ByteArray := ⟨(padL s.data.toList).toArray⟩
theorem padL_len (l : List UInt8) (h : bk l.length ≠ 0) : (padL l).length = bk l.length := by
  have := (bk_above _ h).1
  unfold padL
  rw [List.length_append, List.length_cons, List.length_replicate]
  omega
theorem size_list (s : ByteArray) : s.data.toList.length = s.size := by simp
theorem padB_size (s : ByteArray) (h : bk s.size ≠ 0) : (padB s).size = bk s.size := by
  have := padL_len s.data.toList (by rw [size_list]; exact h)
  rw [size_list] at this
  rw [← this]
  unfold padB
  rw [← size_list]
theorem below_gb {w w' : World} (h : Below w.heap.size w w') : w.grownBy w' none := gb_of_below h none
/-- How the program makes it. -/
theorem pad_made (s : ByteArray) (c : Nat) (hc : c = bk s.size - s.size - 1) : s ++ (⟨#[128]⟩ : ByteArray) ++ (⟨(Lib.repeatL [0] c).toArray⟩ : ByteArray) = padB s := by
  have e : Lib.repeatL [0] c = List.replicate c 0 := by
    have := Lib.repeatL_replicate 0 1 c
    rw [Nat.mul_one] at this
    exact this
  rw [e]
  apply ByteArray.ext
  apply Array.ext'
  unfold padB padL
  simp [ByteArray.data_append, hc]

set_option maxHeartbeats 2000000 in
set_option maxRecDepth 100000 in
theorem pad_some (s : ByteArray) (w : World) (h : bk s.size ≠ 0) : Calls Tryd.prog 7 #[.string s] w fun e w' => e = .returned (.tuple #[.string (padB s), .bool true]) ∧ w.grownBy w' none := by
  have hab := bk_above _ h
  have hle := bk_le s.size
  have Hb := Lib.hid (bucket_any s.size w (by omega) (by omega))
  obtain ⟨c, hc⟩ : ∃ c, c = bk s.size - s.size - 1 := ⟨_, rfl⟩
  have hm := pad_made s c hc
  have HM := Lib.hid hm
  obtain ⟨K, HK⟩ : ∃ K, Hid (bk s.size = K) := ⟨_, rfl⟩
  rw [HK.out] at h hab hle hc Hb
  have t0 : ((K : Int) == 0) = false := by simp; omega
  have tc : Hid ((K : Int) - (s.size : Int) - 1 = (c : Int)) := by show _ = _; omega
  have Hr := Lib.hid (fun W => Tryd.strings_Repeat ⟨#[0]⟩ c W (by omega) (by show 1 * c ≤ _; omega))
  clear hm
  go_enter Tryd.func7, Tryd.ntmps7
  go_wp2_with fail
  refine Hb.out.mono ?_
  rintro e w1 ⟨rfl, rfl⟩
  go_wp2_with fail
  rw [tc.out]
  refine (Hr.out _).mono ?_
  rintro e w1 ⟨rfl, g1⟩
  have G1 := Lib.hid (below_gb g1)
  clear g1
  obtain ⟨Z, HZ⟩ : ∃ Z, Hid ((⟨(Lib.repeatL (ByteArray.mk #[0]).data.toList c).toArray⟩ : ByteArray) = Z) := ⟨_, rfl⟩
  rw [HZ.out]
  have HM2 : Hid (s ++ (⟨#[128]⟩ : ByteArray) ++ Z = padB s) := by
    show _ = _
    rw [← HZ.out]; exact HM.out
  have hZ : Z.size = c := by
    rw [← HZ.out]
    have := Lib.repeatL_length [0] c
    rw [← size_list]
    simpa using this
  have hj : ¬ 9223372036854775807 < s.size + 1 + Z.size := by omega
  go_wp2_with fail
  rw [HM2.out]
  go_wp2_with fail
  refine bodyPost_ret (v := .tuple #[.string (padB s), .bool true]) (by simp [results, Tryd.results7, go_sem]) rfl ?_
  exact ⟨rfl, G1.out⟩

set_option maxHeartbeats 2000000 in
theorem pad_none (s : ByteArray) (w : World) (h : bk s.size = 0) (hs : s.size ≤ 9223372036854775807) : Calls Tryd.prog 7 #[.string s] w fun e w' => e = .returned (.tuple #[.string ⟨#[]⟩, .bool false]) ∧ w = w' := by
  have Hb := Lib.hid (bucket_any s.size w (by omega) (by omega))
  rw [h] at Hb
  clear h
  go_enter Tryd.func7, Tryd.ntmps7
  go_wp2_with fail
  refine Hb.out.mono ?_
  rintro e w1 ⟨rfl, rfl⟩
  go_wp2_with fail
  refine bodyPost_ret (v := .tuple #[.string ⟨#[]⟩, .bool false]) (by simp [results, Tryd.results7, go_sem]) rfl ?_
  exact ⟨rfl, rfl⟩
end Go.Proofs.YtlpanplebagmbaaDoor
