/- Bucket, the program's and the document's example: plain, and as contracts. -/
import Derived.Test.YtlpanplebagmbaaDoorProg
import Derived.Test.YtlpanplebagmbaaDoorWord
import Derived.Test.YtlpanplebagmbaaDoorMem
import Derived.Lib.Hide
import Derived.IntWalk
namespace Go.Proofs.YtlpanplebagmbaaDoor
open Go.RowKit Wd Mm

/-- The first of 64, 256, 1024, 4096, 16384 that is above n; 0: none, or n is below 0. -/
def bk (n : Int) : Nat := if n < 0 then 0 else if n < 64 then 64 else if n < 256 then 256 else if n < 1024 then 1024 else if n < 4096 then 4096 else if n < 16384 then 16384 else 0
theorem bk_le (n : Int) : bk n ≤ 16384 := by unfold bk; split <;> (try split) <;> (try split) <;> (try split) <;> (try split) <;> (try split) <;> omega
theorem bk_above (n : Int) (h : bk n ≠ 0) : n < bk n ∧ 0 ≤ n := by
  revert h; unfold bk; split <;> (try split) <;> (try split) <;> (try split) <;> (try split) <;> (try split) <;> (intro h; omega)
theorem bk_zero (n : Int) : bk n = 0 ↔ n < 0 ∨ 16384 ≤ n := by
  unfold bk; split <;> (try split) <;> (try split) <;> (try split) <;> (try split) <;> (try split) <;> omega

set_option maxHeartbeats 1000000 in
theorem bucket_any (n : Int) (w : World) (h1 : -9223372036854775808 ≤ n) (h2 : n ≤ 9223372036854775807) : Calls Tryd.prog 11 #[.int .i64 n] w fun e w' => e = .returned (.int .i64 (bk n : Int)) ∧ w = w' := by
  by_cases h0 : n < 0
  · have d0 : decide (n < 0) = true := decide_eq_true h0
    have hb : bk n = 0 := (bk_zero n).2 (.inl h0)
    rw [hb]
    clear h0 hb
    go_enter Tryd.func11, Tryd.ntmps11
    go_wp2_with fail
    go_ret
    exact ⟨rfl, rfl⟩
  have d0 : decide (n < 0) = false := decide_eq_false h0
  by_cases h5 : 16384 ≤ n
  · have d5 : decide (16384 ≤ n) = true := decide_eq_true h5
    have hb : bk n = 0 := (bk_zero n).2 (.inr h5)
    rw [hb]
    clear h0 h5 hb
    go_enter Tryd.func11, Tryd.ntmps11
    go_wp2_with fail
    go_ret
    exact ⟨rfl, rfl⟩
  have d5 : decide (16384 ≤ n) = false := decide_eq_false h5
  by_cases h4096 : 4096 ≤ n
  · have d4096 : decide (4096 ≤ n) = true := decide_eq_true h4096
    have hb : bk n = 16384 := by unfold bk; split <;> (try split) <;> (try split) <;> (try split) <;> (try split) <;> (try split) <;> omega
    rw [hb]
    clear h0 h5 h4096 hb
    go_enter Tryd.func11, Tryd.ntmps11
    go_wp2_with fail
    go_ret
    exact ⟨rfl, rfl⟩
  have d4096 : decide (4096 ≤ n) = false := decide_eq_false h4096
  by_cases h1024 : 1024 ≤ n
  · have d1024 : decide (1024 ≤ n) = true := decide_eq_true h1024
    have hb : bk n = 4096 := by unfold bk; split <;> (try split) <;> (try split) <;> (try split) <;> (try split) <;> (try split) <;> omega
    rw [hb]
    clear h0 h5 h1024 hb h4096
    go_enter Tryd.func11, Tryd.ntmps11
    go_wp2_with fail
    go_ret
    exact ⟨rfl, rfl⟩
  have d1024 : decide (1024 ≤ n) = false := decide_eq_false h1024
  by_cases h256 : 256 ≤ n
  · have d256 : decide (256 ≤ n) = true := decide_eq_true h256
    have hb : bk n = 1024 := by unfold bk; split <;> (try split) <;> (try split) <;> (try split) <;> (try split) <;> (try split) <;> omega
    rw [hb]
    clear h0 h5 h256 hb h4096 h1024
    go_enter Tryd.func11, Tryd.ntmps11
    go_wp2_with fail
    go_ret
    exact ⟨rfl, rfl⟩
  have d256 : decide (256 ≤ n) = false := decide_eq_false h256
  by_cases h64 : 64 ≤ n
  · have d64 : decide (64 ≤ n) = true := decide_eq_true h64
    have hb : bk n = 256 := by unfold bk; split <;> (try split) <;> (try split) <;> (try split) <;> (try split) <;> (try split) <;> omega
    rw [hb]
    clear h0 h5 h64 hb h4096 h1024 h256
    go_enter Tryd.func11, Tryd.ntmps11
    go_wp2_with fail
    go_ret
    exact ⟨rfl, rfl⟩
  have d64 : decide (64 ≤ n) = false := decide_eq_false h64
  have hb : bk n = 64 := by unfold bk; split <;> (try split) <;> (try split) <;> (try split) <;> (try split) <;> (try split) <;> omega
  rw [hb]
  clear h0 h5 hb h4096 h1024 h256 h64
  go_enter Tryd.func11, Tryd.ntmps11
  go_wp2_with fail
  go_ret
  exact ⟨rfl, rfl⟩

/-- The document's example. -/
theorem awake_any (w : World) : Calls Tryd.prog 6 #[] w fun e w' => e = .returned (.bool true) ∧ w = w' := by
  have b1 := fun W => bucket_any 63 W (by decide) (by decide)
  have b2 := fun W => bucket_any 64 W (by decide) (by decide)
  rw [show bk 63 = 64 from rfl] at b1
  rw [show bk 64 = 256 from rfl] at b2
  have B1 := Lib.hid b1
  have B2 := Lib.hid b2
  clear b1 b2
  go_enter Tryd.func6, Tryd.ntmps6
  go_wp2_with fail
  refine (B1.out _).mono ?_
  rintro e w1 ⟨rfl, rfl⟩
  go_wp2_with fail
  refine (B2.out _).mono ?_
  rintro e w1 ⟨rfl, rfl⟩
  go_wp2_with fail
  go_ret
  exact ⟨rfl, rfl⟩
theorem text_eq {a b : ByteArray} (h : a = b) : (a.toList == b.toList) = true := by rw [h]; exact beq_self_eq_true _
theorem text_ne {a b : ByteArray} (h : a ≠ b) : (a.toList == b.toList) = false := by
  rw [ByteArray.toList_eq, ByteArray.toList_eq, beq_eq_false_iff_ne]
  exact fun h2 => h (ByteArray.ext (Array.ext' h2))
theorem none_ne {b : ByteArray} (h : 0 < b.size) : ([] == b.toList) = false := by
  rw [ByteArray.toList_eq, beq_eq_false_iff_ne]
  intro h2
  have h3 : b.data.toList.length = 0 := by rw [← h2]; rfl
  have h4 : b.data.toList.length = b.size := by simp
  omega
end Go.Proofs.YtlpanplebagmbaaDoor
