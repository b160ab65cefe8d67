/- chacha.fits, chacha.blocksOf. -/
import Derived.Test.YtkeincmmcdcggaaLeaf
import Derived.Lib.Hide
import Derived.BigQuiet
namespace Go.Proofs.Ytkeincmmcdcggaa
open Go.RowKit Wd

/-- Are there b blocks from counter c on, by a key and a nonce that long? -/
def fitsB (k n : Nat) (c b : Int) : Bool := decide (k = 32 ∧ n = 12 ∧ 0 ≤ c ∧ c ≤ 4294967295 - (b - 1))
theorem fitsB_yes {k n : Nat} {c b : Int} (h1 : k = 32) (h2 : n = 12) (h3 : 0 ≤ c) (h4 : c ≤ 4294967295 - (b - 1)) : fitsB k n c b = true := by simp [fitsB, h1, h2, h3, h4]
theorem fitsB_no {k n : Nat} {c b : Int} (h : ¬ (k = 32 ∧ n = 12 ∧ 0 ≤ c ∧ c ≤ 4294967295 - (b - 1))) : fitsB k n c b = false := by simp only [fitsB, decide_eq_false_iff_not]; exact h
theorem ret_bool {a b : Bool} (h : a = b) : Ending.returned (.bool a) = .returned (.bool b) := by rw [h]

set_option maxHeartbeats 400000 in
theorem fits_any (key nonce : ByteArray) (c b : Int) (w : World) (hb0 : 1 ≤ b) (hb : b ≤ 4611686018427387904) :
    Calls Try.prog 16 #[.string key, .string nonce, .int .i64 c, .int .i64 b] w
      fun e w' => e = .returned (.bool (fitsB key.size nonce.size c b)) ∧ w = w' := by
  by_cases h1 : key.size = 32
  · have H1 := Lib.hid h1
    have t1 : (((key.size : Nat) : Int) != 32) = false := by rw [h1]; rfl
    clear h1
    by_cases h2 : nonce.size = 12
    · have H2 := Lib.hid h2
      have t2 : (((nonce.size : Nat) : Int) != 12) = false := by rw [h2]; rfl
      clear h2
      by_cases h3 : 0 ≤ c
      · have t3 : decide (0 ≤ c) = true := by simpa using h3
        by_cases h4 : c ≤ 4294967295 - (b - 1)
        · have t4 : decide (c ≤ 4294967295 - (b - 1)) = true := by simpa using h4
          have hf := Lib.hid (fitsB_yes H1.out H2.out h3 h4)
          go_enter Try.func16, Try.ntmps16
          go_wp2
          go_ret
          exact ⟨ret_bool hf.out.symm, rfl⟩
        · have t4 : decide (c ≤ 4294967295 - (b - 1)) = false := by simpa using h4
          have hf := Lib.hid (fitsB_no (k := key.size) (n := nonce.size) (c := c) (b := b) (fun h => h4 h.2.2.2))
          go_enter Try.func16, Try.ntmps16
          go_wp2
          go_ret
          exact ⟨ret_bool hf.out.symm, rfl⟩
      · have t3 : decide (0 ≤ c) = false := by simpa using h3
        have hf := Lib.hid (fitsB_no (k := key.size) (n := nonce.size) (c := c) (b := b) (fun h => h3 h.2.2.1))
        go_enter Try.func16, Try.ntmps16
        go_wp2
        go_ret
        exact ⟨ret_bool hf.out.symm, rfl⟩
    · have t2 : (((nonce.size : Nat) : Int) != 12) = true := by rw [bne_iff_ne]; omega
      have hf := Lib.hid (fitsB_no (k := key.size) (n := nonce.size) (c := c) (b := b) (fun h => h2 h.2.1))
      clear h2
      go_enter Try.func16, Try.ntmps16
      go_wp2
      go_ret
      exact ⟨ret_bool hf.out.symm, rfl⟩
  · have t1 : (((key.size : Nat) : Int) != 32) = true := by rw [bne_iff_ne]; omega
    have hf := Lib.hid (fitsB_no (k := key.size) (n := nonce.size) (c := c) (b := b) (fun h => h1 h.1))
    clear h1
    go_enter Try.func16, Try.ntmps16
    go_wp2
    go_ret
    exact ⟨ret_bool hf.out.symm, rfl⟩

set_option maxHeartbeats 400000 in
theorem blocks_any (n : Nat) (w : World) (h0 : 1 ≤ n) (h1 : n ≤ 9223372036854775807) :
    Calls Try.prog 22 #[.int .i64 (n : Int)] w fun e w' => e = .returned (.int .i64 (1 + ((n : Int) - 1) / 64)) ∧ w = w' := by
  go_enter Try.func22, Try.ntmps22
  go_wp2
  go_ret
  exact ⟨rfl, rfl⟩
end Go.Proofs.Ytkeincmmcdcggaa
