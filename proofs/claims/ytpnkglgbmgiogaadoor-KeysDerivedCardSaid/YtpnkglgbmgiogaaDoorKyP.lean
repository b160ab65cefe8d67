/- Keys (14), pure: a nonce as bytes, a word with a number behind it. -/
import Derived.Test.YtpnkglgbmgiogaaDoorVPA
import Derived.Lib.ItoaNum
import Derived.Lib.ItoaLen
namespace Go.Proofs.YtpnkglgbmgiogaaDoor.Ky
open Go.RowKit Mm Vw

/-- The nonce of a number: four noughts, the number in eight bytes. -/
def nonceB (n : Int) : ByteArray := ⟨(([0, 0, 0, 0] : List UInt8) ++ highs n 8).toArray⟩
theorem nonce_size (n : Int) : (nonceB n).size = 12 := by
  show (([0, 0, 0, 0] : List UInt8) ++ highs n 8).toArray.size = 12
  rw [List.size_toArray, List.length_append, highs_len]; rfl
theorem nonce_one {a b : Int} (h : nonceB a = nonceB b) (a0 : -9223372036854775808 ≤ a) (a1 : a ≤ 9223372036854775807) (b0 : -9223372036854775808 ≤ b) (b1 : b ≤ 9223372036854775807) : a = b := by
  have h2 : (([0, 0, 0, 0] : List UInt8) ++ highs a 8) = [0, 0, 0, 0] ++ highs b 8 := by
    have := congrArg (fun x : ByteArray => x.data.toList) h
    simpa [nonceB] using this
  have h3 := List.append_cancel_left h2
  rw [← valI_highs8 a a0 a1, ← valI_highs8 b b0 b1, h3]
theorem nonce_is {a b : Int} (a0 : -9223372036854775808 ≤ a) (a1 : a ≤ 9223372036854775807) (b0 : -9223372036854775808 ≤ b) (b1 : b ≤ 9223372036854775807) : decide (nonceB a = nonceB b) = decide (a = b) :=
  decide_eq_decide.2 ⟨fun h => nonce_one h a0 a1 b0 b1, fun h => by rw [h]⟩
theorem nonce_head (n : Int) : (nonceB n).extract 0 4 = ⟨#[0, 0, 0, 0]⟩ := by
  apply ByteArray.ext
  apply Array.ext'
  simp [nonceB, ByteArray.data_extract, highs8]
theorem nonce_of (n : Int) : (⟨#[0, 0, 0, 0]⟩ : ByteArray) ++ ⟨(highs n 8).toArray⟩ = nonceB n := by
  apply ByteArray.ext
  apply Array.ext'
  simp [nonceB]
/-- A word, a number behind it. -/
def wordB (p : ByteArray) (n : Int) : ByteArray := p ++ ⟨(Lib.itoa n).toArray⟩
theorem word_size (p : ByteArray) (n : Int) (h0 : -9223372036854775808 ≤ n) (h1 : n ≤ 9223372036854775807) : (wordB p n).size ≤ p.size + 21 := by
  have := Lib.itoa_length_le n h0 h1
  rw [wordB, ByteArray.size_append]
  show p.size + (Lib.itoa n).toArray.size ≤ _
  rw [List.size_toArray]
  omega
/-- The last digit ahead of those that stand already. -/
theorem digits_step (u : Nat) (h : ¬ u < 10) (l : List UInt8) : Lib.decDigits (u / 10) ++ UInt8.ofNat (48 + u % 10) :: l = Lib.decDigits u ++ l := by
  conv => rhs; rw [Lib.decDigits, dif_neg h]
  simp
theorem digits_last (u : Nat) (h : u < 10) (l : List UInt8) : UInt8.ofNat (48 + u) :: l = Lib.decDigits u ++ l := by
  rw [Lib.decDigits, dif_pos h]; rfl
theorem itoa_neg (n : Int) (h : n < 0) : Lib.itoa n = 45 :: Lib.decDigits n.natAbs := by rw [Lib.itoa, if_pos h]
theorem itoa_pos (n : Int) (h : ¬ n < 0) : Lib.itoa n = Lib.decDigits n.toNat := by rw [Lib.itoa, if_neg h]
end Go.Proofs.YtpnkglgbmgiogaaDoor.Ky
