/- The program's Nonce (14.1). -/
import Derived.Test.YtpnkglgbmgiogaaDoorSh
import Derived.Test.YtpnkglgbmgiogaaDoorKyP
namespace Go.Proofs.YtpnkglgbmgiogaaDoor.Ky
open Go.RowKit Wd Mm Hh Vw

theorem put_twelve (Z : Array Value) (N : Nat) (hZ : Z.size = 12) : put Z 0 (fun j => w8 (highB N 12 j)) 12 = ((beBytes N 12).map w8).toArray := by
  apply Array.ext_getElem?
  intro i
  rw [put_get]
  by_cases h : i < 12
  · rw [if_pos (by omega)]
    simp [beBytes, h]
  · rw [if_neg (by omega), Array.getElem?_eq_none (by omega), Array.getElem?_eq_none (by simp [beBytes_len]; omega)]
theorem high_is (n : Int) (N : Nat) (hN : (N : Int) = n % 18446744073709551616) (k : Nat) (hk : k < 8) : UInt8.ofNat (N / 256 ^ k) = hiB n k := by
  apply UInt8.toNat_inj.1
  have h1 := hiB_nat n k
  have h2 : ((UInt8.ofNat (N / 256 ^ k)).toNat : Int) = (N : Int) / 256 ^ k % 256 := by
    rw [UInt8.toNat_ofNat']
    simp
  have : k = 0 ∨ k = 1 ∨ k = 2 ∨ k = 3 ∨ k = 4 ∨ k = 5 ∨ k = 6 ∨ k = 7 := by omega
  have h3 : (N : Int) / 256 ^ k % 256 = n / 2 ^ (8 * k) % 256 := by
    rcases this with rfl | rfl | rfl | rfl | rfl | rfl | rfl | rfl <;> simp only [Nat.reduceMul, Int.reducePow] <;> omega
  omega
theorem high_none (N k : Nat) (hN : N < 18446744073709551616) (hk : 8 ≤ k) : UInt8.ofNat (N / 256 ^ k) = 0 := by
  have : N / 256 ^ k = 0 := Nat.div_eq_of_lt (Nat.lt_of_lt_of_le hN (by rw [show (18446744073709551616 : Nat) = 256 ^ 8 by decide]; exact Nat.pow_le_pow_right (by decide) hk))
  rw [this]; rfl
theorem nonce_bytes (n : Int) (N : Nat) (hN : (N : Int) = n % 18446744073709551616) : (⟨(beBytes N 12).toArray⟩ : ByteArray) = nonceB n := by
  have hl : N < 18446744073709551616 := by omega
  have e : beBytes N 12 = [0, 0, 0, 0] ++ highs n 8 := by
    rw [highs8]
    show [highB N 12 0, highB N 12 1, highB N 12 2, highB N 12 3, highB N 12 4, highB N 12 5, highB N 12 6, highB N 12 7, highB N 12 8, highB N 12 9, highB N 12 10, highB N 12 11] = _
    simp only [highB, Nat.reduceSub, high_none N 11 hl (by omega), high_none N 10 hl (by omega), high_none N 9 hl (by omega), high_none N 8 hl (by omega), high_is n N hN 7 (by omega), high_is n N hN 6 (by omega), high_is n N hN 5 (by omega), high_is n N hN 4 (by omega), high_is n N hN 3 (by omega), high_is n N hN 2 (by omega), high_is n N hN 1 (by omega), high_is n N hN 0 (by omega)]
    rfl
  rw [e]; rfl

set_option maxHeartbeats 1000000 in
theorem pNonce_any (n : Int) (w : World) :
    Calls Tryd.prog 15 #[.int .i64 n] w fun e w' => e = .returned (.string (nonceB n)) ∧ w.grownBy w' none := by
  obtain ⟨N, hN⟩ : ∃ N : Nat, (N : Int) = n % 18446744073709551616 := ⟨(n % 18446744073709551616).toNat, by omega⟩
  have hN1 : N ≤ 18446744073709551615 := by omega
  have HB := Lib.hid (nonce_bytes n N hN)
  have hc : IntKind.u64.wrap n = (N : Int) := by rw [IntKind.wrap_u64]; omega
  clear hN
  have hA : Tryd.prog.arrayLen 34 = 12 := by kernel_rfl
  go_enter Tryd.func15, Tryd.ntmps15
  go_wp2
  go_loopw [5, 4] (fun i v wr => ∃ k q : Nat, k ≤ 12 ∧ i = .int .i64 (11 - (k : Int)) ∧ v = .int .u64 (q : Int) ∧ q ≤ 18446744073709551615 ∧ q = N / 256 ^ k ∧ (∃ Z : Array Value, Row wr w.heap.size 34 (put Z (12 - k) (fun j => w8 (highB N 12 (12 - k + j))) k) ∧ Hid (Z.size = 12)) ∧ w.grownBy wr none) (fun i _ _ => (intOf i + 1).toNat)
  case atStart => exact ⟨0, N, Nat.zero_le _, by simp, rfl, hN1, by simp, ⟨_, heap_alloc_new _ _, rfl⟩, gb_alloc (gb_refl _ _) _⟩
  case round =>
    obtain ⟨k, q, hk, rfl, rfl, hq0, hq, ⟨Z, hr, HZ⟩, hg⟩ := hrel
    have Hq := Lib.hid hq
    clear hq
    by_cases hlt : k < 12
    · obtain ⟨j, hj⟩ : ∃ j : Nat, 11 - (k : Int) = (j : Int) := ⟨11 - k, by omega⟩
      have Hj := Lib.hid hj
      rw [hj]
      clear hj
      have hjn : j < 12 := by have := Hj.out; omega
      have hj8 : (j : Int) < 12 := by omega
      obtain ⟨v0, hv0⟩ : ∃ v, (put Z (12 - k) (fun j => w8 (highB N 12 (12 - k + j))) k)[j]? = some v := ⟨_, Array.getElem?_eq_getElem (by rw [put_size, HZ.out]; omega)⟩
      have hc := hr.at_ hv0
      have hf : wr.frozen? ⟨w.heap.size, j, none⟩ = false := hr.free _
      have hd : decide (0 ≤ (j : Int)) = true := by simp
      clear hv0
      go_wp2
      go_roundw
      case rel =>
        rw [highB_walk N 12 j q (by rw [Hq.out, show k = 12 - 1 - j by have := Hj.out; omega])]
        refine ⟨k + 1, q / 256, by omega, ?_, congrArg _ (Int.natCast_ediv q 256).symm, Nat.le_trans (Nat.div_le_self _ _) hq0, ?_, ⟨Z, ?_, HZ⟩, gb_new hg (gb_set1 _ _ _ _) (Nat.le_refl _)⟩
        · have := Hj.out; exact congrArg _ (by omega)
        · rw [Hq.out, Nat.div_div_eq_div_mul, Nat.pow_succ]
        · have h := hr.set_ j (w8 (highB N 12 j))
          have ej : j = 12 - (k + 1) := by have := Hj.out; omega
          have e : put Z (12 - (k + 1)) (fun j => w8 (highB N 12 (12 - (k + 1) + j))) (k + 1) = (put Z (12 - k) (fun j => w8 (highB N 12 (12 - k + j))) k).setIfInBounds j (w8 (highB N 12 j)) := by
            rw [put_front]
            rw [show 12 - (k + 1) + 1 = 12 - k by omega, show 12 - (k + 1) = j by omega, show j + 0 = j by omega]
            refine congrArg (fun C => Array.setIfInBounds C j (w8 (highB N 12 j))) ?_
            refine put_congr _ _ _ _ _ fun i _ => ?_
            show w8 (highB N 12 (j + (i + 1))) = _
            rw [show j + (i + 1) = 12 - k + i by omega]
          rw [e]
          exact h
      case measure => simp [intOf]
    · have hkn : k = 12 := by omega
      subst hkn
      have hd : decide (0 ≤ (11 : Int) - (12 : Nat)) = false := by decide
      have e : put Z (12 - 12) (fun j => w8 (highB N 12 (12 - 12 + j))) 12 = ((beBytes N 12).map w8).toArray := by
        rw [← put_twelve Z N HZ.out]
        exact put_congr _ _ _ _ _ fun j _ => by rw [show 12 - 12 + j = j by omega]
      rw [e] at hr
      have hconv : (convert 37 9 (.slice (some ⟨w.heap.size, 0, none⟩) 12 12)).run Tryd.prog wr = .ok (.string (nonceB n)) wr := by
        have h := run_convert_bytes_back (P := Tryd.prog) wr 37 9 5 ⟨w.heap.size, 0, none⟩ 12 (beBytes N 12) Tryd.underlying37 Tryd.underlying5 Tryd.underlying9 (fun j hj => by
          have hadd : (⟨w.heap.size, 0, none⟩ : Addr).add j = ⟨w.heap.size, j, none⟩ := by unfold Addr.add; split <;> simp_all
          rw [hadd]
          exact hr.at_ (by simp [hj, w8]))
        rw [beBytes_len, HB.out] at h; exact h
      clear hr e
      go_wp2
      go_ret
      exact ⟨rfl, hg⟩
end Go.Proofs.YtpnkglgbmgiogaaDoor.Ky
