/- box.count: a number in eight bytes, the highest first. -/
import Derived.Test.YthdealjnhgkoiaaDoorSh
namespace Go.Proofs.YthdealjnhgkoiaaDoor.Bx
open Go.RowKit Wd Mm

theorem put_all (Z : Array Value) (N : Nat) (hZ : Z.size = 8) : put Z 0 (fun j => w8 (highB N 8 j)) 8 = ((beBytes N 8).map w8).toArray := by
  apply Array.ext_getElem?
  intro i
  rw [put_get]
  by_cases h : i < 8
  · rw [if_pos (by omega)]
    simp [beBytes, h]
  · rw [if_neg (by omega), Array.getElem?_eq_none (by omega), Array.getElem?_eq_none (by simp [beBytes_len]; omega)]

set_option maxHeartbeats 1000000 in
theorem count_any (N : Nat) (w : World) (hN : N ≤ 9223372036854775807) :
    Calls Tryd.prog 29 #[.int .i64 (N : Int)] w fun e w' => e = .returned (.string ⟨(beBytes N 8).toArray⟩) ∧ w.grownBy w' none := by
  have hA : Tryd.prog.arrayLen 79 = 8 := by kernel_rfl
  go_enter Tryd.func29, Tryd.ntmps29
  go_wp2
  go_loopw [4, 0] (fun i v wr => ∃ k q : Nat, k ≤ 8 ∧ i = .int .i64 (7 - (k : Int)) ∧ v = .int .i64 (q : Int) ∧ q ≤ 9223372036854775807 ∧ q = N / 256 ^ k ∧ (∃ Z : Array Value, Row wr w.heap.size 79 (put Z (8 - k) (fun j => w8 (highB N 8 (8 - k + j))) k) ∧ Hid (Z.size = 8)) ∧ w.grownBy wr none) (fun i _ _ => (intOf i + 1).toNat)
  case atStart => exact ⟨0, N, Nat.zero_le _, by simp, rfl, hN, by simp, ⟨_, heap_alloc_new _ _, rfl⟩, gb_alloc (gb_refl _ _) _⟩
  case round =>
    obtain ⟨k, q, hk, rfl, rfl, hq0, hq, ⟨Z, hr, HZ⟩, hg⟩ := hrel
    have Hq := Lib.hid hq
    clear hq
    by_cases hlt : k < 8
    · obtain ⟨j, hj⟩ : ∃ j : Nat, 7 - (k : Int) = (j : Int) := ⟨7 - k, by omega⟩
      have Hj := Lib.hid hj
      rw [hj]
      clear hj
      have hjn : j < 8 := by have := Hj.out; omega
      have hj8 : (j : Int) < 8 := by omega
      obtain ⟨v0, hv0⟩ : ∃ v, (put Z (8 - k) (fun j => w8 (highB N 8 (8 - k + j))) k)[j]? = some v := ⟨_, Array.getElem?_eq_getElem (by rw [put_size, HZ.out]; omega)⟩
      have hc := hr.at_ hv0
      have hf : wr.frozen? ⟨w.heap.size, j, none⟩ = false := hr.free _
      have hd : decide (0 ≤ (j : Int)) = true := by simp
      clear hv0
      go_wp2
      go_roundw
      case rel =>
        rw [highB_walk N 8 j q (by rw [Hq.out, show k = 8 - 1 - j by have := Hj.out; omega])]
        refine ⟨k + 1, q / 256, by omega, ?_, congrArg _ (Int.natCast_ediv q 256).symm, Nat.le_trans (Nat.div_le_self _ _) hq0, ?_, ⟨Z, ?_, HZ⟩, gb_new hg (gb_set1 _ _ _ _) (Nat.le_refl _)⟩
        · have := Hj.out; exact congrArg _ (by omega)
        · rw [Hq.out, Nat.div_div_eq_div_mul, Nat.pow_succ]
        · have h := hr.set_ j (w8 (highB N 8 j))
          have ej : j = 8 - (k + 1) := by have := Hj.out; omega
          have e : put Z (8 - (k + 1)) (fun j => w8 (highB N 8 (8 - (k + 1) + j))) (k + 1) = (put Z (8 - k) (fun j => w8 (highB N 8 (8 - k + j))) k).setIfInBounds j (w8 (highB N 8 j)) := by
            rw [put_front]
            rw [show 8 - (k + 1) + 1 = 8 - k by omega, show 8 - (k + 1) = j by omega, show j + 0 = j by omega]
            refine congrArg (fun C => Array.setIfInBounds C j (w8 (highB N 8 j))) ?_
            refine put_congr _ _ _ _ _ fun i _ => ?_
            show w8 (highB N 8 (j + (i + 1))) = _
            rw [show j + (i + 1) = 8 - k + i by omega]
          rw [e]
          exact h
      case measure => simp [intOf]
    · have hkn : k = 8 := by omega
      subst hkn
      have hd : decide (0 ≤ (7 : Int) - (8 : Nat)) = false := by decide
      have e : put Z (8 - 8) (fun j => w8 (highB N 8 (8 - 8 + j))) 8 = ((beBytes N 8).map w8).toArray := by
        rw [← put_all Z N HZ.out]
        exact put_congr _ _ _ _ _ fun j _ => by rw [show 8 - 8 + j = j by omega]
      rw [e] at hr
      have hconv : (convert 30 9 (.slice (some ⟨w.heap.size, 0, none⟩) 8 8)).run Tryd.prog wr = .ok (.string ⟨(beBytes N 8).toArray⟩) wr := by
        have h := run_convert_bytes_back (P := Tryd.prog) wr 30 9 5 ⟨w.heap.size, 0, none⟩ 8 (beBytes N 8) Tryd.underlying30 Tryd.underlying5 Tryd.underlying9 (fun j hj => by
          have hadd : (⟨w.heap.size, 0, none⟩ : Addr).add j = ⟨w.heap.size, j, none⟩ := by unfold Addr.add; split <;> simp_all
          rw [hadd]
          exact hr.at_ (by simp [hj, w8]))
        rw [beBytes_len] at h; exact h
      clear hr e
      go_wp2
      go_ret
      exact ⟨rfl, hg⟩
end Go.Proofs.YthdealjnhgkoiaaDoor.Bx
