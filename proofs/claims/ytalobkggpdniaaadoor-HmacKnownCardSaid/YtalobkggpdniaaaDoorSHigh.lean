/- sha.putHigh: a number's bytes, the highest first. -/
import Derived.Test.YtalobkggpdniaaaDoorSLeaf
import Derived.Test.YtalobkggpdniaaaDoorMem
import Derived.BigRegion
import Derived.StillTailTactics
import Derived.IntWalk
namespace Go.Proofs.YtalobkggpdniaaaDoor
open Go.RowKit Wd Mm

theorem put_front (cs : Array Value) (p : Nat) (f : Nat → Value) (k : Nat) : put cs p f (k + 1) = (put cs (p + 1) (fun j => f (j + 1)) k).setIfInBounds p (f 0) := by
  apply Array.ext_getElem?
  intro i
  rw [put_get, Array.getElem?_setIfInBounds, put_get, put_size]
  by_cases hp : p = i
  · subst hp
    by_cases hs : p < cs.size
    · simp [hs]
    · rw [if_neg (by omega), if_pos rfl, if_neg hs, Array.getElem?_eq_none (by omega)]
  · rw [if_neg hp]
    by_cases hc : p ≤ i ∧ i < p + (k + 1) ∧ i < cs.size
    · rw [if_pos hc, if_pos (by omega)]
      congr 2; omega
    · rw [if_neg hc, if_neg (by omega)]
theorem put_congr (cs : Array Value) (p : Nat) (f f' : Nat → Value) (k : Nat) (h : ∀ j, j < k → f j = f' j) : put cs p f k = put cs p f' k := by
  induction k with
  | zero => rfl
  | succ k ih => rw [put, put, ih (fun j hj => h j (by omega)), h k (by omega)]
theorem highB_walk (N n j q : Nat) (hq : q = N / 256 ^ (n - 1 - j)) : (q : Int) % 256 = ((highB N n j).toNat : Int) := by
  rw [highB, ← hq, UInt8.toNat_ofNat']
  omega

set_option maxHeartbeats 1000000 in
theorem putHigh_any (g o n c : Nat) (N : Nat) (cs : Array Value) (t : TypeId) (w : World) (hN : N ≤ 18446744073709551615) (hn : n ≤ 8) (hfit : o + n ≤ cs.size) (hrow : Row w g t cs) :
    Calls Tryd.prog 38 #[.slice (some ⟨g, o, none⟩) n c, .int .u64 (N : Int)] w
      fun e w' => e = .returned (.tuple #[]) ∧ Row w' g t (put cs o (fun j => w8 (highB N n j)) n) ∧ w.grownBy w' (some g) := by
  go_enter Tryd.func38, Tryd.ntmps38
  go_wp2
  go_loopw [4, 1] (fun i v wr => ∃ k q : Nat, k ≤ n ∧ i = .int .i64 ((n : Int) - 1 - (k : Int)) ∧ v = .int .u64 (q : Int) ∧ q ≤ 18446744073709551615 ∧ q = N / 256 ^ k ∧ Row wr g t (put cs (o + (n - k)) (fun j => w8 (highB N n (n - k + j))) k) ∧ w.grownBy wr (some g)) (fun i _ _ => (intOf i + 1).toNat)
  case atStart => exact ⟨0, N, Nat.zero_le _, by simp, rfl, hN, by simp, hrow, gb_refl _ _⟩
  case round =>
    obtain ⟨k, q, hk, rfl, rfl, hq0, hq, hr, hg⟩ := hrel
    have Hq := Lib.hid hq
    clear hq
    by_cases hlt : k < n
    · obtain ⟨j, hj⟩ : ∃ j : Nat, (n : Int) - 1 - (k : Int) = (j : Int) := ⟨n - 1 - k, by omega⟩
      have Hj := Lib.hid hj
      rw [hj]
      clear hj
      have hjn : j < n := by have := Hj.out; omega
      obtain ⟨v0, hv0⟩ : ∃ v, (put cs (o + (n - k)) (fun j => w8 (highB N n (n - k + j))) k)[o + j]? = some v := ⟨_, Array.getElem?_eq_getElem (by rw [put_size]; omega)⟩
      have hc := hr.at_ hv0
      have hf : wr.frozen? ⟨g, o + j, none⟩ = false := hr.free _
      have hd : decide (0 ≤ (j : Int)) = true := by simp
      clear hv0
      go_wp2
      go_roundw
      case rel =>
        rw [highB_walk N n j q (by rw [Hq.out]; congr 2; have := Hj.out; omega)]
        refine ⟨k + 1, q / 256, by omega, ?_, by simp, by omega, ?_, ?_, gb_then hg (gb_set1 _ _ _ _)⟩
        · have := Hj.out; exact congrArg _ (by omega)
        · rw [Hq.out, Nat.div_div_eq_div_mul, Nat.pow_succ]
        · have h := hr.set_ (o + j) (w8 (highB N n j))
          have ej : j = n - (k + 1) := by have := Hj.out; omega
          have e : put cs (o + (n - (k + 1))) (fun j => w8 (highB N n (n - (k + 1) + j))) (k + 1) = (put cs (o + (n - k)) (fun j => w8 (highB N n (n - k + j))) k).setIfInBounds (o + j) (w8 (highB N n j)) := by
            rw [put_front]
            rw [show o + (n - (k + 1)) + 1 = o + (n - k) by omega, show o + (n - (k + 1)) = o + j by omega, show n - (k + 1) + 0 = j by omega]
            refine congrArg (fun C => Array.setIfInBounds C (o + j) (w8 (highB N n j))) ?_
            refine put_congr _ _ _ _ _ fun i _ => ?_
            show w8 (highB N n (n - (k + 1) + (i + 1))) = _
            rw [show n - (k + 1) + (i + 1) = n - k + i by omega]
          rw [e]
          exact h
      case measure => simp [intOf]
    · have hkn : k = n := by omega
      have Hkn := Lib.hid hkn
      have hd : decide (0 ≤ (n : Int) - 1 - (k : Int)) = false := by simp; omega
      clear hkn
      go_wp2
      go_end0
      have e := Hkn.out
      subst e
      rw [Nat.sub_self, Nat.add_zero] at hr
      refine ⟨rfl, ?_, hg⟩
      have e : put cs o (fun j => w8 (highB N k (0 + j))) k = put cs o (fun j => w8 (highB N k j)) k := put_congr _ _ _ _ _ fun j _ => by rw [Nat.zero_add]
      rw [← e]
      exact hr
end Go.Proofs.YtalobkggpdniaaaDoor
