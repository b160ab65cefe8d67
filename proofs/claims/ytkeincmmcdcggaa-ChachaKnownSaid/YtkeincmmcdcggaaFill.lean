/- chacha.fill: words out of a string's bytes. -/
import Derived.Test.YtkeincmmcdcggaaLeaf
import Derived.Test.YtkeincmmcdcggaaMem
import Derived.BigRegion
import Derived.StillTailTactics
import Derived.Lib.Hide
namespace Go.Proofs.Ytkeincmmcdcggaa
open Go.RowKit Wd Mm

set_option maxHeartbeats 400000 in
theorem fill_any (g o n c : Nat) (s : ByteArray) (cs : Array Value) (t : TypeId) (w : World) (hrow : Row w g t cs) (hs : s.size = 4 * n) (hfit : o + n ≤ cs.size) (hn : n ≤ 16) :
    Calls Try.prog 23 #[.slice (some ⟨g, o, none⟩) n c, .string s] w
      fun e w' => e = .returned (.tuple #[]) ∧ Row w' g t (put cs o (fun k => w32 (leAt s.data.toList (4 * k))) n) ∧ w.grownBy w' (some g) := by
  have Hs := Lib.hid hs
  have hs1 : 4 * n ≤ s.size := by omega
  clear hs
  go_enter Try.func23, Try.ntmps23
  go_wp2
  go_loopw [8, 4, 5] (fun i _ _ wr => ∃ k : Nat, k ≤ n ∧ i = .int .i64 k ∧ Row wr g t (put cs o (fun k => w32 (leAt s.data.toList (4 * k))) k) ∧ w.grownBy wr (some g)) (fun i _ _ _ => n - (intOf i).toNat)
  case atStart => exact ⟨0, Nat.zero_le _, rfl, hrow, gb_refl _ _⟩
  case round =>
    obtain ⟨k, hk, rfl, hr, hg⟩ := hrel
    by_cases hlt : k < n
    · obtain ⟨v0, hv0⟩ : ∃ v, (put cs o (fun k => w32 (leAt s.data.toList (4 * k))) k)[o + k]? = some v := ⟨_, Array.getElem?_eq_getElem (by rw [put_size]; omega)⟩
      have hc := hr.at_ hv0
      clear hv0
      have hf : wr.frozen? ⟨g, o + k, none⟩ = false := hr.free _
      obtain ⟨m, Hm⟩ : ∃ m : Nat, Hid (m = 4 * k) := ⟨_, rfl⟩
      have hm : 4 * (k : Int) = (m : Int) := by have := Hm.out; omega
      have hb0 : (m : Int) < (s.size : Int) := by have := Hm.out; omega
      have hb1 : (m : Int) + 1 < (s.size : Int) := by have := Hm.out; omega
      have hb2 : (m : Int) + 2 < (s.size : Int) := by have := Hm.out; omega
      have hb3 : (m : Int) + 3 < (s.size : Int) := by have := Hm.out; omega
      have hp1 : 0 ≤ (m : Int) + 1 := by omega
      have hp2 : 0 ≤ (m : Int) + 2 := by omega
      have hp3 : 0 ≤ (m : Int) + 3 := by omega
      go_wp2
      go_region
      go_wp2
      go_roundw
      case rel =>
        have e := le32_walk s[m] s[m + 1] s[m + 2] s[m + 3]
        rw [e, get_data s m (by omega), get_data s (m + 1) (by omega), get_data s (m + 2) (by omega), get_data s (m + 3) (by omega)]
        rw [Hm.out]
        exact ⟨k + 1, by omega, by go_num, (hr.set_ _ _).drew, gb_drew (gb_then hg (gb_set1 _ _ _ _))⟩
      case measure => simp [intOf]; omega
    · have hkn : k = n := by omega
      have Hkn := Lib.hid hkn
      clear hkn
      go_wp2
      go_end0
      have e := Hkn.out
      subst e
      exact ⟨rfl, hr, hg⟩
end Go.Proofs.Ytkeincmmcdcggaa
