/- hmac.Equal. -/
import Derived.Test.YtalobkggpdniaaaDoorHAwake
namespace Go.Proofs.YtalobkggpdniaaaDoor
open Go.RowKit Wd Mm

theorem or8 (a b : UInt8) : bits .or .u8 (a.toNat : Int) (b.toNat : Int) = ((a ||| b).toNat : Int) := by
  rw [u8_or_nat _ _ (lt8 a) (lt8 b), UInt8.toNat_or]
theorem or8_zero (a b : UInt8) : a ||| b = 0 ↔ a = 0 ∧ b = 0 := UInt8.or_eq_zero_iff
theorem xor8_zero (a b : UInt8) : a ^^^ b = 0 ↔ a = b := UInt8.xor_eq_zero_iff
theorem take_more (l : List UInt8) (k : Nat) (h : k < l.length) : l.take (k + 1) = l.take k ++ [l.getD k 0] := by
  rw [List.take_succ_eq_append_getElem h, List.getD_eq_getElem?_getD, List.getElem?_eq_getElem h]; rfl
theorem take_like (a b : List UInt8) (k : Nat) (ha : k < a.length) (hb : k < b.length) : a.take (k + 1) = b.take (k + 1) ↔ a.take k = b.take k ∧ a.getD k 0 = b.getD k 0 := by
  rw [take_more a k ha, take_more b k hb]
  constructor
  · intro h
    have := List.append_inj h (by simp; omega)
    exact ⟨this.1, by simpa using this.2⟩
  · rintro ⟨h1, h2⟩
    rw [h1, h2]
theorem ext_bytes (a b : ByteArray) (h : a.data.toList = b.data.toList) : a = b := by
  cases a; cases b
  congr 1
  exact Array.ext' h

attribute [local go_sem] xor8 or8
set_option maxHeartbeats 1000000 in
theorem unlike_any (a b : ByteArray) (w : World) (hab : a.size = b.size) (hs : a.size ≤ 9223372036854775807) :
    Calls Tryd.prog 36 #[.string a, .string b] w fun e w' => ∃ x : UInt8, e = .returned (.int .u8 (x.toNat : Int)) ∧ (x = 0 ↔ a = b) ∧ w.grownBy w' none := by
  have hb : a.size ≤ b.size := by omega
  have Hab := Lib.hid hab
  clear hab
  go_enter Tryd.func36, Tryd.ntmps36
  go_wp2_with fail
  go_loopw [9, 5] (fun i v wr => ∃ (k : Nat) (x : UInt8), k ≤ a.size ∧ i = .int .i64 k ∧ v = .int .u8 (x.toNat : Int) ∧ Hid (x = 0 ↔ a.data.toList.take k = b.data.toList.take k) ∧ w.grownBy wr none) (fun i _ _ => a.size - (intOf i).toNat)
  case atStart => exact ⟨0, 0, Nat.zero_le _, rfl, rfl, by show _ ↔ _; simp, gb_refl _ _⟩
  case round =>
    obtain ⟨k, x, hk, rfl, rfl, HX, hg⟩ := hrel
    by_cases hlt : k < a.size
    · have d1 : decide (k < a.size) = true := decide_eq_true hlt
      have d2 : decide ((k : Int) < (a.size : Int)) = true := decide_eq_true (by omega)
      have bk : (k : Int) < (a.size : Int) := by omega
      have bk2 : (k : Int) < (b.size : Int) := by omega
      have hlb : k < b.size := by omega
      go_wp2_with fail
      go_quiet (fail)
      go_wp2_with fail
      go_roundw
      case rel =>
        refine ⟨k + 1, x ||| (a[k] ^^^ b[k]), by omega, by go_num, by rw [← UInt8.toNat_xor, or8], ?_, gb_drewN hg _⟩
        show _ ↔ _
        rw [or8_zero, xor8_zero, take_like _ _ _ (by rw [len_data]; exact hlt) (by rw [len_data]; exact hlb), HX.out, get_data a k hlt, get_data b k hlb]
      case measure => simp [intOf]; omega
    · have hka : k = a.size := by omega
      subst hka
      have d1 : decide (a.size < a.size) = false := by simp
      have d2 : decide ((a.size : Int) < (a.size : Int)) = false := by simp
      go_wp2_with fail
      go_ret
      refine ⟨x, rfl, ?_, hg⟩
      rw [HX.out, List.take_of_length_le (by rw [len_data]; exact Nat.le_refl _), List.take_of_length_le (by rw [len_data, Hab.out]; exact Nat.le_refl _)]
      exact ⟨ext_bytes a b, fun h => by rw [h]⟩

def eqB (a b : ByteArray) : Bool := decide (a = b)
theorem eqB_self (a : ByteArray) : eqB a a = true := decide_eq_true rfl
theorem eqB_no {a b : ByteArray} (h : a ≠ b) : eqB a b = false := decide_eq_false h
set_option maxHeartbeats 1000000 in
theorem equal_any (a b : ByteArray) (w : World) (hs : a.size ≤ 9223372036854775807) :
    Calls Tryd.prog 22 #[.string a, .string b] w fun e w' => e = .returned (.bool (eqB a b)) ∧ w.grownBy w' none := by
  by_cases hsz : a.size = b.size
  · have t1 : ((a.size : Int) == (b.size : Int)) = true := by rw [hsz]; simp
    have t2 : (a.size == b.size) = true := by rw [hsz]; simp
    have Hsz := Lib.hid hsz
    clear hsz
    go_enter Tryd.func22, Tryd.ntmps22
    go_wp2_with fail
    refine (unlike_any a b _ Hsz.out hs).mono ?_
    rintro e w1 ⟨x, rfl, hx, g1⟩
    by_cases hx0 : x = 0
    · have t3 : ((x.toNat : Int) == 0) = true := by rw [hx0]; rfl
      have t4 : (x.toNat == 0) = true := by rw [hx0]; rfl
      have He : Hid (eqB a b = true) := decide_eq_true (hx.1 hx0)
      clear hx hx0
      go_wp2_with fail
      go_ret
      exact ⟨by rw [He.out]; rfl, g1⟩
    · have hn : x.toNat ≠ 0 := fun h => hx0 (UInt8.toNat_inj.1 h)
      have t3 : ((x.toNat : Int) == 0) = false := by rw [beq_eq_false_iff_ne]; omega
      have t4 : (x.toNat == 0) = false := by rw [beq_eq_false_iff_ne]; exact hn
      have He : Hid (eqB a b = false) := decide_eq_false (fun h => hx0 (hx.2 h))
      clear hx hx0 hn
      go_wp2_with fail
      go_ret
      exact ⟨by rw [He.out]; rfl, g1⟩
  · have t1 : ((a.size : Int) == (b.size : Int)) = false := by rw [beq_eq_false_iff_ne]; omega
    have t2 : (a.size == b.size) = false := by rw [beq_eq_false_iff_ne]; exact hsz
    have He : Hid (eqB a b = false) := decide_eq_false (fun h => hsz (by rw [h]))
    clear hsz
    go_enter Tryd.func22, Tryd.ntmps22
    go_wp2_with fail
    go_ret
    exact ⟨by rw [He.out]; rfl, gb_refl _ _⟩
end Go.Proofs.YtalobkggpdniaaaDoor
