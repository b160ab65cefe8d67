/- The document's Derive: keys by keys. -/
import Derived.Test.YtpnkglgbmgiogaaDoorHm
namespace Go.Proofs.YtpnkglgbmgiogaaDoor.Hh
open Go.RowKit Wd Mm

def oneB (k : Nat) : ByteArray := ⟨#[UInt8.ofNat k]⟩
/-- The k-th sum; all so far, side by side. -/
def tN (p info : ByteArray) : Nat → ByteArray
  | 0 => ⟨#[]⟩
  | k + 1 => macB p (tN p info k ++ info ++ oneB (k + 1))
def outN (p info : ByteArray) : Nat → ByteArray
  | 0 => ⟨#[]⟩
  | k + 1 => outN p info k ++ tN p info (k + 1)
def deriveB (salt key info : ByteArray) (n : Nat) : ByteArray := (outN (macB salt key) info ((n + 31) / 32)).extract 0 n
theorem tN_size (p info : ByteArray) (k : Nat) : (tN p info k).size ≤ 32 := by
  cases k with
  | zero => exact Nat.zero_le _
  | succ k => rw [tN, macB_size]; exact Nat.le_refl _
theorem outN_size (p info : ByteArray) (k : Nat) : (outN p info k).size = 32 * k := by
  induction k with
  | zero => rfl
  | succ k ih => rw [outN, ByteArray.size_append, ih, tN, macB_size]; omega
theorem oneB_size (k : Nat) : (oneB k).size = 1 := rfl
/-- One byte, laid as a slice, as a text. -/
theorem one_text (W : World) (k : Nat) (h : k ≤ 255) : (convert 37 9 (.slice (some ⟨W.heap.size, 0, none⟩) 1 1)).run Tryd.prog (W.alloc (.cells #[.int .u8 (k : Int)] 5)) = .ok (.string (oneB k)) (W.alloc (.cells #[.int .u8 (k : Int)] 5)) := by
  have e : (#[Value.int .u8 (k : Int)] : Array Value) = ([UInt8.ofNat k].map w8).toArray := by
    simp only [List.map_cons, List.map_nil]
    unfold w8
    rw [UInt8.toNat_ofNat', Nat.mod_eq_of_lt (by omega)]
  rw [e]
  exact row_string (l := [UInt8.ofNat k]) (Row.new W 5 _) 1

set_option maxHeartbeats 1000000 in
theorem refDerive_no (salt key info : ByteArray) (n : Int) (w : World) (h : n < 0 ∨ 8160 < n) :
    Calls Tryd.prog 18 #[.string salt, .string key, .string info, .int .i64 n] w fun e w' => e = .returned (.string ⟨#[]⟩) ∧ w = w' := by
  by_cases h0 : n < 0
  · have t1 : decide (n < 0) = true := decide_eq_true h0
    clear h
    go_enter Tryd.func18, Tryd.ntmps18
    go_wp2_with fail
    go_ret
    exact ⟨rfl, rfl⟩
  · have t1 : decide (n < 0) = false := decide_eq_false h0
    have t2 : decide (8160 < n) = true := decide_eq_true (by omega)
    clear h h0
    go_enter Tryd.func18, Tryd.ntmps18
    go_wp2_with fail
    go_ret
    exact ⟨rfl, rfl⟩

set_option maxHeartbeats 4000000 in
theorem refDerive_any (salt key info : ByteArray) (n : Nat) (w : World) (hn : n ≤ 8160) (h1 : salt.size ≤ 1048576) (h2 : key.size ≤ 1048576) (h3 : info.size ≤ 1048576) :
    Calls Tryd.prog 18 #[.string salt, .string key, .string info, .int .i64 (n : Int)] w fun e w' => e = .returned (.string (deriveB salt key info n)) ∧ w.grownBy w' none := by
  have t1 : decide ((n : Int) < 0) = false := decide_eq_false (by omega)
  have t2 : decide ((8160 : Int) < (n : Int)) = false := decide_eq_false (by omega)
  obtain ⟨p, Hp⟩ : ∃ p : ByteArray, Hid (p = macB salt key) := ⟨_, rfl⟩
  have hp : p.size ≤ 32 := by rw [Hp.out, macB_size]; exact Nat.le_refl _
  go_enter Tryd.func18, Tryd.ntmps18
  go_wp2_with fail
  refine (refMac_any salt key _ (by omega) (by omega)).mono ?_
  rintro e w1 ⟨rfl, g1⟩
  rw [← Hp.out]
  go_wp2_with fail
  go_loopw [12, 10, 11] (fun i vo vt wr => ∃ k : Nat, 32 * k < n + 32 ∧ i = .int .i64 ((k + 1 : Nat) : Int) ∧ vo = .string (outN p info k) ∧ vt = .string (tN p info k) ∧ w.grownBy wr none) (fun i _ _ _ => 300 - (intOf i).toNat)
  case atStart => exact ⟨0, by omega, rfl, rfl, rfl, g1⟩
  case round =>
    clear g1
    obtain ⟨k, hk, rfl, rfl, rfl, hg⟩ := hrel
    have hos := outN_size p info k
    have hts := tN_size p info k
    have Hto := Lib.hid (show tN p info (k + 1) = macB p (tN p info k ++ info ++ oneB (k + 1)) ∧ outN p info (k + 1) = outN p info k ++ tN p info (k + 1) from ⟨rfl, rfl⟩)
    have Hfin := Lib.hid (show ∀ m, k = (m + 31) / 32 → (outN p info k).extract 0 m = deriveB salt key info m from fun m h => by rw [deriveB, ← Hp.out, h])
    obtain ⟨o, Ho⟩ : ∃ o, Hid (o = outN p info k) := ⟨_, rfl⟩
    obtain ⟨t, Ht⟩ : ∃ t, Hid (t = tN p info k) := ⟨_, rfl⟩
    rw [← Ho.out] at hos Hto Hfin ⊢
    rw [← Ht.out] at hts Hto ⊢
    have hos2 : o.size ≤ 8160 := by omega
    obtain ⟨j, Hj⟩ : ∃ j, Hid (j = k + 1) := ⟨_, rfl⟩
    rw [← Hj.out] at Hto ⊢
    have hj : j ≤ 256 := by have := Hj.out; omega
    by_cases hlt : o.size < n
    · have d1 : decide (o.size < n) = true := decide_eq_true hlt
      have d2 : decide ((o.size : Int) < (n : Int)) = true := decide_eq_true (by omega)
      have hj2 : j ≤ 255 := by have := Hj.out; omega
      have hj3 : (j : Int) ≤ 255 := by omega
      have hconv := one_text wr j hj2
      obtain ⟨b, Hb⟩ : ∃ b, Hid (b = oneB j) := ⟨_, rfl⟩
      rw [← Hb.out] at hconv Hto
      have hbs : b.size ≤ 1 := by rw [Hb.out]; exact Nat.le_refl _
      have hsm : (t ++ info ++ b).size ≤ 549755813888 := by rw [ByteArray.size_append, ByteArray.size_append]; omega
      have hti : (t ++ info).size ≤ 2000000 := by rw [ByteArray.size_append]; omega
      have Hos := Lib.hid hos
      clear hos
      go_wp2_with fail
      refine (refMac_any p (t ++ info ++ b) _ (by omega) hsm).mono ?_
      rintro e w2 ⟨rfl, g2⟩
      rw [← Hto.out.1]
      have hms : (tN p info j).size ≤ 32 := tN_size p info j
      obtain ⟨t2, Ht2⟩ : ∃ t, Hid (t = tN p info j) := ⟨_, rfl⟩
      rw [← Ht2.out] at hms Hto ⊢
      clear hconv
      go_wp2_with fail
      go_roundw
      case rel =>
        refine ⟨j, by have := Hj.out; have := Hos.out; omega, by go_num, ?_, ?_, gb_none (gb_alloc hg _) g2⟩
        · rw [Hto.out.2]
        · rw [Ht2.out]
      case measure => simp [intOf]; omega
    · have d1 : decide (o.size < n) = false := decide_eq_false hlt
      have d2 : decide ((o.size : Int) < (n : Int)) = false := decide_eq_false (by omega)
      have hno : n ≤ o.size := by omega
      have hf := Hfin.out n (by omega)
      have Hf := Lib.hid hf
      have Hos := Lib.hid hos
      clear hf hlt hos
      go_wp2_with fail
      go_ret
      exact ⟨by rw [← Hf.out]; rfl, hg⟩
end Go.Proofs.YtpnkglgbmgiogaaDoor.Hh
