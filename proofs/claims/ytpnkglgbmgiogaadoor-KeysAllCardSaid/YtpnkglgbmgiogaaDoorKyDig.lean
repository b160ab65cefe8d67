/- The document's Digits, of whatever number: the decimal numeral. -/
import Derived.Test.YtpnkglgbmgiogaaDoorKyP
import Derived.IntWalk
import Derived.Outline
namespace Go.Proofs.YtpnkglgbmgiogaaDoor.Ky
open Go.RowKit Wd Mm Vw

theorem row_bytes2 {w : World} {g : Nat} {t : TypeId} {l : List UInt8} (h : Row w g t (l.map w8).toArray) : ∀ j (hj : j < l.length), w.cell? ((⟨g, 0, none⟩ : Addr).add j) = some (.int .u8 (l[j].toNat : Int)) := fun j hj => by
  have hadd : (⟨g, 0, none⟩ : Addr).add j = ⟨g, j, none⟩ := by unfold Addr.add; split <;> simp_all
  rw [hadd]
  exact h.at_ (by simp [hj, w8])
theorem row_text2 {w : World} {g : Nat} {l : List UInt8} (h : Row w g 5 (l.map w8).toArray) (c : Nat) : (convert 37 9 (.slice (some ⟨g, 0, none⟩) l.length c)).run Tryd.prog w = .ok (.string ⟨l.toArray⟩) w :=
  run_convert_bytes_back (P := Tryd.prog) w 37 9 5 ⟨g, 0, none⟩ c l Tryd.underlying37 Tryd.underlying5 Tryd.underlying9 (row_bytes2 h)
theorem len_text (s : ByteArray) : s.data.toList.length = s.size := by rw [Array.length_toList]; rfl
def digB (k : Nat) : ByteArray := ⟨#[UInt8.ofNat (48 + k)]⟩
/-- One digit, laid as a slice, as a text. -/
theorem digit_text (W : World) (k : Nat) (h : k < 10) : (convert 37 9 (.slice (some ⟨W.heap.size, 0, none⟩) 1 1)).run Tryd.prog (W.alloc (.cells #[.int .u8 (48 + (k : Int))] 5)) = .ok (.string (digB k)) (W.alloc (.cells #[.int .u8 (48 + (k : Int))] 5)) := by
  have e : (#[Value.int .u8 (48 + (k : Int))] : Array Value) = ([UInt8.ofNat (48 + k)].map w8).toArray := by
    simp only [List.map_cons, List.map_nil]
    unfold w8
    rw [UInt8.toNat_ofNat', Nat.mod_eq_of_lt (by omega)]
    congr 3
  rw [e]
  exact row_text2 (l := [UInt8.ofNat (48 + k)]) (Row.new W 5 _) 1
theorem dig_step (u : Nat) (h : ¬ u < 10) (s : ByteArray) (N : List UInt8) (hs : Lib.decDigits u ++ s.data.toList = N) : Lib.decDigits (u / 10) ++ (digB (u % 10) ++ s).data.toList = N := by
  rw [← hs, ← digits_step u h]
  simp [digB, ByteArray.data_append]
theorem dig_last (u : Nat) (h : u < 10) (s : ByteArray) (N : List UInt8) (hs : Lib.decDigits u ++ s.data.toList = N) : digB u ++ s = ⟨N.toArray⟩ := by
  rw [← hs, ← digits_last u h]
  apply ByteArray.ext
  apply Array.ext'
  simp [digB, ByteArray.data_append]

set_option maxHeartbeats 4000000 in
theorem refDigits_any (n : Int) (w : World) (h0 : -9223372036854775808 ≤ n) (h1 : n ≤ 9223372036854775807) :
    Calls Tryd.prog 17 #[.int .i64 n] w fun e w' => e = .returned (.string ⟨(Lib.itoa n).toArray⟩) ∧ w.grownBy w' none := by
  obtain ⟨N, HN⟩ : ∃ N : Nat, Hid (N = n.natAbs) := ⟨_, rfl⟩
  have hN : N ≤ 9223372036854775808 := by have := HN.out; omega
  obtain ⟨D, HD⟩ : ∃ D : List UInt8, Hid (D = Lib.decDigits N) := ⟨_, rfl⟩
  have hD : D.length ≤ 21 := by rw [HD.out, Lib.decDigits_length]; have := Lib.nDigits_le20 N (by omega); omega
  by_cases hneg : n < 0
  · have t1 : decide (n < 0) = true := decide_eq_true hneg
    have hfin : (⟨(Lib.itoa n).toArray⟩ : ByteArray) = ⟨#[45]⟩ ++ ⟨D.toArray⟩ := by
      rw [itoa_neg n hneg, HD.out, HN.out]
      apply ByteArray.ext
      apply Array.ext'
      simp [ByteArray.data_append]
    have Hfin := Lib.hid hfin
    have c1 : IntKind.u64.wrap (-IntKind.u64.wrap n) = (N : Int) := by rw [IntKind.wrap_u64, IntKind.wrap_u64]; have := HN.out; omega
    clear hfin hneg
    go_enter Tryd.func17, Tryd.ntmps17
    go_wp2_with fail
    go_loopw [3, 4] (fun u s wr => ∃ (m : Nat) (S : ByteArray), m ≤ 9223372036854775808 ∧ Lib.decDigits m ++ S.data.toList = D ∧ u = .int .u64 (m : Int) ∧ s = .string S ∧ w.grownBy wr none) (fun u _ _ => (intOf u).toNat)
    case atStart => exact ⟨N, ⟨#[]⟩, hN, by rw [HD.out]; simp, rfl, rfl, gb_refl _ _⟩
    case round =>
      obtain ⟨m, S, hm, hs, rfl, rfl, hg⟩ := hrel
      have hS : S.size ≤ 21 := by
        have := congrArg List.length hs
        rw [List.length_append, len_text] at this
        omega
      have Hs := Lib.hid hs
      clear hs
      by_cases hlt : m < 10
      · have d1 : decide ((10 : Int) ≤ (m : Int)) = false := decide_eq_false (by omega)
        have hconv := digit_text wr m hlt
        have hend := dig_last m hlt S D Hs.out
        have c2 : IntKind.u64.wrap (48 + (m : Int)) = 48 + (m : Int) := by rw [IntKind.wrap_u64]; omega
        have c3 : IntKind.u8.wrap (48 + (m : Int)) = 48 + (m : Int) := by rw [IntKind.wrap_u8]; omega
        have hd : (digB m).size = 1 := rfl
        obtain ⟨x, Hx⟩ : ∃ x, Hid (x = digB m) := ⟨_, rfl⟩
        rw [← Hx.out] at hconv hend hd
        have Hend := Lib.hid hend
        clear hend
        go_wp2_with fail
        rw [Hend.out]
        go_wp2_with fail
        go_ret
        exact ⟨by rw [Hfin.out]; rfl, gb_alloc hg _⟩
      · have d1 : decide ((10 : Int) ≤ (m : Int)) = true := decide_eq_true (by omega)
        obtain ⟨q, Hq⟩ : ∃ q : Nat, Hid (q = m % 10) := ⟨_, rfl⟩
        obtain ⟨r, Hr⟩ : ∃ r : Nat, Hid (r = m / 10) := ⟨_, rfl⟩
        have hq : q < 10 := by have := Hq.out; omega
        have hr : r < m := by have := Hr.out; omega
        have e1 : (m : Int) % 10 = (q : Int) := by have := Hq.out; omega
        have e2 : (m : Int) / 10 = (r : Int) := by have := Hr.out; omega
        have hconv := digit_text wr q hq
        have hnext : Lib.decDigits r ++ (digB q ++ S).data.toList = D := by rw [Hq.out, Hr.out]; exact dig_step m hlt S D Hs.out
        have hd : (digB q).size = 1 := rfl
        have c2 : IntKind.u64.wrap (48 + (q : Int)) = 48 + (q : Int) := by rw [IntKind.wrap_u64]; omega
        have c3 : IntKind.u8.wrap (48 + (q : Int)) = 48 + (q : Int) := by rw [IntKind.wrap_u8]; omega
        obtain ⟨x, Hx⟩ : ∃ x, Hid (x = digB q) := ⟨_, rfl⟩
        rw [← Hx.out] at hconv hnext hd
        have Hnext := Lib.hid hnext
        clear hnext
        go_wp2_with fail
        go_roundw
        case rel => exact ⟨r, x ++ S, by omega, Hnext.out, rfl, rfl, gb_alloc hg _⟩
        case measure => simp [intOf]; omega
  · have t1 : decide (n < 0) = false := decide_eq_false hneg
    have hfin : (⟨(Lib.itoa n).toArray⟩ : ByteArray) = ⟨D.toArray⟩ := by
      rw [itoa_pos n hneg, HD.out, HN.out, show n.toNat = n.natAbs by omega]
    have Hfin := Lib.hid hfin
    have c1 : IntKind.u64.wrap n = (N : Int) := by rw [IntKind.wrap_u64]; have := HN.out; omega
    clear hfin hneg
    go_enter Tryd.func17, Tryd.ntmps17
    go_wp2_with fail
    go_loopw [3, 4] (fun u s wr => ∃ (m : Nat) (S : ByteArray), m ≤ 9223372036854775808 ∧ Lib.decDigits m ++ S.data.toList = D ∧ u = .int .u64 (m : Int) ∧ s = .string S ∧ w.grownBy wr none) (fun u _ _ => (intOf u).toNat)
    case atStart => exact ⟨N, ⟨#[]⟩, hN, by rw [HD.out]; simp, rfl, rfl, gb_refl _ _⟩
    case round =>
      obtain ⟨m, S, hm, hs, rfl, rfl, hg⟩ := hrel
      have hS : S.size ≤ 21 := by
        have := congrArg List.length hs
        rw [List.length_append, len_text] at this
        omega
      have Hs := Lib.hid hs
      clear hs
      by_cases hlt : m < 10
      · have d1 : decide ((10 : Int) ≤ (m : Int)) = false := decide_eq_false (by omega)
        have hconv := digit_text wr m hlt
        have hend := dig_last m hlt S D Hs.out
        have c2 : IntKind.u64.wrap (48 + (m : Int)) = 48 + (m : Int) := by rw [IntKind.wrap_u64]; omega
        have c3 : IntKind.u8.wrap (48 + (m : Int)) = 48 + (m : Int) := by rw [IntKind.wrap_u8]; omega
        have hd : (digB m).size = 1 := rfl
        obtain ⟨x, Hx⟩ : ∃ x, Hid (x = digB m) := ⟨_, rfl⟩
        rw [← Hx.out] at hconv hend hd
        have Hend := Lib.hid hend
        clear hend
        go_wp2_with fail
        rw [Hend.out]
        go_wp2_with fail
        go_ret
        exact ⟨by rw [Hfin.out]; rfl, gb_alloc hg _⟩
      · have d1 : decide ((10 : Int) ≤ (m : Int)) = true := decide_eq_true (by omega)
        obtain ⟨q, Hq⟩ : ∃ q : Nat, Hid (q = m % 10) := ⟨_, rfl⟩
        obtain ⟨r, Hr⟩ : ∃ r : Nat, Hid (r = m / 10) := ⟨_, rfl⟩
        have hq : q < 10 := by have := Hq.out; omega
        have hr : r < m := by have := Hr.out; omega
        have e1 : (m : Int) % 10 = (q : Int) := by have := Hq.out; omega
        have e2 : (m : Int) / 10 = (r : Int) := by have := Hr.out; omega
        have hconv := digit_text wr q hq
        have hnext : Lib.decDigits r ++ (digB q ++ S).data.toList = D := by rw [Hq.out, Hr.out]; exact dig_step m hlt S D Hs.out
        have hd : (digB q).size = 1 := rfl
        have c2 : IntKind.u64.wrap (48 + (q : Int)) = 48 + (q : Int) := by rw [IntKind.wrap_u64]; omega
        have c3 : IntKind.u8.wrap (48 + (q : Int)) = 48 + (q : Int) := by rw [IntKind.wrap_u8]; omega
        obtain ⟨x, Hx⟩ : ∃ x, Hid (x = digB q) := ⟨_, rfl⟩
        rw [← Hx.out] at hconv hnext hd
        have Hnext := Lib.hid hnext
        clear hnext
        go_wp2_with fail
        go_roundw
        case rel => exact ⟨r, x ++ S, by omega, Hnext.out, rfl, rfl, gb_alloc hg _⟩
        case measure => simp [intOf]; omega
end Go.Proofs.YtpnkglgbmgiogaaDoor.Ky
