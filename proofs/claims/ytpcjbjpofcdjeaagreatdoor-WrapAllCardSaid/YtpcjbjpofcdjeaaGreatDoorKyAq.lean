/- Keys (14), pure: a nonce as bytes, a word with a number behind it. The document's Digits, of whatever number: the decimal numeral. The document's keys (14.1). What the keys' package reads of package-level variables: sha's tables, hmac's errors, the library's powers of ten. The program's keys (14.1). The program's Nonce (14.1). -/
import Derived.Test.YtpcjbjpofcdjeaaGreatDoorVCq
import Derived.Lib.ItoaNum
import Derived.Lib.ItoaLen
import Derived.Test.YtpcjbjpofcdjeaaGreatDoorHmBq
import Derived.Lib.AppendIntMem
set_option maxHeartbeats 4000000
namespace Go.Proofs.YtpcjbjpofcdjeaaGreatDoor.Ky
open Go.RowKit Mm Vw
def nonceB (n : Int) : ByteArray := ⟨(([0, 0, 0, 0] : List UInt8) ++ highs n 8).toArray⟩
theorem nonce_size (n : Int) : (nonceB n).size = 12 := by
 show (([0, 0, 0, 0] : List UInt8) ++ highs n 8).toArray.size = 12
 rw [List.size_toArray, List.length_append, highs_len]; rfl
theorem nonce_of (n : Int) : (⟨#[0, 0, 0, 0]⟩ : ByteArray) ++ ⟨(highs n 8).toArray⟩ = nonceB n := by
 apply ByteArray.ext
 apply Array.ext'
 simp [nonceB]
def wordB (p : ByteArray) (n : Int) : ByteArray := p ++ ⟨(Lib.itoa n).toArray⟩
theorem word_size (p : ByteArray) (n : Int) (h0 : -9223372036854775808 ≤ n) (h1 : n ≤ 9223372036854775807) : (wordB p n).size ≤ p.size + 21 := by
 have := Lib.itoa_length_le n h0 h1
 rw [wordB, ByteArray.size_append]
 show p.size + (Lib.itoa n).toArray.size ≤ _
 rw [List.size_toArray]
 omega
theorem digits_step (u : Nat) (h : ¬ u < 10) (l : List UInt8) : Lib.decDigits (u / 10) ++ UInt8.ofNat (48 + u % 10) :: l = Lib.decDigits u ++ l := by
 conv => rhs; rw [Lib.decDigits, dif_neg h]
 simp
theorem digits_last (u : Nat) (h : u < 10) (l : List UInt8) : UInt8.ofNat (48 + u) :: l = Lib.decDigits u ++ l := by
 rw [Lib.decDigits, dif_pos h]; rfl
theorem itoa_neg (n : Int) (h : n < 0) : Lib.itoa n = 45 :: Lib.decDigits n.natAbs := by rw [Lib.itoa, if_pos h]
theorem itoa_pos (n : Int) (h : ¬ n < 0) : Lib.itoa n = Lib.decDigits n.toNat := by rw [Lib.itoa, if_neg h]
end Go.Proofs.YtpcjbjpofcdjeaaGreatDoor.Ky
namespace Go.Proofs.YtpcjbjpofcdjeaaGreatDoor.Ky
open Go.RowKit Wd Mm Vw
theorem row_bytes2 {w : World} {g : Nat} {t : TypeId} {l : List UInt8} (h : Row w g t (l.map w8).toArray) : ∀ j (hj : j < l.length), w.cell? ((⟨g, 0, none⟩ : Addr).add j) = some (.int .u8 (l[j].toNat : Int)) := fun j hj => by
 have hadd : (⟨g, 0, none⟩ : Addr).add j = ⟨g, j, none⟩ := by unfold Addr.add; split <;> simp_all
 rw [hadd]
 exact h.at_ (by simp [hj, w8])
theorem row_text2 {w : World} {g : Nat} {l : List UInt8} (h : Row w g 5 (l.map w8).toArray) (c : Nat) : (convert 54 9 (.slice (some ⟨g, 0, none⟩) l.length c)).run Tryz.prog w = .ok (.string ⟨l.toArray⟩) w :=
 run_convert_bytes_back (P := Tryz.prog) w 54 9 5 ⟨g, 0, none⟩ c l Tryz.underlying54 Tryz.underlying5 Tryz.underlying9 (row_bytes2 h)
theorem len_text (s : ByteArray) : s.data.toList.length = s.size := by rw [Array.length_toList]; rfl
def digB (k : Nat) : ByteArray := ⟨#[UInt8.ofNat (48 + k)]⟩
theorem digit_text (W : World) (k : Nat) (h : k < 10) : (convert 54 9 (.slice (some ⟨W.heap.size, 0, none⟩) 1 1)).run Tryz.prog (W.alloc (.cells #[.int .u8 (48 + (k : Int))] 5)) = .ok (.string (digB k)) (W.alloc (.cells #[.int .u8 (48 + (k : Int))] 5)) := by
 have e : (#[Value.int .u8 (48 + (k : Int))] : Array Value) = ([UInt8.ofNat (48 + k)].map w8).toArray := by
  simp only [List.map_cons, List.map_nil]
  unfold w8
  rw [UInt8.toNat_ofNat', Nat.mod_eq_of_lt (by omega)]
  congr 3
 rw [e]
 exact row_text2 (l := [UInt8.ofNat (48 + k)]) (Row.new W 5 _) 1
theorem dig_step (u : Nat) (h : ¬ u < 10) (s : ByteArray) (N : List UInt8) (hs : Lib.decDigits u ++ s.data.toList = N) : Lib.decDigits (u / 10) ++ (digB (u % 10) ++ s).data.toList = N := by
 rw [← hs, ← digits_step u h]
 simp [digB, ByteArray.data_append]
theorem dig_last (u : Nat) (h : u < 10) (s : ByteArray) (N : List UInt8) (hs : Lib.decDigits u ++ s.data.toList = N) : digB u ++ s = ⟨N.toArray⟩ := by
 rw [← hs, ← digits_last u h]
 apply ByteArray.ext
 apply Array.ext'
 simp [digB, ByteArray.data_append]
theorem refDigits_any (n : Int) (w : World) (h0 : -9223372036854775808 ≤ n) (h1 : n ≤ 9223372036854775807) :
  Calls Tryz.prog 58 #[.int .i64 n] w fun e w' => e = .returned (.string ⟨(Lib.itoa n).toArray⟩) ∧ Gn w w' := by
 obtain ⟨N, HN⟩ : ∃ N : Nat, Hid (N = n.natAbs) := ⟨_, rfl⟩
 have hN : N ≤ 9223372036854775808 := by have := HN.out; omega
 obtain ⟨D, HD⟩ : ∃ D : List UInt8, Hid (D = Lib.decDigits N) := ⟨_, rfl⟩
 have hD : D.length ≤ 21 := by rw [HD.out, Lib.decDigits_length]; have := Lib.nDigits_le20 N (by omega); omega
 by_cases hneg : n < 0
 ·have t1 : decide (n < 0) = true := decide_eq_true hneg
  have hfin : (⟨(Lib.itoa n).toArray⟩ : ByteArray) = ⟨#[45]⟩ ++ ⟨D.toArray⟩ := by
   rw [itoa_neg n hneg, HD.out, HN.out]
   apply ByteArray.ext
   apply Array.ext'
   simp [ByteArray.data_append]
  have Hfin := qj hfin
  have c1 : IntKind.u64.wrap (-IntKind.u64.wrap n) = (N : Int) := by rw [IntKind.wrap_u64, IntKind.wrap_u64]; have := HN.out; omega
  clear hfin hneg
  go_enter Tryz.func58, Tryz.ntmps58
  go_wp2_with fail
  go_loopw [3, 4] (fun u s wr => ∃ (m : Nat) (S : ByteArray), m ≤ 9223372036854775808 ∧ Lib.decDigits m ++ S.data.toList = D ∧ u = .int .u64 (m : Int) ∧ s = .string S ∧ Gn w wr) (fun u _ _ => (intOf u).toNat)
  case atStart => exact ⟨N, ⟨#[]⟩, hN, by rw [HD.out]; simp, rfl, rfl, gb_refl _ _⟩
  case round =>
   obtain ⟨m, S, hm, hs, rfl, rfl, hg⟩ := hrel
   have hS : S.size ≤ 21 := by
    have := congrArg List.length hs
    rw [List.length_append, len_text] at this
    omega
   have Hs := qj hs
   clear hs
   by_cases hlt : m < 10
   ·have d1 : decide ((10 : Int) ≤ (m : Int)) = false := dcF
    have hconv := digit_text wr m hlt
    have hend := dig_last m hlt S D Hs.out
    have c2 : IntKind.u64.wrap (48 + (m : Int)) = 48 + (m : Int) := by rw [IntKind.wrap_u64]; omega
    have c3 : IntKind.u8.wrap (48 + (m : Int)) = 48 + (m : Int) := by rw [IntKind.wrap_u8]; omega
    have hd : (digB m).size = 1 := rfl
    obtain ⟨x, Hx⟩ : ∃ x, Hid (x = digB m) := ⟨_, rfl⟩
    rw [← Hx.out] at hconv hend hd
    have Hend := qj hend
    clear hend
    go_wp2_with fail
    rw [Hend.out]
    go_wp2_with fail
    go_ret
    exact ⟨by rw [Hfin.out]; rfl, gb_alloc hg _⟩
   ·have d1 : decide ((10 : Int) ≤ (m : Int)) = true := dcT
    obtain ⟨q, Hq⟩ : ∃ q : Nat, Hid (q = m % 10) := ⟨_, rfl⟩
    obtain ⟨r, Hr⟩ : ∃ r : Nat, Hid (r = m / 10) := ⟨_, rfl⟩
    have hq : q < 10 := by have := Hq.out; omega
    have hr : r < m := by have := Hr.out; omega
    have e1 : (m : Int) % 10 = (q : Int) := by have := Hq.out; omega
    have e2 : (m : Int) / 10 = (r : Int) := by have := Hr.out; omega
    have hconv := digit_text wr q hq
    have hnext : Lib.decDigits r ++ (digB q ++ S).data.toList = D := by rw [Hq.out, Hr.out]; exact dig_step m hlt S D Hs.out
    have hd : (digB q).size = 1 := rfl
    have c2 : IntKind.u64.wrap (48 + (q : Int)) = 48 + (q : Int) := by rw [IntKind.wrap_u64]; omega
    have c3 : IntKind.u8.wrap (48 + (q : Int)) = 48 + (q : Int) := by rw [IntKind.wrap_u8]; omega
    obtain ⟨x, Hx⟩ : ∃ x, Hid (x = digB q) := ⟨_, rfl⟩
    rw [← Hx.out] at hconv hnext hd
    have Hnext := qj hnext
    clear hnext
    go_wp2_with fail
    go_roundw
    case rel => exact ⟨r, x ++ S, by omega, Hnext.out, rfl, rfl, gb_alloc hg _⟩
    case measure => simp [intOf]; omega
 ·have t1 : decide (n < 0) = false := decide_eq_false hneg
  have hfin : (⟨(Lib.itoa n).toArray⟩ : ByteArray) = ⟨D.toArray⟩ := by
   rw [itoa_pos n hneg, HD.out, HN.out, show n.toNat = n.natAbs by omega]
  have Hfin := qj hfin
  have c1 : IntKind.u64.wrap n = (N : Int) := by rw [IntKind.wrap_u64]; have := HN.out; omega
  clear hfin hneg
  go_enter Tryz.func58, Tryz.ntmps58
  go_wp2_with fail
  go_loopw [3, 4] (fun u s wr => ∃ (m : Nat) (S : ByteArray), m ≤ 9223372036854775808 ∧ Lib.decDigits m ++ S.data.toList = D ∧ u = .int .u64 (m : Int) ∧ s = .string S ∧ Gn w wr) (fun u _ _ => (intOf u).toNat)
  case atStart => exact ⟨N, ⟨#[]⟩, hN, by rw [HD.out]; simp, rfl, rfl, gb_refl _ _⟩
  case round =>
   obtain ⟨m, S, hm, hs, rfl, rfl, hg⟩ := hrel
   have hS : S.size ≤ 21 := by
    have := congrArg List.length hs
    rw [List.length_append, len_text] at this
    omega
   have Hs := qj hs
   clear hs
   by_cases hlt : m < 10
   ·have d1 : decide ((10 : Int) ≤ (m : Int)) = false := dcF
    have hconv := digit_text wr m hlt
    have hend := dig_last m hlt S D Hs.out
    have c2 : IntKind.u64.wrap (48 + (m : Int)) = 48 + (m : Int) := by rw [IntKind.wrap_u64]; omega
    have c3 : IntKind.u8.wrap (48 + (m : Int)) = 48 + (m : Int) := by rw [IntKind.wrap_u8]; omega
    have hd : (digB m).size = 1 := rfl
    obtain ⟨x, Hx⟩ : ∃ x, Hid (x = digB m) := ⟨_, rfl⟩
    rw [← Hx.out] at hconv hend hd
    have Hend := qj hend
    clear hend
    go_wp2_with fail
    rw [Hend.out]
    go_wp2_with fail
    go_ret
    exact ⟨by rw [Hfin.out]; rfl, gb_alloc hg _⟩
   ·have d1 : decide ((10 : Int) ≤ (m : Int)) = true := dcT
    obtain ⟨q, Hq⟩ : ∃ q : Nat, Hid (q = m % 10) := ⟨_, rfl⟩
    obtain ⟨r, Hr⟩ : ∃ r : Nat, Hid (r = m / 10) := ⟨_, rfl⟩
    have hq : q < 10 := by have := Hq.out; omega
    have hr : r < m := by have := Hr.out; omega
    have e1 : (m : Int) % 10 = (q : Int) := by have := Hq.out; omega
    have e2 : (m : Int) / 10 = (r : Int) := by have := Hr.out; omega
    have hconv := digit_text wr q hq
    have hnext : Lib.decDigits r ++ (digB q ++ S).data.toList = D := by rw [Hq.out, Hr.out]; exact dig_step m hlt S D Hs.out
    have hd : (digB q).size = 1 := rfl
    have c2 : IntKind.u64.wrap (48 + (q : Int)) = 48 + (q : Int) := by rw [IntKind.wrap_u64]; omega
    have c3 : IntKind.u8.wrap (48 + (q : Int)) = 48 + (q : Int) := by rw [IntKind.wrap_u8]; omega
    obtain ⟨x, Hx⟩ : ∃ x, Hid (x = digB q) := ⟨_, rfl⟩
    rw [← Hx.out] at hconv hnext hd
    have Hnext := qj hnext
    clear hnext
    go_wp2_with fail
    go_roundw
    case rel => exact ⟨r, x ++ S, by omega, Hnext.out, rfl, rfl, gb_alloc hg _⟩
    case measure => simp [intOf]; omega
end Go.Proofs.YtpcjbjpofcdjeaaGreatDoor.Ky
namespace Go.Proofs.YtpcjbjpofcdjeaaGreatDoor.Ky
open Go.RowKit Wd Mm Hh Vw
def salt : ByteArray := ⟨#[100, 101, 97, 100, 100, 114, 111, 112]⟩
def ownW : ByteArray := ⟨#[111, 119, 110, 32]⟩
def epochW : ByteArray := ⟨#[101, 112, 111, 99, 104, 32]⟩
def wrapW : ByteArray := ⟨#[119, 114, 97, 112]⟩
def ownB (key : ByteArray) (n : Int) : ByteArray := deriveB salt key (wordB ownW n) 32
def epochB (key : ByteArray) (n : Int) : ByteArray := deriveB salt key (wordB epochW n) 32
def wrapB (key : ByteArray) : ByteArray := deriveB salt key wrapW 64
theorem derive_size (a b c : ByteArray) (n : Nat) : (deriveB a b c n).size = n := by
 rw [deriveB, ByteArray.size_extract, outN_size]; omega
theorem own_size (key : ByteArray) (n : Int) : (ownB key n).size = 32 := derive_size _ _ _ _
theorem wrap_size (key : ByteArray) : (wrapB key).size = 64 := derive_size _ _ _ _
theorem refOwn_any (key : ByteArray) (n : Int) (w : World) (h0 : -9223372036854775808 ≤ n) (h1 : n ≤ 9223372036854775807) (hk : key.size ≤ 1048576) :
  Calls Tryz.prog 26 #[.string key, .int .i64 n] w fun e w' => e = .returned (.string (deriveB salt key (wordB ownW n) 32)) ∧ Gn w w' := by
 have hi : (wordB ownW n).size ≤ 1048576 := by have := word_size ownW n h0 h1; have e : ownW.size = 4 := rfl; omega
 have hl := Lib.itoa_length_le n h0 h1
 obtain ⟨D, HD⟩ : ∃ D : ByteArray, Hid (D = ⟨(Lib.itoa n).toArray⟩) := ⟨_, rfl⟩
 have hD : D.size ≤ 21 := by rw [HD.out]; show (Lib.itoa n).toArray.size ≤ 21; rw [List.size_toArray]; omega
 have hw : (⟨#[111, 119, 110, 32]⟩ : ByteArray) ++ D = wordB ownW n := by rw [HD.out]; rfl
 have Hw := qj hw
 clear hw hl
 go_enter Tryz.func26, Tryz.ntmps26
 go_wp2_with fail
 refine (refDigits_any n _ h0 h1).mono ?_
 rintro e w1 ⟨rfl, g1⟩
 rw [← HD.out]
 go_wp2_with fail
 rw [Hw.out]
 refine (refDerive_any salt key (wordB ownW n) 32 _ (by omega) (by decide) hk hi).mono ?_
 rintro e w2 ⟨rfl, g2⟩
 go_wp2_with fail
 go_ret
 exact ⟨rfl, gb_none g1 g2⟩
theorem refEpoch_any (key : ByteArray) (n : Int) (w : World) (h0 : -9223372036854775808 ≤ n) (h1 : n ≤ 9223372036854775807) (hk : key.size ≤ 1048576) :
  Calls Tryz.prog 30 #[.string key, .int .i64 n] w fun e w' => e = .returned (.string (deriveB salt key (wordB epochW n) 32)) ∧ Gn w w' := by
 have hi : (wordB epochW n).size ≤ 1048576 := by have := word_size epochW n h0 h1; have e : epochW.size = 6 := rfl; omega
 have hl := Lib.itoa_length_le n h0 h1
 obtain ⟨D, HD⟩ : ∃ D : ByteArray, Hid (D = ⟨(Lib.itoa n).toArray⟩) := ⟨_, rfl⟩
 have hD : D.size ≤ 21 := by rw [HD.out]; show (Lib.itoa n).toArray.size ≤ 21; rw [List.size_toArray]; omega
 have hw : (⟨#[101, 112, 111, 99, 104, 32]⟩ : ByteArray) ++ D = wordB epochW n := by rw [HD.out]; rfl
 have Hw := qj hw
 clear hw hl
 go_enter Tryz.func30, Tryz.ntmps30
 go_wp2_with fail
 refine (refDigits_any n _ h0 h1).mono ?_
 rintro e w1 ⟨rfl, g1⟩
 rw [← HD.out]
 go_wp2_with fail
 rw [Hw.out]
 refine (refDerive_any salt key (wordB epochW n) 32 _ (by omega) (by decide) hk hi).mono ?_
 rintro e w2 ⟨rfl, g2⟩
 go_wp2_with fail
 go_ret
 exact ⟨rfl, gb_none g1 g2⟩
theorem refWrap_any (key : ByteArray) (w : World) (hk : key.size ≤ 1048576) :
  Calls Tryz.prog 42 #[.string key] w fun e w' => e = .returned (.string (wrapB key)) ∧ Gn w w' := by
 go_enter Tryz.func42, Tryz.ntmps42
 go_wp2_with fail
 refine (refDerive_any salt key wrapW 64 _ (by omega) (by decide) hk (by decide)).mono ?_
 rintro e w2 ⟨rfl, g2⟩
 go_wp2_with fail
 go_ret
 exact ⟨rfl, g2⟩
theorem refNonce_any (n : Int) (w : World) :
  Calls Tryz.prog 43 #[.int .i64 n] w fun e w' => e = .returned (.string (nonceB n)) ∧ Gn w w' := by
 go_enter Tryz.func43, Tryz.ntmps43
 go_wp2_with fail
 refine (eight_any n _).mono ?_
 rintro e w1 ⟨rfl, g1⟩
 go_wp2_with fail
 go_ret
 exact ⟨by rw [← nonce_of]; rfl, g1⟩
end Go.Proofs.YtpcjbjpofcdjeaaGreatDoor.Ky
namespace Go.Proofs.YtpcjbjpofcdjeaaGreatDoor.Ky
open Go.RowKit Wd Mm Hh Vw
def Rdy (w : World) : Prop := Tabs w ∧ Errs w ∧ Lib.TabIs Tryz.prog w "internal/strconv.uint64pow10" .u64 Lib.pow10Tab
theorem Rdy.keep {w w' : World} (h : Rdy w) (g : Gn w w') : Rdy w' :=
 ⟨h.1.keep g (by simp), h.2.1.keep g, ((Lib.tabBelow_of_tabIs h.2.2).on (below_of g)).here⟩
end Go.Proofs.YtpcjbjpofcdjeaaGreatDoor.Ky
namespace Go.Proofs.YtpcjbjpofcdjeaaGreatDoor.Ky
open Go.RowKit Wd Mm Hh Vw
theorem gb_itoa (w : World) (k : Nat) (os : Array Obj) : w.grownBy (Go.Sort.grow (w.drewN k) os) none :=
 ⟨rfl, rfl, rfl, Lib.size_grow w k os, fun j hj _ => Lib.heap_grow_old w k os j hj⟩
theorem size_own (w : World) : Calls Tryz.prog 116 #[.string ⟨#[111, 119, 110]⟩] w fun e w' => e = .returned (.int .i64 32) ∧ w = w' := by
 go_enter Tryz.func116, Tryz.ntmps116
 go_wp2_with fail
 go_ret
 exact ⟨rfl, rfl⟩
theorem derived_own (key info : ByteArray) (w : World) (hk : key.size ≤ 1048576) (hi : info.size ≤ 1048576) (hR : Rdy w) :
  Calls Tryz.prog 72 #[.string key, .string ⟨#[111, 119, 110]⟩, .string info] w fun e w' => e = .returned (.string (deriveB salt key info 32)) ∧ Gn w w' := by
 go_enter Tryz.func72, Tryz.ntmps72
 go_wp2_with fail
 refine (size_own _).mono ?_
 rintro e w1 ⟨rfl, rfl⟩
 go_wp2_with fail
 refine (derive_any salt key info 32 _ (by omega) (by decide) hk hi hR.1 hR.2.1).mono ?_
 rintro e w2 ⟨rfl, g2⟩
 go_wp2_with fail
 go_ret
 exact ⟨rfl, g2⟩
theorem info_own (n : Int) : ((⟨#[111, 119, 110]⟩ : ByteArray) ++ ⟨#[32]⟩) ++ ⟨(Lib.itoa n).toArray⟩ = wordB ownW n := rfl
theorem numbered_own (n : Int) (w : World) (h0 : -9223372036854775808 ≤ n) (h1 : n ≤ 9223372036854775807) (hR : Rdy w) :
  Calls Tryz.prog 73 #[.string ⟨#[111, 119, 110]⟩, .int .i64 n] w fun e w' => e = .returned (.string (wordB ownW n)) ∧ Gn w w' := by
 have hl := Lib.itoa_length_le n h0 h1
 obtain ⟨D, HD⟩ : ∃ D : ByteArray, Hid (D = ⟨(Lib.itoa n).toArray⟩) := ⟨_, rfl⟩
 have hD : D.size ≤ 21 := by rw [HD.out]; show (Lib.itoa n).toArray.size ≤ 21; rw [List.size_toArray]; omega
 have hw := info_own n
 rw [← HD.out] at hw
 have Hw := qj hw
 clear hw hl
 go_enter Tryz.func73, Tryz.ntmps73
 go_wp2_with fail
 refine (Tryz.strconv_Itoa n h0 h1 _ hR.2.2).mono ?_
 rintro e w1 ⟨rfl, k1, os1, rfl⟩
 rw [← HD.out]
 have g1 := gb_itoa w k1 os1
 generalize Go.Sort.grow (w.drewN k1) os1 = W1 at *
 go_wp2_with fail
 go_ret
 exact ⟨by rw [← Hw.out]; rfl, g1⟩
theorem pOwn_any (key : ByteArray) (n : Int) (w : World) (h0 : -9223372036854775808 ≤ n) (h1 : n ≤ 9223372036854775807) (hk : key.size ≤ 1048576) (hR : Rdy w) :
  Calls Tryz.prog 68 #[.string key, .int .i64 n] w fun e w' => e = .returned (.string (ownB key n)) ∧ Gn w w' := by
 have hi : (wordB ownW n).size ≤ 1048576 := by have := word_size ownW n h0 h1; have e : ownW.size ≤ 6 := (by decide); omega
 go_enter Tryz.func68, Tryz.ntmps68
 go_wp2_with fail
 refine (numbered_own n _ h0 h1 hR).mono ?_
 rintro e w1 ⟨rfl, g1⟩
 go_wp2_with fail
 refine (derived_own key (wordB ownW n) _ hk hi (hR.keep g1)).mono ?_
 rintro e w2 ⟨rfl, g2⟩
 go_wp2_with fail
 go_ret
 exact ⟨rfl, gb_none g1 g2⟩
theorem size_epoch (w : World) : Calls Tryz.prog 116 #[.string ⟨#[101, 112, 111, 99, 104]⟩] w fun e w' => e = .returned (.int .i64 32) ∧ w = w' := by
 go_enter Tryz.func116, Tryz.ntmps116
 go_wp2_with fail
 go_ret
 exact ⟨rfl, rfl⟩
theorem derived_epoch (key info : ByteArray) (w : World) (hk : key.size ≤ 1048576) (hi : info.size ≤ 1048576) (hR : Rdy w) :
  Calls Tryz.prog 72 #[.string key, .string ⟨#[101, 112, 111, 99, 104]⟩, .string info] w fun e w' => e = .returned (.string (deriveB salt key info 32)) ∧ Gn w w' := by
 go_enter Tryz.func72, Tryz.ntmps72
 go_wp2_with fail
 refine (size_epoch _).mono ?_
 rintro e w1 ⟨rfl, rfl⟩
 go_wp2_with fail
 refine (derive_any salt key info 32 _ (by omega) (by decide) hk hi hR.1 hR.2.1).mono ?_
 rintro e w2 ⟨rfl, g2⟩
 go_wp2_with fail
 go_ret
 exact ⟨rfl, g2⟩
theorem info_epoch (n : Int) : ((⟨#[101, 112, 111, 99, 104]⟩ : ByteArray) ++ ⟨#[32]⟩) ++ ⟨(Lib.itoa n).toArray⟩ = wordB epochW n := rfl
theorem numbered_epoch (n : Int) (w : World) (h0 : -9223372036854775808 ≤ n) (h1 : n ≤ 9223372036854775807) (hR : Rdy w) :
  Calls Tryz.prog 73 #[.string ⟨#[101, 112, 111, 99, 104]⟩, .int .i64 n] w fun e w' => e = .returned (.string (wordB epochW n)) ∧ Gn w w' := by
 have hl := Lib.itoa_length_le n h0 h1
 obtain ⟨D, HD⟩ : ∃ D : ByteArray, Hid (D = ⟨(Lib.itoa n).toArray⟩) := ⟨_, rfl⟩
 have hD : D.size ≤ 21 := by rw [HD.out]; show (Lib.itoa n).toArray.size ≤ 21; rw [List.size_toArray]; omega
 have hw := info_epoch n
 rw [← HD.out] at hw
 have Hw := qj hw
 clear hw hl
 go_enter Tryz.func73, Tryz.ntmps73
 go_wp2_with fail
 refine (Tryz.strconv_Itoa n h0 h1 _ hR.2.2).mono ?_
 rintro e w1 ⟨rfl, k1, os1, rfl⟩
 rw [← HD.out]
 have g1 := gb_itoa w k1 os1
 generalize Go.Sort.grow (w.drewN k1) os1 = W1 at *
 go_wp2_with fail
 go_ret
 exact ⟨by rw [← Hw.out]; rfl, g1⟩
theorem pEpoch_any (key : ByteArray) (n : Int) (w : World) (h0 : -9223372036854775808 ≤ n) (h1 : n ≤ 9223372036854775807) (hk : key.size ≤ 1048576) (hR : Rdy w) :
  Calls Tryz.prog 40 #[.string key, .int .i64 n] w fun e w' => e = .returned (.string (epochB key n)) ∧ Gn w w' := by
 have hi : (wordB epochW n).size ≤ 1048576 := by have := word_size epochW n h0 h1; have e : epochW.size ≤ 6 := (by decide); omega
 go_enter Tryz.func40, Tryz.ntmps40
 go_wp2_with fail
 refine (numbered_epoch n _ h0 h1 hR).mono ?_
 rintro e w1 ⟨rfl, g1⟩
 go_wp2_with fail
 refine (derived_epoch key (wordB epochW n) _ hk hi (hR.keep g1)).mono ?_
 rintro e w2 ⟨rfl, g2⟩
 go_wp2_with fail
 go_ret
 exact ⟨rfl, gb_none g1 g2⟩
theorem size_wrap (w : World) : Calls Tryz.prog 116 #[.string ⟨#[119, 114, 97, 112]⟩] w fun e w' => e = .returned (.int .i64 64) ∧ w = w' := by
 go_enter Tryz.func116, Tryz.ntmps116
 go_wp2_with fail
 go_ret
 exact ⟨rfl, rfl⟩
theorem derived_wrap (key info : ByteArray) (w : World) (hk : key.size ≤ 1048576) (hi : info.size ≤ 1048576) (hR : Rdy w) :
  Calls Tryz.prog 72 #[.string key, .string ⟨#[119, 114, 97, 112]⟩, .string info] w fun e w' => e = .returned (.string (deriveB salt key info 64)) ∧ Gn w w' := by
 go_enter Tryz.func72, Tryz.ntmps72
 go_wp2_with fail
 refine (size_wrap _).mono ?_
 rintro e w1 ⟨rfl, rfl⟩
 go_wp2_with fail
 refine (derive_any salt key info 64 _ (by omega) (by decide) hk hi hR.1 hR.2.1).mono ?_
 rintro e w2 ⟨rfl, g2⟩
 go_wp2_with fail
 go_ret
 exact ⟨rfl, g2⟩
theorem pWrap_any (key : ByteArray) (w : World) (hk : key.size ≤ 1048576) (hR : Rdy w) :
  Calls Tryz.prog 67 #[.string key] w fun e w' => e = .returned (.string (wrapB key)) ∧ Gn w w' := by
 go_enter Tryz.func67, Tryz.ntmps67
 go_wp2_with fail
 refine (derived_wrap key wrapW _ hk (by decide) hR).mono ?_
 rintro e w2 ⟨rfl, g2⟩
 go_wp2_with fail
 go_ret
 exact ⟨rfl, g2⟩
end Go.Proofs.YtpcjbjpofcdjeaaGreatDoor.Ky
namespace Go.Proofs.YtpcjbjpofcdjeaaGreatDoor.Ky
open Go.RowKit Wd Mm Hh Vw
theorem put_twelve (Z : Array Value) (N : Nat) (hZ : Z.size = 12) : put Z 0 (fun j => w8 (highB N 12 j)) 12 = ((beBytes N 12).map w8).toArray := by
 apply Array.ext_getElem?
 intro i
 rw [put_get]
 by_cases h : i < 12
 ·rw [if_pos (by omega)]
  simp [beBytes, h]
 ·rw [if_neg (by omega), Array.getElem?_eq_none (by omega), Array.getElem?_eq_none (by simp [beBytes_len]; omega)]
theorem high_is (n : Int) (N : Nat) (hN : (N : Int) = n % 18446744073709551616) (k : Nat) (hk : k < 8) : UInt8.ofNat (N / 256 ^ k) = hiB n k := by
 apply UInt8.toNat_inj.1
 have h1 := hiB_nat n k
 have h2 : ((UInt8.ofNat (N / 256 ^ k)).toNat : Int) = (N : Int) / 256 ^ k % 256 := by
  rw [UInt8.toNat_ofNat']
  simp
 have : k = 0 ∨ k = 1 ∨ k = 2 ∨ k = 3 ∨ k = 4 ∨ k = 5 ∨ k = 6 ∨ k = 7 := by omega
 have h3 : (N : Int) / 256 ^ k % 256 = n / 2 ^ (8 * k) % 256 := by
  rcases this with rfl | rfl | rfl | rfl | rfl | rfl | rfl | rfl <;> simp only [Nat.reduceMul, Int.reducePow] <;> omega
 omega
theorem high_none (N k : Nat) (hN : N < 18446744073709551616) (hk : 8 ≤ k) : UInt8.ofNat (N / 256 ^ k) = 0 := by
 have : N / 256 ^ k = 0 := Nat.div_eq_of_lt (Nat.lt_of_lt_of_le hN (by rw [show (18446744073709551616 : Nat) = 256 ^ 8 by decide]; exact Nat.pow_le_pow_right (by decide) hk))
 rw [this]; rfl
theorem nonce_bytes (n : Int) (N : Nat) (hN : (N : Int) = n % 18446744073709551616) : (⟨(beBytes N 12).toArray⟩ : ByteArray) = nonceB n := by
 have hl : N < 18446744073709551616 := by omega
 have e : beBytes N 12 = [0, 0, 0, 0] ++ highs n 8 := by
  rw [highs8]
  show [highB N 12 0, highB N 12 1, highB N 12 2, highB N 12 3, highB N 12 4, highB N 12 5, highB N 12 6, highB N 12 7, highB N 12 8, highB N 12 9, highB N 12 10, highB N 12 11] = _
  simp only [highB, Nat.reduceSub, high_none N 11 hl (by omega), high_none N 10 hl (by omega), high_none N 9 hl (by omega), high_none N 8 hl (by omega), high_is n N hN 7 (by omega), high_is n N hN 6 (by omega), high_is n N hN 5 (by omega), high_is n N hN 4 (by omega), high_is n N hN 3 (by omega), high_is n N hN 2 (by omega), high_is n N hN 1 (by omega), high_is n N hN 0 (by omega)]
  rfl
 rw [e]; rfl
theorem pNonce_any (n : Int) (w : World) :
  Calls Tryz.prog 65 #[.int .i64 n] w fun e w' => e = .returned (.string (nonceB n)) ∧ Gn w w' := by
 obtain ⟨N, hN⟩ : ∃ N : Nat, (N : Int) = n % 18446744073709551616 := ⟨(n % 18446744073709551616).toNat, by omega⟩
 have hN1 : N ≤ 18446744073709551615 := by omega
 have HB := qj (nonce_bytes n N hN)
 have hc : IntKind.u64.wrap n = (N : Int) := by rw [IntKind.wrap_u64]; omega
 clear hN
 have hA : Tryz.prog.arrayLen 147 = 12 := by kernel_rfl
 go_enter Tryz.func65, Tryz.ntmps65
 go_wp2
 go_loopw [5, 4] (fun i v wr => ∃ k q : Nat, k ≤ 12 ∧ i = .int .i64 (11 - (k : Int)) ∧ v = .int .u64 (q : Int) ∧ q ≤ 18446744073709551615 ∧ q = N / 256 ^ k ∧ (∃ Z : Array Value, Row wr w.heap.size 147 (put Z (12 - k) (fun j => w8 (highB N 12 (12 - k + j))) k) ∧ Hid (Z.size = 12)) ∧ Gn w wr) (fun i _ _ => (intOf i + 1).toNat)
 case atStart => exact ⟨0, N, Nat.zero_le _, by simp, rfl, hN1, by simp, ⟨_, heap_alloc_new _ _, rfl⟩, gb_alloc (gb_refl _ _) _⟩
 case round =>
  obtain ⟨k, q, hk, rfl, rfl, hq0, hq, ⟨Z, hr, HZ⟩, hg⟩ := hrel
  have Hq := qj hq
  clear hq
  by_cases hlt : k < 12
  ·obtain ⟨j, hj⟩ : ∃ j : Nat, 11 - (k : Int) = (j : Int) := ⟨11 - k, by omega⟩
   have Hj := qj hj
   rw [hj]
   clear hj
   have hjn : j < 12 := by have := Hj.out; omega
   have hj8 : (j : Int) < 12 := by omega
   obtain ⟨v0, hv0⟩ : ∃ v, (put Z (12 - k) (fun j => w8 (highB N 12 (12 - k + j))) k)[j]? = some v := ⟨_, Array.getElem?_eq_getElem (by rw [put_size, HZ.out]; omega)⟩
   have hc := hr.at_ hv0
   have hf : wr.frozen? ⟨w.heap.size, j, none⟩ = false := hr.free _
   have hd : decide (0 ≤ (j : Int)) = true := by simp
   clear hv0
   go_wp2
   go_roundw
   case rel =>
    rw [highB_walk N 12 j q (by rw [Hq.out, show k = 12 - 1 - j by have := Hj.out; omega])]
    refine ⟨k + 1, q / 256, by omega, ?_, congrArg _ (Int.natCast_ediv q 256).symm, Nat.le_trans (Nat.div_le_self _ _) hq0, ?_, ⟨Z, ?_, HZ⟩, gb_new hg (gb_set1 _ _ _ _) (Nat.le_refl _)⟩
    ·have := Hj.out; exact congrArg _ (by omega)
    ·rw [Hq.out, Nat.div_div_eq_div_mul, Nat.pow_succ]
    ·have h := hr.set_ j (w8 (highB N 12 j))
     have ej : j = 12 - (k + 1) := by have := Hj.out; omega
     have e : put Z (12 - (k + 1)) (fun j => w8 (highB N 12 (12 - (k + 1) + j))) (k + 1) = (put Z (12 - k) (fun j => w8 (highB N 12 (12 - k + j))) k).setIfInBounds j (w8 (highB N 12 j)) := by
      rw [put_front]
      rw [show 12 - (k + 1) + 1 = 12 - k by omega, show 12 - (k + 1) = j by omega, show j + 0 = j by omega]
      refine congrArg (fun C => Array.setIfInBounds C j (w8 (highB N 12 j))) ?_
      refine put_congr _ _ _ _ _ fun i _ => ?_
      show w8 (highB N 12 (j + (i + 1))) = _
      rw [show j + (i + 1) = 12 - k + i by omega]
     rw [e]
     exact h
   case measure => simp [intOf]
  ·have hkn : k = 12 := by omega
   subst hkn
   have hd : decide (0 ≤ (11 : Int) - (12 : Nat)) = false := by decide
   have e : put Z (12 - 12) (fun j => w8 (highB N 12 (12 - 12 + j))) 12 = ((beBytes N 12).map w8).toArray := by
    rw [← put_twelve Z N HZ.out]
    exact put_congr _ _ _ _ _ fun j _ => by rw [show 12 - 12 + j = j by omega]
   rw [e] at hr
   have hconv : (convert 54 9 (.slice (some ⟨w.heap.size, 0, none⟩) 12 12)).run Tryz.prog wr = .ok (.string (nonceB n)) wr := by
    have h := run_convert_bytes_back (P := Tryz.prog) wr 54 9 5 ⟨w.heap.size, 0, none⟩ 12 (beBytes N 12) Tryz.underlying54 Tryz.underlying5 Tryz.underlying9 (fun j hj => by
     have hadd : (⟨w.heap.size, 0, none⟩ : Addr).add j = ⟨w.heap.size, j, none⟩ := by unfold Addr.add; split <;> simp_all
     rw [hadd]
     exact hr.at_ (by simp [hj, w8]))
    rw [beBytes_len, HB.out] at h; exact h
   clear hr e
   go_wp2
   go_ret
   exact ⟨rfl, hg⟩
end Go.Proofs.YtpcjbjpofcdjeaaGreatDoor.Ky
