/- The document's keys (14.1). -/
import Derived.Test.YtpnkglgbmgiogaaDoorHDerive
import Derived.Test.YtpnkglgbmgiogaaDoorKyDig
namespace Go.Proofs.YtpnkglgbmgiogaaDoor.Ky
open Go.RowKit Wd Mm Hh Vw

def salt : ByteArray := ⟨#[100, 101, 97, 100, 100, 114, 111, 112]⟩
def ownW : ByteArray := ⟨#[111, 119, 110, 32]⟩
def epochW : ByteArray := ⟨#[101, 112, 111, 99, 104, 32]⟩
def sendW : ByteArray := ⟨#[115, 101, 110, 100, 32]⟩
def wrapW : ByteArray := ⟨#[119, 114, 97, 112]⟩
/-- The four kinds of keys. -/
def ownB (key : ByteArray) (n : Int) : ByteArray := deriveB salt key (wordB ownW n) 32
def epochB (key : ByteArray) (n : Int) : ByteArray := deriveB salt key (wordB epochW n) 32
def sendB (key : ByteArray) (n : Int) : ByteArray := deriveB salt key (wordB sendW n) 64
def wrapB (key : ByteArray) : ByteArray := deriveB salt key wrapW 64
theorem derive_size (a b c : ByteArray) (n : Nat) : (deriveB a b c n).size = n := by
  rw [deriveB, ByteArray.size_extract, outN_size]; omega
theorem own_size (key : ByteArray) (n : Int) : (ownB key n).size = 32 := derive_size _ _ _ _
theorem wrap_size (key : ByteArray) : (wrapB key).size = 64 := derive_size _ _ _ _

set_option maxHeartbeats 1000000 in
theorem refOwn_any (key : ByteArray) (n : Int) (w : World) (h0 : -9223372036854775808 ≤ n) (h1 : n ≤ 9223372036854775807) (hk : key.size ≤ 1048576) :
    Calls Tryd.prog 8 #[.string key, .int .i64 n] w fun e w' => e = .returned (.string (deriveB salt key (wordB ownW n) 32)) ∧ w.grownBy w' none := by
  have hi : (wordB ownW n).size ≤ 1048576 := by have := word_size ownW n h0 h1; have e : ownW.size = 4 := rfl; omega
  have hl := Lib.itoa_length_le n h0 h1
  obtain ⟨D, HD⟩ : ∃ D : ByteArray, Hid (D = ⟨(Lib.itoa n).toArray⟩) := ⟨_, rfl⟩
  have hD : D.size ≤ 21 := by rw [HD.out]; show (Lib.itoa n).toArray.size ≤ 21; rw [List.size_toArray]; omega
  have hw : (⟨#[111, 119, 110, 32]⟩ : ByteArray) ++ D = wordB ownW n := by rw [HD.out]; rfl
  have Hw := Lib.hid hw
  clear hw hl
  go_enter Tryd.func8, Tryd.ntmps8
  go_wp2_with fail
  refine (refDigits_any n _ h0 h1).mono ?_
  rintro e w1 ⟨rfl, g1⟩
  rw [← HD.out]
  go_wp2_with fail
  rw [Hw.out]
  refine (refDerive_any salt key (wordB ownW n) 32 _ (by omega) (by decide) hk hi).mono ?_
  rintro e w2 ⟨rfl, g2⟩
  go_wp2_with fail
  go_ret
  exact ⟨rfl, gb_none g1 g2⟩

set_option maxHeartbeats 1000000 in
theorem refEpoch_any (key : ByteArray) (n : Int) (w : World) (h0 : -9223372036854775808 ≤ n) (h1 : n ≤ 9223372036854775807) (hk : key.size ≤ 1048576) :
    Calls Tryd.prog 10 #[.string key, .int .i64 n] w fun e w' => e = .returned (.string (deriveB salt key (wordB epochW n) 32)) ∧ w.grownBy w' none := by
  have hi : (wordB epochW n).size ≤ 1048576 := by have := word_size epochW n h0 h1; have e : epochW.size = 6 := rfl; omega
  have hl := Lib.itoa_length_le n h0 h1
  obtain ⟨D, HD⟩ : ∃ D : ByteArray, Hid (D = ⟨(Lib.itoa n).toArray⟩) := ⟨_, rfl⟩
  have hD : D.size ≤ 21 := by rw [HD.out]; show (Lib.itoa n).toArray.size ≤ 21; rw [List.size_toArray]; omega
  have hw : (⟨#[101, 112, 111, 99, 104, 32]⟩ : ByteArray) ++ D = wordB epochW n := by rw [HD.out]; rfl
  have Hw := Lib.hid hw
  clear hw hl
  go_enter Tryd.func10, Tryd.ntmps10
  go_wp2_with fail
  refine (refDigits_any n _ h0 h1).mono ?_
  rintro e w1 ⟨rfl, g1⟩
  rw [← HD.out]
  go_wp2_with fail
  rw [Hw.out]
  refine (refDerive_any salt key (wordB epochW n) 32 _ (by omega) (by decide) hk hi).mono ?_
  rintro e w2 ⟨rfl, g2⟩
  go_wp2_with fail
  go_ret
  exact ⟨rfl, gb_none g1 g2⟩

set_option maxHeartbeats 1000000 in
theorem refSend_any (key : ByteArray) (n : Int) (w : World) (h0 : -9223372036854775808 ≤ n) (h1 : n ≤ 9223372036854775807) (hk : key.size ≤ 1048576) :
    Calls Tryd.prog 12 #[.string key, .int .i64 n] w fun e w' => e = .returned (.string (deriveB salt key (wordB sendW n) 64)) ∧ w.grownBy w' none := by
  have hi : (wordB sendW n).size ≤ 1048576 := by have := word_size sendW n h0 h1; have e : sendW.size = 5 := rfl; omega
  have hl := Lib.itoa_length_le n h0 h1
  obtain ⟨D, HD⟩ : ∃ D : ByteArray, Hid (D = ⟨(Lib.itoa n).toArray⟩) := ⟨_, rfl⟩
  have hD : D.size ≤ 21 := by rw [HD.out]; show (Lib.itoa n).toArray.size ≤ 21; rw [List.size_toArray]; omega
  have hw : (⟨#[115, 101, 110, 100, 32]⟩ : ByteArray) ++ D = wordB sendW n := by rw [HD.out]; rfl
  have Hw := Lib.hid hw
  clear hw hl
  go_enter Tryd.func12, Tryd.ntmps12
  go_wp2_with fail
  refine (refDigits_any n _ h0 h1).mono ?_
  rintro e w1 ⟨rfl, g1⟩
  rw [← HD.out]
  go_wp2_with fail
  rw [Hw.out]
  refine (refDerive_any salt key (wordB sendW n) 64 _ (by omega) (by decide) hk hi).mono ?_
  rintro e w2 ⟨rfl, g2⟩
  go_wp2_with fail
  go_ret
  exact ⟨rfl, gb_none g1 g2⟩

set_option maxHeartbeats 1000000 in
theorem refWrap_any (key : ByteArray) (w : World) (hk : key.size ≤ 1048576) :
    Calls Tryd.prog 14 #[.string key] w fun e w' => e = .returned (.string (wrapB key)) ∧ w.grownBy w' none := by
  go_enter Tryd.func14, Tryd.ntmps14
  go_wp2_with fail
  refine (refDerive_any salt key wrapW 64 _ (by omega) (by decide) hk (by decide)).mono ?_
  rintro e w2 ⟨rfl, g2⟩
  go_wp2_with fail
  go_ret
  exact ⟨rfl, g2⟩

set_option maxHeartbeats 1000000 in
theorem refNonce_any (n : Int) (w : World) :
    Calls Tryd.prog 16 #[.int .i64 n] w fun e w' => e = .returned (.string (nonceB n)) ∧ w.grownBy w' none := by
  go_enter Tryd.func16, Tryd.ntmps16
  go_wp2_with fail
  refine (eight_any n _).mono ?_
  rintro e w1 ⟨rfl, g1⟩
  go_wp2_with fail
  go_ret
  exact ⟨by rw [← nonce_of]; rfl, g1⟩
end Go.Proofs.YtpnkglgbmgiogaaDoor.Ky
