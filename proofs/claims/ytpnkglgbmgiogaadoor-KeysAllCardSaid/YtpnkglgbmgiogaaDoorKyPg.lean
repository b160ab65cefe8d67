/- The program's keys (14.1). -/
import Derived.Test.YtpnkglgbmgiogaaDoorKyRef
import Derived.Test.YtpnkglgbmgiogaaDoorKyRdy
import Derived.Test.YtpnkglgbmgiogaaDoorShelf
namespace Go.Proofs.YtpnkglgbmgiogaaDoor.Ky
open Go.RowKit Wd Mm Hh Vw

/-- What a call has drawn and laid anew leaves all that was there. -/
theorem gb_itoa (w : World) (k : Nat) (os : Array Obj) : w.grownBy (Go.Sort.grow (w.drewN k) os) none :=
  ⟨rfl, rfl, rfl, Lib.size_grow w k os, fun j hj _ => Lib.heap_grow_old w k os j hj⟩
set_option maxHeartbeats 1000000 in
theorem size_own (w : World) : Calls Tryd.prog 24 #[.string ⟨#[111, 119, 110]⟩] w fun e w' => e = .returned (.int .i64 32) ∧ w = w' := by
  go_enter Tryd.func24, Tryd.ntmps24
  go_wp2_with fail
  go_ret
  exact ⟨rfl, rfl⟩
set_option maxHeartbeats 1000000 in
theorem derived_own (key info : ByteArray) (w : World) (hk : key.size ≤ 1048576) (hi : info.size ≤ 1048576) (hR : Rdy w) :
    Calls Tryd.prog 19 #[.string key, .string ⟨#[111, 119, 110]⟩, .string info] w fun e w' => e = .returned (.string (deriveB salt key info 32)) ∧ w.grownBy w' none := by
  go_enter Tryd.func19, Tryd.ntmps19
  go_wp2_with fail
  refine (size_own _).mono ?_
  rintro e w1 ⟨rfl, rfl⟩
  go_wp2_with fail
  refine (derive_any salt key info 32 _ (by omega) (by decide) hk hi hR.1 hR.2.1).mono ?_
  rintro e w2 ⟨rfl, g2⟩
  go_wp2_with fail
  go_ret
  exact ⟨rfl, g2⟩
theorem info_own (n : Int) : ((⟨#[111, 119, 110]⟩ : ByteArray) ++ ⟨#[32]⟩) ++ ⟨(Lib.itoa n).toArray⟩ = wordB ownW n := rfl
set_option maxHeartbeats 1000000 in
theorem numbered_own (n : Int) (w : World) (h0 : -9223372036854775808 ≤ n) (h1 : n ≤ 9223372036854775807) (hR : Rdy w) :
    Calls Tryd.prog 20 #[.string ⟨#[111, 119, 110]⟩, .int .i64 n] w fun e w' => e = .returned (.string (wordB ownW n)) ∧ w.grownBy w' none := by
  have hl := Lib.itoa_length_le n h0 h1
  obtain ⟨D, HD⟩ : ∃ D : ByteArray, Hid (D = ⟨(Lib.itoa n).toArray⟩) := ⟨_, rfl⟩
  have hD : D.size ≤ 21 := by rw [HD.out]; show (Lib.itoa n).toArray.size ≤ 21; rw [List.size_toArray]; omega
  have hw := info_own n
  rw [← HD.out] at hw
  have Hw := Lib.hid hw
  clear hw hl
  go_enter Tryd.func20, Tryd.ntmps20
  go_wp2_with fail
  refine (Tryd.strconv_Itoa n h0 h1 _ hR.2.2).mono ?_
  rintro e w1 ⟨rfl, k1, os1, rfl⟩
  rw [← HD.out]
  have g1 := gb_itoa w k1 os1
  generalize Go.Sort.grow (w.drewN k1) os1 = W1 at *
  go_wp2_with fail
  go_ret
  exact ⟨by rw [← Hw.out]; rfl, g1⟩
set_option maxHeartbeats 1000000 in
theorem pOwn_any (key : ByteArray) (n : Int) (w : World) (h0 : -9223372036854775808 ≤ n) (h1 : n ≤ 9223372036854775807) (hk : key.size ≤ 1048576) (hR : Rdy w) :
    Calls Tryd.prog 7 #[.string key, .int .i64 n] w fun e w' => e = .returned (.string (ownB key n)) ∧ w.grownBy w' none := by
  have hi : (wordB ownW n).size ≤ 1048576 := by have := word_size ownW n h0 h1; have e : ownW.size ≤ 6 := (by decide); omega
  go_enter Tryd.func7, Tryd.ntmps7
  go_wp2_with fail
  refine (numbered_own n _ h0 h1 hR).mono ?_
  rintro e w1 ⟨rfl, g1⟩
  go_wp2_with fail
  refine (derived_own key (wordB ownW n) _ hk hi (hR.keep g1)).mono ?_
  rintro e w2 ⟨rfl, g2⟩
  go_wp2_with fail
  go_ret
  exact ⟨rfl, gb_none g1 g2⟩
set_option maxHeartbeats 1000000 in
theorem size_epoch (w : World) : Calls Tryd.prog 24 #[.string ⟨#[101, 112, 111, 99, 104]⟩] w fun e w' => e = .returned (.int .i64 32) ∧ w = w' := by
  go_enter Tryd.func24, Tryd.ntmps24
  go_wp2_with fail
  go_ret
  exact ⟨rfl, rfl⟩
set_option maxHeartbeats 1000000 in
theorem derived_epoch (key info : ByteArray) (w : World) (hk : key.size ≤ 1048576) (hi : info.size ≤ 1048576) (hR : Rdy w) :
    Calls Tryd.prog 19 #[.string key, .string ⟨#[101, 112, 111, 99, 104]⟩, .string info] w fun e w' => e = .returned (.string (deriveB salt key info 32)) ∧ w.grownBy w' none := by
  go_enter Tryd.func19, Tryd.ntmps19
  go_wp2_with fail
  refine (size_epoch _).mono ?_
  rintro e w1 ⟨rfl, rfl⟩
  go_wp2_with fail
  refine (derive_any salt key info 32 _ (by omega) (by decide) hk hi hR.1 hR.2.1).mono ?_
  rintro e w2 ⟨rfl, g2⟩
  go_wp2_with fail
  go_ret
  exact ⟨rfl, g2⟩
theorem info_epoch (n : Int) : ((⟨#[101, 112, 111, 99, 104]⟩ : ByteArray) ++ ⟨#[32]⟩) ++ ⟨(Lib.itoa n).toArray⟩ = wordB epochW n := rfl
set_option maxHeartbeats 1000000 in
theorem numbered_epoch (n : Int) (w : World) (h0 : -9223372036854775808 ≤ n) (h1 : n ≤ 9223372036854775807) (hR : Rdy w) :
    Calls Tryd.prog 20 #[.string ⟨#[101, 112, 111, 99, 104]⟩, .int .i64 n] w fun e w' => e = .returned (.string (wordB epochW n)) ∧ w.grownBy w' none := by
  have hl := Lib.itoa_length_le n h0 h1
  obtain ⟨D, HD⟩ : ∃ D : ByteArray, Hid (D = ⟨(Lib.itoa n).toArray⟩) := ⟨_, rfl⟩
  have hD : D.size ≤ 21 := by rw [HD.out]; show (Lib.itoa n).toArray.size ≤ 21; rw [List.size_toArray]; omega
  have hw := info_epoch n
  rw [← HD.out] at hw
  have Hw := Lib.hid hw
  clear hw hl
  go_enter Tryd.func20, Tryd.ntmps20
  go_wp2_with fail
  refine (Tryd.strconv_Itoa n h0 h1 _ hR.2.2).mono ?_
  rintro e w1 ⟨rfl, k1, os1, rfl⟩
  rw [← HD.out]
  have g1 := gb_itoa w k1 os1
  generalize Go.Sort.grow (w.drewN k1) os1 = W1 at *
  go_wp2_with fail
  go_ret
  exact ⟨by rw [← Hw.out]; rfl, g1⟩
set_option maxHeartbeats 1000000 in
theorem pEpoch_any (key : ByteArray) (n : Int) (w : World) (h0 : -9223372036854775808 ≤ n) (h1 : n ≤ 9223372036854775807) (hk : key.size ≤ 1048576) (hR : Rdy w) :
    Calls Tryd.prog 9 #[.string key, .int .i64 n] w fun e w' => e = .returned (.string (epochB key n)) ∧ w.grownBy w' none := by
  have hi : (wordB epochW n).size ≤ 1048576 := by have := word_size epochW n h0 h1; have e : epochW.size ≤ 6 := (by decide); omega
  go_enter Tryd.func9, Tryd.ntmps9
  go_wp2_with fail
  refine (numbered_epoch n _ h0 h1 hR).mono ?_
  rintro e w1 ⟨rfl, g1⟩
  go_wp2_with fail
  refine (derived_epoch key (wordB epochW n) _ hk hi (hR.keep g1)).mono ?_
  rintro e w2 ⟨rfl, g2⟩
  go_wp2_with fail
  go_ret
  exact ⟨rfl, gb_none g1 g2⟩
set_option maxHeartbeats 1000000 in
theorem size_send (w : World) : Calls Tryd.prog 24 #[.string ⟨#[115, 101, 110, 100]⟩] w fun e w' => e = .returned (.int .i64 64) ∧ w = w' := by
  go_enter Tryd.func24, Tryd.ntmps24
  go_wp2_with fail
  go_ret
  exact ⟨rfl, rfl⟩
set_option maxHeartbeats 1000000 in
theorem derived_send (key info : ByteArray) (w : World) (hk : key.size ≤ 1048576) (hi : info.size ≤ 1048576) (hR : Rdy w) :
    Calls Tryd.prog 19 #[.string key, .string ⟨#[115, 101, 110, 100]⟩, .string info] w fun e w' => e = .returned (.string (deriveB salt key info 64)) ∧ w.grownBy w' none := by
  go_enter Tryd.func19, Tryd.ntmps19
  go_wp2_with fail
  refine (size_send _).mono ?_
  rintro e w1 ⟨rfl, rfl⟩
  go_wp2_with fail
  refine (derive_any salt key info 64 _ (by omega) (by decide) hk hi hR.1 hR.2.1).mono ?_
  rintro e w2 ⟨rfl, g2⟩
  go_wp2_with fail
  go_ret
  exact ⟨rfl, g2⟩
theorem info_send (n : Int) : ((⟨#[115, 101, 110, 100]⟩ : ByteArray) ++ ⟨#[32]⟩) ++ ⟨(Lib.itoa n).toArray⟩ = wordB sendW n := rfl
set_option maxHeartbeats 1000000 in
theorem numbered_send (n : Int) (w : World) (h0 : -9223372036854775808 ≤ n) (h1 : n ≤ 9223372036854775807) (hR : Rdy w) :
    Calls Tryd.prog 20 #[.string ⟨#[115, 101, 110, 100]⟩, .int .i64 n] w fun e w' => e = .returned (.string (wordB sendW n)) ∧ w.grownBy w' none := by
  have hl := Lib.itoa_length_le n h0 h1
  obtain ⟨D, HD⟩ : ∃ D : ByteArray, Hid (D = ⟨(Lib.itoa n).toArray⟩) := ⟨_, rfl⟩
  have hD : D.size ≤ 21 := by rw [HD.out]; show (Lib.itoa n).toArray.size ≤ 21; rw [List.size_toArray]; omega
  have hw := info_send n
  rw [← HD.out] at hw
  have Hw := Lib.hid hw
  clear hw hl
  go_enter Tryd.func20, Tryd.ntmps20
  go_wp2_with fail
  refine (Tryd.strconv_Itoa n h0 h1 _ hR.2.2).mono ?_
  rintro e w1 ⟨rfl, k1, os1, rfl⟩
  rw [← HD.out]
  have g1 := gb_itoa w k1 os1
  generalize Go.Sort.grow (w.drewN k1) os1 = W1 at *
  go_wp2_with fail
  go_ret
  exact ⟨by rw [← Hw.out]; rfl, g1⟩
set_option maxHeartbeats 1000000 in
theorem pSend_any (key : ByteArray) (n : Int) (w : World) (h0 : -9223372036854775808 ≤ n) (h1 : n ≤ 9223372036854775807) (hk : key.size ≤ 1048576) (hR : Rdy w) :
    Calls Tryd.prog 11 #[.string key, .int .i64 n] w fun e w' => e = .returned (.string (sendB key n)) ∧ w.grownBy w' none := by
  have hi : (wordB sendW n).size ≤ 1048576 := by have := word_size sendW n h0 h1; have e : sendW.size ≤ 6 := (by decide); omega
  go_enter Tryd.func11, Tryd.ntmps11
  go_wp2_with fail
  refine (numbered_send n _ h0 h1 hR).mono ?_
  rintro e w1 ⟨rfl, g1⟩
  go_wp2_with fail
  refine (derived_send key (wordB sendW n) _ hk hi (hR.keep g1)).mono ?_
  rintro e w2 ⟨rfl, g2⟩
  go_wp2_with fail
  go_ret
  exact ⟨rfl, gb_none g1 g2⟩
set_option maxHeartbeats 1000000 in
theorem size_wrap (w : World) : Calls Tryd.prog 24 #[.string ⟨#[119, 114, 97, 112]⟩] w fun e w' => e = .returned (.int .i64 64) ∧ w = w' := by
  go_enter Tryd.func24, Tryd.ntmps24
  go_wp2_with fail
  go_ret
  exact ⟨rfl, rfl⟩
set_option maxHeartbeats 1000000 in
theorem derived_wrap (key info : ByteArray) (w : World) (hk : key.size ≤ 1048576) (hi : info.size ≤ 1048576) (hR : Rdy w) :
    Calls Tryd.prog 19 #[.string key, .string ⟨#[119, 114, 97, 112]⟩, .string info] w fun e w' => e = .returned (.string (deriveB salt key info 64)) ∧ w.grownBy w' none := by
  go_enter Tryd.func19, Tryd.ntmps19
  go_wp2_with fail
  refine (size_wrap _).mono ?_
  rintro e w1 ⟨rfl, rfl⟩
  go_wp2_with fail
  refine (derive_any salt key info 64 _ (by omega) (by decide) hk hi hR.1 hR.2.1).mono ?_
  rintro e w2 ⟨rfl, g2⟩
  go_wp2_with fail
  go_ret
  exact ⟨rfl, g2⟩
set_option maxHeartbeats 1000000 in
theorem pWrap_any (key : ByteArray) (w : World) (hk : key.size ≤ 1048576) (hR : Rdy w) :
    Calls Tryd.prog 13 #[.string key] w fun e w' => e = .returned (.string (wrapB key)) ∧ w.grownBy w' none := by
  go_enter Tryd.func13, Tryd.ntmps13
  go_wp2_with fail
  refine (derived_wrap key wrapW _ hk (by decide) hR).mono ?_
  rintro e w2 ⟨rfl, g2⟩
  go_wp2_with fail
  go_ret
  exact ⟨rfl, g2⟩
end Go.Proofs.YtpnkglgbmgiogaaDoor.Ky
