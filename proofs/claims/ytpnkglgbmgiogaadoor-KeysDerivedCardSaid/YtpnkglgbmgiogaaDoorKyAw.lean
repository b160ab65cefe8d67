/- awake of the law of keys. -/
import Derived.Test.YtpnkglgbmgiogaaDoorKyPg
import Derived.Test.YtpnkglgbmgiogaaDoorKyNon
namespace Go.Proofs.YtpnkglgbmgiogaaDoor.Ky
open Go.RowKit Wd Mm Hh Vw

def one_m : ByteArray := ⟨#[109]⟩
def one_o : ByteArray := ⟨#[111]⟩
theorem nonce_1 : nonceB 1 = ⟨#[0, 0, 0, 0, 0, 0, 0, 0, 0, 0, 0, 1]⟩ := by decide +kernel

set_option maxHeartbeats 4000000 in
theorem awake14_any (w : World) (hR : Rdy w) : Calls Tryd.prog 6 #[] w fun e w' => e = .returned (.bool true) ∧ w.grownBy w' none := by
  have s1 : ((ownB one_m 3).size : Int) = 32 := by rw [own_size]; rfl
  have s2 : ((wrapB one_o).size : Int) = 64 := by rw [wrap_size]; rfl
  obtain ⟨P, HP⟩ : ∃ P : ByteArray, Hid (P = ownB one_m 3) := ⟨_, rfl⟩
  obtain ⟨Q, HQ⟩ : ∃ Q : ByteArray, Hid (Q = wrapB one_o) := ⟨_, rfl⟩
  rw [← HP.out] at s1
  rw [← HQ.out] at s2
  go_enter Tryd.func6, Tryd.ntmps6
  go_wp2_with fail
  refine (pNonce_any 1 _).mono ?_
  rintro e x1 ⟨rfl, g1⟩
  rw [nonce_1]
  go_wp2_with fail
  refine (pOwn_any one_m 3 _ (by decide) (by decide) (by decide) (by exact hR.keep g1)).mono ?_
  rintro e x2 ⟨rfl, g2⟩
  replace g2 := gb_none g1 g2
  rw [← HP.out]
  go_wp2_with fail
  refine (pWrap_any one_o _ (by decide) (by exact hR.keep g2)).mono ?_
  rintro e x3 ⟨rfl, g3⟩
  replace g3 := gb_none g2 g3
  rw [← HQ.out]
  go_wp2_with fail
  go_ret
  exact ⟨rfl, g3⟩
end Go.Proofs.YtpnkglgbmgiogaaDoor.Ky
