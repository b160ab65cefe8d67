/- The document's example, and one more, which every statement of layer 6 asks. -/
import Derived.Test.YthdealjnhgkoiaaDoorBxRefP
namespace Go.Proofs.YthdealjnhgkoiaaDoor.Bx
open Go.RowKit Wd Mm

theorem bytesB_size (l : List UInt8) (n : Nat) : (⟨(Cc.bytesS l n).toArray⟩ : ByteArray).size = n := by rw [← Cc.len_data, Cc.ba, Cc.bytesS_len]
theorem nil_holds (w : World) : Cc.Holds w none 0 [] := ⟨rfl, fun h => absurd h (by omega)⟩

set_option maxHeartbeats 1000000 in
theorem awake6_any (w : World) (hT : Tabs w) (hE : BErrs w) : Calls Tryd.prog 9 #[] w fun e w' => e = .returned (.bool true) ∧ w.grownBy w' none := by
  have hk := bytesB_size [] 64
  have hn := bytesB_size [] 12
  obtain ⟨k, HK⟩ : ∃ k : ByteArray, Hid ((⟨(Cc.bytesS [] 64).toArray⟩ : ByteArray) = k) := ⟨_, rfl⟩
  obtain ⟨n, HN⟩ : ∃ n : ByteArray, Hid ((⟨(Cc.bytesS [] 12).toArray⟩ : ByteArray) = n) := ⟨_, rfl⟩
  rw [HK.out] at hk
  rw [HN.out] at hn
  have hop := open_seal k n ⟨#[97, 100]⟩ ⟨#[112, 108, 97, 105, 110]⟩ hk hn (by decide)
  have hsz := sealB_size k n ⟨#[97, 100]⟩ ⟨#[112, 108, 97, 105, 110]⟩ hk hn (by decide)
  obtain ⟨S, HS⟩ : ∃ S : ByteArray, Hid (sealB k n ⟨#[97, 100]⟩ ⟨#[112, 108, 97, 105, 110]⟩ = S) := ⟨_, rfl⟩
  rw [HS.out] at hop hsz
  have hos : openS k n ⟨#[97, 100]⟩ S = ⟨#[112, 108, 97, 105, 110]⟩ := by rw [openS, hop]; rfl
  have hoi : (openB k n ⟨#[97, 100]⟩ S).isSome = true := by rw [hop]; rfl
  have hno : sealB ⟨#[107]⟩ n ⟨#[]⟩ ⟨#[120]⟩ = ⟨#[]⟩ := if_neg fun h => absurd h.1 (by decide)
  have hs9 : S.size ≤ 9223372036854775807 := by rw [hsz]; decide
  have Hos := Lib.hid hos
  have Hoi := Lib.hid hoi
  have Hno := Lib.hid hno
  have Hs9 := Lib.hid hs9
  clear hk hn hop hsz hos hoi hno hs9
  go_enter Tryd.func9, Tryd.ntmps9
  go_wp2_with fail
  refine (Cc.bytes_any none 0 0 64 [] _ (nil_holds _) (by decide) (by decide)).mono ?_
  rintro e w1 ⟨rfl, g1⟩
  rw [HK.out]
  go_wp2_with fail
  refine (Cc.bytes_any none 0 0 12 [] _ (nil_holds _) (by decide) (by decide)).mono ?_
  rintro e w2 ⟨rfl, g2⟩
  rw [HN.out]
  replace g2 := gb_none g1 g2
  clear g1
  go_wp2_with fail
  refine (seal_any k n _ _ _ (by decide) (hT.keep g2 (by simp)) (hE.keep g2)).mono ?_
  rintro e w3 ⟨rfl, g3⟩
  rw [HS.out]
  replace g3 := gb_none g2 g3
  clear g2
  go_wp2_with fail
  refine (open_any k n _ S _ (by decide) Hs9.out (hT.keep g3 (by simp)) (hE.keep g3)).mono ?_
  rintro e w4 ⟨rfl, g4⟩
  rw [Hos.out, Hoi.out]
  replace g4 := gb_none g3 g4
  clear g3
  go_wp2_with fail
  refine (seal_any _ n _ _ _ (by decide) (hT.keep g4 (by simp)) (hE.keep g4)).mono ?_
  rintro e w5 ⟨rfl, g5⟩
  rw [Hno.out]
  replace g5 := gb_none g4 g5
  clear g4
  go_wp2_with fail
  go_ret
  exact ⟨rfl, g5⟩
end Go.Proofs.YthdealjnhgkoiaaDoor.Bx
