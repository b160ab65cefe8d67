/- box.Seal, box.Open: what they answer. -/
import Derived.Test.YthdealjnhgkoiaaDoorBxTag
import Derived.Test.YthdealjnhgkoiaaDoorHm
namespace Go.Proofs.YthdealjnhgkoiaaDoor.Bx
open Go.RowKit Wd Mm

def sealB (key nonce ad plain : ByteArray) : ByteArray := if key.size = 64 ∧ nonce.size = 12 ∧ plain.size ≤ 1048576 then xorB key nonce plain ++ tagB key nonce ad (xorB key nonce plain) else ⟨#[]⟩
def openB (key nonce ad s : ByteArray) : Option ByteArray :=
  if key.size = 64 ∧ nonce.size = 12 ∧ 16 ≤ s.size ∧ s.size - 16 ≤ 1048576 ∧ s.extract (s.size - 16) s.size = tagB key nonce ad (s.extract 0 (s.size - 16)) then some (xorB key nonce (s.extract 0 (s.size - 16))) else none
def openS (key nonce ad s : ByteArray) : ByteArray := (openB key nonce ad s).getD ⟨#[]⟩

theorem seal_no (key nonce ad plain : ByteArray) (w : World) (h : ¬ (key.size = 64 ∧ nonce.size = 12)) (hE : BErrs w) :
    Calls Tryd.prog 12 #[.string key, .string nonce, .string ad, .string plain] w fun e w' => e = .returned (.string ⟨#[]⟩) ∧ w.grownBy w' none := by
  go_enter Tryd.func12, Tryd.ntmps12
  go_wp2_with fail
  refine (check_no key nonce _ h hE).mono ?_
  rintro e w1 ⟨p, n, a, c, t, rfl, _, rfl⟩
  unfold refV
  go_wp2_with fail
  go_ret
  exact ⟨rfl, gb_refl _ _⟩
theorem seal_long (key nonce ad plain : ByteArray) (w : World) (hk : key.size = 64) (hn : nonce.size = 12) (hp : 1048576 < plain.size) :
    Calls Tryd.prog 12 #[.string key, .string nonce, .string ad, .string plain] w fun e w' => e = .returned (.string ⟨#[]⟩) ∧ w.grownBy w' none := by
  have t1 : decide ((1048576 : Int) < (plain.size : Int)) = true := decide_eq_true (by omega)
  have Hk := Lib.hid hk
  have Hn := Lib.hid hn
  clear hk hn hp
  go_enter Tryd.func12, Tryd.ntmps12
  go_wp2_with fail
  refine (check_ok key nonce _ Hk.out Hn.out).mono ?_
  rintro e w1 ⟨rfl, rfl⟩
  go_wp2_with fail
  go_ret
  exact ⟨rfl, gb_refl _ _⟩
theorem seal_yes (key nonce ad plain : ByteArray) (w : World) (hk : key.size = 64) (hn : nonce.size = 12) (hp : plain.size ≤ 1048576) (ha : ad.size ≤ 549755813888) (hx : (xorB key nonce plain).size ≤ 1048576) (hT : Tabs w) :
    Calls Tryd.prog 12 #[.string key, .string nonce, .string ad, .string plain] w fun e w' => e = .returned (.string (xorB key nonce plain ++ tagB key nonce ad (xorB key nonce plain))) ∧ w.grownBy w' none := by
  have t1 : decide ((1048576 : Int) < (plain.size : Int)) = false := decide_eq_false (by omega)
  have Hk := Lib.hid hk
  have Hn := Lib.hid hn
  have Hp := Lib.hid hp
  obtain ⟨C, HC⟩ : ∃ C, Hid (xorB key nonce plain = C) := ⟨_, rfl⟩
  rw [HC.out] at hx ⊢
  obtain ⟨T, HT⟩ : ∃ T, Hid (tagB key nonce ad C = T) := ⟨_, rfl⟩
  have hTs : T.size = 16 := by rw [← HT.out]; exact tagB_size _ _ _ _
  rw [HT.out]
  clear hk hn hp
  go_enter Tryd.func12, Tryd.ntmps12
  go_wp2_with fail
  refine (check_ok key nonce _ Hk.out Hn.out).mono ?_
  rintro e w1 ⟨rfl, rfl⟩
  go_wp2_with fail
  refine (xored_any key nonce plain _ Hk.out (by have := Hp.out; omega)).mono ?_
  rintro e w1 ⟨rfl, g1⟩
  rw [HC.out]
  go_wp2_with fail
  refine (tag_any key nonce ad C _ Hk.out (by have := Hn.out; omega) ha (by omega) (by exact hT.keep g1 (by simp))).mono ?_
  rintro e w2 ⟨rfl, g2⟩
  rw [HT.out]
  go_wp2_with fail
  go_ret
  exact ⟨rfl, gb_none g1 g2⟩
end Go.Proofs.YthdealjnhgkoiaaDoor.Bx
