/- The document's Seal and Open. -/
import Derived.Test.YthdealjnhgkoiaaDoorBxRef
import Derived.Test.YthdealjnhgkoiaaDoorBxOp
namespace Go.Proofs.YthdealjnhgkoiaaDoor.Bx
open Go.RowKit Wd Mm

theorem eq_bytes (a b : ByteArray) : (a.toList == b.toList) = eqB a b := by
  unfold eqB
  rw [ByteArray.toList_eq, ByteArray.toList_eq]
  by_cases h : a = b
  · subst h; simp
  · rw [decide_eq_false h, beq_eq_false_iff_ne]
    exact fun h2 => h (bytes_ext a b h2)
theorem eq_self (s : ByteArray) : (s.toList == s.toList) = true := by simp

theorem refXored (key nonce s : ByteArray) (w : World) (hs : s.size ≤ 9223372036854775807) :
    Calls Tryd.prog 15 #[.string (key.extract 0 32), .string nonce, .int .i64 1, .string s] w fun e w' => e = .returned (.string (xorB key nonce s)) ∧ w.grownBy w' none := Cc.refXor_any _ _ _ _ _ hs

theorem refSeal_key (key nonce ad plain : ByteArray) (w : World) (h : key.size ≠ 64) :
    Calls Tryd.prog 13 #[.string key, .string nonce, .string ad, .string plain] w fun e w' => e = .returned (.string ⟨#[]⟩) ∧ w.grownBy w' none := by
  have t1 : ((key.size : Int) != 64) = true := by rw [bne_iff_ne]; omega
  clear h
  go_enter Tryd.func13, Tryd.ntmps13
  go_wp2_with fail
  go_ret
  exact ⟨rfl, gb_refl _ _⟩
theorem refSeal_nonce (key nonce ad plain : ByteArray) (w : World) (h : key.size = 64) (h2 : nonce.size ≠ 12) :
    Calls Tryd.prog 13 #[.string key, .string nonce, .string ad, .string plain] w fun e w' => e = .returned (.string ⟨#[]⟩) ∧ w.grownBy w' none := by
  have t1 : ((key.size : Int) != 64) = false := by rw [h]; rfl
  have t2 : ((nonce.size : Int) != 12) = true := by rw [bne_iff_ne]; omega
  clear h h2
  go_enter Tryd.func13, Tryd.ntmps13
  go_wp2_with fail
  go_ret
  exact ⟨rfl, gb_refl _ _⟩
theorem refSeal_long (key nonce ad plain : ByteArray) (w : World) (h : key.size = 64) (h2 : nonce.size = 12) (h3 : 1048576 < plain.size) :
    Calls Tryd.prog 13 #[.string key, .string nonce, .string ad, .string plain] w fun e w' => e = .returned (.string ⟨#[]⟩) ∧ w.grownBy w' none := by
  have t1 : ((key.size : Int) != 64) = false := by rw [h]; rfl
  have t2 : ((nonce.size : Int) != 12) = false := by rw [h2]; rfl
  have t3 : decide ((1048576 : Int) < (plain.size : Int)) = true := decide_eq_true (by omega)
  clear h h2 h3
  go_enter Tryd.func13, Tryd.ntmps13
  go_wp2_with fail
  go_ret
  exact ⟨rfl, gb_refl _ _⟩
theorem refSeal_yes (key nonce ad plain : ByteArray) (w : World) (h : key.size = 64) (h2 : nonce.size = 12) (h3 : plain.size ≤ 1048576) (ha : ad.size ≤ 17179869184) :
    Calls Tryd.prog 13 #[.string key, .string nonce, .string ad, .string plain] w fun e w' => e = .returned (.string (sealB key nonce ad plain)) ∧ w.grownBy w' none := by
  have t1 : ((key.size : Int) != 64) = false := by rw [h]; rfl
  have t2 : ((nonce.size : Int) != 12) = false := by rw [h2]; rfl
  have t3 : decide ((1048576 : Int) < (plain.size : Int)) = false := decide_eq_false (by omega)
  have k1 : (32 : Int) ≤ (key.size : Int) := by omega
  have k2 : 32 ≤ key.size := by omega
  have hx : (xorB key nonce plain).size ≤ 1048576 := by rw [xorB_size key nonce plain h h2 h3]; exact h3
  rw [sealB, if_pos ⟨h, h2, h3⟩]
  obtain ⟨C, HC⟩ : ∃ C, Hid (xorB key nonce plain = C) := ⟨_, rfl⟩
  rw [HC.out] at hx ⊢
  obtain ⟨T, HT⟩ : ∃ T, Hid (tagB key nonce ad C = T) := ⟨_, rfl⟩
  have hTs : T.size = 16 := by rw [← HT.out]; exact tagB_size _ _ _ _
  rw [HT.out]
  have Hk := Lib.hid h
  have Hn := Lib.hid h2
  have hp : plain.size ≤ 9223372036854775807 := by omega
  have s1 : ¬ (9223372036854775807 < C.size + T.size) := by omega
  clear h h2 h3
  go_enter Tryd.func13, Tryd.ntmps13
  go_wp2_with fail
  refine (refXored key nonce plain _ hp).mono ?_
  rintro e w1 ⟨rfl, g1⟩
  rw [HC.out]
  go_wp2_with fail
  refine (refTag_any key nonce ad C _ Hk.out (by have := Hn.out; omega) ha (by omega)).mono ?_
  rintro e w2 ⟨rfl, g2⟩
  rw [HT.out]
  go_wp2_with fail
  go_ret
  exact ⟨rfl, gb_none g1 g2⟩
theorem refSeal_any (key nonce ad plain : ByteArray) (w : World) (ha : ad.size ≤ 17179869184) :
    Calls Tryd.prog 13 #[.string key, .string nonce, .string ad, .string plain] w fun e w' => e = .returned (.string (sealB key nonce ad plain)) ∧ w.grownBy w' none := by
  by_cases h : key.size = 64
  · by_cases h2 : nonce.size = 12
    · by_cases h3 : plain.size ≤ 1048576
      · exact refSeal_yes key nonce ad plain w h h2 h3 ha
      · rw [sealB, if_neg (fun h4 => h3 h4.2.2)]
        exact refSeal_long key nonce ad plain w h h2 (by omega)
    · rw [sealB, if_neg (fun h4 => h2 h4.2.1)]
      exact refSeal_nonce key nonce ad plain w h h2
  · rw [sealB, if_neg (fun h4 => h h4.1)]
    exact refSeal_key key nonce ad plain w h
end Go.Proofs.YthdealjnhgkoiaaDoor.Bx
