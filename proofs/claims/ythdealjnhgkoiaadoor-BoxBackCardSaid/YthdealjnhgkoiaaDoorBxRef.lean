/- The document's tag and Seal. -/
import Derived.Test.YthdealjnhgkoiaaDoorBxTag
import Derived.Test.YthdealjnhgkoiaaDoorBxXorL
import Derived.Test.YthdealjnhgkoiaaDoorShR
namespace Go.Proofs.YthdealjnhgkoiaaDoor.Bx
open Go.RowKit Wd Mm Td

theorem overB_size (nonce ad c : ByteArray) : (overB nonce ad c).size = 8 + ad.size + nonce.size + c.size := by
  unfold overB
  rw [ByteArray.size_append, ByteArray.size_append, ByteArray.size_append, cntB_size]

attribute [local go_sem] Td.upon_value Td.upon_skip Td.upon_enter Td.upon_row Td.look_tmp Td.look_const Td.look_func Td.look_global
set_option maxHeartbeats 4000000 in
set_option maxRecDepth 100000 in
theorem refTag_any (key nonce ad c : ByteArray) (w : World) (hk : key.size = 64) (hn : nonce.size ≤ 17179869184) (ha : ad.size ≤ 17179869184) (hc : c.size ≤ 17179869184) :
    Calls Tryd.prog 18 #[.string key, .string nonce, .string ad, .string c] w fun e w' => e = .returned (.string (tagB key nonce ad c)) ∧ w.grownBy w' none := by
  have k1 : (32 : Int) ≤ (key.size : Int) := by omega
  have k2 : 32 ≤ key.size := by omega
  have hks : (key.extract 32 key.size).size ≤ 549755813888 := by rw [ByteArray.size_extract]; omega
  obtain ⟨K, HK⟩ : ∃ K, Hid (macB (key.extract 32 key.size) (overB nonce ad c) = K) := ⟨_, rfl⟩
  have hKs : K.size = 32 := by rw [← HK.out]; exact macB_size _ _
  have h16 : (16 : Int) ≤ (K.size : Int) := by omega
  have h16n : 16 ≤ K.size := by omega
  have Hfin : Hid (tagB key nonce ad c = K.extract 0 16) := by show _ = _; rw [← HK.out]; rfl
  have hov : (overB nonce ad c).size ≤ 549755813888 := by rw [overB_size]; omega
  have Hov := Lib.hid hov
  have Hks := Lib.hid hks
  have hc8 : (cntB ad.size).size = 8 := cntB_size _
  have s1 : ¬ (9223372036854775807 < (cntB ad.size).size + ad.size) := by omega
  have s2 : ¬ (9223372036854775807 < (cntB ad.size).size + ad.size + nonce.size) := by omega
  have s3 : ¬ (9223372036854775807 < (cntB ad.size).size + ad.size + nonce.size + c.size) := by omega
  have hN : ad.size ≤ 9223372036854775807 := by omega
  have HN := Lib.hid hN
  clear hk hn ha hc hKs hks hN hov hc8
  go_enter Tryd.func18, Tryd.ntmps18
  go_wp2_with fail
  -- told tag
  apply wp_region_told (le := fun a b => a.grownBy b none) [isV _, isV _, isV _, isV _, isV _, isV _, isV _, isV _, isV _, isV _, isV _, isV _, isV _, isV _]
  case hn => rfl
  case hm => kernel_rfl
  case hB => kernel_rfl
  case ht => exact fun _ _ _ h k => gb_none h k
  case hw => exact gb_drew (gb_refl _ _)
  -- 0: ref.go:426 move
  apply told_is
  · intro W f hW hE h0 K hK
    have e0 := h0 0 (by kernel_rfl)
    conv at e0 => rhs; whnf
    clear hE h0
    refine yes_of (want_free rfl) ?_
    go_simp; exact hK _ _ (gb_refl _ _) rfl
  -- 1: ref.go:426 slice
  apply told_is
  · intro W f hW hE h0 K hK
    have e9 : f 9 = _ := hE 0 9 _ rfl (by kernel_rfl)
    clear hE h0
    refine yes_of (want_free rfl) ?_
    go_simp; exact hK _ _ (gb_refl _ _) rfl
  -- 2: ref.go:426 move
  apply told_is
  · intro W f hW hE h0 K hK
    have e2 := h0 2 (by kernel_rfl)
    conv at e2 => rhs; whnf
    clear hE h0
    refine yes_of (want_free rfl) ?_
    go_simp; exact hK _ _ (gb_refl _ _) rfl
  -- 3: ref.go:426 call
  apply told_is
  · intro W f hW hE h0 K hK
    have e11 : f 11 = _ := hE 0 11 _ rfl (by kernel_rfl)
    clear hE h0
    refine yes_of (want_free rfl) ?_
    go_simp; exact hK _ _ (gb_refl _ _) rfl
  -- 4: ref.go:426 call
  apply told_is
  · intro W f hW hE h0 K hK
    have e12 : f 12 = _ := hE 0 12 _ rfl (by kernel_rfl)
    clear hE h0
    refine yes_of (want_free rfl) ?_
    go_simp
    refine (eight_any ad.size _ HN.out).mono ?_
    rintro e w1 ⟨rfl, g⟩
    rw [show (⟨(beBytes ad.size 8).toArray⟩ : ByteArray) = cntB ad.size from rfl]
    exact ⟨_, rfl, hK _ _ g rfl⟩
  -- 5: ref.go:426 move
  apply told_is
  · intro W f hW hE h0 K hK
    have e2 := h0 2 (by kernel_rfl)
    conv at e2 => rhs; whnf
    clear hE h0
    refine yes_of (want_free rfl) ?_
    go_simp; exact hK _ _ (gb_refl _ _) rfl
  -- 6: ref.go:426 binOp
  apply told_is
  · intro W f hW hE h0 K hK
    have e13 : f 13 = _ := hE 1 13 _ rfl (by kernel_rfl)
    have e14 : f 14 = _ := hE 0 14 _ rfl (by kernel_rfl)
    clear hE h0
    refine yes_of (want_free rfl) ?_
    go_simp; exact hK _ _ (gb_refl _ _) rfl
  -- 7: ref.go:426 move
  apply told_is
  · intro W f hW hE h0 K hK
    have e1 := h0 1 (by kernel_rfl)
    conv at e1 => rhs; whnf
    clear hE h0
    refine yes_of (want_free rfl) ?_
    go_simp; exact hK _ _ (gb_refl _ _) rfl
  -- 8: ref.go:426 binOp
  apply told_is
  · intro W f hW hE h0 K hK
    have e15 : f 15 = _ := hE 1 15 _ rfl (by kernel_rfl)
    have e16 : f 16 = _ := hE 0 16 _ rfl (by kernel_rfl)
    clear hE h0
    refine yes_of (want_free rfl) ?_
    go_simp; exact hK _ _ (gb_refl _ _) rfl
  -- 9: ref.go:426 move
  apply told_is
  · intro W f hW hE h0 K hK
    have e3 := h0 3 (by kernel_rfl)
    conv at e3 => rhs; whnf
    clear hE h0
    refine yes_of (want_free rfl) ?_
    go_simp; exact hK _ _ (gb_refl _ _) rfl
  -- 10: ref.go:426 binOp
  apply told_is
  · intro W f hW hE h0 K hK
    have e17 : f 17 = _ := hE 1 17 _ rfl (by kernel_rfl)
    have e18 : f 18 = _ := hE 0 18 _ rfl (by kernel_rfl)
    clear hE h0
    refine yes_of (want_free rfl) ?_
    go_simp; exact hK _ _ (gb_refl _ _) rfl
  -- 11: ref.go:426 call
  apply told_is
  · intro W f hW hE h0 K hK
    have e10 : f 10 = _ := hE 9 10 _ rfl (by kernel_rfl)
    have e19 : f 19 = _ := hE 0 19 _ rfl (by kernel_rfl)
    clear hE h0
    refine yes_of (want_free rfl) ?_
    go_simp
    refine (refMac_any _ (overB nonce ad c) _ Hks.out Hov.out).mono ?_
    rintro e w1 ⟨rfl, g⟩
    rw [HK.out]
    exact ⟨_, rfl, hK _ _ g rfl⟩
  -- 12: ref.go:426 slice
  apply told_is
  · intro W f hW hE h0 K hK
    have e20 : f 20 = _ := hE 0 20 _ rfl (by kernel_rfl)
    clear hE h0
    refine yes_of (want_free rfl) ?_
    go_simp; exact hK _ _ (gb_refl _ _) rfl
  -- 13: ref.go:426 assign
  apply told_is
  · intro W f hW hE h0 K hK
    have e21 : f 21 = _ := hE 0 21 _ rfl (by kernel_rfl)
    clear hE h0
    refine yes_of (want_free rfl) ?_
    go_simp; exact hK _ _ (gb_refl _ _) rfl
  intro W f hW hA
  simp only [lexIn, Act.put, List.setIfInBounds_toArray, List.set_cons_zero, List.set_cons_succ]
  have e8 : f 8 = _ := hA 0 (some 8) _ rfl
  rw [e8]
  clear hA
  -- end tag
  go_wp2_with fail
  go_ret
  exact ⟨by rw [Hfin.out]; rfl, hW⟩
end Go.Proofs.YthdealjnhgkoiaaDoor.Bx
