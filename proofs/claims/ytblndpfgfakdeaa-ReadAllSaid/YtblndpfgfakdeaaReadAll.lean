/-
  Proved: whatever values of its parameters' types it is called with, deaddroplaw10.ReadAll returns true, and each argument reads behind the call as it read before.
  Conditions: none but those of the row itself.
-/
import Derived.Test.YtblndpfgfakdeaaRows
import Derived.WalkKit
import Derived.ProofKit
import Derived.OpenShut
import Derived.ShutString
import Derived.Test.YtblndpfgfakdeaaRdAll
import Derived.Test.YtblndpfgfakdeaaFtGreat
import Derived.Test.YtblndpfgfakdeaaFtMay
import Derived.Test.YtblndpfgfakdeaaOpn
import Derived.Test.YtblndpfgfakdeaaTold
import Derived.ChangeOld
import Derived.Below
namespace Go.Proofs.Ytblndpfgfakdeaa.readAll
open Go.ChangeShapes Go.WideShapes Go.ChangeAt Go.RowKit
open Go.ChangeMaps (open_string shut_string)
open Go.Proofs.Ytblndpfgfakdeaa.Mm Go.Proofs.Ytblndpfgfakdeaa.Dt Go.Proofs.Ytblndpfgfakdeaa.Td
set_option linter.unusedVariables false

theorem own : ownKnob Try.prog.godebug = none := by kernel_rfl
theorem laidOut : laidOutB Try.prog = true := by kernel_rfl

attribute [local go_sem] Td.upon_value Td.upon_skip Td.upon_enter Td.upon_row Td.look_tmp Td.look_const Td.look_func Td.look_global
theorem little {w : World} {A B : Option Addr} {n m : Nat} {s : St} (hs : SL w A n B m s) (hg : ¬ GreatP s) : n ≤ 60 ∧ m ≤ 80 := by
  have h1 := hs.1.1; have h2 := hs.2.1
  exact ⟨Nat.le_of_not_lt fun h => hg (.inr (.inl (by rw [h1]; exact h))), Nat.le_of_not_lt fun h => hg (.inr (.inr (by rw [h2]; exact h)))⟩

set_option maxHeartbeats 40000000 in
set_option maxRecDepth 100000 in
theorem walk (SA0 SB0 : Option Addr) (sn0 sc0 sm0 sd0 : Nat) (st0 : St) (tx1 : ByteArray) (w : World) (w0 : SL w SA0 sn0 SB0 sm0 st0) :
    Calls Try.prog 11 #[.agg #[.slice SA0 sn0 sc0, .slice SB0 sm0 sd0], .string tx1] w fun e w' => e = .returned (.bool true) ∧ Below w.heap.size w w' := by
  obtain ⟨W0, hW0⟩ : ∃ W0, w.alloc (.cells #[.slice SA0 sn0 sc0, .slice SB0 sm0 sd0] 26) = W0 := ⟨_, rfl⟩
  have G0 : w.grownBy W0 none := by rw [← hW0]; exact gb_alloc (gb_refl _ _) _
  have hr0 : Row W0 w.heap.size 26 #[.slice SA0 sn0 sc0, .slice SB0 sm0 sd0] := by rw [← hW0]; exact Row.new _ _ _
  have HC : Hid (∀ W, W0.grownBy W none → W.cell? ⟨w.heap.size, 0, none⟩ = some (.slice SA0 sn0 sc0) ∧ W.cell? ⟨w.heap.size, 1, none⟩ = some (.slice SB0 sm0 sd0)) := fun W hW => ⟨(hr0.kept hW (by simp)).at_ (i := 0) rfl, (hr0.kept hW (by simp)).at_ (i := 1) rfl⟩
  have HS : Hid (SL W0 SA0 sn0 SB0 sm0 st0) := w0.keep G0
  have HG := Lib.hid G0
  obtain ⟨z0, z1⟩ := HC.out W0 (gb_refl _ _)
  clear hr0 w0 G0
  go_enter Try.func11, Try.ntmps11
  go_upto_region 1 with fail
  clear hW0
  by_cases hgr : GreatP st0
  · go_wp2_with (first
      | (go_at_call 37; refine (great_any SA0 SB0 sn0 sc0 sm0 sd0 st0 W0 HS.out).mono ?_; intro e w1 hh; obtain ⟨he, g1⟩ := hh.yes hgr; clear hh; subst he; have HGg := Lib.hid g1; obtain ⟨y0, y1⟩ := HC.out w1 g1; clear g1)
      | (go_at_call 38; refine (awake10_any _).mono ?_; rintro e w9 ⟨rfl, g9⟩))
    go_ret
    exact ⟨rfl, gb_below (gb_none (gb_none HG.out HGg.out) g9) (Nat.le_refl _)⟩
  · have Hlt : Hid (sn0 ≤ 60 ∧ sm0 ≤ 80) := little HS.out hgr
    by_cases hky : 100 < tx1.size
    · have d1 : decide (100 < tx1.size) = true := decide_eq_true hky
      have d2 : decide (100 < (tx1.size : Int)) = true := decide_eq_true (by omega)
      clear hky
      go_wp2_with (first
        | (go_at_call 37; refine (great_any SA0 SB0 sn0 sc0 sm0 sd0 st0 W0 HS.out).mono ?_; intro e w1 hh; obtain ⟨he, g1⟩ := hh.no hgr; clear hh; subst he; have HGg := Lib.hid g1; obtain ⟨y0, y1⟩ := HC.out w1 g1; clear g1)
        | (go_at_call 38; refine (awake10_any _).mono ?_; rintro e w9 ⟨rfl, g9⟩))
      go_ret
      exact ⟨rfl, gb_below (gb_none (gb_none HG.out HGg.out) g9) (Nat.le_refl _)⟩
    · have d1 : decide (100 < tx1.size) = false := decide_eq_false hky
      have d2 : decide (100 < (tx1.size : Int)) = false := decide_eq_false (by omega)
      clear hky
      by_cases hmy : MayS st0
      · go_upto_region 3 with (first
          | (go_at_call 37; refine (great_any SA0 SB0 sn0 sc0 sm0 sd0 st0 W0 HS.out).mono ?_; intro e w1 hh; obtain ⟨he, g1⟩ := hh.no hgr; clear hh; subst he; have HGg := Lib.hid g1; obtain ⟨y0, y1⟩ := HC.out w1 g1; clear g1)
          | (go_at_call 23; refine (refMayS_any SA0 SB0 sn0 sc0 sm0 sd0 st0 w1 (HS.out.keep HGg.out) (by have := Hlt.out; omega) (by have := Hlt.out; omega)).mono ?_; intro e w2 hh; obtain ⟨he, g2⟩ := hh.yes hmy; clear hh; subst he; have HGm := Lib.hid (gb_none HGg.out g2); clear g2))
        clear hgr hmy d1 d2 z0 z1 y0 y1
        have Hsm : Hid (sm0 ≤ 100000) := by show _ ≤ _; have := Hlt.out; omega
        have hl0 : st0.facts.length ≤ 80 := by have h := HS.out.2.1; have := Hlt.out; omega
        obtain ⟨LK, hLK⟩ : ∃ LK, keysT st0.facts = LK := ⟨_, rfl⟩
        obtain ⟨LT, hLT⟩ : ∃ LT, itemsT st0.facts tx1 1 = LT := ⟨_, rfl⟩
        obtain ⟨LM, hLM⟩ : ∃ LM, itemsT st0.facts tx1 2 = LM := ⟨_, rfl⟩
        obtain ⟨CT, hCT⟩ : ∃ CT, countT st0.facts tx1 = CT := ⟨_, rfl⟩
        have HLn : Hid (LK.length ≤ 100000 ∧ LT.length ≤ 100000 ∧ LM.length ≤ 100000) := by
          have h1 := keysT_len st0.facts
          have h2 := itemsT_len st0.facts tx1 1
          have h3 := itemsT_len st0.facts tx1 2
          rw [hLK] at h1
          rw [hLT] at h2
          rw [hLM] at h3
          exact ⟨by omega, by omega, by omega⟩
        have HLK := Lib.hid hLK
        have HLT := Lib.hid hLT
        have HLM := Lib.hid hLM
        have HCt := Lib.hid hCT
        clear hLK hLT hLM hCT hl0
        apply wp_region_told (le := fun a b => a.grownBy b none) [isV _, textsV LK, isV _, textsV LK, isV _, isV _, isV _, isV _, textsV LT, isV _, isV _, textsV LT, isV _, isV _, isV _, isV _, isV _, textsV LM, isV _, isV _, textsV LM, isV _, isV _, isV _, isV _, isV _, isV _, isV _, isV _, isV _, isV _, isV _, isV _, isV _, isV _, isV _]
        case hn => rfl
        case hm => kernel_rfl
        case hB => kernel_rfl
        case ht => exact fun _ _ _ h k => gb_none h k
        case hw => exact gb_drew (gb_refl _ _)
        -- 0: law.go:24 load
        apply told_is
        · intro W f hW hE h0 K hK
          have e2 := h0 2 (by kernel_rfl)
          conv at e2 => rhs; whnf
          clear hE h0
          refine yes_of (want_free rfl) ?_
          obtain ⟨z0, z1⟩ := HC.out W (gb_none HGm.out hW)
          go_simp; exact hK _ _ (gb_refl _ _) rfl
        -- 1: law.go:24 call
        apply told_at textsV_stays
        · intro W f hW hE h0 K hK
          have e18 : f 18 = _ := hE 0 18 _ rfl (by kernel_rfl)
          clear hE h0
          refine yes_of (want_free rfl) ?_
          go_simp
          refine (pKeys_any SA0 SB0 sn0 sc0 sm0 sd0 st0 W (HS.out.keep (gb_none HGm.out hW)) Hsm.out).mono ?_
          rw [HLK.out]
          rintro e w1' ⟨A', c', rfl, h1, h2, h3, g'⟩
          exact ⟨_, rfl, hK _ _ g' ⟨A', c', rfl, h1, h2⟩⟩
        -- 2: law.go:24 load
        apply told_is
        · intro W f hW hE h0 K hK
          have e2 := h0 2 (by kernel_rfl)
          conv at e2 => rhs; whnf
          clear hE h0
          refine yes_of (want_free rfl) ?_
          obtain ⟨z0, z1⟩ := HC.out W (gb_none HGm.out hW)
          go_simp; exact hK _ _ (gb_refl _ _) rfl
        -- 3: law.go:24 call
        apply told_at textsV_stays
        · intro W f hW hE h0 K hK
          have e20 : f 20 = _ := hE 0 20 _ rfl (by kernel_rfl)
          clear hE h0
          refine yes_of (want_free rfl) ?_
          go_simp
          refine (refKeys_any SA0 SB0 sn0 sc0 sm0 sd0 st0 W (HS.out.keep (gb_none HGm.out hW)) Hsm.out).mono ?_
          rw [HLK.out]
          rintro e w1' ⟨A', c', rfl, h1, h2, h3, g'⟩
          exact ⟨_, rfl, hK _ _ g' ⟨A', c', rfl, h1, h2⟩⟩
        -- 4: law.go:24 call
        apply told_is
        · intro W f hW hE h0 K hK
          have e19 := hE 2 19 _ rfl (by kernel_rfl)
          have e21 := hE 0 21 _ rfl (by kernel_rfl)
          clear hE h0
          refine yes_of (want_free rfl) ?_
          obtain ⟨A19, c19, e19, k19, m19⟩ := e19
          obtain ⟨A21, c21, e21, k21, m21⟩ := e21
          go_simp
          refine (sameTexts_any A19 A21 _ c19 _ c21 LK LK W k19 k21 (by have := HLn.out.1; omega) (by have := HLn.out.1; omega)).mono ?_
          intro e w1' hh; obtain ⟨he, g'⟩ := hh.yes rfl; subst he
          exact ⟨_, rfl, hK _ _ g' rfl⟩
        -- 5: law.go:24 move
        apply told_is
        · intro W f hW hE h0 K hK
          have e22 : f 22 = _ := hE 0 22 _ rfl (by kernel_rfl)
          clear hE h0
          refine yes_of (want_free rfl) ?_
          go_simp; exact hK _ _ (gb_refl _ _) rfl
        -- 6: law.go:24 load
        apply told_is
        · intro W f hW hE h0 K hK
          have e2 := h0 2 (by kernel_rfl)
          conv at e2 => rhs; whnf
          have e23 : f 23 = _ := hE 0 23 _ rfl (by kernel_rfl)
          clear hE h0
          refine yes_of (want_yes rfl rfl e23) ?_
          obtain ⟨z0, z1⟩ := HC.out W (gb_none HGm.out hW)
          go_simp; exact hK _ _ (gb_refl _ _) rfl
        -- 7: law.go:24 move
        apply told_is
        · intro W f hW hE h0 K hK
          have e1 := h0 1 (by kernel_rfl)
          conv at e1 => rhs; whnf
          have e23 : f 23 = _ := hE 1 23 _ rfl (by kernel_rfl)
          clear hE h0
          refine yes_of (want_yes rfl rfl e23) ?_
          go_simp; exact hK _ _ (gb_refl _ _) rfl
        -- 8: law.go:24 call
        apply told_at textsV_stays
        · intro W f hW hE h0 K hK
          have e24 : f 24 = _ := hE 1 24 _ rfl (by kernel_rfl)
          have e25 : f 25 = _ := hE 0 25 _ rfl (by kernel_rfl)
          have e23 : f 23 = _ := hE 2 23 _ rfl (by kernel_rfl)
          clear hE h0
          refine yes_of (want_yes rfl rfl e23) ?_
          go_simp
          refine (pTexts_any SA0 SB0 sn0 sc0 sm0 sd0 st0 tx1 W (HS.out.keep (gb_none HGm.out hW)) Hsm.out).mono ?_
          rw [HLT.out]
          rintro e w1' ⟨A', c', rfl, h1, h2, h3, g'⟩
          exact ⟨_, rfl, hK _ _ g' ⟨A', c', rfl, h1, h2⟩⟩
        -- 9: law.go:24 load
        apply told_is
        · intro W f hW hE h0 K hK
          have e2 := h0 2 (by kernel_rfl)
          conv at e2 => rhs; whnf
          have e23 : f 23 = _ := hE 3 23 _ rfl (by kernel_rfl)
          clear hE h0
          refine yes_of (want_yes rfl rfl e23) ?_
          obtain ⟨z0, z1⟩ := HC.out W (gb_none HGm.out hW)
          go_simp; exact hK _ _ (gb_refl _ _) rfl
        -- 10: law.go:24 move
        apply told_is
        · intro W f hW hE h0 K hK
          have e1 := h0 1 (by kernel_rfl)
          conv at e1 => rhs; whnf
          have e23 : f 23 = _ := hE 4 23 _ rfl (by kernel_rfl)
          clear hE h0
          refine yes_of (want_yes rfl rfl e23) ?_
          go_simp; exact hK _ _ (gb_refl _ _) rfl
        -- 11: law.go:24 call
        apply told_at textsV_stays
        · intro W f hW hE h0 K hK
          have e27 : f 27 = _ := hE 1 27 _ rfl (by kernel_rfl)
          have e28 : f 28 = _ := hE 0 28 _ rfl (by kernel_rfl)
          have e23 : f 23 = _ := hE 5 23 _ rfl (by kernel_rfl)
          clear hE h0
          refine yes_of (want_yes rfl rfl e23) ?_
          go_simp
          refine (refItems_any SA0 SB0 sn0 sc0 sm0 sd0 st0 tx1 1 W (HS.out.keep (gb_none HGm.out hW)) Hsm.out).mono ?_
          rw [HLT.out]
          rintro e w1' ⟨A', c', rfl, h1, h2, h3, g'⟩
          exact ⟨_, rfl, hK _ _ g' ⟨A', c', rfl, h1, h2⟩⟩
        -- 12: law.go:24 call
        apply told_is
        · intro W f hW hE h0 K hK
          have e26 := hE 3 26 _ rfl (by kernel_rfl)
          have e29 := hE 0 29 _ rfl (by kernel_rfl)
          have e23 : f 23 = _ := hE 6 23 _ rfl (by kernel_rfl)
          clear hE h0
          refine yes_of (want_yes rfl rfl e23) ?_
          obtain ⟨A26, c26, e26, k26, m26⟩ := e26
          obtain ⟨A29, c29, e29, k29, m29⟩ := e29
          go_simp
          refine (sameTexts_any A26 A29 _ c26 _ c29 LT LT W k26 k29 (by have := HLn.out.2.1; omega) (by have := HLn.out.2.1; omega)).mono ?_
          intro e w1' hh; obtain ⟨he, g'⟩ := hh.yes rfl; subst he
          exact ⟨_, rfl, hK _ _ g' rfl⟩
        -- 13: law.go:24 pick
        apply told_is
        · intro W f hW hE h0 K hK
          have e23 : f 23 = _ := hE 7 23 _ rfl (by kernel_rfl)
          have e30 : f 30 = _ := hE 0 30 _ rfl (by kernel_rfl)
          clear hE h0
          refine yes_of (want_free rfl) ?_
          go_simp; exact hK _ _ (gb_refl _ _) rfl
        -- 14: law.go:24 move
        apply told_is
        · intro W f hW hE h0 K hK
          have e31 : f 31 = _ := hE 0 31 _ rfl (by kernel_rfl)
          clear hE h0
          refine yes_of (want_free rfl) ?_
          go_simp; exact hK _ _ (gb_refl _ _) rfl
        -- 15: law.go:24 load
        apply told_is
        · intro W f hW hE h0 K hK
          have e2 := h0 2 (by kernel_rfl)
          conv at e2 => rhs; whnf
          have e32 : f 32 = _ := hE 0 32 _ rfl (by kernel_rfl)
          clear hE h0
          refine yes_of (want_yes rfl rfl e32) ?_
          obtain ⟨z0, z1⟩ := HC.out W (gb_none HGm.out hW)
          go_simp; exact hK _ _ (gb_refl _ _) rfl
        -- 16: law.go:24 move
        apply told_is
        · intro W f hW hE h0 K hK
          have e1 := h0 1 (by kernel_rfl)
          conv at e1 => rhs; whnf
          have e32 : f 32 = _ := hE 1 32 _ rfl (by kernel_rfl)
          clear hE h0
          refine yes_of (want_yes rfl rfl e32) ?_
          go_simp; exact hK _ _ (gb_refl _ _) rfl
        -- 17: law.go:24 call
        apply told_at textsV_stays
        · intro W f hW hE h0 K hK
          have e33 : f 33 = _ := hE 1 33 _ rfl (by kernel_rfl)
          have e34 : f 34 = _ := hE 0 34 _ rfl (by kernel_rfl)
          have e32 : f 32 = _ := hE 2 32 _ rfl (by kernel_rfl)
          clear hE h0
          refine yes_of (want_yes rfl rfl e32) ?_
          go_simp
          refine (pMembers_any SA0 SB0 sn0 sc0 sm0 sd0 st0 tx1 W (HS.out.keep (gb_none HGm.out hW)) Hsm.out).mono ?_
          rw [HLM.out]
          rintro e w1' ⟨A', c', rfl, h1, h2, h3, g'⟩
          exact ⟨_, rfl, hK _ _ g' ⟨A', c', rfl, h1, h2⟩⟩
        -- 18: law.go:24 load
        apply told_is
        · intro W f hW hE h0 K hK
          have e2 := h0 2 (by kernel_rfl)
          conv at e2 => rhs; whnf
          have e32 : f 32 = _ := hE 3 32 _ rfl (by kernel_rfl)
          clear hE h0
          refine yes_of (want_yes rfl rfl e32) ?_
          obtain ⟨z0, z1⟩ := HC.out W (gb_none HGm.out hW)
          go_simp; exact hK _ _ (gb_refl _ _) rfl
        -- 19: law.go:24 move
        apply told_is
        · intro W f hW hE h0 K hK
          have e1 := h0 1 (by kernel_rfl)
          conv at e1 => rhs; whnf
          have e32 : f 32 = _ := hE 4 32 _ rfl (by kernel_rfl)
          clear hE h0
          refine yes_of (want_yes rfl rfl e32) ?_
          go_simp; exact hK _ _ (gb_refl _ _) rfl
        -- 20: law.go:24 call
        apply told_at textsV_stays
        · intro W f hW hE h0 K hK
          have e36 : f 36 = _ := hE 1 36 _ rfl (by kernel_rfl)
          have e37 : f 37 = _ := hE 0 37 _ rfl (by kernel_rfl)
          have e32 : f 32 = _ := hE 5 32 _ rfl (by kernel_rfl)
          clear hE h0
          refine yes_of (want_yes rfl rfl e32) ?_
          go_simp
          refine (refItems_any SA0 SB0 sn0 sc0 sm0 sd0 st0 tx1 2 W (HS.out.keep (gb_none HGm.out hW)) Hsm.out).mono ?_
          rw [HLM.out]
          rintro e w1' ⟨A', c', rfl, h1, h2, h3, g'⟩
          exact ⟨_, rfl, hK _ _ g' ⟨A', c', rfl, h1, h2⟩⟩
        -- 21: law.go:24 call
        apply told_is
        · intro W f hW hE h0 K hK
          have e35 := hE 3 35 _ rfl (by kernel_rfl)
          have e38 := hE 0 38 _ rfl (by kernel_rfl)
          have e32 : f 32 = _ := hE 6 32 _ rfl (by kernel_rfl)
          clear hE h0
          refine yes_of (want_yes rfl rfl e32) ?_
          obtain ⟨A35, c35, e35, k35, m35⟩ := e35
          obtain ⟨A38, c38, e38, k38, m38⟩ := e38
          go_simp
          refine (sameTexts_any A35 A38 _ c35 _ c38 LM LM W k35 k38 (by have := HLn.out.2.2; omega) (by have := HLn.out.2.2; omega)).mono ?_
          intro e w1' hh; obtain ⟨he, g'⟩ := hh.yes rfl; subst he
          exact ⟨_, rfl, hK _ _ g' rfl⟩
        -- 22: law.go:24 pick
        apply told_is
        · intro W f hW hE h0 K hK
          have e32 : f 32 = _ := hE 7 32 _ rfl (by kernel_rfl)
          have e39 : f 39 = _ := hE 0 39 _ rfl (by kernel_rfl)
          clear hE h0
          refine yes_of (want_free rfl) ?_
          go_simp; exact hK _ _ (gb_refl _ _) rfl
        -- 23: law.go:24 move
        apply told_is
        · intro W f hW hE h0 K hK
          have e40 : f 40 = _ := hE 0 40 _ rfl (by kernel_rfl)
          clear hE h0
          refine yes_of (want_free rfl) ?_
          go_simp; exact hK _ _ (gb_refl _ _) rfl
        -- 24: law.go:24 load
        apply told_is
        · intro W f hW hE h0 K hK
          have e2 := h0 2 (by kernel_rfl)
          conv at e2 => rhs; whnf
          have e41 : f 41 = _ := hE 0 41 _ rfl (by kernel_rfl)
          clear hE h0
          refine yes_of (want_yes rfl rfl e41) ?_
          obtain ⟨z0, z1⟩ := HC.out W (gb_none HGm.out hW)
          go_simp; exact hK _ _ (gb_refl _ _) rfl
        -- 25: law.go:24 move
        apply told_is
        · intro W f hW hE h0 K hK
          have e1 := h0 1 (by kernel_rfl)
          conv at e1 => rhs; whnf
          have e41 : f 41 = _ := hE 1 41 _ rfl (by kernel_rfl)
          clear hE h0
          refine yes_of (want_yes rfl rfl e41) ?_
          go_simp; exact hK _ _ (gb_refl _ _) rfl
        -- 26: law.go:24 call
        apply told_is
        · intro W f hW hE h0 K hK
          have e42 : f 42 = _ := hE 1 42 _ rfl (by kernel_rfl)
          have e43 : f 43 = _ := hE 0 43 _ rfl (by kernel_rfl)
          have e41 : f 41 = _ := hE 2 41 _ rfl (by kernel_rfl)
          clear hE h0
          refine yes_of (want_yes rfl rfl e41) ?_
          go_simp
          refine (pCount_any SA0 SB0 sn0 sc0 sm0 sd0 st0 tx1 W (HS.out.keep (gb_none HGm.out hW)) Hsm.out).mono ?_
          rw [HCt.out]
          rintro e w1' ⟨rfl, g'⟩
          exact ⟨_, rfl, hK _ _ g' rfl⟩
        -- 27: law.go:24 load
        apply told_is
        · intro W f hW hE h0 K hK
          have e2 := h0 2 (by kernel_rfl)
          conv at e2 => rhs; whnf
          have e41 : f 41 = _ := hE 3 41 _ rfl (by kernel_rfl)
          clear hE h0
          refine yes_of (want_yes rfl rfl e41) ?_
          obtain ⟨z0, z1⟩ := HC.out W (gb_none HGm.out hW)
          go_simp; exact hK _ _ (gb_refl _ _) rfl
        -- 28: law.go:24 move
        apply told_is
        · intro W f hW hE h0 K hK
          have e1 := h0 1 (by kernel_rfl)
          conv at e1 => rhs; whnf
          have e41 : f 41 = _ := hE 4 41 _ rfl (by kernel_rfl)
          clear hE h0
          refine yes_of (want_yes rfl rfl e41) ?_
          go_simp; exact hK _ _ (gb_refl _ _) rfl
        -- 29: law.go:24 call
        apply told_is
        · intro W f hW hE h0 K hK
          have e45 : f 45 = _ := hE 1 45 _ rfl (by kernel_rfl)
          have e46 : f 46 = _ := hE 0 46 _ rfl (by kernel_rfl)
          have e41 : f 41 = _ := hE 5 41 _ rfl (by kernel_rfl)
          clear hE h0
          refine yes_of (want_yes rfl rfl e41) ?_
          go_simp
          refine (refCount_any SA0 SB0 sn0 sc0 sm0 sd0 st0 tx1 W (HS.out.keep (gb_none HGm.out hW)) Hsm.out).mono ?_
          rw [HCt.out]
          rintro e w1' ⟨rfl, g'⟩
          exact ⟨_, rfl, hK _ _ g' rfl⟩
        -- 30: law.go:24 binOp
        apply told_is
        · intro W f hW hE h0 K hK
          have e44 : f 44 = _ := hE 3 44 _ rfl (by kernel_rfl)
          have e47 : f 47 = _ := hE 0 47 _ rfl (by kernel_rfl)
          have e41 : f 41 = _ := hE 6 41 _ rfl (by kernel_rfl)
          clear hE h0
          refine yes_of (want_yes rfl rfl e41) ?_
          go_simp; exact hK _ _ (gb_refl _ _) rfl
        -- 31: law.go:24 pick
        apply told_is
        · intro W f hW hE h0 K hK
          have e41 : f 41 = _ := hE 7 41 _ rfl (by kernel_rfl)
          have e48 : f 48 = _ := hE 0 48 _ rfl (by kernel_rfl)
          clear hE h0
          refine yes_of (want_free rfl) ?_
          go_simp; exact hK _ _ (gb_refl _ _) rfl
        -- 32: law.go:24 move
        apply told_is
        · intro W f hW hE h0 K hK
          have e49 : f 49 = _ := hE 0 49 _ rfl (by kernel_rfl)
          clear hE h0
          refine yes_of (want_free rfl) ?_
          go_simp; exact hK _ _ (gb_refl _ _) rfl
        -- 33: law.go:24 call
        apply told_is
        · intro W f hW hE h0 K hK
          have e50 : f 50 = _ := hE 0 50 _ rfl (by kernel_rfl)
          clear hE h0
          refine yes_of (want_yes rfl rfl e50) ?_
          go_simp
          refine (awake10_any _).mono ?_
          rintro e w1' ⟨rfl, g'⟩
          exact ⟨_, rfl, hK _ _ g' rfl⟩
        -- 34: law.go:24 pick
        apply told_is
        · intro W f hW hE h0 K hK
          have e50 : f 50 = _ := hE 1 50 _ rfl (by kernel_rfl)
          have e51 : f 51 = _ := hE 0 51 _ rfl (by kernel_rfl)
          clear hE h0
          refine yes_of (want_free rfl) ?_
          go_simp; exact hK _ _ (gb_refl _ _) rfl
        -- 35: law.go:24 assign
        apply told_is
        · intro W f hW hE h0 K hK
          have e52 : f 52 = _ := hE 0 52 _ rfl (by kernel_rfl)
          clear hE h0
          refine yes_of (want_free rfl) ?_
          go_simp; exact hK _ _ (gb_refl _ _) rfl
        intro W f hW hA
        simp only [lexIn, Act.put, List.setIfInBounds_toArray, List.set_cons_zero, List.set_cons_succ]
        have e4 : f 4 = _ := hA 0 (some 4) _ rfl
        rw [e4]
        clear hA
        go_wp2_with fail
        go_ret
        exact ⟨rfl, gb_below (gb_none (gb_none HG.out HGm.out) hW) (Nat.le_refl _)⟩
      · go_wp2_with (first
          | (go_at_call 37; refine (great_any SA0 SB0 sn0 sc0 sm0 sd0 st0 W0 HS.out).mono ?_; intro e w1 hh; obtain ⟨he, g1⟩ := hh.no hgr; clear hh; subst he; have HGg := Lib.hid g1; obtain ⟨y0, y1⟩ := HC.out w1 g1; clear g1)
          | (go_at_call 23; refine (refMayS_any SA0 SB0 sn0 sc0 sm0 sd0 st0 w1 (HS.out.keep HGg.out) (by have := Hlt.out; omega) (by have := Hlt.out; omega)).mono ?_; intro e w2 hh; obtain ⟨he, g2⟩ := hh.no hmy; clear hh; subst he; have HGm := Lib.hid (gb_none HGg.out g2); clear g2)
          | (go_at_call 38; refine (awake10_any _).mono ?_; rintro e w9 ⟨rfl, g9⟩))
        go_ret
        exact ⟨rfl, gb_below (gb_none (gb_none HG.out HGm.out) g9) (Nat.le_refl _)⟩

set_option maxRecDepth 100000 in
theorem lifted (os : Os) (started : os.Started) (H : Type) (enc : TypeId × Value → H) :
    ReturnsInHanded {} Try.checked os 11 .any (Rows.readAllSpec.pre6 enc Try.prog Try.f11 Rows.readAllRow.domain false) (Rows.readAllSpec.post enc Try.prog Try.f11 false true false false) := by
  refine returnsInHanded_of_change (C := Try.checked) own started (by kernel_rfl) Try.func11
    (ChangeSpec.witness6 (enc := enc) (C := Try.checked) false ⟨#[], #[.agg #[.slice none 0 0, .slice none 0 0], .string ⟨#[]⟩], []⟩ 8 (by kernel_rfl) (by kernel_rfl) (by kernel_rfl) (by kernel_rfl)) ?_
  intro W base args ds gs before hval0 hW hcnd _
  have hval : ∀ (j : Nat) t v, Try.f11.params[j]? = some t → args[j]? = some v → Value.okWide Try.prog W .any base t v := hval0
  have hW' := hW
  obtain ⟨p, q, hA0, hV, rfl, hfz, hnd⟩ := hW
  have hA : DataW.TrodAll enc Try.prog W 0 (fun _ => true) true Try.f11.params.toList args.toList ds p := hA0
  rw [Try.params11] at hA hval
  obtain ⟨v0, vs0, d0, ds0, p0, q0, hargs, rfl, rfl, h0, r0⟩ := trodAll_cons hA
  obtain ⟨v1, vs1, d1, ds1, p1, q1, rfl, rfl, rfl, h1, r1⟩ := trodAll_cons r0
  obtain ⟨rfl, rfl, rfl⟩ := trodAll_nil r1
  obtain rfl : args = #[v0, v1] := by cases args; simp_all
  obtain ⟨rfl, rfl⟩ := trodVars_none hV
  have k0 := h0
  have lt0 : ∀ x ∈ p0, x.block < W.heap.size := by obtain ⟨m, hm⟩ := k0; exact DataW.trod_lt m _ _ _ hm
  obtain ⟨SA0, sn0, sc0, SB0, sm0, sd0, st0, rfl, w0, _, _⟩ := open_state (hval 0 26 v0 rfl rfl) h0
  have k1 := h1
  have lt1 : ∀ x ∈ p1, x.block < W.heap.size := by obtain ⟨m, hm⟩ := k1; exact DataW.trod_lt m _ _ _ hm
  obtain ⟨tx1, rfl⟩ := open_str (hval 1 9 v1 rfl rfl) h1
  clear hA0 hval0
  refine (walk SA0 SB0 sn0 sc0 sm0 sd0 st0 tx1 W w0).mono fun e W' ⟨he, bel⟩ => ?_
  subst he
  exact ⟨_, rfl, _, _, _, [], _, [], hW', trodAll_mk1 (shut_bool Try.underlying4 _), (trodAll_cons_mk (Below.trod laidOut (by kernel_rfl) (of_decide_eq_true (by kernel_rfl)) k0 bel lt0) (trodAll_cons_mk (Below.trod laidOut (by kernel_rfl) (of_decide_eq_true (by kernel_rfl)) k1 bel lt1) trodAll_mk0)), rfl, bel.frame _, fun h => by cases h⟩

theorem over : Rows.readAllRow.holds Try.pinned (OpenSpec.ofChange Rows.readAllSpec) :=
  OpenClaim.holds_of_wide 11 Try.f11 rfl rfl rfl rfl rfl rfl rfl ⟨rfl, rfl, rfl, rfl, rfl⟩ rfl rfl rfl rfl rfl (by kernel_rfl) Try.func11 (by kernel_rfl)
    (of_decide_eq_true (by kernel_rfl)) (by unfold Func.isWrapper; first | (rw [if_pos (by decide +kernel)]; kernel_rfl) | (rw [if_neg (by decide +kernel)]; exact ⟨rfl, rfl⟩))
    (fun os started H enc _ => lifted os started H enc)

theorem proved : Rows.ReadAllSaid := over
#print axioms proved
end Go.Proofs.Ytblndpfgfakdeaa.readAll
