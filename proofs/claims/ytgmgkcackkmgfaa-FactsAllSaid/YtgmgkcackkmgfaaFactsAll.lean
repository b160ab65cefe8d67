/-
  Proved: whatever values of its parameters' types it is called with, deaddroplaw8.FactsAll returns true, and each argument reads behind the call as it read before.
  Conditions: none but those of the row itself.
-/
import Derived.Test.YtgmgkcackkmgfaaRows
import Derived.WalkKit
import Derived.ProofKit
import Derived.OpenShut
import Derived.ShutString
import Derived.Test.YtgmgkcackkmgfaaFtLaw
import Derived.Test.YtgmgkcackkmgfaaFtGreat
import Derived.Test.YtgmgkcackkmgfaaFtOpen
import Derived.Test.YtgmgkcackkmgfaaTold
import Derived.Deep.DeepCutAuto
import Derived.ChangeOld
import Derived.Below
namespace Go.Proofs.Ytgmgkcackkmgfaa.factsAll
open Go.ChangeShapes Go.WideShapes Go.ChangeAt Go.RowKit
open Go.ChangeMaps (open_string shut_string)
open Go.Proofs.Ytgmgkcackkmgfaa.Mm Go.Proofs.Ytgmgkcackkmgfaa.Dt Go.Proofs.Ytgmgkcackkmgfaa.Td
set_option linter.unusedVariables false

theorem own : ownKnob Try.prog.godebug = none := by kernel_rfl
theorem laidOut : laidOutB Try.prog = true := by kernel_rfl

attribute [local go_sem] Td.upon_value Td.upon_skip Td.upon_enter Td.upon_row Td.look_tmp Td.look_const Td.look_func Td.look_global

set_option maxHeartbeats 40000000 in
set_option maxRecDepth 100000 in
theorem walk (SA0 SB0 : Option Addr) (sn0 sc0 sm0 sd0 : Nat) (st0 : St) (SA1 SB1 : Option Addr) (sn1 sc1 sm1 sd1 : Nat) (st1 : St) (fc2 : Fc) (tx3 : ByteArray) (a4 : Int) (x5 y5 : Int) (x6 y6 : Int) (w : World) (w0 : SL w SA0 sn0 SB0 sm0 st0) (w1 : SL w SA1 sn1 SB1 sm1 st1) (w4 : (Lit.int .i64 a4).wf = true) :
    Calls Try.prog 3 #[.agg #[.slice SA0 sn0 sc0, .slice SB0 sm0 sd0], .agg #[.slice SA1 sn1 sc1, .slice SB1 sm1 sd1], .agg #[.int .i64 fc2.d, .int .i64 fc2.n, .string fc2.key, .int .i64 fc2.kind, .string fc2.item, .int .i64 fc2.v], .string tx3, .int .i64 a4, .agg #[.int .i64 x5, .int .i64 y5], .agg #[.int .i64 x6, .int .i64 y6]] w fun e w' => e = .returned (.bool true) ∧ Below w.heap.size w w' := by
  have HS : Hid (SL w SA0 sn0 SB0 sm0 st0 ∧ SL w SA1 sn1 SB1 sm1 st1) := ⟨w0, w1⟩
  obtain ⟨W0, hW0, G0, r1, r2, r3, r4, r5⟩ := rows5 w #[.slice SA0 sn0 sc0, .slice SB0 sm0 sd0] #[.slice SA1 sn1 sc1, .slice SB1 sm1 sd1] #[.int .i64 fc2.d, .int .i64 fc2.n, .string fc2.key, .int .i64 fc2.kind, .string fc2.item, .int .i64 fc2.v] #[.int .i64 x5, .int .i64 y5] #[.int .i64 x6, .int .i64 y6] 25 25 29 27 27
  have HK : Hid (∀ W, W0.grownBy W none → (W.cell? ⟨w.heap.size, 0, none⟩ = some (.slice SA0 sn0 sc0) ∧ W.cell? ⟨w.heap.size, 1, none⟩ = some (.slice SB0 sm0 sd0)) ∧ (W.cell? ⟨w.heap.size + 1, 0, none⟩ = some (.slice SA1 sn1 sc1) ∧ W.cell? ⟨w.heap.size + 1, 1, none⟩ = some (.slice SB1 sm1 sd1)) ∧ At6 W (w.heap.size + 1 + 1) 0 fc2 ∧ (W.cell? ⟨w.heap.size + 1 + 1 + 1, 0, none⟩ = some (.int .i64 x5) ∧ W.cell? ⟨w.heap.size + 1 + 1 + 1, 1, none⟩ = some (.int .i64 y5)) ∧ (W.cell? ⟨w.heap.size + 1 + 1 + 1 + 1, 0, none⟩ = some (.int .i64 x6) ∧ W.cell? ⟨w.heap.size + 1 + 1 + 1 + 1, 1, none⟩ = some (.int .i64 y6))) := fun W hW => by
    have k1 := r1.kept hW (by simp)
    have k2 := r2.kept hW (by simp)
    have k3 := r3.kept hW (by simp)
    have k4 := r4.kept hW (by simp)
    have k5 := r5.kept hW (by simp)
    exact ⟨⟨k1.at_ (i := 0) rfl, k1.at_ (i := 1) rfl⟩, ⟨k2.at_ (i := 0) rfl, k2.at_ (i := 1) rfl⟩, ⟨k3.at_ (i := 0) rfl, k3.at_ (i := 1) rfl, k3.at_ (i := 2) rfl, k3.at_ (i := 3) rfl, k3.at_ (i := 4) rfl, k3.at_ (i := 5) rfl⟩, ⟨k4.at_ (i := 0) rfl, k4.at_ (i := 1) rfl⟩, ⟨k5.at_ (i := 0) rfl, k5.at_ (i := 1) rfl⟩⟩
  have HG := Lib.hid G0
  obtain ⟨⟨ia0, ia1⟩, ⟨ib0, ib1⟩, ⟨if0, if1, if2, if3, if4, if5⟩, _, _⟩ := HK.out W0 (gb_refl _ _)
  clear r1 r2 r3 r4 r5 G0 w0 w1
  go_enter Try.func3, Try.ntmps3
  go_upto_region 1 with fail
  clear hW0
  go_cut [37] (fun v wx => ∃ q : Bool, v = .bool q ∧ (q = false → ¬ GreatP st0 ∧ ¬ GreatP st1) ∧ W0.grownBy wx none)
  case first =>
    by_cases ga : GreatP st0
    · go_wp2_with (go_at_call 9; (with_reducible refine (great_any SA0 SB0 sn0 sc0 sm0 sd0 st0 W0 (HS.out.1.keep HG.out)).mono ?_); intro e w1 hh; obtain ⟨he, g1⟩ := hh.yes ga; clear hh; subst he; obtain ⟨⟨ja0, ja1⟩, ⟨jb0, jb1⟩, ⟨jf0, jf1, jf2, jf3, jf4, jf5⟩, _, _⟩ := HK.out w1 g1)
      go_meet
      exact ⟨true, rfl, (fun h => by cases h), g1⟩
    · by_cases gb : GreatP st1
      · go_wp2_with (go_at_call 9; (with_reducible refine (great_any SA0 SB0 sn0 sc0 sm0 sd0 st0 W0 (HS.out.1.keep HG.out)).mono ?_); intro e w1 hh; obtain ⟨he, g1⟩ := hh.no ga; clear hh; subst he; obtain ⟨⟨ja0, ja1⟩, ⟨jb0, jb1⟩, ⟨jf0, jf1, jf2, jf3, jf4, jf5⟩, _, _⟩ := HK.out w1 g1)
        go_wp2_with (go_at_call 9; (with_reducible refine (great_any SA1 SB1 sn1 sc1 sm1 sd1 st1 w1 (HS.out.2.keep (gb_none HG.out g1))).mono ?_); intro e w2 hh; obtain ⟨he, g2⟩ := hh.yes gb; clear hh; subst he; obtain ⟨⟨la0, la1⟩, ⟨lb0, lb1⟩, ⟨lf0, lf1, lf2, lf3, lf4, lf5⟩, _, _⟩ := HK.out w2 (gb_none g1 g2))
        go_meet
        exact ⟨true, rfl, (fun h => by cases h), gb_none g1 g2⟩
      · have Hgs : Hid (¬ GreatP st0 ∧ ¬ GreatP st1) := ⟨ga, gb⟩
        by_cases s0 : 200 < fc2.key.size
        · have d0 : decide (200 < fc2.key.size) = true := decide_eq_true s0
          have f0 : decide ((200 : Int) < (fc2.key.size : Int)) = true := decide_eq_true (by omega)
          go_wp2_with (go_at_call 9; (with_reducible refine (great_any SA0 SB0 sn0 sc0 sm0 sd0 st0 W0 (HS.out.1.keep HG.out)).mono ?_); intro e w1 hh; obtain ⟨he, g1⟩ := hh.no ga; clear hh; subst he; obtain ⟨⟨ja0, ja1⟩, ⟨jb0, jb1⟩, ⟨jf0, jf1, jf2, jf3, jf4, jf5⟩, _, _⟩ := HK.out w1 g1)
          go_wp2_with (go_at_call 9; (with_reducible refine (great_any SA1 SB1 sn1 sc1 sm1 sd1 st1 w1 (HS.out.2.keep (gb_none HG.out g1))).mono ?_); intro e w2 hh; obtain ⟨he, g2⟩ := hh.no gb; clear hh; subst he; obtain ⟨⟨la0, la1⟩, ⟨lb0, lb1⟩, ⟨lf0, lf1, lf2, lf3, lf4, lf5⟩, _, _⟩ := HK.out w2 (gb_none g1 g2))
          go_meet
          exact ⟨true, rfl, (fun h => by cases h), gb_none g1 g2⟩
        · have d0 : decide (200 < fc2.key.size) = false := decide_eq_false s0
          have f0 : decide ((200 : Int) < (fc2.key.size : Int)) = false := decide_eq_false (by omega)
          by_cases s1 : 400 < fc2.item.size
          · have d1 : decide (400 < fc2.item.size) = true := decide_eq_true s1
            have f1 : decide ((400 : Int) < (fc2.item.size : Int)) = true := decide_eq_true (by omega)
            go_wp2_with (go_at_call 9; (with_reducible refine (great_any SA0 SB0 sn0 sc0 sm0 sd0 st0 W0 (HS.out.1.keep HG.out)).mono ?_); intro e w1 hh; obtain ⟨he, g1⟩ := hh.no ga; clear hh; subst he; obtain ⟨⟨ja0, ja1⟩, ⟨jb0, jb1⟩, ⟨jf0, jf1, jf2, jf3, jf4, jf5⟩, _, _⟩ := HK.out w1 g1)
            go_wp2_with (go_at_call 9; (with_reducible refine (great_any SA1 SB1 sn1 sc1 sm1 sd1 st1 w1 (HS.out.2.keep (gb_none HG.out g1))).mono ?_); intro e w2 hh; obtain ⟨he, g2⟩ := hh.no gb; clear hh; subst he; obtain ⟨⟨la0, la1⟩, ⟨lb0, lb1⟩, ⟨lf0, lf1, lf2, lf3, lf4, lf5⟩, _, _⟩ := HK.out w2 (gb_none g1 g2))
            go_meet
            exact ⟨true, rfl, (fun h => by cases h), gb_none g1 g2⟩
          · have d1 : decide (400 < fc2.item.size) = false := decide_eq_false s1
            have f1 : decide ((400 : Int) < (fc2.item.size : Int)) = false := decide_eq_false (by omega)
            by_cases s2 : 200 < tx3.size
            · have d2 : decide (200 < tx3.size) = true := decide_eq_true s2
              have f2 : decide ((200 : Int) < (tx3.size : Int)) = true := decide_eq_true (by omega)
              go_wp2_with (go_at_call 9; (with_reducible refine (great_any SA0 SB0 sn0 sc0 sm0 sd0 st0 W0 (HS.out.1.keep HG.out)).mono ?_); intro e w1 hh; obtain ⟨he, g1⟩ := hh.no ga; clear hh; subst he; obtain ⟨⟨ja0, ja1⟩, ⟨jb0, jb1⟩, ⟨jf0, jf1, jf2, jf3, jf4, jf5⟩, _, _⟩ := HK.out w1 g1)
              go_wp2_with (go_at_call 9; (with_reducible refine (great_any SA1 SB1 sn1 sc1 sm1 sd1 st1 w1 (HS.out.2.keep (gb_none HG.out g1))).mono ?_); intro e w2 hh; obtain ⟨he, g2⟩ := hh.no gb; clear hh; subst he; obtain ⟨⟨la0, la1⟩, ⟨lb0, lb1⟩, ⟨lf0, lf1, lf2, lf3, lf4, lf5⟩, _, _⟩ := HK.out w2 (gb_none g1 g2))
              go_meet
              exact ⟨true, rfl, (fun h => by cases h), gb_none g1 g2⟩
            · have d2 : decide (200 < tx3.size) = false := decide_eq_false s2
              have f2 : decide ((200 : Int) < (tx3.size : Int)) = false := decide_eq_false (by omega)
              go_wp2_with (go_at_call 9; (with_reducible refine (great_any SA0 SB0 sn0 sc0 sm0 sd0 st0 W0 (HS.out.1.keep HG.out)).mono ?_); intro e w1 hh; obtain ⟨he, g1⟩ := hh.no ga; clear hh; subst he; obtain ⟨⟨ja0, ja1⟩, ⟨jb0, jb1⟩, ⟨jf0, jf1, jf2, jf3, jf4, jf5⟩, _, _⟩ := HK.out w1 g1)
              go_wp2_with (go_at_call 9; (with_reducible refine (great_any SA1 SB1 sn1 sc1 sm1 sd1 st1 w1 (HS.out.2.keep (gb_none HG.out g1))).mono ?_); intro e w2 hh; obtain ⟨he, g2⟩ := hh.no gb; clear hh; subst he; obtain ⟨⟨la0, la1⟩, ⟨lb0, lb1⟩, ⟨lf0, lf1, lf2, lf3, lf4, lf5⟩, _, _⟩ := HK.out w2 (gb_none g1 g2))
              go_meet
              exact ⟨false, rfl, fun _ => Hgs.out, gb_none g1 g2⟩
  case rest =>
    obtain ⟨q, rfl, hq, hg⟩ := hcut
    cases q with
    | true =>
      have HE : Hid (w.grownBy wc none) := gb_none HG.out hg
      clear hq hg
      go_wp2_with (go_at_call 10; refine (awake8_any _).mono ?_; rintro e w5 ⟨rfl, g5⟩)
      go_ret
      exact ⟨rfl, gb_below (gb_none HE.out g5) (Nat.le_refl _)⟩
    | false =>
      obtain ⟨q0, q1⟩ := hq rfl
      have b0 : sn0 ≤ 60 ∧ sm0 ≤ 80 := by
        have h1 := HS.out.1.1.1; have h2 := HS.out.1.2.1
        exact ⟨Nat.le_of_not_lt fun h => q0 (.inr (.inl (by rw [h1]; exact h))), Nat.le_of_not_lt fun h => q0 (.inr (.inr (by rw [h2]; exact h)))⟩
      have b1 : sn1 ≤ 60 ∧ sm1 ≤ 80 := by
        have h1 := HS.out.2.1.1; have h2 := HS.out.2.2.1
        exact ⟨Nat.le_of_not_lt fun h => q1 (.inr (.inl (by rw [h1]; exact h))), Nat.le_of_not_lt fun h => q1 (.inr (.inr (by rw [h2]; exact h)))⟩
      have HE : Hid (w.grownBy wc none) := gb_none HG.out hg
      have HK3 : Hid (∀ W, wc.grownBy W none → _) := fun W hW => HK.out W (gb_none hg hW)
      have HS0 : Hid (∀ W, wc.grownBy W none → SL W SA0 sn0 SB0 sm0 st0) := fun W hW => HS.out.1.keep (gb_none HE.out hW)
      have HS1 : Hid (∀ W, wc.grownBy W none → SL W SA1 sn1 SB1 sm1 st1) := fun W hW => HS.out.2.keep (gb_none HE.out hW)
      obtain ⟨bm, hm⟩ := asB (MayS st0)
      obtain ⟨bs, hs⟩ := asB (st0 = st1)
      obtain ⟨br, hr⟩ : ∃ br, decide (RightF fc2) = br := ⟨_, rfl⟩
      obtain ⟨cv, hcv⟩ : ∃ cv, cmpD x5 y5 x6 y6 = cv := ⟨_, rfl⟩
      obtain ⟨fl, hfl⟩ : ∃ fl, findL st0.facts tx3 a4 = fl := ⟨_, rfl⟩
      obtain ⟨L, hL⟩ : ∃ L, fl.length = L := ⟨_, rfl⟩
      have hLb : L ≤ 80 := by
        have h := find_len st0.facts tx3 a4
        rw [hfl, hL, HS.out.1.2.1] at h
        exact Nat.le_trans h b0.2
      have Hm := Lib.hid hm
      have Hs := Lib.hid hs
      have HR := Lib.hid hr
      have HCV := Lib.hid hcv
      have HFl := Lib.hid hfl
      have HL := Lib.hid hL
      clear hm hs hr hcv hfl hL q0 q1 hg hq ia0 ia1 ib0 ib1 if0 if1 if2 if3 if4 if5
      go_upto_region 3 with fail
      apply wp_region_told (le := fun a b => a.grownBy b none) [isV _, isV _, isV _, isV _, isV _, isV _, isV _, isV _, isV _, isV _, isV _, isV _, isV _, isV _, isV _, isV _, isV _, isV _, isV _, isV _, isV _, isV _, isV _, isV _, isV _, factsS L fl, isV _, isV _, isV _, factsS L fl, isV _, isV _, isV _, isV _, isV _, isV _, isV _, isV _, isV _, isV _, isV _, isV _, isV _, isV _, isV _]
      case hn => rfl
      case hm => kernel_rfl
      case hB => kernel_rfl
      case ht => exact fun _ _ _ h k => gb_none h k
      case hw => exact gb_drew (gb_refl _ _)
      -- 0: law.go:32 load
      apply told_is
      · intro W f hW hE h0 K hK
        have e7 := h0 7 (by kernel_rfl)
        conv at e7 => rhs; whnf
        clear hE h0
        refine yes_of (want_free rfl) ?_
        obtain ⟨⟨ka0, ka1⟩, ⟨kb0, kb1⟩, ⟨kf0, kf1, kf2, kf3, kf4, kf5⟩, ⟨kd0, kd1⟩, ⟨ke0, ke1⟩⟩ := HK3.out W hW
        clear kb0 kb1 kf0 kf1 kf2 kf3 kf4 kf5 kd0 kd1 ke0 ke1
        go_simp; exact hK _ _ (gb_refl _ _) rfl
      -- 1: law.go:32 call
      apply told_is
      · intro W f hW hE h0 K hK
        have e39 : f 39 = _ := hE 0 39 _ rfl (by kernel_rfl)
        clear hE h0
        refine yes_of (want_free rfl) ?_
        go_simp
        refine (pMayS_any SA0 SB0 sn0 sc0 sm0 sd0 st0 W (HS0.out W hW) (by omega) (by omega)).mono ?_
        intro e w1' hh; obtain ⟨he, g⟩ := hh.is Hm.out; subst he
        exact ⟨_, rfl, hK _ _ g rfl⟩
      -- 2: law.go:32 load
      apply told_is
      · intro W f hW hE h0 K hK
        have e7 := h0 7 (by kernel_rfl)
        conv at e7 => rhs; whnf
        clear hE h0
        refine yes_of (want_free rfl) ?_
        obtain ⟨⟨ka0, ka1⟩, ⟨kb0, kb1⟩, ⟨kf0, kf1, kf2, kf3, kf4, kf5⟩, ⟨kd0, kd1⟩, ⟨ke0, ke1⟩⟩ := HK3.out W hW
        clear kb0 kb1 kf0 kf1 kf2 kf3 kf4 kf5 kd0 kd1 ke0 ke1
        go_simp; exact hK _ _ (gb_refl _ _) rfl
      -- 3: law.go:32 call
      apply told_is
      · intro W f hW hE h0 K hK
        have e41 : f 41 = _ := hE 0 41 _ rfl (by kernel_rfl)
        clear hE h0
        refine yes_of (want_free rfl) ?_
        go_simp
        refine (refMayS_any SA0 SB0 sn0 sc0 sm0 sd0 st0 W (HS0.out W hW) (by omega) (by omega)).mono ?_
        intro e w1' hh; obtain ⟨he, g⟩ := hh.is Hm.out; subst he
        exact ⟨_, rfl, hK _ _ g rfl⟩
      -- 4: law.go:32 binOp
      apply told_is
      · intro W f hW hE h0 K hK
        have e40 : f 40 = _ := hE 2 40 _ rfl (by kernel_rfl)
        have e42 : f 42 = _ := hE 0 42 _ rfl (by kernel_rfl)
        clear hE h0
        refine yes_of (want_free rfl) ?_
        cases bm
        all_goals (go_simp; exact hK _ _ (gb_refl _ _) rfl)
      -- 5: law.go:32 move
      apply told_is
      · intro W f hW hE h0 K hK
        have e43 : f 43 = _ := hE 0 43 _ rfl (by kernel_rfl)
        clear hE h0
        refine yes_of (want_free rfl) ?_
        go_simp; exact hK _ _ (gb_refl _ _) rfl
      -- 6: law.go:32 load
      apply told_is
      · intro W f hW hE h0 K hK
        have e9 := h0 9 (by kernel_rfl)
        conv at e9 => rhs; whnf
        have e44 : f 44 = _ := hE 0 44 _ rfl (by kernel_rfl)
        clear hE h0
        refine yes_of (want_yes rfl rfl e44) ?_
        obtain ⟨⟨ka0, ka1⟩, ⟨kb0, kb1⟩, ⟨kf0, kf1, kf2, kf3, kf4, kf5⟩, ⟨kd0, kd1⟩, ⟨ke0, ke1⟩⟩ := HK3.out W hW
        clear ka0 ka1 kb0 kb1 kd0 kd1 ke0 ke1
        go_simp; exact hK _ _ (gb_refl _ _) rfl
      -- 7: law.go:32 call
      apply told_is
      · intro W f hW hE h0 K hK
        have e45 : f 45 = _ := hE 0 45 _ rfl (by kernel_rfl)
        have e44 : f 44 = _ := hE 1 44 _ rfl (by kernel_rfl)
        clear hE h0
        refine yes_of (want_yes rfl rfl e44) ?_
        go_simp
        refine (pRight_any fc2 W).mono ?_
        rintro e w1' ⟨he, g⟩; rw [HR.out] at he; subst he
        exact ⟨_, rfl, hK _ _ g rfl⟩
      -- 8: law.go:32 load
      apply told_is
      · intro W f hW hE h0 K hK
        have e9 := h0 9 (by kernel_rfl)
        conv at e9 => rhs; whnf
        have e44 : f 44 = _ := hE 2 44 _ rfl (by kernel_rfl)
        clear hE h0
        refine yes_of (want_yes rfl rfl e44) ?_
        obtain ⟨⟨ka0, ka1⟩, ⟨kb0, kb1⟩, ⟨kf0, kf1, kf2, kf3, kf4, kf5⟩, ⟨kd0, kd1⟩, ⟨ke0, ke1⟩⟩ := HK3.out W hW
        clear ka0 ka1 kb0 kb1 kd0 kd1 ke0 ke1
        go_simp; exact hK _ _ (gb_refl _ _) rfl
      -- 9: law.go:32 call
      apply told_is
      · intro W f hW hE h0 K hK
        have e47 : f 47 = _ := hE 0 47 _ rfl (by kernel_rfl)
        have e44 : f 44 = _ := hE 3 44 _ rfl (by kernel_rfl)
        clear hE h0
        refine yes_of (want_yes rfl rfl e44) ?_
        go_simp
        refine (refRight_any fc2 W).mono ?_
        rintro e w1' ⟨he, g⟩; rw [HR.out] at he; subst he
        exact ⟨_, rfl, hK _ _ g rfl⟩
      -- 10: law.go:32 binOp
      apply told_is
      · intro W f hW hE h0 K hK
        have e46 : f 46 = _ := hE 2 46 _ rfl (by kernel_rfl)
        have e48 : f 48 = _ := hE 0 48 _ rfl (by kernel_rfl)
        have e44 : f 44 = _ := hE 4 44 _ rfl (by kernel_rfl)
        clear hE h0
        refine yes_of (want_yes rfl rfl e44) ?_
        cases br
        all_goals (go_simp; exact hK _ _ (gb_refl _ _) rfl)
      -- 11: law.go:32 pick
      apply told_is
      · intro W f hW hE h0 K hK
        have e44 : f 44 = _ := hE 5 44 _ rfl (by kernel_rfl)
        have e49 : f 49 = _ := hE 0 49 _ rfl (by kernel_rfl)
        clear hE h0
        refine yes_of (want_free rfl) ?_
        go_simp; exact hK _ _ (gb_refl _ _) rfl
      -- 12: law.go:32 move
      apply told_is
      · intro W f hW hE h0 K hK
        have e50 : f 50 = _ := hE 0 50 _ rfl (by kernel_rfl)
        clear hE h0
        refine yes_of (want_free rfl) ?_
        go_simp; exact hK _ _ (gb_refl _ _) rfl
      -- 13: law.go:32 load
      apply told_is
      · intro W f hW hE h0 K hK
        have e7 := h0 7 (by kernel_rfl)
        conv at e7 => rhs; whnf
        have e51 : f 51 = _ := hE 0 51 _ rfl (by kernel_rfl)
        clear hE h0
        refine yes_of (want_yes rfl rfl e51) ?_
        obtain ⟨⟨ka0, ka1⟩, ⟨kb0, kb1⟩, ⟨kf0, kf1, kf2, kf3, kf4, kf5⟩, ⟨kd0, kd1⟩, ⟨ke0, ke1⟩⟩ := HK3.out W hW
        clear kb0 kb1 kf0 kf1 kf2 kf3 kf4 kf5 kd0 kd1 ke0 ke1
        go_simp; exact hK _ _ (gb_refl _ _) rfl
      -- 14: law.go:32 load
      apply told_is
      · intro W f hW hE h0 K hK
        have e8 := h0 8 (by kernel_rfl)
        conv at e8 => rhs; whnf
        have e51 : f 51 = _ := hE 1 51 _ rfl (by kernel_rfl)
        clear hE h0
        refine yes_of (want_yes rfl rfl e51) ?_
        obtain ⟨⟨ka0, ka1⟩, ⟨kb0, kb1⟩, ⟨kf0, kf1, kf2, kf3, kf4, kf5⟩, ⟨kd0, kd1⟩, ⟨ke0, ke1⟩⟩ := HK3.out W hW
        clear ka0 ka1 kf0 kf1 kf2 kf3 kf4 kf5 kd0 kd1 ke0 ke1
        go_simp; exact hK _ _ (gb_refl _ _) rfl
      -- 15: law.go:32 call
      apply told_is
      · intro W f hW hE h0 K hK
        have e52 : f 52 = _ := hE 1 52 _ rfl (by kernel_rfl)
        have e53 : f 53 = _ := hE 0 53 _ rfl (by kernel_rfl)
        have e51 : f 51 = _ := hE 2 51 _ rfl (by kernel_rfl)
        clear hE h0
        refine yes_of (want_yes rfl rfl e51) ?_
        go_simp
        refine (pSame_any SA0 SB0 SA1 SB1 sn0 sc0 sm0 sd0 sn1 sc1 sm1 sd1 st0 st1 W (HS0.out W hW) (HS1.out W hW) (by omega) (by omega) (by omega) (by omega)).mono ?_
        intro e w1' hh; obtain ⟨he, g⟩ := hh.is Hs.out; subst he
        exact ⟨_, rfl, hK _ _ g rfl⟩
      -- 16: law.go:32 load
      apply told_is
      · intro W f hW hE h0 K hK
        have e7 := h0 7 (by kernel_rfl)
        conv at e7 => rhs; whnf
        have e51 : f 51 = _ := hE 3 51 _ rfl (by kernel_rfl)
        clear hE h0
        refine yes_of (want_yes rfl rfl e51) ?_
        obtain ⟨⟨ka0, ka1⟩, ⟨kb0, kb1⟩, ⟨kf0, kf1, kf2, kf3, kf4, kf5⟩, ⟨kd0, kd1⟩, ⟨ke0, ke1⟩⟩ := HK3.out W hW
        clear kb0 kb1 kf0 kf1 kf2 kf3 kf4 kf5 kd0 kd1 ke0 ke1
        go_simp; exact hK _ _ (gb_refl _ _) rfl
      -- 17: law.go:32 load
      apply told_is
      · intro W f hW hE h0 K hK
        have e8 := h0 8 (by kernel_rfl)
        conv at e8 => rhs; whnf
        have e51 : f 51 = _ := hE 4 51 _ rfl (by kernel_rfl)
        clear hE h0
        refine yes_of (want_yes rfl rfl e51) ?_
        obtain ⟨⟨ka0, ka1⟩, ⟨kb0, kb1⟩, ⟨kf0, kf1, kf2, kf3, kf4, kf5⟩, ⟨kd0, kd1⟩, ⟨ke0, ke1⟩⟩ := HK3.out W hW
        clear ka0 ka1 kf0 kf1 kf2 kf3 kf4 kf5 kd0 kd1 ke0 ke1
        go_simp; exact hK _ _ (gb_refl _ _) rfl
      -- 18: law.go:32 call
      apply told_is
      · intro W f hW hE h0 K hK
        have e55 : f 55 = _ := hE 1 55 _ rfl (by kernel_rfl)
        have e56 : f 56 = _ := hE 0 56 _ rfl (by kernel_rfl)
        have e51 : f 51 = _ := hE 5 51 _ rfl (by kernel_rfl)
        clear hE h0
        refine yes_of (want_yes rfl rfl e51) ?_
        go_simp
        refine (refSameSt_any SA0 SB0 SA1 SB1 sn0 sc0 sm0 sd0 sn1 sc1 sm1 sd1 st0 st1 W (HS0.out W hW) (HS1.out W hW) (by omega) (by omega) (by omega) (by omega)).mono ?_
        intro e w1' hh; obtain ⟨he, g⟩ := hh.is Hs.out; subst he
        exact ⟨_, rfl, hK _ _ g rfl⟩
      -- 19: law.go:32 binOp
      apply told_is
      · intro W f hW hE h0 K hK
        have e54 : f 54 = _ := hE 3 54 _ rfl (by kernel_rfl)
        have e57 : f 57 = _ := hE 0 57 _ rfl (by kernel_rfl)
        have e51 : f 51 = _ := hE 6 51 _ rfl (by kernel_rfl)
        clear hE h0
        refine yes_of (want_yes rfl rfl e51) ?_
        cases bs
        all_goals (go_simp; exact hK _ _ (gb_refl _ _) rfl)
      -- 20: law.go:32 pick
      apply told_is
      · intro W f hW hE h0 K hK
        have e51 : f 51 = _ := hE 7 51 _ rfl (by kernel_rfl)
        have e58 : f 58 = _ := hE 0 58 _ rfl (by kernel_rfl)
        clear hE h0
        refine yes_of (want_free rfl) ?_
        go_simp; exact hK _ _ (gb_refl _ _) rfl
      -- 21: law.go:32 move
      apply told_is
      · intro W f hW hE h0 K hK
        have e59 : f 59 = _ := hE 0 59 _ rfl (by kernel_rfl)
        clear hE h0
        refine yes_of (want_free rfl) ?_
        go_simp; exact hK _ _ (gb_refl _ _) rfl
      -- 22: law.go:32 load
      apply told_is
      · intro W f hW hE h0 K hK
        have e7 := h0 7 (by kernel_rfl)
        conv at e7 => rhs; whnf
        have e60 : f 60 = _ := hE 0 60 _ rfl (by kernel_rfl)
        clear hE h0
        refine yes_of (want_yes rfl rfl e60) ?_
        obtain ⟨⟨ka0, ka1⟩, ⟨kb0, kb1⟩, ⟨kf0, kf1, kf2, kf3, kf4, kf5⟩, ⟨kd0, kd1⟩, ⟨ke0, ke1⟩⟩ := HK3.out W hW
        clear kb0 kb1 kf0 kf1 kf2 kf3 kf4 kf5 kd0 kd1 ke0 ke1
        go_simp; exact hK _ _ (gb_refl _ _) rfl
      -- 23: law.go:32 move
      apply told_is
      · intro W f hW hE h0 K hK
        have e3 := h0 3 (by kernel_rfl)
        conv at e3 => rhs; whnf
        have e60 : f 60 = _ := hE 1 60 _ rfl (by kernel_rfl)
        clear hE h0
        refine yes_of (want_yes rfl rfl e60) ?_
        go_simp; exact hK _ _ (gb_refl _ _) rfl
      -- 24: law.go:32 move
      apply told_is
      · intro W f hW hE h0 K hK
        have e4 := h0 4 (by kernel_rfl)
        conv at e4 => rhs; whnf
        have e60 : f 60 = _ := hE 2 60 _ rfl (by kernel_rfl)
        clear hE h0
        refine yes_of (want_yes rfl rfl e60) ?_
        go_simp; exact hK _ _ (gb_refl _ _) rfl
      -- 25: law.go:32 call
      apply told_at factsS_stays
      · intro W f hW hE h0 K hK
        have e61 : f 61 = _ := hE 2 61 _ rfl (by kernel_rfl)
        have e62 : f 62 = _ := hE 1 62 _ rfl (by kernel_rfl)
        have e63 : f 63 = _ := hE 0 63 _ rfl (by kernel_rfl)
        have e60 : f 60 = _ := hE 3 60 _ rfl (by kernel_rfl)
        clear hE h0
        refine yes_of (want_yes rfl rfl e60) ?_
        go_simp
        refine (pFind_any SA0 SB0 sn0 sc0 sm0 sd0 st0 tx3 a4 W (HS0.out W hW) (by omega)).mono ?_
        rintro e w1' ⟨A2, c2, he, f2, h2, g⟩; rw [HFl.out] at he f2 h2; rw [HL.out] at he f2 h2; subst he
        exact ⟨_, rfl, hK _ _ g ⟨A2, c2, rfl, f2, h2⟩⟩
      -- 26: law.go:32 load
      apply told_is
      · intro W f hW hE h0 K hK
        have e7 := h0 7 (by kernel_rfl)
        conv at e7 => rhs; whnf
        have e60 : f 60 = _ := hE 4 60 _ rfl (by kernel_rfl)
        clear hE h0
        refine yes_of (want_yes rfl rfl e60) ?_
        obtain ⟨⟨ka0, ka1⟩, ⟨kb0, kb1⟩, ⟨kf0, kf1, kf2, kf3, kf4, kf5⟩, ⟨kd0, kd1⟩, ⟨ke0, ke1⟩⟩ := HK3.out W hW
        clear kb0 kb1 kf0 kf1 kf2 kf3 kf4 kf5 kd0 kd1 ke0 ke1
        go_simp; exact hK _ _ (gb_refl _ _) rfl
      -- 27: law.go:32 move
      apply told_is
      · intro W f hW hE h0 K hK
        have e3 := h0 3 (by kernel_rfl)
        conv at e3 => rhs; whnf
        have e60 : f 60 = _ := hE 5 60 _ rfl (by kernel_rfl)
        clear hE h0
        refine yes_of (want_yes rfl rfl e60) ?_
        go_simp; exact hK _ _ (gb_refl _ _) rfl
      -- 28: law.go:32 move
      apply told_is
      · intro W f hW hE h0 K hK
        have e4 := h0 4 (by kernel_rfl)
        conv at e4 => rhs; whnf
        have e60 : f 60 = _ := hE 6 60 _ rfl (by kernel_rfl)
        clear hE h0
        refine yes_of (want_yes rfl rfl e60) ?_
        go_simp; exact hK _ _ (gb_refl _ _) rfl
      -- 29: law.go:32 call
      apply told_at factsS_stays
      · intro W f hW hE h0 K hK
        have e65 : f 65 = _ := hE 2 65 _ rfl (by kernel_rfl)
        have e66 : f 66 = _ := hE 1 66 _ rfl (by kernel_rfl)
        have e67 : f 67 = _ := hE 0 67 _ rfl (by kernel_rfl)
        have e60 : f 60 = _ := hE 7 60 _ rfl (by kernel_rfl)
        clear hE h0
        refine yes_of (want_yes rfl rfl e60) ?_
        go_simp
        refine (refFind_any SA0 SB0 sn0 sc0 sm0 sd0 st0 tx3 a4 W (HS0.out W hW) (by omega)).mono ?_
        rintro e w1' ⟨A2, c2, he, f2, h2, g⟩; rw [HFl.out] at he f2 h2; rw [HL.out] at he f2 h2; subst he
        exact ⟨_, rfl, hK _ _ g ⟨A2, c2, rfl, f2, h2⟩⟩
      -- 30: law.go:32 call
      apply told_is
      · intro W f hW hE h0 K hK
        have e64 := hE 4 64 _ rfl (by kernel_rfl)
        have e68 := hE 0 68 _ rfl (by kernel_rfl)
        have e60 : f 60 = _ := hE 8 60 _ rfl (by kernel_rfl)
        clear hE h0
        refine yes_of (want_yes rfl rfl e60) ?_
        obtain ⟨A2, c2, e64, f2, h2⟩ := e64
        obtain ⟨A3, c3, e68, f3, h3⟩ := e68
        go_simp
        refine (sameFacts_yes A2 A3 L c2 L c3 fl fl W f2 f3 rfl (by omega) (by omega)).mono ?_
        rintro e w1' ⟨rfl, g⟩
        exact ⟨_, rfl, hK _ _ g rfl⟩
      -- 31: law.go:32 pick
      apply told_is
      · intro W f hW hE h0 K hK
        have e60 : f 60 = _ := hE 9 60 _ rfl (by kernel_rfl)
        have e69 : f 69 = _ := hE 0 69 _ rfl (by kernel_rfl)
        clear hE h0
        refine yes_of (want_free rfl) ?_
        go_simp; exact hK _ _ (gb_refl _ _) rfl
      -- 32: law.go:32 move
      apply told_is
      · intro W f hW hE h0 K hK
        have e70 : f 70 = _ := hE 0 70 _ rfl (by kernel_rfl)
        clear hE h0
        refine yes_of (want_free rfl) ?_
        go_simp; exact hK _ _ (gb_refl _ _) rfl
      -- 33: law.go:32 load
      apply told_is
      · intro W f hW hE h0 K hK
        have e12 := h0 12 (by kernel_rfl)
        conv at e12 => rhs; whnf
        have e71 : f 71 = _ := hE 0 71 _ rfl (by kernel_rfl)
        clear hE h0
        refine yes_of (want_yes rfl rfl e71) ?_
        obtain ⟨⟨ka0, ka1⟩, ⟨kb0, kb1⟩, ⟨kf0, kf1, kf2, kf3, kf4, kf5⟩, ⟨kd0, kd1⟩, ⟨ke0, ke1⟩⟩ := HK3.out W hW
        clear ka0 ka1 kb0 kb1 kf0 kf1 kf2 kf3 kf4 kf5 ke0 ke1
        go_simp; exact hK _ _ (gb_refl _ _) rfl
      -- 34: law.go:32 load
      apply told_is
      · intro W f hW hE h0 K hK
        have e13 := h0 13 (by kernel_rfl)
        conv at e13 => rhs; whnf
        have e71 : f 71 = _ := hE 1 71 _ rfl (by kernel_rfl)
        clear hE h0
        refine yes_of (want_yes rfl rfl e71) ?_
        obtain ⟨⟨ka0, ka1⟩, ⟨kb0, kb1⟩, ⟨kf0, kf1, kf2, kf3, kf4, kf5⟩, ⟨kd0, kd1⟩, ⟨ke0, ke1⟩⟩ := HK3.out W hW
        clear ka0 ka1 kb0 kb1 kf0 kf1 kf2 kf3 kf4 kf5 kd0 kd1
        go_simp; exact hK _ _ (gb_refl _ _) rfl
      -- 35: law.go:32 call
      apply told_is
      · intro W f hW hE h0 K hK
        have e72 : f 72 = _ := hE 1 72 _ rfl (by kernel_rfl)
        have e73 : f 73 = _ := hE 0 73 _ rfl (by kernel_rfl)
        have e71 : f 71 = _ := hE 2 71 _ rfl (by kernel_rfl)
        clear hE h0
        refine yes_of (want_yes rfl rfl e71) ?_
        go_simp
        refine (pCmp_any _ _ _ _ _).mono ?_
        rintro e w1' ⟨he, g⟩; rw [HCV.out] at he; subst he
        exact ⟨_, rfl, hK _ _ g.gb rfl⟩
      -- 36: law.go:32 load
      apply told_is
      · intro W f hW hE h0 K hK
        have e12 := h0 12 (by kernel_rfl)
        conv at e12 => rhs; whnf
        have e71 : f 71 = _ := hE 3 71 _ rfl (by kernel_rfl)
        clear hE h0
        refine yes_of (want_yes rfl rfl e71) ?_
        obtain ⟨⟨ka0, ka1⟩, ⟨kb0, kb1⟩, ⟨kf0, kf1, kf2, kf3, kf4, kf5⟩, ⟨kd0, kd1⟩, ⟨ke0, ke1⟩⟩ := HK3.out W hW
        clear ka0 ka1 kb0 kb1 kf0 kf1 kf2 kf3 kf4 kf5 ke0 ke1
        go_simp; exact hK _ _ (gb_refl _ _) rfl
      -- 37: law.go:32 load
      apply told_is
      · intro W f hW hE h0 K hK
        have e13 := h0 13 (by kernel_rfl)
        conv at e13 => rhs; whnf
        have e71 : f 71 = _ := hE 4 71 _ rfl (by kernel_rfl)
        clear hE h0
        refine yes_of (want_yes rfl rfl e71) ?_
        obtain ⟨⟨ka0, ka1⟩, ⟨kb0, kb1⟩, ⟨kf0, kf1, kf2, kf3, kf4, kf5⟩, ⟨kd0, kd1⟩, ⟨ke0, ke1⟩⟩ := HK3.out W hW
        clear ka0 ka1 kb0 kb1 kf0 kf1 kf2 kf3 kf4 kf5 kd0 kd1
        go_simp; exact hK _ _ (gb_refl _ _) rfl
      -- 38: law.go:32 call
      apply told_is
      · intro W f hW hE h0 K hK
        have e75 : f 75 = _ := hE 1 75 _ rfl (by kernel_rfl)
        have e76 : f 76 = _ := hE 0 76 _ rfl (by kernel_rfl)
        have e71 : f 71 = _ := hE 5 71 _ rfl (by kernel_rfl)
        clear hE h0
        refine yes_of (want_yes rfl rfl e71) ?_
        go_simp
        refine (refCmp_any _ _ _ _ _).mono ?_
        rintro e w1' ⟨he, g⟩; rw [HCV.out] at he; subst he
        exact ⟨_, rfl, hK _ _ g rfl⟩
      -- 39: law.go:32 binOp
      apply told_is
      · intro W f hW hE h0 K hK
        have e74 : f 74 = _ := hE 3 74 _ rfl (by kernel_rfl)
        have e77 : f 77 = _ := hE 0 77 _ rfl (by kernel_rfl)
        have e71 : f 71 = _ := hE 6 71 _ rfl (by kernel_rfl)
        clear hE h0
        refine yes_of (want_yes rfl rfl e71) ?_
        go_simp; exact hK _ _ (gb_refl _ _) rfl
      -- 40: law.go:32 pick
      apply told_is
      · intro W f hW hE h0 K hK
        have e71 : f 71 = _ := hE 7 71 _ rfl (by kernel_rfl)
        have e78 : f 78 = _ := hE 0 78 _ rfl (by kernel_rfl)
        clear hE h0
        refine yes_of (want_free rfl) ?_
        go_simp; exact hK _ _ (gb_refl _ _) rfl
      -- 41: law.go:32 move
      apply told_is
      · intro W f hW hE h0 K hK
        have e79 : f 79 = _ := hE 0 79 _ rfl (by kernel_rfl)
        clear hE h0
        refine yes_of (want_free rfl) ?_
        go_simp; exact hK _ _ (gb_refl _ _) rfl
      -- 42: law.go:32 call
      apply told_is
      · intro W f hW hE h0 K hK
        have e80 : f 80 = _ := hE 0 80 _ rfl (by kernel_rfl)
        clear hE h0
        refine yes_of (want_yes rfl rfl e80) ?_
        go_simp
        refine (awake8_any _).mono ?_
        rintro e w1' ⟨rfl, g⟩
        exact ⟨_, rfl, hK _ _ g rfl⟩
      -- 43: law.go:32 pick
      apply told_is
      · intro W f hW hE h0 K hK
        have e80 : f 80 = _ := hE 1 80 _ rfl (by kernel_rfl)
        have e81 : f 81 = _ := hE 0 81 _ rfl (by kernel_rfl)
        clear hE h0
        refine yes_of (want_free rfl) ?_
        go_simp; exact hK _ _ (gb_refl _ _) rfl
      -- 44: law.go:32 assign
      apply told_is
      · intro W f hW hE h0 K hK
        have e82 : f 82 = _ := hE 0 82 _ rfl (by kernel_rfl)
        clear hE h0
        refine yes_of (want_free rfl) ?_
        go_simp; exact hK _ _ (gb_refl _ _) rfl
      intro W f hW hA
      simp only [lexIn, Act.put, List.setIfInBounds_toArray, List.set_cons_zero, List.set_cons_succ]
      have e14 : f 14 = _ := hA 0 (some 14) _ rfl
      rw [e14]
      clear hA
      go_wp2_with fail
      go_ret
      exact ⟨rfl, gb_below (gb_none HE.out hW) (Nat.le_refl _)⟩

set_option maxRecDepth 100000 in
theorem lifted (os : Os) (started : os.Started) (H : Type) (enc : TypeId × Value → H) :
    ReturnsInHanded {} Try.checked os 3 .any (Rows.factsAllSpec.pre6 enc Try.prog Try.f3 Rows.factsAllRow.domain false) (Rows.factsAllSpec.post enc Try.prog Try.f3 false true false false) := by
  refine returnsInHanded_of_change (C := Try.checked) own started (by kernel_rfl) Try.func3
    (ChangeSpec.witness6 (enc := enc) (C := Try.checked) false ⟨#[], #[.agg #[.slice none 0 0, .slice none 0 0], .agg #[.slice none 0 0, .slice none 0 0], .agg #[.int .i64 0, .int .i64 0, .string ⟨#[]⟩, .int .i64 0, .string ⟨#[]⟩, .int .i64 0], .string ⟨#[]⟩, .int .i64 0, .agg #[.int .i64 0, .int .i64 0], .agg #[.int .i64 0, .int .i64 0]], []⟩ 8 (by kernel_rfl) (by kernel_rfl) (by kernel_rfl) (by kernel_rfl)) ?_
  intro W base args ds gs before hval0 hW hcnd _
  have hval : ∀ (j : Nat) t v, Try.f3.params[j]? = some t → args[j]? = some v → Value.okWide Try.prog W .any base t v := hval0
  have hW' := hW
  obtain ⟨p, q, hA0, hV, rfl, hfz, hnd⟩ := hW
  have hA : DataW.TrodAll enc Try.prog W 0 (fun _ => true) true Try.f3.params.toList args.toList ds p := hA0
  rw [Try.params3] at hA hval
  obtain ⟨v0, vs0, d0, ds0, p0, q0, hargs, rfl, rfl, h0, r0⟩ := trodAll_cons hA
  obtain ⟨v1, vs1, d1, ds1, p1, q1, rfl, rfl, rfl, h1, r1⟩ := trodAll_cons r0
  obtain ⟨v2, vs2, d2, ds2, p2, q2, rfl, rfl, rfl, h2, r2⟩ := trodAll_cons r1
  obtain ⟨v3, vs3, d3, ds3, p3, q3, rfl, rfl, rfl, h3, r3⟩ := trodAll_cons r2
  obtain ⟨v4, vs4, d4, ds4, p4, q4, rfl, rfl, rfl, h4, r4⟩ := trodAll_cons r3
  obtain ⟨v5, vs5, d5, ds5, p5, q5, rfl, rfl, rfl, h5, r5⟩ := trodAll_cons r4
  obtain ⟨v6, vs6, d6, ds6, p6, q6, rfl, rfl, rfl, h6, r6⟩ := trodAll_cons r5
  obtain ⟨rfl, rfl, rfl⟩ := trodAll_nil r6
  obtain rfl : args = #[v0, v1, v2, v3, v4, v5, v6] := by cases args; simp_all
  obtain ⟨rfl, rfl⟩ := trodVars_none hV
  have k0 := h0
  have lt0 : ∀ x ∈ p0, x.block < W.heap.size := by obtain ⟨m, hm⟩ := k0; exact DataW.trod_lt m _ _ _ hm
  obtain ⟨SA0, sn0, sc0, SB0, sm0, sd0, st0, rfl, w0, _, _⟩ := open_state (hval 0 25 v0 rfl rfl) h0
  have k1 := h1
  have lt1 : ∀ x ∈ p1, x.block < W.heap.size := by obtain ⟨m, hm⟩ := k1; exact DataW.trod_lt m _ _ _ hm
  obtain ⟨SA1, sn1, sc1, SB1, sm1, sd1, st1, rfl, w1, _, _⟩ := open_state (hval 1 25 v1 rfl rfl) h1
  have k2 := h2
  have lt2 : ∀ x ∈ p2, x.block < W.heap.size := by obtain ⟨m, hm⟩ := k2; exact DataW.trod_lt m _ _ _ hm
  obtain ⟨fc2, rfl⟩ := open_fact (hval 2 29 v2 rfl rfl) h2
  have k3 := h3
  have lt3 : ∀ x ∈ p3, x.block < W.heap.size := by obtain ⟨m, hm⟩ := k3; exact DataW.trod_lt m _ _ _ hm
  obtain ⟨tx3, rfl⟩ := open_str (hval 3 9 v3 rfl rfl) h3
  obtain ⟨a4, rfl, rfl, rfl, w4⟩ := open_int Try.underlying3 (hval 4 3 v4 rfl rfl) h4
  have k5 := h5
  have lt5 : ∀ x ∈ p5, x.block < W.heap.size := by obtain ⟨m, hm⟩ := k5; exact DataW.trod_lt m _ _ _ hm
  obtain ⟨x5, y5, rfl⟩ := open_dot (hval 5 27 v5 rfl rfl) h5
  have k6 := h6
  have lt6 : ∀ x ∈ p6, x.block < W.heap.size := by obtain ⟨m, hm⟩ := k6; exact DataW.trod_lt m _ _ _ hm
  obtain ⟨x6, y6, rfl⟩ := open_dot (hval 6 27 v6 rfl rfl) h6
  clear hA0 hval0
  refine (walk SA0 SB0 sn0 sc0 sm0 sd0 st0 SA1 SB1 sn1 sc1 sm1 sd1 st1 fc2 tx3 a4 x5 y5 x6 y6 W w0 w1 w4).mono fun e W' ⟨he, bel⟩ => ?_
  subst he
  exact ⟨_, rfl, _, _, _, [], _, [], hW', trodAll_mk1 (shut_bool Try.underlying4 _), (trodAll_cons_mk (Below.trod laidOut (by kernel_rfl) (of_decide_eq_true (by kernel_rfl)) k0 bel lt0) (trodAll_cons_mk (Below.trod laidOut (by kernel_rfl) (of_decide_eq_true (by kernel_rfl)) k1 bel lt1) (trodAll_cons_mk (Below.trod laidOut (by kernel_rfl) (of_decide_eq_true (by kernel_rfl)) k2 bel lt2) (trodAll_cons_mk (Below.trod laidOut (by kernel_rfl) (of_decide_eq_true (by kernel_rfl)) k3 bel lt3) (trodAll_cons_mk (shut_int Try.underlying3 w4) (trodAll_cons_mk (Below.trod laidOut (by kernel_rfl) (of_decide_eq_true (by kernel_rfl)) k5 bel lt5) (trodAll_cons_mk (Below.trod laidOut (by kernel_rfl) (of_decide_eq_true (by kernel_rfl)) k6 bel lt6) trodAll_mk0))))))), rfl, bel.frame _, fun h => by cases h⟩

theorem over : Rows.factsAllRow.holds Try.pinned (OpenSpec.ofChange Rows.factsAllSpec) :=
  OpenClaim.holds_of_wide 3 Try.f3 rfl rfl rfl rfl rfl rfl rfl ⟨rfl, rfl, rfl, rfl, rfl⟩ rfl rfl rfl rfl rfl (by kernel_rfl) Try.func3 (by kernel_rfl)
    (of_decide_eq_true (by kernel_rfl)) (by unfold Func.isWrapper; first | (rw [if_pos (by decide +kernel)]; kernel_rfl) | (rw [if_neg (by decide +kernel)]; exact ⟨rfl, rfl⟩))
    (fun os started H enc _ => lifted os started H enc)

theorem proved : Rows.FactsAllSaid := over
#print axioms proved
end Go.Proofs.Ytgmgkcackkmgfaa.factsAll
