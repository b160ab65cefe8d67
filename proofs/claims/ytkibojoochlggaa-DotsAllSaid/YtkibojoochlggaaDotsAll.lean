/-
  Proved: whatever values of its parameters' types it is called with, deaddroplaw7.DotsAll returns true, and each argument reads behind the call as it read before.
  Conditions: none but those of the row itself.
-/
import Derived.Test.YtkibojoochlggaaRows
import Derived.WalkKit
import Derived.ProofKit
import Derived.OpenShut
import Derived.ShutString
import Derived.Test.YtkibojoochlggaaDtLaw2
import Derived.Test.YtkibojoochlggaaDtOpen
import Derived.ChangeOld
import Derived.Below
namespace Go.Proofs.Ytkibojoochlggaa.dotsAll
open Go.ChangeShapes Go.WideShapes Go.ChangeAt Go.RowKit
open Go.ChangeMaps (open_string shut_string)
open Go.Proofs.Ytkibojoochlggaa.Mm Go.Proofs.Ytkibojoochlggaa.Dt
set_option linter.unusedVariables false

theorem own : ownKnob Try.prog.godebug = none := by kernel_rfl
theorem laidOut : laidOutB Try.prog = true := by kernel_rfl

open Go.Proofs.Ytkibojoochlggaa.Td
attribute [local go_sem] upon_value upon_skip upon_enter upon_row look_tmp look_const look_func look_global
def MayQ (q : Bool) (l : List Rn) : Prop := q = true ↔ May l
theorem one_bool {q r : Bool} {l : List Rn} (h : q = true ↔ May l) (k : MayQ r l) : q = r := by
  unfold MayQ at k
  cases q <;> cases r
  · rfl
  · exact absurd (h.2 (k.1 rfl)) (by simp)
  · exact absurd (k.2 (h.1 rfl)) (by simp)
  · rfl

set_option maxHeartbeats 40000000 in
set_option maxRecDepth 100000 in
theorem walk (a0 : Option Addr) (len0 cap0 : Nat) (l0 : List Rn) (a1 : Option Addr) (len1 cap1 : Nat) (l1 : List Rn) (a2 : Option Addr) (len2 cap2 : Nat) (l2 : List (Int × Int)) (x3 y3 : Int) (a4 : Int) (w : World) (w0 : RL w a0 len0 l0) (c0 : len0 ≤ cap0) (w1 : RL w a1 len1 l1) (c1 : len1 ≤ cap1) (w2 : DL w a2 len2 l2) (c2 : len2 ≤ cap2) (w4 : (Lit.int .i64 a4).wf = true) :
    Calls Try.prog 3 #[.slice a0 len0 cap0, .slice a1 len1 cap1, .slice a2 len2 cap2, .agg #[.int .i64 x3, .int .i64 y3], .int .i64 a4] w fun e w' => e = .returned (.bool true) ∧ Below w.heap.size w w' := by
  by_cases hh0 : 30 < len0
  · have t0 : decide ((30 : Int) < (len0 : Int)) = true := decide_eq_true (by omega)
    have s0 : decide (30 < len0) = true := decide_eq_true hh0
    go_enter Try.func3, Try.ntmps3
    go_wp2_with (go_at_call 9; refine (awake_any _).mono ?_; rintro e y ⟨rfl, gy⟩)
    go_ret
    exact ⟨rfl, gb_below (gb_none (gb_alloc (gb_refl _ none) _) gy) (Nat.le_refl _)⟩
  · have t0 : decide ((30 : Int) < (len0 : Int)) = false := decide_eq_false (by omega)
    have s0 : decide (30 < len0) = false := decide_eq_false hh0
    by_cases hh1 : 30 < len1
    · have t1 : decide ((30 : Int) < (len1 : Int)) = true := decide_eq_true (by omega)
      have s1 : decide (30 < len1) = true := decide_eq_true hh1
      go_enter Try.func3, Try.ntmps3
      go_wp2_with (go_at_call 9; refine (awake_any _).mono ?_; rintro e y ⟨rfl, gy⟩)
      go_ret
      exact ⟨rfl, gb_below (gb_none (gb_alloc (gb_refl _ none) _) gy) (Nat.le_refl _)⟩
    · have t1 : decide ((30 : Int) < (len1 : Int)) = false := decide_eq_false (by omega)
      have s1 : decide (30 < len1) = false := decide_eq_false hh1
      by_cases hh2 : 40 < len2
      · have t2 : decide ((40 : Int) < (len2 : Int)) = true := decide_eq_true (by omega)
        have s2 : decide (40 < len2) = true := decide_eq_true hh2
        go_enter Try.func3, Try.ntmps3
        go_wp2_with (go_at_call 9; refine (awake_any _).mono ?_; rintro e y ⟨rfl, gy⟩)
        go_ret
        exact ⟨rfl, gb_below (gb_none (gb_alloc (gb_refl _ none) _) gy) (Nat.le_refl _)⟩
      · have t2 : decide ((40 : Int) < (len2 : Int)) = false := decide_eq_false (by omega)
        have s2 : decide (40 < len2) = false := decide_eq_false hh2
        obtain ⟨qa, Ha⟩ : ∃ q, Hid (MayQ q l0) := by
          by_cases h : May l0
          · exact ⟨true, show MayQ _ _ from Iff.intro (fun _ => h) (fun _ => rfl)⟩
          · exact ⟨false, show MayQ _ _ from Iff.intro (fun e => absurd e (by decide)) (fun e => (h e).elim)⟩
        obtain ⟨qb, Hb⟩ : ∃ q, Hid (MayQ q l1) := by
          by_cases h : May l1
          · exact ⟨true, show MayQ _ _ from Iff.intro (fun _ => h) (fun _ => rfl)⟩
          · exact ⟨false, show MayQ _ _ from Iff.intro (fun e => absurd e (by decide)) (fun e => (h e).elim)⟩
        have hnq : ∀ W, (binOp .neq 4 (.bool true) (.bool true)).run Try.prog W = .ok (.bool false) W := fun W => by rfl
        have hnf : ∀ W, (binOp .neq 4 (.bool false) (.bool false)).run Try.prog W = .ok (.bool false) W := fun W => by rfl
        obtain ⟨o, Ho⟩ : ∃ o, Hid (ofR [] l2 = o) := ⟨_, rfl⟩
        obtain ⟨Lo, HLo⟩ : ∃ L, Hid (o.length = L) := ⟨_, rfl⟩
        have bo : Lo ≤ len2 := by have h := of_len l2; rw [Ho.out, HLo.out, w2.1] at h; exact h
        have N0 := Lib.hid w0.1
        have N1 := Lib.hid w1.1
        go_enter Try.func3, Try.ntmps3
        go_upto_region 3 with fail
        have bx := Row.new w 25 #[.int .i64 x3, .int .i64 y3]
        have G := gb_alloc (gb_refl w none) (.cells #[.int .i64 x3, .int .i64 y3] 25)
        replace w0 := w0.keep G
        replace w1 := w1.keep G
        replace w2 := w2.keep G
        obtain ⟨W5, hW5⟩ : ∃ W5, w.alloc (.cells #[.int .i64 x3, .int .i64 y3] 25) = W5 := ⟨_, rfl⟩
        rw [hW5] at w0 w1 w2 bx G ⊢
        clear hW5
        obtain ⟨D5, hD5⟩ : ∃ D5, w.heap.size = D5 := ⟨_, rfl⟩
        have HD5 := Lib.hid hD5
        rw [hD5] at bx ⊢
        clear hD5
        have bxq0 := bx.at_ (i := 0) rfl
        have bxq1 := bx.at_ (i := 1) rfl
        cases qa
        · cases qb
          · go_wp2_with (first
                | (go_at_call 10; (with_reducible refine (pMay_any a0 len0 cap0 l0 _ w0 (by omega)).mono ?_); rintro e y ⟨⟨q, he, hq⟩, gy⟩; obtain rfl : q = false := one_bool hq Ha.out; subst he; replace w0 := w0.keep gy; replace w1 := w1.keep gy; replace w2 := w2.keep gy; replace bx := bx.kept gy (by simp); replace G := gb_none G gy; clear gy; replace bxq0 := bx.at_ (i := 0) rfl; replace bxq1 := bx.at_ (i := 1) rfl)
                | (go_at_call 11; (with_reducible refine (refMay_any a0 len0 cap0 l0 _ w0 (by omega)).mono ?_); rintro e y ⟨⟨q, he, hq⟩, gy⟩; obtain rfl : q = false := one_bool hq Ha.out; subst he; replace w0 := w0.keep gy; replace w1 := w1.keep gy; replace w2 := w2.keep gy; replace bx := bx.kept gy (by simp); replace G := gb_none G gy; clear gy; replace bxq0 := bx.at_ (i := 0) rfl; replace bxq1 := bx.at_ (i := 1) rfl)
                | (go_at_call 10; (with_reducible refine (pMay_any a1 len1 cap1 l1 _ w1 (by omega)).mono ?_); rintro e y ⟨⟨q, he, hq⟩, gy⟩; obtain rfl : q = false := one_bool hq Hb.out; subst he; replace w0 := w0.keep gy; replace w1 := w1.keep gy; replace w2 := w2.keep gy; replace bx := bx.kept gy (by simp); replace G := gb_none G gy; clear gy; replace bxq0 := bx.at_ (i := 0) rfl; replace bxq1 := bx.at_ (i := 1) rfl)
                | (go_at_call 11; (with_reducible refine (refMay_any a1 len1 cap1 l1 _ w1 (by omega)).mono ?_); rintro e y ⟨⟨q, he, hq⟩, gy⟩; obtain rfl : q = false := one_bool hq Hb.out; subst he; replace w0 := w0.keep gy; replace w1 := w1.keep gy; replace w2 := w2.keep gy; replace bx := bx.kept gy (by simp); replace G := gb_none G gy; clear gy; replace bxq0 := bx.at_ (i := 0) rfl; replace bxq1 := bx.at_ (i := 1) rfl)
                | (go_at_call 13; (with_reducible refine (pOf_any a2 len2 cap2 l2 _ w2 (by omega)).mono ?_); rintro e y hR; rw [Ho.out] at hR; obtain ⟨A_o, c_o, rfl, r_o, h_o, gy⟩ := hR.n HLo.out; replace w0 := w0.keep gy; replace w1 := w1.keep gy; replace w2 := w2.keep gy; replace bx := bx.kept gy (by simp); replace G := gb_none G gy; clear gy; replace bxq0 := bx.at_ (i := 0) rfl; replace bxq1 := bx.at_ (i := 1) rfl)
                | (go_at_call 14; (with_reducible refine (refOf_any a2 len2 cap2 l2 _ w2 (by omega)).mono ?_); rintro e y hR; rw [Ho.out] at hR; obtain ⟨A_o2, c_o2, rfl, r_o2, h_o2, gy⟩ := hR.n HLo.out; replace w0 := w0.keep gy; replace w1 := w1.keep gy; replace w2 := w2.keep gy; replace bx := bx.kept gy (by simp); replace r_o := r_o.keep gy; replace G := gb_none G gy; clear gy; replace bxq0 := bx.at_ (i := 0) rfl; replace bxq1 := bx.at_ (i := 1) rfl)
                | (go_at_call 12; (with_reducible refine (same_yes A_o A_o2 Lo c_o Lo c_o2 o o _ r_o r_o2 rfl (by omega) (by omega)).mono ?_); rintro e y ⟨rfl, gy⟩; replace w0 := w0.keep gy; replace w1 := w1.keep gy; replace w2 := w2.keep gy; replace bx := bx.kept gy (by simp); replace r_o := r_o.keep gy; replace r_o2 := r_o2.keep gy; replace G := gb_none G gy; clear gy; replace bxq0 := bx.at_ (i := 0) rfl; replace bxq1 := bx.at_ (i := 1) rfl)
                | (go_at_call 9; (with_reducible refine (awake_any _).mono ?_); rintro e y ⟨rfl, gy⟩; replace G := gb_none G gy)
                )
            go_ret
            exact ⟨rfl, gb_below G (Nat.le_refl _)⟩
          · go_wp2_with (first
                | (go_at_call 10; (with_reducible refine (pMay_any a0 len0 cap0 l0 _ w0 (by omega)).mono ?_); rintro e y ⟨⟨q, he, hq⟩, gy⟩; obtain rfl : q = false := one_bool hq Ha.out; subst he; replace w0 := w0.keep gy; replace w1 := w1.keep gy; replace w2 := w2.keep gy; replace bx := bx.kept gy (by simp); replace G := gb_none G gy; clear gy; replace bxq0 := bx.at_ (i := 0) rfl; replace bxq1 := bx.at_ (i := 1) rfl)
                | (go_at_call 11; (with_reducible refine (refMay_any a0 len0 cap0 l0 _ w0 (by omega)).mono ?_); rintro e y ⟨⟨q, he, hq⟩, gy⟩; obtain rfl : q = false := one_bool hq Ha.out; subst he; replace w0 := w0.keep gy; replace w1 := w1.keep gy; replace w2 := w2.keep gy; replace bx := bx.kept gy (by simp); replace G := gb_none G gy; clear gy; replace bxq0 := bx.at_ (i := 0) rfl; replace bxq1 := bx.at_ (i := 1) rfl)
                | (go_at_call 10; (with_reducible refine (pMay_any a1 len1 cap1 l1 _ w1 (by omega)).mono ?_); rintro e y ⟨⟨q, he, hq⟩, gy⟩; obtain rfl : q = true := one_bool hq Hb.out; subst he; replace w0 := w0.keep gy; replace w1 := w1.keep gy; replace w2 := w2.keep gy; replace bx := bx.kept gy (by simp); replace G := gb_none G gy; clear gy; replace bxq0 := bx.at_ (i := 0) rfl; replace bxq1 := bx.at_ (i := 1) rfl)
                | (go_at_call 11; (with_reducible refine (refMay_any a1 len1 cap1 l1 _ w1 (by omega)).mono ?_); rintro e y ⟨⟨q, he, hq⟩, gy⟩; obtain rfl : q = true := one_bool hq Hb.out; subst he; replace w0 := w0.keep gy; replace w1 := w1.keep gy; replace w2 := w2.keep gy; replace bx := bx.kept gy (by simp); replace G := gb_none G gy; clear gy; replace bxq0 := bx.at_ (i := 0) rfl; replace bxq1 := bx.at_ (i := 1) rfl)
                | (go_at_call 13; (with_reducible refine (pOf_any a2 len2 cap2 l2 _ w2 (by omega)).mono ?_); rintro e y hR; rw [Ho.out] at hR; obtain ⟨A_o, c_o, rfl, r_o, h_o, gy⟩ := hR.n HLo.out; replace w0 := w0.keep gy; replace w1 := w1.keep gy; replace w2 := w2.keep gy; replace bx := bx.kept gy (by simp); replace G := gb_none G gy; clear gy; replace bxq0 := bx.at_ (i := 0) rfl; replace bxq1 := bx.at_ (i := 1) rfl)
                | (go_at_call 14; (with_reducible refine (refOf_any a2 len2 cap2 l2 _ w2 (by omega)).mono ?_); rintro e y hR; rw [Ho.out] at hR; obtain ⟨A_o2, c_o2, rfl, r_o2, h_o2, gy⟩ := hR.n HLo.out; replace w0 := w0.keep gy; replace w1 := w1.keep gy; replace w2 := w2.keep gy; replace bx := bx.kept gy (by simp); replace r_o := r_o.keep gy; replace G := gb_none G gy; clear gy; replace bxq0 := bx.at_ (i := 0) rfl; replace bxq1 := bx.at_ (i := 1) rfl)
                | (go_at_call 12; (with_reducible refine (same_yes A_o A_o2 Lo c_o Lo c_o2 o o _ r_o r_o2 rfl (by omega) (by omega)).mono ?_); rintro e y ⟨rfl, gy⟩; replace w0 := w0.keep gy; replace w1 := w1.keep gy; replace w2 := w2.keep gy; replace bx := bx.kept gy (by simp); replace r_o := r_o.keep gy; replace r_o2 := r_o2.keep gy; replace G := gb_none G gy; clear gy; replace bxq0 := bx.at_ (i := 0) rfl; replace bxq1 := bx.at_ (i := 1) rfl)
                | (go_at_call 9; (with_reducible refine (awake_any _).mono ?_); rintro e y ⟨rfl, gy⟩; replace G := gb_none G gy)
                )
            go_ret
            exact ⟨rfl, gb_below G (Nat.le_refl _)⟩
        · cases qb
          · go_wp2_with (first
                | (go_at_call 10; (with_reducible refine (pMay_any a0 len0 cap0 l0 _ w0 (by omega)).mono ?_); rintro e y ⟨⟨q, he, hq⟩, gy⟩; obtain rfl : q = true := one_bool hq Ha.out; subst he; replace w0 := w0.keep gy; replace w1 := w1.keep gy; replace w2 := w2.keep gy; replace bx := bx.kept gy (by simp); replace G := gb_none G gy; clear gy; replace bxq0 := bx.at_ (i := 0) rfl; replace bxq1 := bx.at_ (i := 1) rfl)
                | (go_at_call 11; (with_reducible refine (refMay_any a0 len0 cap0 l0 _ w0 (by omega)).mono ?_); rintro e y ⟨⟨q, he, hq⟩, gy⟩; obtain rfl : q = true := one_bool hq Ha.out; subst he; replace w0 := w0.keep gy; replace w1 := w1.keep gy; replace w2 := w2.keep gy; replace bx := bx.kept gy (by simp); replace G := gb_none G gy; clear gy; replace bxq0 := bx.at_ (i := 0) rfl; replace bxq1 := bx.at_ (i := 1) rfl)
                | (go_at_call 10; (with_reducible refine (pMay_any a1 len1 cap1 l1 _ w1 (by omega)).mono ?_); rintro e y ⟨⟨q, he, hq⟩, gy⟩; obtain rfl : q = false := one_bool hq Hb.out; subst he; replace w0 := w0.keep gy; replace w1 := w1.keep gy; replace w2 := w2.keep gy; replace bx := bx.kept gy (by simp); replace G := gb_none G gy; clear gy; replace bxq0 := bx.at_ (i := 0) rfl; replace bxq1 := bx.at_ (i := 1) rfl)
                | (go_at_call 11; (with_reducible refine (refMay_any a1 len1 cap1 l1 _ w1 (by omega)).mono ?_); rintro e y ⟨⟨q, he, hq⟩, gy⟩; obtain rfl : q = false := one_bool hq Hb.out; subst he; replace w0 := w0.keep gy; replace w1 := w1.keep gy; replace w2 := w2.keep gy; replace bx := bx.kept gy (by simp); replace G := gb_none G gy; clear gy; replace bxq0 := bx.at_ (i := 0) rfl; replace bxq1 := bx.at_ (i := 1) rfl)
                | (go_at_call 13; (with_reducible refine (pOf_any a2 len2 cap2 l2 _ w2 (by omega)).mono ?_); rintro e y hR; rw [Ho.out] at hR; obtain ⟨A_o, c_o, rfl, r_o, h_o, gy⟩ := hR.n HLo.out; replace w0 := w0.keep gy; replace w1 := w1.keep gy; replace w2 := w2.keep gy; replace bx := bx.kept gy (by simp); replace G := gb_none G gy; clear gy; replace bxq0 := bx.at_ (i := 0) rfl; replace bxq1 := bx.at_ (i := 1) rfl)
                | (go_at_call 14; (with_reducible refine (refOf_any a2 len2 cap2 l2 _ w2 (by omega)).mono ?_); rintro e y hR; rw [Ho.out] at hR; obtain ⟨A_o2, c_o2, rfl, r_o2, h_o2, gy⟩ := hR.n HLo.out; replace w0 := w0.keep gy; replace w1 := w1.keep gy; replace w2 := w2.keep gy; replace bx := bx.kept gy (by simp); replace r_o := r_o.keep gy; replace G := gb_none G gy; clear gy; replace bxq0 := bx.at_ (i := 0) rfl; replace bxq1 := bx.at_ (i := 1) rfl)
                | (go_at_call 12; (with_reducible refine (same_yes A_o A_o2 Lo c_o Lo c_o2 o o _ r_o r_o2 rfl (by omega) (by omega)).mono ?_); rintro e y ⟨rfl, gy⟩; replace w0 := w0.keep gy; replace w1 := w1.keep gy; replace w2 := w2.keep gy; replace bx := bx.kept gy (by simp); replace r_o := r_o.keep gy; replace r_o2 := r_o2.keep gy; replace G := gb_none G gy; clear gy; replace bxq0 := bx.at_ (i := 0) rfl; replace bxq1 := bx.at_ (i := 1) rfl)
                | (go_at_call 9; (with_reducible refine (awake_any _).mono ?_); rintro e y ⟨rfl, gy⟩; replace G := gb_none G gy)
                )
            go_ret
            exact ⟨rfl, gb_below G (Nat.le_refl _)⟩
          · go_upto_region 7 with (first
                | (go_at_call 10; (with_reducible refine (pMay_any a0 len0 cap0 l0 _ w0 (by omega)).mono ?_); rintro e y ⟨⟨q, he, hq⟩, gy⟩; obtain rfl : q = true := one_bool hq Ha.out; subst he; replace w0 := w0.keep gy; replace w1 := w1.keep gy; replace w2 := w2.keep gy; replace bx := bx.kept gy (by simp); replace G := gb_none G gy; clear gy; replace bxq0 := bx.at_ (i := 0) rfl; replace bxq1 := bx.at_ (i := 1) rfl)
                | (go_at_call 11; (with_reducible refine (refMay_any a0 len0 cap0 l0 _ w0 (by omega)).mono ?_); rintro e y ⟨⟨q, he, hq⟩, gy⟩; obtain rfl : q = true := one_bool hq Ha.out; subst he; replace w0 := w0.keep gy; replace w1 := w1.keep gy; replace w2 := w2.keep gy; replace bx := bx.kept gy (by simp); replace G := gb_none G gy; clear gy; replace bxq0 := bx.at_ (i := 0) rfl; replace bxq1 := bx.at_ (i := 1) rfl)
                | (go_at_call 10; (with_reducible refine (pMay_any a1 len1 cap1 l1 _ w1 (by omega)).mono ?_); rintro e y ⟨⟨q, he, hq⟩, gy⟩; obtain rfl : q = true := one_bool hq Hb.out; subst he; replace w0 := w0.keep gy; replace w1 := w1.keep gy; replace w2 := w2.keep gy; replace bx := bx.kept gy (by simp); replace G := gb_none G gy; clear gy; replace bxq0 := bx.at_ (i := 0) rfl; replace bxq1 := bx.at_ (i := 1) rfl)
                | (go_at_call 11; (with_reducible refine (refMay_any a1 len1 cap1 l1 _ w1 (by omega)).mono ?_); rintro e y ⟨⟨q, he, hq⟩, gy⟩; obtain rfl : q = true := one_bool hq Hb.out; subst he; replace w0 := w0.keep gy; replace w1 := w1.keep gy; replace w2 := w2.keep gy; replace bx := bx.kept gy (by simp); replace G := gb_none G gy; clear gy; replace bxq0 := bx.at_ (i := 0) rfl; replace bxq1 := bx.at_ (i := 1) rfl)
                | (go_at_call 13; (with_reducible refine (pOf_any a2 len2 cap2 l2 _ w2 (by omega)).mono ?_); rintro e y hR; rw [Ho.out] at hR; obtain ⟨A_o, c_o, rfl, r_o, h_o, gy⟩ := hR.n HLo.out; replace w0 := w0.keep gy; replace w1 := w1.keep gy; replace w2 := w2.keep gy; replace bx := bx.kept gy (by simp); replace G := gb_none G gy; clear gy; replace bxq0 := bx.at_ (i := 0) rfl; replace bxq1 := bx.at_ (i := 1) rfl)
                | (go_at_call 14; (with_reducible refine (refOf_any a2 len2 cap2 l2 _ w2 (by omega)).mono ?_); rintro e y hR; rw [Ho.out] at hR; obtain ⟨A_o2, c_o2, rfl, r_o2, h_o2, gy⟩ := hR.n HLo.out; replace w0 := w0.keep gy; replace w1 := w1.keep gy; replace w2 := w2.keep gy; replace bx := bx.kept gy (by simp); replace r_o := r_o.keep gy; replace G := gb_none G gy; clear gy; replace bxq0 := bx.at_ (i := 0) rfl; replace bxq1 := bx.at_ (i := 1) rfl)
                | (go_at_call 12; (with_reducible refine (same_yes A_o A_o2 Lo c_o Lo c_o2 o o _ r_o r_o2 rfl (by omega) (by omega)).mono ?_); rintro e y ⟨rfl, gy⟩; replace w0 := w0.keep gy; replace w1 := w1.keep gy; replace w2 := w2.keep gy; replace bx := bx.kept gy (by simp); replace r_o := r_o.keep gy; replace r_o2 := r_o2.keep gy; replace G := gb_none G gy; clear gy; replace bxq0 := bx.at_ (i := 0) rfl; replace bxq1 := bx.at_ (i := 1) rfl)
                | (go_at_call 9; (with_reducible refine (awake_any _).mono ?_); rintro e y ⟨rfl, gy⟩; replace G := gb_none G gy)
                )
            clear hnq hnf
            have Ma : Hid (May l0) := by show May l0; exact Ha.out.1 rfl
            have Mb : Hid (May l1) := by show May l1; exact Hb.out.1 rfl
            obtain ⟨u, Hu⟩ : ∃ u, Hid (unionR l0 l1 = u) := ⟨_, rfl⟩
            obtain ⟨Lu, HLu⟩ : ∃ L, Hid (u.length = L) := ⟨_, rfl⟩
            have Mu : Hid (May u) := by show May u; rw [← Hu.out]; exact union_may Ma.out Mb.out
            have bu : Lu ≤ 16 * (len0 + len1) := by have h := union_len l0 l1; rw [Hu.out, N0.out, N1.out, HLu.out] at h; omega
            obtain ⟨m, Hm⟩ : ∃ m, Hid (minusR l0 l1 = m) := ⟨_, rfl⟩
            obtain ⟨Lm, HLm⟩ : ∃ L, Hid (m.length = L) := ⟨_, rfl⟩
            have Mm : Hid (May m) := by show May m; rw [← Hm.out]; exact minus_may Ma.out Mb.out
            have bm : Lm ≤ 16 * (len0 + len1) := by have h := minus_len l0 l1; rw [Hm.out, N0.out, N1.out, HLm.out] at h; omega
            obtain ⟨hb, Hhb⟩ : ∃ b : Bool, Hid (hasB l0 x3 y3 = b) := ⟨_, rfl⟩
            obtain ⟨bv, hbv⟩ : ∃ bv, leB l0 l1 = bv := ⟨_, rfl⟩
            have e8 : ((Lm : Int) == 0) = bv := by rw [← hbv]; exact law_nil Ma.out Mb.out Lm (by rw [Hm.out]; exact HLm.out)
            have E8 := Lib.hid hbv
            have He8 := Lib.hid e8
            clear hbv e8
            clear bxq0 bxq1 w2 Ha Hb
            apply wp_region_told (le := fun a b => a.grownBy b none) [isV _, isV _, isV _, isV _, isV _, isV _, isV (.bool true), isV _, isV _, isV _, runsS Lu u, isV _, isV _, runsS Lu u, isV _, isV _, isV _, isV _, isV _, runsS Lm m, isV _, isV _, runsS Lm m, isV _, isV _, isV _, isV _, isV _, isV _, isV _, isV _, isV _, isV _, isV _, isV _, isV _, isV _, isV _, isV _, isV _, runsS Lm m, isV (.int .i64 (Lm : Int)), isV (.bool bv), isV (.bool true), isV _, isV _, isV _, isV _, isV _]
            case hn => rfl
            case hm => kernel_rfl
            case hB => kernel_rfl
            case ht => exact fun _ _ _ h k => gb_none h k
            case hw => exact gb_drew (gb_refl _ _)
            -- 0: law.go:27 move
            apply told_is
            · intro W f hW hE h0 K hK
              have e0 := h0 0 (by kernel_rfl)
              conv at e0 => rhs; whnf
              clear hE h0
              refine yes_of (want_free rfl) ?_
              go_simp; exact hK _ _ (gb_refl _ _) rfl
            -- 1: law.go:27 load
            apply told_is
            · intro W f hW hE h0 K hK
              have e8 := h0 8 (by kernel_rfl)
              conv at e8 => rhs; whnf
              clear hE h0
              refine yes_of (want_free rfl) ?_
              have hq := bx.kept hW (by simp)
              have q0 := hq.at_ (i := 0) rfl
              have q1 := hq.at_ (i := 1) rfl
              go_simp; exact hK _ _ (gb_refl _ _) rfl
            -- 2: law.go:27 call
            apply told_is
            · intro W f hW hE h0 K hK
              have e54 : f 54 = _ := hE 1 54 _ rfl (by kernel_rfl)
              have e55 : f 55 = _ := hE 0 55 _ rfl (by kernel_rfl)
              clear hE h0
              refine yes_of (want_free rfl) ?_
              go_simp
              refine (pHas_any a0 len0 cap0 l0 x3 y3 _ (w0.keep hW) Ma.out (by omega)).mono ?_
              rintro e w1' ⟨he, g⟩; rw [Hhb.out] at he; subst he
              exact ⟨_, rfl, hK _ _ g rfl⟩
            -- 3: law.go:27 move
            apply told_is
            · intro W f hW hE h0 K hK
              have e0 := h0 0 (by kernel_rfl)
              conv at e0 => rhs; whnf
              clear hE h0
              refine yes_of (want_free rfl) ?_
              go_simp; exact hK _ _ (gb_refl _ _) rfl
            -- 4: law.go:27 load
            apply told_is
            · intro W f hW hE h0 K hK
              have e8 := h0 8 (by kernel_rfl)
              conv at e8 => rhs; whnf
              clear hE h0
              refine yes_of (want_free rfl) ?_
              have hq := bx.kept hW (by simp)
              have q0 := hq.at_ (i := 0) rfl
              have q1 := hq.at_ (i := 1) rfl
              go_simp; exact hK _ _ (gb_refl _ _) rfl
            -- 5: law.go:27 call
            apply told_is
            · intro W f hW hE h0 K hK
              have e57 : f 57 = _ := hE 1 57 _ rfl (by kernel_rfl)
              have e58 : f 58 = _ := hE 0 58 _ rfl (by kernel_rfl)
              clear hE h0
              refine yes_of (want_free rfl) ?_
              go_simp
              refine (refHas_any a0 len0 cap0 l0 x3 y3 _ (w0.keep hW) (by omega)).mono ?_
              rintro e w1' ⟨he, g⟩; rw [Hhb.out] at he; subst he
              exact ⟨_, rfl, hK _ _ g rfl⟩
            -- 6: law.go:27 binOp
            apply told_is
            · intro W f hW hE h0 K hK
              have e56 : f 56 = _ := hE 3 56 _ rfl (by kernel_rfl)
              have e59 : f 59 = _ := hE 0 59 _ rfl (by kernel_rfl)
              clear hE h0
              refine yes_of (want_free rfl) ?_
              cases hb
              all_goals (go_simp; exact hK _ _ (gb_refl _ _) rfl)
            -- 7: law.go:27 move
            apply told_is
            · intro W f hW hE h0 K hK
              have e60 : f 60 = _ := hE 0 60 _ rfl (by kernel_rfl)
              clear hE h0
              refine yes_of (want_free rfl) ?_
              go_simp; exact hK _ _ (gb_refl _ _) rfl
            -- 8: law.go:27 move
            apply told_is
            · intro W f hW hE h0 K hK
              have e0 := h0 0 (by kernel_rfl)
              conv at e0 => rhs; whnf
              have e61 : f 61 = _ := hE 0 61 _ rfl (by kernel_rfl)
              clear hE h0
              refine yes_of (want_yes rfl rfl e61) ?_
              go_simp; exact hK _ _ (gb_refl _ _) rfl
            -- 9: law.go:27 move
            apply told_is
            · intro W f hW hE h0 K hK
              have e1 := h0 1 (by kernel_rfl)
              conv at e1 => rhs; whnf
              have e61 : f 61 = _ := hE 1 61 _ rfl (by kernel_rfl)
              clear hE h0
              refine yes_of (want_yes rfl rfl e61) ?_
              go_simp; exact hK _ _ (gb_refl _ _) rfl
            -- 10: law.go:27 call
            apply told_at runsS_stays
            · intro W f hW hE h0 K hK
              have e62 : f 62 = _ := hE 1 62 _ rfl (by kernel_rfl)
              have e63 : f 63 = _ := hE 0 63 _ rfl (by kernel_rfl)
              have e61 : f 61 = _ := hE 2 61 _ rfl (by kernel_rfl)
              clear hE h0
              refine yes_of (want_yes rfl rfl e61) ?_
              go_simp
              refine (pUnion_any a0 a1 len0 cap0 len1 cap1 l0 l1 _ (w0.keep hW) (w1.keep hW) Ma.out Mb.out (by omega) (by omega) c1).mono ?_
              rintro e w1' hR; rw [Hu.out] at hR; obtain ⟨A1, c1, rfl, r1, h1, g⟩ := hR.n HLu.out
              exact ⟨_, rfl, hK _ _ g ⟨A1, c1, rfl, r1, h1⟩⟩
            -- 11: law.go:27 move
            apply told_is
            · intro W f hW hE h0 K hK
              have e0 := h0 0 (by kernel_rfl)
              conv at e0 => rhs; whnf
              have e61 : f 61 = _ := hE 3 61 _ rfl (by kernel_rfl)
              clear hE h0
              refine yes_of (want_yes rfl rfl e61) ?_
              go_simp; exact hK _ _ (gb_refl _ _) rfl
            -- 12: law.go:27 move
            apply told_is
            · intro W f hW hE h0 K hK
              have e1 := h0 1 (by kernel_rfl)
              conv at e1 => rhs; whnf
              have e61 : f 61 = _ := hE 4 61 _ rfl (by kernel_rfl)
              clear hE h0
              refine yes_of (want_yes rfl rfl e61) ?_
              go_simp; exact hK _ _ (gb_refl _ _) rfl
            -- 13: law.go:27 call
            apply told_at runsS_stays
            · intro W f hW hE h0 K hK
              have e65 : f 65 = _ := hE 1 65 _ rfl (by kernel_rfl)
              have e66 : f 66 = _ := hE 0 66 _ rfl (by kernel_rfl)
              have e61 : f 61 = _ := hE 5 61 _ rfl (by kernel_rfl)
              clear hE h0
              refine yes_of (want_yes rfl rfl e61) ?_
              go_simp
              refine (refUnion_any a0 a1 len0 cap0 len1 cap1 l0 l1 _ (w0.keep hW) (w1.keep hW) Ma.out Mb.out (by omega) (by omega)).mono ?_
              rintro e w1' hR; rw [Hu.out] at hR; obtain ⟨A1, c1, rfl, r1, h1, g⟩ := hR.n HLu.out
              exact ⟨_, rfl, hK _ _ g ⟨A1, c1, rfl, r1, h1⟩⟩
            -- 14: law.go:27 call
            apply told_is
            · intro W f hW hE h0 K hK
              have e64 := hE 3 64 _ rfl (by kernel_rfl)
              have e67 := hE 0 67 _ rfl (by kernel_rfl)
              have e61 : f 61 = _ := hE 6 61 _ rfl (by kernel_rfl)
              clear hE h0
              refine yes_of (want_yes rfl rfl e61) ?_
              obtain ⟨A2, c2, e64, r2, h2⟩ := e64
              obtain ⟨A3, c3, e67, r3, h3⟩ := e67
              go_simp
              refine (same_yes _ _ Lu _ Lu _ u u _ r2 r3 rfl (by omega) (by omega)).mono ?_
              rintro e w1' ⟨rfl, g⟩
              exact ⟨_, rfl, hK _ _ g rfl⟩
            -- 15: law.go:27 pick
            apply told_is
            · intro W f hW hE h0 K hK
              have e61 : f 61 = _ := hE 7 61 _ rfl (by kernel_rfl)
              have e68 : f 68 = _ := hE 0 68 _ rfl (by kernel_rfl)
              clear hE h0
              refine yes_of (want_free rfl) ?_
              go_simp; exact hK _ _ (gb_refl _ _) rfl
            -- 16: law.go:27 move
            apply told_is
            · intro W f hW hE h0 K hK
              have e69 : f 69 = _ := hE 0 69 _ rfl (by kernel_rfl)
              clear hE h0
              refine yes_of (want_free rfl) ?_
              go_simp; exact hK _ _ (gb_refl _ _) rfl
            -- 17: law.go:27 move
            apply told_is
            · intro W f hW hE h0 K hK
              have e0 := h0 0 (by kernel_rfl)
              conv at e0 => rhs; whnf
              have e70 : f 70 = _ := hE 0 70 _ rfl (by kernel_rfl)
              clear hE h0
              refine yes_of (want_yes rfl rfl e70) ?_
              go_simp; exact hK _ _ (gb_refl _ _) rfl
            -- 18: law.go:27 move
            apply told_is
            · intro W f hW hE h0 K hK
              have e1 := h0 1 (by kernel_rfl)
              conv at e1 => rhs; whnf
              have e70 : f 70 = _ := hE 1 70 _ rfl (by kernel_rfl)
              clear hE h0
              refine yes_of (want_yes rfl rfl e70) ?_
              go_simp; exact hK _ _ (gb_refl _ _) rfl
            -- 19: law.go:27 call
            apply told_at runsS_stays
            · intro W f hW hE h0 K hK
              have e71 : f 71 = _ := hE 1 71 _ rfl (by kernel_rfl)
              have e72 : f 72 = _ := hE 0 72 _ rfl (by kernel_rfl)
              have e70 : f 70 = _ := hE 2 70 _ rfl (by kernel_rfl)
              clear hE h0
              refine yes_of (want_yes rfl rfl e70) ?_
              go_simp
              refine (pMinus_any a0 a1 len0 cap0 len1 cap1 l0 l1 _ (w0.keep hW) (w1.keep hW) Ma.out Mb.out (by omega) (by omega) c1).mono ?_
              rintro e w1' hR; rw [Hm.out] at hR; obtain ⟨A1, c1, rfl, r1, h1, g⟩ := hR.n HLm.out
              exact ⟨_, rfl, hK _ _ g ⟨A1, c1, rfl, r1, h1⟩⟩
            -- 20: law.go:27 move
            apply told_is
            · intro W f hW hE h0 K hK
              have e0 := h0 0 (by kernel_rfl)
              conv at e0 => rhs; whnf
              have e70 : f 70 = _ := hE 3 70 _ rfl (by kernel_rfl)
              clear hE h0
              refine yes_of (want_yes rfl rfl e70) ?_
              go_simp; exact hK _ _ (gb_refl _ _) rfl
            -- 21: law.go:27 move
            apply told_is
            · intro W f hW hE h0 K hK
              have e1 := h0 1 (by kernel_rfl)
              conv at e1 => rhs; whnf
              have e70 : f 70 = _ := hE 4 70 _ rfl (by kernel_rfl)
              clear hE h0
              refine yes_of (want_yes rfl rfl e70) ?_
              go_simp; exact hK _ _ (gb_refl _ _) rfl
            -- 22: law.go:27 call
            apply told_at runsS_stays
            · intro W f hW hE h0 K hK
              have e74 : f 74 = _ := hE 1 74 _ rfl (by kernel_rfl)
              have e75 : f 75 = _ := hE 0 75 _ rfl (by kernel_rfl)
              have e70 : f 70 = _ := hE 5 70 _ rfl (by kernel_rfl)
              clear hE h0
              refine yes_of (want_yes rfl rfl e70) ?_
              go_simp
              refine (refMinus_any a0 a1 len0 cap0 len1 cap1 l0 l1 _ (w0.keep hW) (w1.keep hW) Ma.out Mb.out (by omega) (by omega)).mono ?_
              rintro e w1' hR; rw [Hm.out] at hR; obtain ⟨A1, c1, rfl, r1, h1, g⟩ := hR.n HLm.out
              exact ⟨_, rfl, hK _ _ g ⟨A1, c1, rfl, r1, h1⟩⟩
            -- 23: law.go:27 call
            apply told_is
            · intro W f hW hE h0 K hK
              have e73 := hE 3 73 _ rfl (by kernel_rfl)
              have e76 := hE 0 76 _ rfl (by kernel_rfl)
              have e70 : f 70 = _ := hE 6 70 _ rfl (by kernel_rfl)
              clear hE h0
              refine yes_of (want_yes rfl rfl e70) ?_
              obtain ⟨A2, c2, e73, r2, h2⟩ := e73
              obtain ⟨A3, c3, e76, r3, h3⟩ := e76
              go_simp
              refine (same_yes _ _ Lm _ Lm _ m m _ r2 r3 rfl (by omega) (by omega)).mono ?_
              rintro e w1' ⟨rfl, g⟩
              exact ⟨_, rfl, hK _ _ g rfl⟩
            -- 24: law.go:27 pick
            apply told_is
            · intro W f hW hE h0 K hK
              have e70 : f 70 = _ := hE 7 70 _ rfl (by kernel_rfl)
              have e77 : f 77 = _ := hE 0 77 _ rfl (by kernel_rfl)
              clear hE h0
              refine yes_of (want_free rfl) ?_
              go_simp; exact hK _ _ (gb_refl _ _) rfl
            -- 25: law.go:27 move
            apply told_is
            · intro W f hW hE h0 K hK
              have e78 : f 78 = _ := hE 0 78 _ rfl (by kernel_rfl)
              clear hE h0
              refine yes_of (want_free rfl) ?_
              go_simp; exact hK _ _ (gb_refl _ _) rfl
            -- 26: law.go:27 move
            apply told_is
            · intro W f hW hE h0 K hK
              have e0 := h0 0 (by kernel_rfl)
              conv at e0 => rhs; whnf
              have e79 : f 79 = _ := hE 0 79 _ rfl (by kernel_rfl)
              clear hE h0
              refine yes_of (want_yes rfl rfl e79) ?_
              go_simp; exact hK _ _ (gb_refl _ _) rfl
            -- 27: law.go:27 move
            apply told_is
            · intro W f hW hE h0 K hK
              have e4 := h0 4 (by kernel_rfl)
              conv at e4 => rhs; whnf
              have e79 : f 79 = _ := hE 1 79 _ rfl (by kernel_rfl)
              clear hE h0
              refine yes_of (want_yes rfl rfl e79) ?_
              go_simp; exact hK _ _ (gb_refl _ _) rfl
            -- 28: law.go:27 call
            apply told_is
            · intro W f hW hE h0 K hK
              have e80 : f 80 = _ := hE 1 80 _ rfl (by kernel_rfl)
              have e81 : f 81 = _ := hE 0 81 _ rfl (by kernel_rfl)
              have e79 : f 79 = _ := hE 2 79 _ rfl (by kernel_rfl)
              clear hE h0
              refine yes_of (want_yes rfl rfl e79) ?_
              go_simp
              refine (pLast_any a0 len0 cap0 l0 a4 _ (w0.keep hW) Ma.out (by omega)).mono ?_
              rintro e w1' ⟨rfl, g⟩
              exact ⟨_, rfl, hK _ _ g rfl⟩
            -- 29: law.go:27 move
            apply told_is
            · intro W f hW hE h0 K hK
              have e0 := h0 0 (by kernel_rfl)
              conv at e0 => rhs; whnf
              have e79 : f 79 = _ := hE 3 79 _ rfl (by kernel_rfl)
              clear hE h0
              refine yes_of (want_yes rfl rfl e79) ?_
              go_simp; exact hK _ _ (gb_refl _ _) rfl
            -- 30: law.go:27 move
            apply told_is
            · intro W f hW hE h0 K hK
              have e4 := h0 4 (by kernel_rfl)
              conv at e4 => rhs; whnf
              have e79 : f 79 = _ := hE 4 79 _ rfl (by kernel_rfl)
              clear hE h0
              refine yes_of (want_yes rfl rfl e79) ?_
              go_simp; exact hK _ _ (gb_refl _ _) rfl
            -- 31: law.go:27 call
            apply told_is
            · intro W f hW hE h0 K hK
              have e83 : f 83 = _ := hE 1 83 _ rfl (by kernel_rfl)
              have e84 : f 84 = _ := hE 0 84 _ rfl (by kernel_rfl)
              have e79 : f 79 = _ := hE 5 79 _ rfl (by kernel_rfl)
              clear hE h0
              refine yes_of (want_yes rfl rfl e79) ?_
              go_simp
              refine (refLast_any a0 len0 cap0 l0 a4 _ (w0.keep hW) (by omega)).mono ?_
              rintro e w1' ⟨rfl, g⟩
              exact ⟨_, rfl, hK _ _ g rfl⟩
            -- 32: law.go:27 binOp
            apply told_is
            · intro W f hW hE h0 K hK
              have e82 : f 82 = _ := hE 3 82 _ rfl (by kernel_rfl)
              have e85 : f 85 = _ := hE 0 85 _ rfl (by kernel_rfl)
              have e79 : f 79 = _ := hE 6 79 _ rfl (by kernel_rfl)
              clear hE h0
              refine yes_of (want_yes rfl rfl e79) ?_
              go_simp; exact hK _ _ (gb_refl _ _) rfl
            -- 33: law.go:27 pick
            apply told_is
            · intro W f hW hE h0 K hK
              have e79 : f 79 = _ := hE 7 79 _ rfl (by kernel_rfl)
              have e86 : f 86 = _ := hE 0 86 _ rfl (by kernel_rfl)
              clear hE h0
              refine yes_of (want_free rfl) ?_
              go_simp; exact hK _ _ (gb_refl _ _) rfl
            -- 34: law.go:27 move
            apply told_is
            · intro W f hW hE h0 K hK
              have e87 : f 87 = _ := hE 0 87 _ rfl (by kernel_rfl)
              clear hE h0
              refine yes_of (want_free rfl) ?_
              go_simp; exact hK _ _ (gb_refl _ _) rfl
            -- 35: law.go:27 move
            apply told_is
            · intro W f hW hE h0 K hK
              have e0 := h0 0 (by kernel_rfl)
              conv at e0 => rhs; whnf
              have e88 : f 88 = _ := hE 0 88 _ rfl (by kernel_rfl)
              clear hE h0
              refine yes_of (want_yes rfl rfl e88) ?_
              go_simp; exact hK _ _ (gb_refl _ _) rfl
            -- 36: law.go:27 move
            apply told_is
            · intro W f hW hE h0 K hK
              have e1 := h0 1 (by kernel_rfl)
              conv at e1 => rhs; whnf
              have e88 : f 88 = _ := hE 1 88 _ rfl (by kernel_rfl)
              clear hE h0
              refine yes_of (want_yes rfl rfl e88) ?_
              go_simp; exact hK _ _ (gb_refl _ _) rfl
            -- 37: law.go:27 call
            apply told_is
            · intro W f hW hE h0 K hK
              have e89 : f 89 = _ := hE 1 89 _ rfl (by kernel_rfl)
              have e90 : f 90 = _ := hE 0 90 _ rfl (by kernel_rfl)
              have e88 : f 88 = _ := hE 2 88 _ rfl (by kernel_rfl)
              clear hE h0
              refine yes_of (want_yes rfl rfl e88) ?_
              go_simp
              refine (pLe_any a0 a1 len0 cap0 len1 cap1 l0 l1 _ (w0.keep hW) (w1.keep hW) Ma.out Mb.out (by omega) (by omega)).mono ?_
              rintro e w1' ⟨he, g⟩; rw [E8.out] at he; subst he
              exact ⟨_, rfl, hK _ _ g rfl⟩
            -- 38: law.go:27 move
            apply told_is
            · intro W f hW hE h0 K hK
              have e0 := h0 0 (by kernel_rfl)
              conv at e0 => rhs; whnf
              have e88 : f 88 = _ := hE 3 88 _ rfl (by kernel_rfl)
              clear hE h0
              refine yes_of (want_yes rfl rfl e88) ?_
              go_simp; exact hK _ _ (gb_refl _ _) rfl
            -- 39: law.go:27 move
            apply told_is
            · intro W f hW hE h0 K hK
              have e1 := h0 1 (by kernel_rfl)
              conv at e1 => rhs; whnf
              have e88 : f 88 = _ := hE 4 88 _ rfl (by kernel_rfl)
              clear hE h0
              refine yes_of (want_yes rfl rfl e88) ?_
              go_simp; exact hK _ _ (gb_refl _ _) rfl
            -- 40: law.go:27 call
            apply told_at runsS_stays
            · intro W f hW hE h0 K hK
              have e92 : f 92 = _ := hE 1 92 _ rfl (by kernel_rfl)
              have e93 : f 93 = _ := hE 0 93 _ rfl (by kernel_rfl)
              have e88 : f 88 = _ := hE 5 88 _ rfl (by kernel_rfl)
              clear hE h0
              refine yes_of (want_yes rfl rfl e88) ?_
              go_simp
              refine (refMinus_any a0 a1 len0 cap0 len1 cap1 l0 l1 _ (w0.keep hW) (w1.keep hW) Ma.out Mb.out (by omega) (by omega)).mono ?_
              rintro e w1' hR; rw [Hm.out] at hR; obtain ⟨A1, c1, rfl, r1, h1, g⟩ := hR.n HLm.out
              exact ⟨_, rfl, hK _ _ g ⟨A1, c1, rfl, r1, h1⟩⟩
            -- 41: law.go:27 call
            apply told_is
            · intro W f hW hE h0 K hK
              have e94 := hE 0 94 _ rfl (by kernel_rfl)
              have e88 : f 88 = _ := hE 6 88 _ rfl (by kernel_rfl)
              clear hE h0
              refine yes_of (want_yes rfl rfl e88) ?_
              obtain ⟨A2, c2, e94, r2, h2⟩ := e94
              go_simp; exact hK _ _ (gb_refl _ _) rfl
            -- 42: law.go:27 binOp
            apply told_is
            · intro W f hW hE h0 K hK
              have e95 : f 95 = _ := hE 0 95 _ rfl (by kernel_rfl)
              have e88 : f 88 = _ := hE 7 88 _ rfl (by kernel_rfl)
              clear hE h0
              refine yes_of (want_yes rfl rfl e88) ?_
              have e8 := He8.out
              go_simp; exact hK _ _ (gb_refl _ _) rfl
            -- 43: law.go:27 binOp
            apply told_is
            · intro W f hW hE h0 K hK
              have e91 : f 91 = _ := hE 5 91 _ rfl (by kernel_rfl)
              have e96 : f 96 = _ := hE 0 96 _ rfl (by kernel_rfl)
              have e88 : f 88 = _ := hE 8 88 _ rfl (by kernel_rfl)
              clear hE h0
              refine yes_of (want_yes rfl rfl e88) ?_
              cases bv
              all_goals (go_simp; exact hK _ _ (gb_refl _ _) rfl)
            -- 44: law.go:27 pick
            apply told_is
            · intro W f hW hE h0 K hK
              have e88 : f 88 = _ := hE 9 88 _ rfl (by kernel_rfl)
              have e97 : f 97 = _ := hE 0 97 _ rfl (by kernel_rfl)
              clear hE h0
              refine yes_of (want_free rfl) ?_
              go_simp; exact hK _ _ (gb_refl _ _) rfl
            -- 45: law.go:27 move
            apply told_is
            · intro W f hW hE h0 K hK
              have e98 : f 98 = _ := hE 0 98 _ rfl (by kernel_rfl)
              clear hE h0
              refine yes_of (want_free rfl) ?_
              go_simp; exact hK _ _ (gb_refl _ _) rfl
            -- 46: law.go:27 call
            apply told_is
            · intro W f hW hE h0 K hK
              have e99 : f 99 = _ := hE 0 99 _ rfl (by kernel_rfl)
              clear hE h0
              refine yes_of (want_yes rfl rfl e99) ?_
              go_simp
              refine (awake_any _).mono ?_
              rintro e w1' ⟨rfl, g⟩
              exact ⟨_, rfl, hK _ _ g rfl⟩
            -- 47: law.go:27 pick
            apply told_is
            · intro W f hW hE h0 K hK
              have e99 : f 99 = _ := hE 1 99 _ rfl (by kernel_rfl)
              have e100 : f 100 = _ := hE 0 100 _ rfl (by kernel_rfl)
              clear hE h0
              refine yes_of (want_free rfl) ?_
              go_simp; exact hK _ _ (gb_refl _ _) rfl
            -- 48: law.go:27 assign
            apply told_is
            · intro W f hW hE h0 K hK
              have e101 : f 101 = _ := hE 0 101 _ rfl (by kernel_rfl)
              clear hE h0
              refine yes_of (want_free rfl) ?_
              go_simp; exact hK _ _ (gb_refl _ _) rfl
            intro W f hW hA
            simp only [lexIn, Act.put, List.setIfInBounds_toArray, List.set_cons_zero, List.set_cons_succ]
            have e10 : f 10 = _ := hA 0 (some 10) _ rfl
            rw [e10]
            clear hA
            go_wp2_with fail
            go_ret
            exact ⟨rfl, gb_below (gb_none G hW) (Nat.le_refl _)⟩

set_option maxRecDepth 100000 in
theorem lifted (os : Os) (started : os.Started) (H : Type) (enc : TypeId × Value → H) :
    ReturnsInHanded {} Try.checked os 3 .any (Rows.dotsAllSpec.pre6 enc Try.prog Try.f3 Rows.dotsAllRow.domain false) (Rows.dotsAllSpec.post enc Try.prog Try.f3 false true false false) := by
  refine returnsInHanded_of_change (C := Try.checked) own started (by kernel_rfl) Try.func3
    (ChangeSpec.witness6 (enc := enc) (C := Try.checked) false ⟨#[], #[.slice none 0 0, .slice none 0 0, .slice none 0 0, .agg #[.int .i64 0, .int .i64 0], .int .i64 0], []⟩ 8 (by kernel_rfl) (by kernel_rfl) (by kernel_rfl) (by kernel_rfl)) ?_
  intro W base args ds gs before hval0 hW hcnd _
  have hval : ∀ (j : Nat) t v, Try.f3.params[j]? = some t → args[j]? = some v → Value.okWide Try.prog W .any base t v := hval0
  have hW' := hW
  obtain ⟨p, q, hA0, hV, rfl, hfz, hnd⟩ := hW
  have hA : DataW.TrodAll enc Try.prog W 0 (fun _ => true) true Try.f3.params.toList args.toList ds p := hA0
  rw [Try.params3] at hA hval
  obtain ⟨v0, vs0, d0, ds0, p0, q0, hargs, rfl, rfl, h0, r0⟩ := trodAll_cons hA
  obtain ⟨v1, vs1, d1, ds1, p1, q1, rfl, rfl, rfl, h1, r1⟩ := trodAll_cons r0
  obtain ⟨v2, vs2, d2, ds2, p2, q2, rfl, rfl, rfl, h2, r2⟩ := trodAll_cons r1
  obtain ⟨v3, vs3, d3, ds3, p3, q3, rfl, rfl, rfl, h3, r3⟩ := trodAll_cons r2
  obtain ⟨v4, vs4, d4, ds4, p4, q4, rfl, rfl, rfl, h4, r4⟩ := trodAll_cons r3
  obtain ⟨rfl, rfl, rfl⟩ := trodAll_nil r4
  obtain rfl : args = #[v0, v1, v2, v3, v4] := by cases args; simp_all
  obtain ⟨rfl, rfl⟩ := trodVars_none hV
  have k0 := h0
  have lt0 : ∀ x ∈ p0, x.block < W.heap.size := by obtain ⟨m, hm⟩ := k0; exact DataW.trod_lt m _ _ _ hm
  obtain ⟨a0, len0, cap0, l0, rfl, w0, c0⟩ := open_runs (hval 0 22 v0 rfl rfl) h0
  have k1 := h1
  have lt1 : ∀ x ∈ p1, x.block < W.heap.size := by obtain ⟨m, hm⟩ := k1; exact DataW.trod_lt m _ _ _ hm
  obtain ⟨a1, len1, cap1, l1, rfl, w1, c1⟩ := open_runs (hval 1 22 v1 rfl rfl) h1
  have k2 := h2
  have lt2 : ∀ x ∈ p2, x.block < W.heap.size := by obtain ⟨m, hm⟩ := k2; exact DataW.trod_lt m _ _ _ hm
  obtain ⟨a2, len2, cap2, l2, rfl, w2, c2⟩ := open_dots (hval 2 23 v2 rfl rfl) h2
  have k3 := h3
  have lt3 : ∀ x ∈ p3, x.block < W.heap.size := by obtain ⟨m, hm⟩ := k3; exact DataW.trod_lt m _ _ _ hm
  obtain ⟨x3, y3, rfl⟩ := open_dot (hval 3 25 v3 rfl rfl) h3
  obtain ⟨a4, rfl, rfl, rfl, w4⟩ := open_int Try.underlying3 (hval 4 3 v4 rfl rfl) h4
  clear hA0 hval0
  refine (walk a0 len0 cap0 l0 a1 len1 cap1 l1 a2 len2 cap2 l2 x3 y3 a4 W w0 c0 w1 c1 w2 c2 w4).mono fun e W' ⟨he, bel⟩ => ?_
  subst he
  exact ⟨_, rfl, _, _, _, [], _, [], hW', trodAll_mk1 (shut_bool Try.underlying4 _), (trodAll_cons_mk (Below.trod laidOut (by kernel_rfl) (of_decide_eq_true (by kernel_rfl)) k0 bel lt0) (trodAll_cons_mk (Below.trod laidOut (by kernel_rfl) (of_decide_eq_true (by kernel_rfl)) k1 bel lt1) (trodAll_cons_mk (Below.trod laidOut (by kernel_rfl) (of_decide_eq_true (by kernel_rfl)) k2 bel lt2) (trodAll_cons_mk (Below.trod laidOut (by kernel_rfl) (of_decide_eq_true (by kernel_rfl)) k3 bel lt3) (trodAll_cons_mk (shut_int Try.underlying3 w4) trodAll_mk0))))), rfl, bel.frame _, fun h => by cases h⟩

theorem over : Rows.dotsAllRow.holds Try.pinned (OpenSpec.ofChange Rows.dotsAllSpec) :=
  OpenClaim.holds_of_wide 3 Try.f3 rfl rfl rfl rfl rfl rfl rfl ⟨rfl, rfl, rfl, rfl, rfl⟩ rfl rfl rfl rfl rfl (by kernel_rfl) Try.func3 (by kernel_rfl)
    (of_decide_eq_true (by kernel_rfl)) (by unfold Func.isWrapper; first | (rw [if_pos (by decide +kernel)]; kernel_rfl) | (rw [if_neg (by decide +kernel)]; exact ⟨rfl, rfl⟩))
    (fun os started H enc _ => lifted os started H enc)

theorem proved : Rows.DotsAllSaid := over
#print axioms proved
end Go.Proofs.Ytkibojoochlggaa.dotsAll
