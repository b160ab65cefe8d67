/-
  Proved: whatever values of its parameters' types it is called with, deaddroplaw5.PadSteps returns true, and each argument reads behind the call as it read before.
  Conditions: none but those of the row itself.
  (The frame round the walk was written by the kit's proof-skeleton.mjs.)
-/
import Derived.Test.YtlpanplebagmbaaRows
import Derived.WalkKit
import Derived.ProofKit
import Derived.OpenShut
import Derived.ShutString
import Derived.Test.YtlpanplebagmbaaPBucket
import Derived.IntWalk
import Derived.Below
namespace Go.Proofs.Ytlpanplebagmbaa.padSteps
open Go.ChangeShapes Go.WideShapes Go.ChangeAt Go.RowKit
open Go.ChangeMaps (open_string shut_string)
open Go.Proofs.Ytlpanplebagmbaa.Wd Go.Proofs.Ytlpanplebagmbaa.Mm
set_option linter.unusedVariables false      -- a walk need not use every 'w<i>' (that an integer argument fits its kind)

theorem own : ownKnob Try.prog.godebug = none := by kernel_rfl

theorem below_of {w w' : World} (h : w.grownBy w' none) : Below w.heap.size w w' := gb_below h (Nat.le_refl _)
theorem u16_of {a : Int} (h : (Lit.int .u16 a).wf = true) : 0 ≤ a ∧ a ≤ 65535 := by
  have h1 : IntKind.u16.min = 0 := by decide
  have h2 : IntKind.u16.max = 65535 := by decide
  simp only [Lit.wf, h1, h2, Bool.and_eq_true, decide_eq_true_eq] at h
  exact h
theorem rest {a : Int} (h : 0 ≤ a ∧ a ≤ 65535) : ∃ p : Int, (wrap64 a).tmod 17000 = p ∧ 0 ≤ p ∧ p < 17000 := by
  refine ⟨a % 17000, ?_, by omega, by omega⟩
  have e : wrap64 a = a := by unfold wrap64; omega
  rw [e, Int.tmod_eq_emod_of_nonneg h.1]
/-- Of two lengths, the shorter ahead. -/
theorem steps (m M : Int) (h0 : 0 ≤ m) (h : m ≤ M) :
    (bk m = 0 ∧ bk M = 0 ∧ 16384 ≤ m) ∨ (0 < bk m ∧ bk M = 0 ∧ m < 16384 ∧ m < bk m) ∨ (0 < bk m ∧ 0 < bk M ∧ bk m ≤ bk M ∧ m < 16384 ∧ m < bk m) := by
  have a := bk_zero m
  have b := bk_zero M
  by_cases hm : bk m = 0
  · exact .inl ⟨hm, b.2 (by omega), by omega⟩
  · have c := bk_above m hm
    by_cases hM : bk M = 0
    · exact .inr (.inl ⟨by omega, hM, by omega, by omega⟩)
    · refine .inr (.inr ⟨by omega, by omega, ?_, by omega, by omega⟩)
      unfold bk
      split <;> (try split) <;> (try split) <;> (try split) <;> (try split) <;> (try split) <;> (try split) <;> (try split) <;> (try split) <;> (try split) <;> (try split) <;> (try split) <;> omega

set_option maxHeartbeats 40000000 in
set_option maxRecDepth 100000 in
theorem walk (a0 : Int) (a1 : Int) (w0 : (Lit.int .u16 a0).wf = true) (w1 : (Lit.int .u16 a1).wf = true) (w : World) :
    Calls Try.prog 4 #[.int .u16 a0, .int .u16 a1] w fun e w' => e = .returned (.bool true) ∧ Below w.heap.size w w' := by
  have h0 := u16_of w0
  have h1 := u16_of w1
  obtain ⟨p, hp, p0, p1⟩ := rest h0
  obtain ⟨q, hq, q0, q1⟩ := rest h1
  have Bp := Lib.hid (fun W => bucket_any p W (by omega) (by omega))
  have Bq := Lib.hid (fun W => bucket_any q W (by omega) (by omega))
  clear w0 w1 h0 h1
  by_cases hlt : q < p
  · have hs := steps q p (by omega) (by omega)
    obtain ⟨X, HX⟩ : ∃ X, Hid (bk q = X) := ⟨_, rfl⟩
    obtain ⟨Y, HY⟩ : ∃ Y, Hid (bk p = Y) := ⟨_, rfl⟩
    rw [HX.out, HY.out] at hs
    rcases hs with ⟨e1, e2, e3⟩ | ⟨e1, e2, e3, e4⟩ | ⟨e1, e2, e3, e4, e5⟩
    · have t1 : decide (16384 ≤ q) = true := decide_eq_true e3
      subst e1 e2
      clear e3 p0 p1 q0 q1
      go_enter Try.func4, Try.ntmps4
      go_wp2_with fail
      refine (Bq.out _).mono ?_
      rintro e w1 ⟨rfl, rfl⟩
      rw [HX.out]
      go_wp2_with fail
      refine (Bp.out _).mono ?_
      rintro e w1 ⟨rfl, rfl⟩
      rw [HY.out]
      go_wp2_with fail
      refine (awake_any _).mono ?_
      rintro e w1 ⟨rfl, rfl⟩
      go_wp2_with fail
      go_ret
      exact ⟨rfl, Below.refl _ _⟩
    · have t1 : decide (16384 ≤ q) = false := decide_eq_false (by omega)
      have t2 : ((X : Int) == 0) = false := by simp; omega
      have t3 : decide (q < (X : Int)) = true := decide_eq_true e4
      have t4 : decide (0 < X) = true := decide_eq_true (by omega)
      subst e2
      clear e3 e4 p0 p1 q0 q1
      go_enter Try.func4, Try.ntmps4
      go_wp2_with fail
      refine (Bq.out _).mono ?_
      rintro e w1 ⟨rfl, rfl⟩
      rw [HX.out]
      go_wp2_with fail
      refine (Bp.out _).mono ?_
      rintro e w1 ⟨rfl, rfl⟩
      rw [HY.out]
      go_wp2_with fail
      refine (awake_any _).mono ?_
      rintro e w1 ⟨rfl, rfl⟩
      go_wp2_with fail
      go_ret
      exact ⟨rfl, Below.refl _ _⟩
    · have t1 : decide (16384 ≤ q) = false := decide_eq_false (by omega)
      have t2 : ((X : Int) == 0) = false := by simp; omega
      have t3 : decide (q < (X : Int)) = true := decide_eq_true e5
      have t4 : decide (0 < X) = true := decide_eq_true (by omega)
      have t5 : ((Y : Int) == 0) = false := by simp; omega
      have t6 : decide (X ≤ Y) = true := decide_eq_true (by omega)
      clear e2 e4 e5 p0 p1 q0 q1
      go_enter Try.func4, Try.ntmps4
      go_wp2_with fail
      refine (Bq.out _).mono ?_
      rintro e w1 ⟨rfl, rfl⟩
      rw [HX.out]
      go_wp2_with fail
      refine (Bp.out _).mono ?_
      rintro e w1 ⟨rfl, rfl⟩
      rw [HY.out]
      go_wp2_with fail
      refine (awake_any _).mono ?_
      rintro e w1 ⟨rfl, rfl⟩
      go_wp2_with fail
      go_ret
      exact ⟨rfl, Below.refl _ _⟩
  by_cases hgt : p < q
  · have hs := steps p q (by omega) (by omega)
    obtain ⟨X, HX⟩ : ∃ X, Hid (bk p = X) := ⟨_, rfl⟩
    obtain ⟨Y, HY⟩ : ∃ Y, Hid (bk q = Y) := ⟨_, rfl⟩
    rw [HX.out, HY.out] at hs
    rcases hs with ⟨e1, e2, e3⟩ | ⟨e1, e2, e3, e4⟩ | ⟨e1, e2, e3, e4, e5⟩
    · have t1 : decide (16384 ≤ p) = true := decide_eq_true e3
      subst e1 e2
      clear e3 p0 p1 q0 q1
      go_enter Try.func4, Try.ntmps4
      go_wp2_with fail
      refine (Bp.out _).mono ?_
      rintro e w1 ⟨rfl, rfl⟩
      rw [HX.out]
      go_wp2_with fail
      refine (Bq.out _).mono ?_
      rintro e w1 ⟨rfl, rfl⟩
      rw [HY.out]
      go_wp2_with fail
      refine (awake_any _).mono ?_
      rintro e w1 ⟨rfl, rfl⟩
      go_wp2_with fail
      go_ret
      exact ⟨rfl, Below.refl _ _⟩
    · have t1 : decide (16384 ≤ p) = false := decide_eq_false (by omega)
      have t2 : ((X : Int) == 0) = false := by simp; omega
      have t3 : decide (p < (X : Int)) = true := decide_eq_true e4
      have t4 : decide (0 < X) = true := decide_eq_true (by omega)
      subst e2
      clear e3 e4 p0 p1 q0 q1
      go_enter Try.func4, Try.ntmps4
      go_wp2_with fail
      refine (Bp.out _).mono ?_
      rintro e w1 ⟨rfl, rfl⟩
      rw [HX.out]
      go_wp2_with fail
      refine (Bq.out _).mono ?_
      rintro e w1 ⟨rfl, rfl⟩
      rw [HY.out]
      go_wp2_with fail
      refine (awake_any _).mono ?_
      rintro e w1 ⟨rfl, rfl⟩
      go_wp2_with fail
      go_ret
      exact ⟨rfl, Below.refl _ _⟩
    · have t1 : decide (16384 ≤ p) = false := decide_eq_false (by omega)
      have t2 : ((X : Int) == 0) = false := by simp; omega
      have t3 : decide (p < (X : Int)) = true := decide_eq_true e5
      have t4 : decide (0 < X) = true := decide_eq_true (by omega)
      have t5 : ((Y : Int) == 0) = false := by simp; omega
      have t6 : decide (X ≤ Y) = true := decide_eq_true (by omega)
      clear e2 e4 e5 p0 p1 q0 q1
      go_enter Try.func4, Try.ntmps4
      go_wp2_with fail
      refine (Bp.out _).mono ?_
      rintro e w1 ⟨rfl, rfl⟩
      rw [HX.out]
      go_wp2_with fail
      refine (Bq.out _).mono ?_
      rintro e w1 ⟨rfl, rfl⟩
      rw [HY.out]
      go_wp2_with fail
      refine (awake_any _).mono ?_
      rintro e w1 ⟨rfl, rfl⟩
      go_wp2_with fail
      go_ret
      exact ⟨rfl, Below.refl _ _⟩
  obtain rfl : p = q := by omega
  have hs := steps p p (by omega) (by omega)
  obtain ⟨X, HX⟩ : ∃ X, Hid (bk p = X) := ⟨_, rfl⟩
  rw [HX.out] at hs
  rcases hs with ⟨e1, e2, e3⟩ | ⟨e1, e2, e3, e4⟩ | ⟨e1, e2, e3, e4, e5⟩
  · have t1 : decide (16384 ≤ p) = true := decide_eq_true e3
    subst e1
    clear e2 e3 p0 p1 q0 q1
    go_enter Try.func4, Try.ntmps4
    go_wp2_with fail
    refine (Bp.out _).mono ?_
    rintro e w1 ⟨rfl, rfl⟩
    rw [HX.out]
    go_wp2_with fail
    refine (Bp.out _).mono ?_
    rintro e w1 ⟨rfl, rfl⟩
    rw [HX.out]
    go_wp2_with fail
    refine (awake_any _).mono ?_
    rintro e w1 ⟨rfl, rfl⟩
    go_wp2_with fail
    go_ret
    exact ⟨rfl, Below.refl _ _⟩
  · exact absurd e2 (by omega)
  · have t1 : decide (16384 ≤ p) = false := decide_eq_false (by omega)
    have t2 : ((X : Int) == 0) = false := by simp; omega
    have t3 : decide (p < (X : Int)) = true := decide_eq_true e5
    have t4 : decide (0 < X) = true := decide_eq_true (by omega)
    have t5 : ((X : Int) == 0) = false := by simp; omega
    have t6 : decide (X ≤ X) = true := decide_eq_true (by omega)
    clear e2 e4 e5 p0 p1 q0 q1
    go_enter Try.func4, Try.ntmps4
    go_wp2_with fail
    refine (Bp.out _).mono ?_
    rintro e w1 ⟨rfl, rfl⟩
    rw [HX.out]
    go_wp2_with fail
    refine (Bp.out _).mono ?_
    rintro e w1 ⟨rfl, rfl⟩
    rw [HX.out]
    go_wp2_with fail
    refine (awake_any _).mono ?_
    rintro e w1 ⟨rfl, rfl⟩
    go_wp2_with fail
    go_ret
    exact ⟨rfl, Below.refl _ _⟩

set_option maxRecDepth 100000 in
theorem lifted (os : Os) (started : os.Started) (H : Type) (enc : TypeId × Value → H) :
    ReturnsInHanded {} Try.checked os 4 .any (Rows.padStepsSpec.pre6 enc Try.prog Try.f4 Rows.padStepsRow.domain false) (Rows.padStepsSpec.post enc Try.prog Try.f4 false true false false) := by
  refine returnsInHanded_of_change (C := Try.checked) own started (by kernel_rfl) Try.func4
    (ChangeSpec.witness6 (enc := enc) (C := Try.checked) false ⟨#[], #[.int .u16 0, .int .u16 0], []⟩ 8 (by kernel_rfl) (by kernel_rfl) (by kernel_rfl) (by kernel_rfl)) ?_
  intro W base args ds gs before hval0 hW hcnd _
  have hval : ∀ (j : Nat) t v, Try.f4.params[j]? = some t → args[j]? = some v → Value.okWide Try.prog W .any base t v := hval0
  have hW' := hW
  obtain ⟨p, q, hA0, hV, rfl, hfz, hnd⟩ := hW
  have hA : DataW.TrodAll enc Try.prog W 0 (fun _ => true) true Try.f4.params.toList args.toList ds p := hA0
  rw [Try.params4] at hA hval
  obtain ⟨v0, vs0, d0, ds0, p0, q0, hargs, rfl, rfl, h0, r0⟩ := trodAll_cons hA
  obtain ⟨v1, vs1, d1, ds1, p1, q1, rfl, rfl, rfl, h1, r1⟩ := trodAll_cons r0
  obtain ⟨rfl, rfl, rfl⟩ := trodAll_nil r1
  obtain rfl : args = #[v0, v1] := by cases args; simp_all
  obtain ⟨rfl, rfl⟩ := trodVars_none hV
  obtain ⟨a0, rfl, rfl, rfl, w0⟩ := open_int Try.underlying29 (hval 0 29 v0 rfl rfl) h0
  obtain ⟨a1, rfl, rfl, rfl, w1⟩ := open_int Try.underlying29 (hval 1 29 v1 rfl rfl) h1
  clear hA0 hval0
  simp only [List.append_nil] at hW'
  refine (walk a0 a1 w0 w1 W).mono fun e W' ⟨he, hg⟩ => ?_
  subst he
  exact ⟨_, rfl, _, _, _, [], [], [], hW', (trodAll_cons_mk (shut_bool Try.underlying4 _) trodAll_mk0), (trodAll_cons_mk (shut_int Try.underlying29 w0) (trodAll_cons_mk (shut_int Try.underlying29 w1) trodAll_mk0)), rfl, hg.frame _, fun h => by cases h⟩

theorem over : Rows.padStepsRow.holds Try.pinned (OpenSpec.ofChange Rows.padStepsSpec) :=
  OpenClaim.holds_of_wide 4 Try.f4 rfl rfl rfl rfl rfl rfl rfl ⟨rfl, rfl, rfl, rfl, rfl⟩ rfl rfl rfl rfl rfl (by kernel_rfl) Try.func4 (by kernel_rfl)
    (of_decide_eq_true (by kernel_rfl)) (by unfold Func.isWrapper; first | (rw [if_pos (by decide +kernel)]; kernel_rfl) | (rw [if_neg (by decide +kernel)]; exact ⟨rfl, rfl⟩))
    (fun os started H enc _ => lifted os started H enc)

theorem proved : Rows.PadStepsSaid :=
  over
#print axioms proved
end Go.Proofs.Ytlpanplebagmbaa.padSteps
