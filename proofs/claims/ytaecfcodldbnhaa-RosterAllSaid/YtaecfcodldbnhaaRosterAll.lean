/-
  Proved: whatever values of its parameters' types it is called with, deaddroplaw16.RosterAll returns true, and each argument reads behind the call as it read before.
  Conditions: none but those of the row itself.
-/
import Derived.Test.YtaecfcodldbnhaaRows
import Derived.WalkKit
import Derived.ProofKit
import Derived.OpenShut
import Derived.ShutString
import Derived.Test.YtaecfcodldbnhaaRoLaw
import Derived.Test.YtaecfcodldbnhaaMbOpen
import Derived.ChangeOld
import Derived.Below
namespace Go.Proofs.Ytaecfcodldbnhaa.rosterAll
open Go.ChangeShapes Go.WideShapes Go.ChangeAt Go.RowKit
open Go.ChangeMaps (open_string shut_string)
open Go.Proofs.Ytaecfcodldbnhaa.Mm Go.Proofs.Ytaecfcodldbnhaa.Dt Go.Proofs.Ytaecfcodldbnhaa.Td Go.Proofs.Ytaecfcodldbnhaa.Vw Go.Proofs.Ytaecfcodldbnhaa.Mb Go.Proofs.Ytaecfcodldbnhaa.Ro
set_option linter.unusedVariables false

theorem own : ownKnob Try.prog.godebug = none := by kernel_rfl
theorem laidOut : laidOutB Try.prog = true := by kernel_rfl

attribute [local go_sem] Td.upon_value Td.upon_skip Td.upon_enter Td.upon_row Td.look_tmp Td.look_const Td.look_func Td.look_global

set_option maxHeartbeats 40000000 in
set_option maxRecDepth 100000 in
theorem walk (a0 : Option Addr) (len0 cap0 : Nat) (l0 : List Rc) (a1 : Int) (a2 : Int) (w : World) (w0 : LogL w a0 len0 l0) (c0 : len0 ≤ cap0) (w1 : (Lit.int .i64 a1).wf = true) (w2 : (Lit.int .i64 a2).wf = true) :
    Calls Try.prog 3 #[.slice a0 len0 cap0, .int .i64 a1, .int .i64 a2] w fun e w' => e = .returned (.bool true) ∧ Below w.heap.size w w' := by
  have HL : Hid (∀ W, w.grownBy W none → LogL W a0 len0 l0) := fun W hW => w0.keep hW
  obtain ⟨M, hM⟩ : ∃ M, memsB l0 a1 = M := ⟨_, rfl⟩
  have hm := mems_len l0 a1
  rw [hM] at hm
  have HMl := Lib.hid hm
  by_cases h60 : len0 ≤ 60
  · have d1 : decide (60 < len0) = false := decide_eq_false (by omega)
    have d2 : decide ((60 : Int) < (len0 : Int)) = false := decide_eq_false (by omega)
    have hn : len0 ≤ 1099511627776 := by omega
    have HP : Hid (∀ W, w.grownBy W none → Calls Try.prog 7 #[.slice a0 len0 cap0, .int .i64 a1] W (IntsIs M W)) := fun W hW => by rw [← hM]; exact pMembers_any a0 len0 cap0 l0 a1 W (HL.out W hW) hn
    have HR : Hid (∀ W, w.grownBy W none → Calls Try.prog 8 #[.slice a0 len0 cap0, .int .i64 a1] W (IntsIs M W)) := fun W hW => by rw [← hM]; exact refMembers_any a0 len0 cap0 l0 a1 W (HL.out W hW) hn
    obtain ⟨q, hq⟩ : ∃ q, inB l0 a1 a2 = q := ⟨_, rfl⟩
    have HI : Hid (∀ W, w.grownBy W none → Calls Try.prog 9 #[.slice a0 len0 cap0, .int .i64 a1, .int .i64 a2] W fun x w' => x = .returned (.bool q) ∧ W.grownBy w' none) := fun W hW => by rw [← hq]; exact pIn_any a0 len0 cap0 l0 a1 a2 W (HL.out W hW) hn
    have HJ : Hid (∀ W, w.grownBy W none → Calls Try.prog 10 #[.slice a0 len0 cap0, .int .i64 a1, .int .i64 a2] W fun x w' => x = .returned (.bool q) ∧ W = w') := fun W hW => by rw [← hq]; exact refIn_any a0 len0 cap0 l0 a1 a2 W (HL.out W hW) hn
    clear w0 c0 w1 w2 h60 hn hM hm hq
    go_enter Try.func3, Try.ntmps3
    go_upto_region 1 with fail
    go_wp2_with fail
    refine (HP.out w (gb_refl _ _)).mono ?_
    rintro e v1 ⟨A1, c1, rfl, h1, g1⟩
    have H1 := Lib.hid h1
    have G1 := Lib.hid g1
    clear h1 g1
    go_wp2_with fail
    refine (HR.out v1 G1.out).mono ?_
    rintro e v2 ⟨A2, c2, rfl, h2, g2⟩
    have H2 := Lib.hid h2
    have G12 := Lib.hid g2
    have G2 := Lib.hid (gb_none G1.out g2)
    clear h2 g2
    go_wp2_with fail
    refine (ints_same A1 A2 c1 c2 M v2 (H1.out.keep G12.out) H2.out HMl.out).mono ?_
    rintro e v3 ⟨rfl, g3⟩
    have G3 := Lib.hid (gb_none G2.out g3)
    clear g3
    go_wp2_with fail
    refine (HI.out v3 G3.out).mono ?_
    rintro e v4 ⟨rfl, g4⟩
    have G4 := Lib.hid (gb_none G3.out g4)
    clear g4
    go_wp2_with fail
    refine (HJ.out v4 G4.out).mono ?_
    rintro e _ ⟨rfl, rfl⟩
    cases q with
    | true =>
      go_wp2_with fail
      refine (awake16_any v4).mono ?_
      rintro e v5 ⟨rfl, g5⟩
      have G5 := Lib.hid (gb_none G4.out g5)
      clear g5
      go_wp2_with fail
      go_ret
      exact ⟨rfl, gb_below G5.out (Nat.le_refl _)⟩
    | false =>
      go_wp2_with fail
      refine (awake16_any v4).mono ?_
      rintro e v5 ⟨rfl, g5⟩
      have G5 := Lib.hid (gb_none G4.out g5)
      clear g5
      go_wp2_with fail
      go_ret
      exact ⟨rfl, gb_below G5.out (Nat.le_refl _)⟩
  · have d1 : decide (60 < len0) = true := decide_eq_true (by omega)
    have d2 : decide ((60 : Int) < (len0 : Int)) = true := decide_eq_true (by omega)
    clear w0 c0 w1 w2 h60 hM hm HL
    go_enter Try.func3, Try.ntmps3
    go_wp2_with fail
    go_ret
    exact ⟨rfl, gb_below (gb_refl _ _) (Nat.le_refl _)⟩

set_option maxRecDepth 100000 in
theorem lifted (os : Os) (started : os.Started) (H : Type) (enc : TypeId × Value → H) :
    ReturnsInHanded {} Try.checked os 3 .any (Rows.rosterAllSpec.pre6 enc Try.prog Try.f3 Rows.rosterAllRow.domain false) (Rows.rosterAllSpec.post enc Try.prog Try.f3 false true false false) := by
  refine returnsInHanded_of_change (C := Try.checked) own started (by kernel_rfl) Try.func3
    (ChangeSpec.witness6 (enc := enc) (C := Try.checked) false ⟨#[], #[.slice none 0 0, .int .i64 0, .int .i64 0], []⟩ 8 (by kernel_rfl) (by kernel_rfl) (by kernel_rfl) (by kernel_rfl)) ?_
  intro W base args ds gs before hval0 hW hcnd _
  have hval : ∀ (j : Nat) t v, Try.f3.params[j]? = some t → args[j]? = some v → Value.okWide Try.prog W .any base t v := hval0
  have hW' := hW
  obtain ⟨p, q, hA0, hV, rfl, hfz, hnd⟩ := hW
  have hA : DataW.TrodAll enc Try.prog W 0 (fun _ => true) true Try.f3.params.toList args.toList ds p := hA0
  rw [Try.params3] at hA hval
  obtain ⟨v0, vs0, d0, ds0, p0, q0, hargs, rfl, rfl, h0, r0⟩ := trodAll_cons hA
  obtain ⟨v1, vs1, d1, ds1, p1, q1, rfl, rfl, rfl, h1, r1⟩ := trodAll_cons r0
  obtain ⟨v2, vs2, d2, ds2, p2, q2, rfl, rfl, rfl, h2, r2⟩ := trodAll_cons r1
  obtain ⟨rfl, rfl, rfl⟩ := trodAll_nil r2
  obtain rfl : args = #[v0, v1, v2] := by cases args; simp_all
  obtain ⟨rfl, rfl⟩ := trodVars_none hV
  have k0 := h0
  have lt0 : ∀ x ∈ p0, x.block < W.heap.size := by obtain ⟨m, hm⟩ := k0; exact DataW.trod_lt m _ _ _ hm
  obtain ⟨a0, len0, cap0, l0, rfl, w0, c0⟩ := open_log (hval 0 22 v0 rfl rfl) h0
  obtain ⟨a1, rfl, rfl, rfl, w1⟩ := open_int Try.underlying3 (hval 1 3 v1 rfl rfl) h1
  obtain ⟨a2, rfl, rfl, rfl, w2⟩ := open_int Try.underlying3 (hval 2 3 v2 rfl rfl) h2
  clear hA0 hval0
  refine (walk a0 len0 cap0 l0 a1 a2 W w0 c0 w1 w2).mono fun e W' ⟨he, bel⟩ => ?_
  subst he
  exact ⟨_, rfl, _, _, _, [], _, [], hW', trodAll_mk1 (shut_bool Try.underlying4 _), (trodAll_cons_mk (Below.trod laidOut (by kernel_rfl) (of_decide_eq_true (by kernel_rfl)) k0 bel lt0) (trodAll_cons_mk (shut_int Try.underlying3 w1) (trodAll_cons_mk (shut_int Try.underlying3 w2) trodAll_mk0))), rfl, bel.frame _, fun h => by cases h⟩

theorem over : Rows.rosterAllRow.holds Try.pinned (OpenSpec.ofChange Rows.rosterAllSpec) :=
  OpenClaim.holds_of_wide 3 Try.f3 rfl rfl rfl rfl rfl rfl rfl ⟨rfl, rfl, rfl, rfl, rfl⟩ rfl rfl rfl rfl rfl (by kernel_rfl) Try.func3 (by kernel_rfl)
    (of_decide_eq_true (by kernel_rfl)) (by unfold Func.isWrapper; first | (rw [if_pos (by decide +kernel)]; kernel_rfl) | (rw [if_neg (by decide +kernel)]; exact ⟨rfl, rfl⟩))
    (fun os started H enc _ => lifted os started H enc)

theorem proved : Rows.RosterAllSaid := over
#print axioms proved
end Go.Proofs.Ytaecfcodldbnhaa.rosterAll
