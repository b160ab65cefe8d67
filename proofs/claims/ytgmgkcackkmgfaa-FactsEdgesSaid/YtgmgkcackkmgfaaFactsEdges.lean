/-
  Proved: whatever values of its parameters' types it is called with, deaddroplaw8.FactsEdges returns true, and each argument reads behind the call as it read before.
  Conditions: none but those of the row itself.
-/
import Derived.Test.YtgmgkcackkmgfaaRows
import Derived.WalkKit
import Derived.ProofKit
import Derived.OpenShut
import Derived.ShutString
import Derived.Test.YtgmgkcackkmgfaaFtLaw
import Derived.Test.YtgmgkcackkmgfaaTold
import Derived.Test.YtgmgkcackkmgfaaToldT
import Derived.Test.YtgmgkcackkmgfaaZero
import Derived.Deep.DeepCutAuto
import Derived.ChangeOld
import Derived.Below
namespace Go.Proofs.Ytgmgkcackkmgfaa.factsEdges
open Go.ChangeShapes Go.WideShapes Go.ChangeAt Go.RowKit
open Go.ChangeMaps (open_string shut_string)
open Go.Proofs.Ytgmgkcackkmgfaa.Mm Go.Proofs.Ytgmgkcackkmgfaa.Dt Go.Proofs.Ytgmgkcackkmgfaa.Td
set_option linter.unusedVariables false

theorem own : ownKnob Try.prog.godebug = none := by kernel_rfl
theorem laidOut : laidOutB Try.prog = true := by kernel_rfl

open Go.Proofs.Ytgmgkcackkmgfaa.Zr
attribute [local go_sem] Td.upon_value Td.upon_skip Td.upon_enter Td.upon_row Td.look_tmp Td.look_const Td.look_func Td.look_global
def zeroV (n : Nat) : Td.Spec := fun W v => ∃ g, v = .slice (some ⟨g, 0, none⟩) n n ∧ Row W g 5 (zc n)
theorem zeroV_stays {n : Nat} : Stays (fun a b => a.grownBy b none) (zeroV n) := fun _ _ _ h ⟨g, e, hr⟩ => ⟨g, e, hr.kept h (by simp)⟩
def newV (N : Nat) (t : TypeId) (cs : Array Value) : Td.Spec := fun W v => ∃ g, v = .pointer (some ⟨g, 0, none⟩) ∧ N ≤ g ∧ Row W g t cs
theorem newV_stays {N : Nat} {t : TypeId} {cs : Array Value} : Stays (fun a b => a.grownBy b none) (newV N t cs) := fun _ _ _ h ⟨g, e, hn, hr⟩ => ⟨g, e, hn, hr.kept h (by simp)⟩

set_option maxHeartbeats 40000000 in
set_option maxRecDepth 100000 in
theorem walk (a0 : Int) (a1 : Int) (a2 : Int) (a3 : Int) (w : World) (w0 : (Lit.int .u8 a0).wf = true) (w1 : (Lit.int .u16 a1).wf = true) (w2 : (Lit.int .u16 a2).wf = true) (w3 : (Lit.int .i64 a3).wf = true) :
    Calls Try.prog 5 #[.int .u8 a0, .int .u16 a1, .int .u16 a2, .int .i64 a3] w fun e w' => e = .returned (.bool true) ∧ Below w.heap.size w w' := by
  obtain ⟨x00, x01⟩ : 0 ≤ a0 ∧ a0 ≤ 255 := by
    have h1 : IntKind.u8.min = 0 := by decide
    have h2 : IntKind.u8.max = 255 := by decide
    simp only [Lit.wf, h1, h2, Bool.and_eq_true, decide_eq_true_eq] at w0
    exact w0
  obtain ⟨x10, x11⟩ : 0 ≤ a1 ∧ a1 ≤ 65535 := by
    have h1 : IntKind.u16.min = 0 := by decide
    have h2 : IntKind.u16.max = 65535 := by decide
    simp only [Lit.wf, h1, h2, Bool.and_eq_true, decide_eq_true_eq] at w1
    exact w1
  obtain ⟨x20, x21⟩ : 0 ≤ a2 ∧ a2 ≤ 65535 := by
    have h1 : IntKind.u16.min = 0 := by decide
    have h2 : IntKind.u16.max = 65535 := by decide
    simp only [Lit.wf, h1, h2, Bool.and_eq_true, decide_eq_true_eq] at w2
    exact w2
  obtain ⟨kn, hkn⟩ : ∃ kn : Nat, a1 % 60 = (kn : Int) := ⟨(a1 % 60).toNat, by omega⟩
  obtain ⟨im, him⟩ : ∃ im : Nat, a2 % 250 = (im : Int) := ⟨(a2 % 250).toNat, by omega⟩
  obtain ⟨r0, hr0⟩ : ∃ r0 : Int, a0 % 3 = r0 := ⟨_, rfl⟩
  obtain ⟨k, hk⟩ : ∃ k : Int, 1 + r0 = k := ⟨_, rfl⟩
  have hk3 : k = 1 ∨ k = 2 ∨ k = 3 := by omega
  have hkb : kn < 60 ∧ im < 250 := by omega
  have Hv1 : Hid (IntKind.i64.wrap a0 = a0) := by show _ = _; rw [IntKind.wrap_i64]; omega
  have Hv2 : Hid (IntKind.i64.wrap a1 = a1) := by show _ = _; rw [IntKind.wrap_i64]; omega
  have Hv3 : Hid (IntKind.i64.wrap a2 = a2) := by show _ = _; rw [IntKind.wrap_i64]; omega
  have Hr1 : Hid (a0.tmod 3 = r0) := by show _ = _; rw [Int.tmod_eq_emod_of_nonneg x00, hr0]
  have Hr2 : Hid (IntKind.i64.wrap (1 + r0) = k) := by show _ = _; rw [IntKind.wrap_i64]; omega
  have Hr3 : Hid (a1.tmod 60 = (kn : Int)) := by show _ = _; rw [Int.tmod_eq_emod_of_nonneg x10, hkn]
  have Hr4 : Hid (a2.tmod 250 = (im : Int)) := by show _ = _; rw [Int.tmod_eq_emod_of_nonneg x20, him]
  have Hr5 : Hid (IntKind.i64.wrap (kn : Int) = (kn : Int)) := by show _ = _; rw [IntKind.wrap_i64]; omega
  have Hr6 : Hid (IntKind.i64.wrap (im : Int) = (im : Int)) := by show _ = _; rw [IntKind.wrap_i64]; omega
  have Hmkn : Hid (∀ W : World, (Instr.makeSlice 38 (.int .i64 (kn : Int)) (.int .i64 (kn : Int))).run Try.prog W = .ok (.slice (some ⟨W.heap.size, 0, none⟩) kn kn) (W.alloc (.cells (zc kn) 5))) := fun W => make_zero kn (by omega) W
  have Hmim : Hid (∀ W : World, (Instr.makeSlice 38 (.int .i64 (im : Int)) (.int .i64 (im : Int))).run Try.prog W = .ok (.slice (some ⟨W.heap.size, 0, none⟩) im im) (W.alloc (.cells (zc im) 5))) := fun W => make_zero im (by omega) W
  obtain ⟨KT, hKT⟩ : ∃ KT, zs kn = KT := ⟨_, rfl⟩
  obtain ⟨IT, hIT⟩ : ∃ IT, zs im = IT := ⟨_, rfl⟩
  have HKT := Lib.hid hKT
  have HIT := Lib.hid hIT
  have Hks : Hid (KT.size = kn) := by show _ = _; rw [← hKT, zs_size]
  have His : Hid (IT.size = im) := by show _ = _; rw [← hIT, zs_size]
  have Hk3 := Lib.hid hk3
  clear hKT hIT hk hr0 hkn him hkb hk3 w0 w1 w2 w3 x00 x01 x10 x11 x20 x21
  go_enter Try.func5, Try.ntmps5
  go_upto_region 1 with fail
  apply wp_region_told_tail (le := fun a b => a.grownBy b none) 17 _ [isV _, isV _, isV _, isV _, isV _, isV _, isV _, zeroV kn, isV _, isV _, isV _, isV _, zeroV im, isV _, isV _, isV _, newV _ 29 #[.int .i64 0, .int .i64 0, .string ⟨#[]⟩, .int .i64 0, .string ⟨#[]⟩, .int .i64 0]]
  case hL => rfl
  case hz => rfl
  case hLd => rfl
  case hLg => rfl
  case hLw => kernel_rfl
  case hlen => rfl
  case hn => rfl
  case hm => kernel_rfl
  case hB => kernel_rfl
  case ht => exact fun _ _ _ h k => gb_none h k
  case hw => exact gb_drew (gb_refl _ _)
  -- 0: law.go:81 move
  apply told_is
  · intro W f hW hE h0 K hK
    have e0 := h0 0 (by kernel_rfl)
    conv at e0 => rhs; whnf
    clear hE h0
    refine yes_of (want_free rfl) ?_
    go_simp; exact hK _ _ (gb_refl _ _) rfl
  -- 1: law.go:81 convert
  apply told_is
  · intro W f hW hE h0 K hK
    have e12 : f 12 = _ := hE 0 12 _ rfl (by kernel_rfl)
    clear hE h0
    refine yes_of (want_free rfl) ?_
    have h1 := Hv1.out; have h2 := Hv2.out; have h3 := Hv3.out
    go_simp; exact hK _ _ (gb_refl _ _) rfl
  -- 2: law.go:81 binOp
  apply told_is
  · intro W f hW hE h0 K hK
    have e13 : f 13 = _ := hE 0 13 _ rfl (by kernel_rfl)
    clear hE h0
    refine yes_of (want_free rfl) ?_
    have h1 := Hr1.out; have h2 := Hr2.out; have h3 := Hr3.out; have h4 := Hr4.out; have h5 := Hr5.out; have h6 := Hr6.out
    go_simp; exact hK _ _ (gb_refl _ _) rfl
  -- 3: law.go:81 binOp
  apply told_is
  · intro W f hW hE h0 K hK
    have e14 : f 14 = _ := hE 0 14 _ rfl (by kernel_rfl)
    clear hE h0
    refine yes_of (want_free rfl) ?_
    have h1 := Hr1.out; have h2 := Hr2.out; have h3 := Hr3.out; have h4 := Hr4.out; have h5 := Hr5.out; have h6 := Hr6.out
    go_simp; exact hK _ _ (gb_refl _ _) rfl
  -- 4: law.go:81 move
  apply told_is
  · intro W f hW hE h0 K hK
    have e1 := h0 1 (by kernel_rfl)
    conv at e1 => rhs; whnf
    clear hE h0
    refine yes_of (want_free rfl) ?_
    go_simp; exact hK _ _ (gb_refl _ _) rfl
  -- 5: law.go:81 convert
  apply told_is
  · intro W f hW hE h0 K hK
    have e16 : f 16 = _ := hE 0 16 _ rfl (by kernel_rfl)
    clear hE h0
    refine yes_of (want_free rfl) ?_
    have h1 := Hv1.out; have h2 := Hv2.out; have h3 := Hv3.out
    go_simp; exact hK _ _ (gb_refl _ _) rfl
  -- 6: law.go:81 binOp
  apply told_is
  · intro W f hW hE h0 K hK
    have e17 : f 17 = _ := hE 0 17 _ rfl (by kernel_rfl)
    clear hE h0
    refine yes_of (want_free rfl) ?_
    have h1 := Hr1.out; have h2 := Hr2.out; have h3 := Hr3.out; have h4 := Hr4.out; have h5 := Hr5.out; have h6 := Hr6.out
    go_simp; exact hK _ _ (gb_refl _ _) rfl
  -- 7: law.go:81 makeSlice
  apply told_at zeroV_stays
  · intro W f hW hE h0 K hK
    have e18 : f 18 = _ := hE 0 18 _ rfl (by kernel_rfl)
    clear hE h0
    refine yes_of (want_free rfl) ?_
    have hm := Hmkn.out W
    go_simp
    exact hK _ _ (gb_alloc (gb_refl _ _) _) ⟨_, rfl, Row.new _ _ _⟩
  -- 8: law.go:81 convert
  apply told_is
  · intro W f hW hE h0 K hK
    have e19 := hE 0 19 _ rfl (by kernel_rfl)
    clear hE h0
    refine yes_of (want_free rfl) ?_
    obtain ⟨gz, e19, hz⟩ := e19
    have hc := text_zero hz
    rw [HKT.out] at hc
    go_simp; exact hK _ _ (gb_refl _ _) rfl
  -- 9: law.go:81 move
  apply told_is
  · intro W f hW hE h0 K hK
    have e2 := h0 2 (by kernel_rfl)
    conv at e2 => rhs; whnf
    clear hE h0
    refine yes_of (want_free rfl) ?_
    go_simp; exact hK _ _ (gb_refl _ _) rfl
  -- 10: law.go:81 convert
  apply told_is
  · intro W f hW hE h0 K hK
    have e21 : f 21 = _ := hE 0 21 _ rfl (by kernel_rfl)
    clear hE h0
    refine yes_of (want_free rfl) ?_
    have h1 := Hv1.out; have h2 := Hv2.out; have h3 := Hv3.out
    go_simp; exact hK _ _ (gb_refl _ _) rfl
  -- 11: law.go:81 binOp
  apply told_is
  · intro W f hW hE h0 K hK
    have e22 : f 22 = _ := hE 0 22 _ rfl (by kernel_rfl)
    clear hE h0
    refine yes_of (want_free rfl) ?_
    have h1 := Hr1.out; have h2 := Hr2.out; have h3 := Hr3.out; have h4 := Hr4.out; have h5 := Hr5.out; have h6 := Hr6.out
    go_simp; exact hK _ _ (gb_refl _ _) rfl
  -- 12: law.go:81 makeSlice
  apply told_at zeroV_stays
  · intro W f hW hE h0 K hK
    have e23 : f 23 = _ := hE 0 23 _ rfl (by kernel_rfl)
    clear hE h0
    refine yes_of (want_free rfl) ?_
    have hm := Hmim.out W
    go_simp
    exact hK _ _ (gb_alloc (gb_refl _ _) _) ⟨_, rfl, Row.new _ _ _⟩
  -- 13: law.go:81 convert
  apply told_is
  · intro W f hW hE h0 K hK
    have e24 := hE 0 24 _ rfl (by kernel_rfl)
    clear hE h0
    refine yes_of (want_free rfl) ?_
    obtain ⟨gz, e24, hz⟩ := e24
    have hc := text_zero hz
    rw [HIT.out] at hc
    go_simp; exact hK _ _ (gb_refl _ _) rfl
  -- 14: law.go:81 move
  apply told_is
  · intro W f hW hE h0 K hK
    have e3 := h0 3 (by kernel_rfl)
    conv at e3 => rhs; whnf
    clear hE h0
    refine yes_of (want_free rfl) ?_
    go_simp; exact hK _ _ (gb_refl _ _) rfl
  -- 15: law.go:81 build
  apply told_is
  · intro W f hW hE h0 K hK
    have e15 : f 15 = _ := hE 11 15 _ rfl (by kernel_rfl)
    have e20 : f 20 = _ := hE 6 20 _ rfl (by kernel_rfl)
    have e25 : f 25 = _ := hE 1 25 _ rfl (by kernel_rfl)
    have e26 : f 26 = _ := hE 0 26 _ rfl (by kernel_rfl)
    clear hE h0
    refine yes_of (want_free rfl) ?_
    go_simp; exact hK _ _ (gb_refl _ _) rfl
  -- 16: law.go:81 alloc
  apply told_at newV_stays
  · intro W f hW hE h0 K hK
    clear hE h0
    refine yes_of (want_free rfl) ?_
    go_simp
    exact hK _ _ (gb_alloc (gb_refl _ _) _) ⟨_, rfl, hW.size, Row.new _ _ _⟩
  intro W f hW hA
  simp only [lexIn, Act.put, List.setIfInBounds_toArray, List.set_cons_zero, List.set_cons_succ]
  have e27 : f 27 = _ := hA 1 (some 27) _ rfl
  rw [e27]
  have e9 := hA 0 (some 9) _ rfl
  clear hA
  obtain ⟨gq, eq_, hgN, hr⟩ := e9
  rw [eq_]
  have q0 := hr.free 0
  have q1 := hr.free 1
  have q2 := hr.free 2
  have q3 := hr.free 3
  have q4 := hr.free 4
  have q5 := hr.free 5
  have u0 := hr.at_ (i := 0) rfl
  have u1 := hr.at_ (i := 1) rfl
  have u2 := hr.at_ (i := 2) rfl
  have u3 := hr.at_ (i := 3) rfl
  have u4 := hr.at_ (i := 4) rfl
  have u5 := hr.at_ (i := 5) rfl
  have hrs := (((((hr.set_ 0 (.int .i64 0)).set_ 1 (.int .i64 0)).set_ 2 (.string KT)).set_ 3 (.int .i64 k)).set_ 4 (.string IT)).set_ 5 (.int .i64 a3)
  have gw := gb_new (gb_new (gb_new (gb_new (gb_new (gb_new hW (gb_set1 _ gq 0 (.int .i64 0)) hgN) (gb_set1 _ gq 1 (.int .i64 0)) hgN) (gb_set1 _ gq 2 (.string KT)) hgN) (gb_set1 _ gq 3 (.int .i64 k)) hgN) (gb_set1 _ gq 4 (.string IT)) hgN) (gb_set1 _ gq 5 (.int .i64 a3)) hgN
  have Hrs := Lib.hid hrs
  have Gw := Lib.hid gw
  have HgN := Lib.hid hgN
  clear hrs gw hgN hW
  rw [ends_is]
  go_simp
  clear q0 q1 q2 q3 q4 q5 u0 u1 u2 u3 u4 u5 hr
  go_upto_region 2 with fail
  refine Td.named (fun W' => w.grownBy W' none ∧ Row W' gq 29 #[.int .i64 0, .int .i64 0, .string KT, .int .i64 k, .string IT, .int .i64 a3]) ⟨Gw.out, Hrs.out⟩ ?_
  rintro W1 ⟨G1, hrow⟩
  have HROW := Lib.hid hrow
  have HG1 := Lib.hid G1
  have q0 := hrow.at_ (i := 0) rfl
  have q1 := hrow.at_ (i := 1) rfl
  have q2 := hrow.at_ (i := 2) rfl
  have q3 := hrow.at_ (i := 3) rfl
  have q4 := hrow.at_ (i := 4) rfl
  have q5 := hrow.at_ (i := 5) rfl
  obtain ⟨bk, hbk⟩ : ∃ bk, decide (KT.size ≤ 40) = bk := ⟨_, rfl⟩
  have Ht1 := Lib.hid hbk
  have Ht2 : Hid (decide ((KT.size : Int) ≤ 40) = bk) := by
    show _ = _
    rw [← hbk]
    exact decide_eq_decide.2 (by omega)
  obtain ⟨bw, hbw⟩ : ∃ bw, decide (RightF ⟨0, 0, KT, k, IT, a3⟩) = bw := ⟨_, rfl⟩
  have Hbw := Lib.hid hbw
  have t1 := Ht1.out
  have t2 := Ht2.out
  clear hrow G1 Gw Hrs HgN hbk hbw
  obtain ⟨b3, hb3⟩ : ∃ b3, (k == 3) = b3 := ⟨_, rfl⟩
  go_upto_if 34 with fail
  clear t1 t2
  go_cut [10] (fun v wx => v = .bool bw ∧ W1 = wx)
  case first =>
    by_cases hb : KT.size ≤ 40
    · obtain rfl : bk = true := by rw [← Ht1.out]; exact decide_eq_true hb
      by_cases h3 : k = 3
      · obtain rfl : b3 = true := by rw [← hb3, h3]; rfl
        by_cases hi : IT.size = 0
        · have i1 := str_none hi
          by_cases hl : -1099511627776 ≤ a3
          · have l1 : decide (-1099511627776 ≤ a3) = true := decide_eq_true hl
            by_cases hu : a3 ≤ 1099511627776
            · have u1 : decide (a3 ≤ 1099511627776) = true := decide_eq_true hu
              obtain rfl : bw = true := by rw [← Hbw.out]; exact decide_eq_true (by unfold RightF; dsimp only; omega)
              clear hb h3 hi hl hu
              go_wp2_with fail
              go_meet
              exact ⟨rfl, rfl⟩
            · have u1 : decide (a3 ≤ 1099511627776) = false := decide_eq_false hu
              obtain rfl : bw = false := by rw [← Hbw.out]; exact decide_eq_false (by unfold RightF; dsimp only; omega)
              clear hb h3 hi hl hu
              go_wp2_with fail
              go_meet
              exact ⟨rfl, rfl⟩
          · have l1 : decide (-1099511627776 ≤ a3) = false := decide_eq_false hl
            obtain rfl : bw = false := by rw [← Hbw.out]; exact decide_eq_false (by unfold RightF; dsimp only; omega)
            clear hb h3 hi hl
            go_wp2_with fail
            go_meet
            exact ⟨rfl, rfl⟩
        · have i1 := str_some hi
          obtain rfl : bw = false := by rw [← Hbw.out]; exact decide_eq_false (by unfold RightF; dsimp only; omega)
          clear hb h3 hi
          go_wp2_with fail
          go_meet
          exact ⟨rfl, rfl⟩
      · obtain rfl : b3 = false := by rw [← hb3, beq_eq_false_iff_ne]; exact h3
        have hk := Hk3.out
        by_cases hi : IT.size ≤ 200
        · have i1 : decide (IT.size ≤ 200) = true := decide_eq_true hi
          have i2 : decide ((IT.size : Int) ≤ 200) = true := decide_eq_true (by omega)
          by_cases hv : a3 = 0
          · have v1 : (a3 == 0) = true := by rw [hv]; rfl
            obtain rfl : bw = true := by rw [← Hbw.out]; exact decide_eq_true (by unfold RightF; dsimp only; omega)
            clear hb h3 hi hv hk
            go_wp2_with fail
            go_meet
            exact ⟨rfl, rfl⟩
          · have v1 : (a3 == 0) = false := by rw [beq_eq_false_iff_ne]; exact hv
            obtain rfl : bw = false := by rw [← Hbw.out]; exact decide_eq_false (by unfold RightF; dsimp only; omega)
            clear hb h3 hi hv hk
            go_wp2_with fail
            go_meet
            exact ⟨rfl, rfl⟩
        · have i1 : decide (IT.size ≤ 200) = false := decide_eq_false hi
          have i2 : decide ((IT.size : Int) ≤ 200) = false := decide_eq_false (by omega)
          obtain rfl : bw = false := by rw [← Hbw.out]; exact decide_eq_false (by unfold RightF; dsimp only; omega)
          clear hb h3 hi hk
          go_wp2_with fail
          go_meet
          exact ⟨rfl, rfl⟩
    · obtain rfl : bk = false := by rw [← Ht1.out]; exact decide_eq_false hb
      by_cases h3 : k = 3
      · obtain rfl : b3 = true := by rw [← hb3, h3]; rfl
        obtain rfl : bw = false := by rw [← Hbw.out]; exact decide_eq_false (by unfold RightF; dsimp only; omega)
        clear hb h3
        go_wp2_with fail
        go_meet
        exact ⟨rfl, rfl⟩
      · obtain rfl : b3 = false := by rw [← hb3, beq_eq_false_iff_ne]; exact h3
        obtain rfl : bw = false := by rw [← Hbw.out]; exact decide_eq_false (by unfold RightF; dsimp only; omega)
        clear hb h3
        go_wp2_with fail
        go_meet
        exact ⟨rfl, rfl⟩
  case rest =>
    obtain ⟨rfl, rfl⟩ := hcut
    have h1 := Hv1.out
    have h2 := Hr1.out
    have h3 := Hr2.out
    go_upto_region 7 with fail
    clear h1 h2 h3 q0 q1 q2 q3 q4 q5
    have HW2 : Hid (w.grownBy (W1.alloc (.cells #[.int .i64 0, .int .i64 0, .string KT, .int .i64 k, .string ⟨#[]⟩, .int .i64 0] 29)) none) := gb_alloc HG1.out _
    have HK : Hid (∀ W, (W1.alloc (.cells #[.int .i64 0, .int .i64 0, .string KT, .int .i64 k, .string ⟨#[]⟩, .int .i64 0] 29)).grownBy W none → At6 W gq 0 ⟨0, 0, KT, k, IT, a3⟩ ∧ At6 W W1.heap.size 0 ⟨0, 0, KT, k, ⟨#[]⟩, 0⟩) := fun W hW => by
      have r := (HROW.out.alloc (.cells #[.int .i64 0, .int .i64 0, .string KT, .int .i64 k, .string ⟨#[]⟩, .int .i64 0] 29)).kept hW (by simp)
      refine ⟨⟨r.at_ (i := 0) rfl, r.at_ (i := 1) rfl, r.at_ (i := 2) rfl, r.at_ (i := 3) rfl, r.at_ (i := 4) rfl, r.at_ (i := 5) rfl⟩, (box6 W1 ⟨0, 0, KT, k, ⟨#[]⟩, 0⟩ _).keep (by rw [World.size_alloc]; omega) hW⟩
    have HF1 : Hid (decide (RightF ⟨0, 0, KT, k, IT, a3⟩) = bw) := Hbw.out
    have HF2 : Hid (decide (RightF ⟨0, 0, KT, k, ⟨#[]⟩, 0⟩) = bk) := by
      show _ = _
      rw [← Ht1.out]
      refine decide_eq_decide.2 ?_
      have h3 := Hk3.out
      have h0 : (⟨#[]⟩ : ByteArray).size = 0 := rfl
      unfold RightF
      dsimp only
      omega
    have HF3 : Hid (decide (RightF ⟨0, 0, ⟨#[]⟩, 4, ⟨#[]⟩, 0⟩) = false) := by exact decide_eq_false (by unfold RightF; dsimp only; omega)
    have HF4 : Hid (decide (RightF ⟨0, 0, ⟨#[]⟩, 0, ⟨#[]⟩, 0⟩) = false) := by exact decide_eq_false (by unfold RightF; dsimp only; omega)
    apply wp_region_told (le := fun a b => a.grownBy b none) [isV _, isV _, isV _, isV _, isV _, isV _, isV _, isV _, isV _, isV _, isV _, isV _, isV _, isV _, isV _, isV _, isV _, isV _, isV _, isV _, isV _, isV _, isV _, isV _, isV _, isV _, isV _]
    case hn => rfl
    case hm => kernel_rfl
    case hB => kernel_rfl
    case ht => exact fun _ _ _ h k => gb_none h k
    case hw => exact gb_drew (gb_refl _ _)
    -- 0: law.go:89 load
    apply told_is
    · intro W f hW hE h0 K hK
      have e9 := h0 9 (by kernel_rfl)
      conv at e9 => rhs; whnf
      clear hE h0
      refine yes_of (want_free rfl) ?_
      obtain ⟨⟨q0, q1, q2, q3, q4, q5⟩, p0, p1, p2, p3, p4, p5⟩ := HK.out W hW
      go_simp; exact hK _ _ (gb_refl _ _) rfl
    -- 1: law.go:89 call
    apply told_is
    · intro W f hW hE h0 K hK
      have e67 : f 67 = _ := hE 0 67 _ rfl (by kernel_rfl)
      clear hE h0
      refine yes_of (want_free rfl) ?_
      go_simp
      refine (pRight_any ⟨0, 0, KT, k, IT, a3⟩ _).mono ?_
      rintro e w1' ⟨he, g⟩; rw [HF1.out] at he; subst he
      exact ⟨_, rfl, hK _ _ g rfl⟩
    -- 2: law.go:89 move
    apply told_is
    · intro W f hW hE h0 K hK
      have e10 := h0 10 (by kernel_rfl)
      conv at e10 => rhs; whnf
      clear hE h0
      refine yes_of (want_free rfl) ?_
      go_simp; exact hK _ _ (gb_refl _ _) rfl
    -- 3: law.go:89 binOp
    apply told_is
    · intro W f hW hE h0 K hK
      have e68 : f 68 = _ := hE 1 68 _ rfl (by kernel_rfl)
      have e69 : f 69 = _ := hE 0 69 _ rfl (by kernel_rfl)
      clear hE h0
      refine yes_of (want_free rfl) ?_
      cases bw
      all_goals (go_simp; exact hK _ _ (gb_refl _ _) rfl)
    -- 4: law.go:89 move
    apply told_is
    · intro W f hW hE h0 K hK
      have e70 : f 70 = _ := hE 0 70 _ rfl (by kernel_rfl)
      clear hE h0
      refine yes_of (want_free rfl) ?_
      go_simp; exact hK _ _ (gb_refl _ _) rfl
    -- 5: law.go:89 load
    apply told_is
    · intro W f hW hE h0 K hK
      have e11 := h0 11 (by kernel_rfl)
      conv at e11 => rhs; whnf
      have e71 : f 71 = _ := hE 0 71 _ rfl (by kernel_rfl)
      clear hE h0
      refine yes_of (want_yes rfl rfl e71) ?_
      obtain ⟨⟨q0, q1, q2, q3, q4, q5⟩, p0, p1, p2, p3, p4, p5⟩ := HK.out W hW
      go_simp; exact hK _ _ (gb_refl _ _) rfl
    -- 6: law.go:89 call
    apply told_is
    · intro W f hW hE h0 K hK
      have e72 : f 72 = _ := hE 0 72 _ rfl (by kernel_rfl)
      have e71 : f 71 = _ := hE 1 71 _ rfl (by kernel_rfl)
      clear hE h0
      refine yes_of (want_yes rfl rfl e71) ?_
      go_simp
      refine (pRight_any ⟨0, 0, KT, k, ⟨#[]⟩, 0⟩ _).mono ?_
      rintro e w1' ⟨he, g⟩; rw [HF2.out] at he; subst he
      exact ⟨_, rfl, hK _ _ g rfl⟩
    -- 7: law.go:89 fieldAddr
    apply told_is
    · intro W f hW hE h0 K hK
      have e9 := h0 9 (by kernel_rfl)
      conv at e9 => rhs; whnf
      have e71 : f 71 = _ := hE 2 71 _ rfl (by kernel_rfl)
      clear hE h0
      refine yes_of (want_yes rfl rfl e71) ?_
      go_simp; exact hK _ _ (gb_refl _ _) rfl
    -- 8: law.go:89 load
    apply told_is
    · intro W f hW hE h0 K hK
      have e74 : f 74 = _ := hE 0 74 _ rfl (by kernel_rfl)
      have e71 : f 71 = _ := hE 3 71 _ rfl (by kernel_rfl)
      clear hE h0
      refine yes_of (want_yes rfl rfl e71) ?_
      obtain ⟨⟨q0, q1, q2, q3, q4, q5⟩, p0, p1, p2, p3, p4, p5⟩ := HK.out W hW
      go_simp; exact hK _ _ (gb_refl _ _) rfl
    -- 9: law.go:89 call
    apply told_is
    · intro W f hW hE h0 K hK
      have e75 : f 75 = _ := hE 0 75 _ rfl (by kernel_rfl)
      have e71 : f 71 = _ := hE 4 71 _ rfl (by kernel_rfl)
      clear hE h0
      refine yes_of (want_yes rfl rfl e71) ?_
      go_simp; exact hK _ _ (gb_refl _ _) rfl
    -- 10: law.go:89 binOp
    apply told_is
    · intro W f hW hE h0 K hK
      have e76 : f 76 = _ := hE 0 76 _ rfl (by kernel_rfl)
      have e71 : f 71 = _ := hE 5 71 _ rfl (by kernel_rfl)
      clear hE h0
      refine yes_of (want_yes rfl rfl e71) ?_
      have t1 := Ht1.out; have t2 := Ht2.out
      go_simp; exact hK _ _ (gb_refl _ _) rfl
    -- 11: law.go:89 binOp
    apply told_is
    · intro W f hW hE h0 K hK
      have e73 : f 73 = _ := hE 4 73 _ rfl (by kernel_rfl)
      have e77 : f 77 = _ := hE 0 77 _ rfl (by kernel_rfl)
      have e71 : f 71 = _ := hE 6 71 _ rfl (by kernel_rfl)
      clear hE h0
      refine yes_of (want_yes rfl rfl e71) ?_
      cases bk
      all_goals (go_simp; exact hK _ _ (gb_refl _ _) rfl)
    -- 12: law.go:89 pick
    apply told_is
    · intro W f hW hE h0 K hK
      have e71 : f 71 = _ := hE 7 71 _ rfl (by kernel_rfl)
      have e78 : f 78 = _ := hE 0 78 _ rfl (by kernel_rfl)
      clear hE h0
      refine yes_of (want_free rfl) ?_
      go_simp; exact hK _ _ (gb_refl _ _) rfl
    -- 13: law.go:89 move
    apply told_is
    · intro W f hW hE h0 K hK
      have e79 : f 79 = _ := hE 0 79 _ rfl (by kernel_rfl)
      clear hE h0
      refine yes_of (want_free rfl) ?_
      go_simp; exact hK _ _ (gb_refl _ _) rfl
    -- 14: law.go:89 build
    apply told_is
    · intro W f hW hE h0 K hK
      have e80 : f 80 = _ := hE 0 80 _ rfl (by kernel_rfl)
      clear hE h0
      refine yes_of (want_yes rfl rfl e80) ?_
      go_simp; exact hK _ _ (gb_refl _ _) rfl
    -- 15: law.go:89 call
    apply told_is
    · intro W f hW hE h0 K hK
      have e81 : f 81 = _ := hE 0 81 _ rfl (by kernel_rfl)
      have e80 : f 80 = _ := hE 1 80 _ rfl (by kernel_rfl)
      clear hE h0
      refine yes_of (want_yes rfl rfl e80) ?_
      go_simp
      refine (pRight_any ⟨0, 0, ⟨#[]⟩, 4, ⟨#[]⟩, 0⟩ _).mono ?_
      rintro e w1' ⟨he, g⟩; rw [HF3.out] at he; subst he
      exact ⟨_, rfl, hK _ _ g rfl⟩
    -- 16: law.go:89 unOp
    apply told_is
    · intro W f hW hE h0 K hK
      have e82 : f 82 = _ := hE 0 82 _ rfl (by kernel_rfl)
      have e80 : f 80 = _ := hE 2 80 _ rfl (by kernel_rfl)
      clear hE h0
      refine yes_of (want_yes rfl rfl e80) ?_
      go_simp; exact hK _ _ (gb_refl _ _) rfl
    -- 17: law.go:89 pick
    apply told_is
    · intro W f hW hE h0 K hK
      have e80 : f 80 = _ := hE 3 80 _ rfl (by kernel_rfl)
      have e83 : f 83 = _ := hE 0 83 _ rfl (by kernel_rfl)
      clear hE h0
      refine yes_of (want_free rfl) ?_
      go_simp; exact hK _ _ (gb_refl _ _) rfl
    -- 18: law.go:89 move
    apply told_is
    · intro W f hW hE h0 K hK
      have e84 : f 84 = _ := hE 0 84 _ rfl (by kernel_rfl)
      clear hE h0
      refine yes_of (want_free rfl) ?_
      go_simp; exact hK _ _ (gb_refl _ _) rfl
    -- 19: law.go:89 build
    apply told_is
    · intro W f hW hE h0 K hK
      have e85 : f 85 = _ := hE 0 85 _ rfl (by kernel_rfl)
      clear hE h0
      refine yes_of (want_yes rfl rfl e85) ?_
      go_simp; exact hK _ _ (gb_refl _ _) rfl
    -- 20: law.go:89 call
    apply told_is
    · intro W f hW hE h0 K hK
      have e86 : f 86 = _ := hE 0 86 _ rfl (by kernel_rfl)
      have e85 : f 85 = _ := hE 1 85 _ rfl (by kernel_rfl)
      clear hE h0
      refine yes_of (want_yes rfl rfl e85) ?_
      go_simp
      refine (pRight_any ⟨0, 0, ⟨#[]⟩, 0, ⟨#[]⟩, 0⟩ _).mono ?_
      rintro e w1' ⟨he, g⟩; rw [HF4.out] at he; subst he
      exact ⟨_, rfl, hK _ _ g rfl⟩
    -- 21: law.go:89 unOp
    apply told_is
    · intro W f hW hE h0 K hK
      have e87 : f 87 = _ := hE 0 87 _ rfl (by kernel_rfl)
      have e85 : f 85 = _ := hE 2 85 _ rfl (by kernel_rfl)
      clear hE h0
      refine yes_of (want_yes rfl rfl e85) ?_
      go_simp; exact hK _ _ (gb_refl _ _) rfl
    -- 22: law.go:89 pick
    apply told_is
    · intro W f hW hE h0 K hK
      have e85 : f 85 = _ := hE 3 85 _ rfl (by kernel_rfl)
      have e88 : f 88 = _ := hE 0 88 _ rfl (by kernel_rfl)
      clear hE h0
      refine yes_of (want_free rfl) ?_
      go_simp; exact hK _ _ (gb_refl _ _) rfl
    -- 23: law.go:89 move
    apply told_is
    · intro W f hW hE h0 K hK
      have e89 : f 89 = _ := hE 0 89 _ rfl (by kernel_rfl)
      clear hE h0
      refine yes_of (want_free rfl) ?_
      go_simp; exact hK _ _ (gb_refl _ _) rfl
    -- 24: law.go:89 call
    apply told_is
    · intro W f hW hE h0 K hK
      have e90 : f 90 = _ := hE 0 90 _ rfl (by kernel_rfl)
      clear hE h0
      refine yes_of (want_yes rfl rfl e90) ?_
      go_simp
      refine (awake8_any _).mono ?_
      rintro e w1' ⟨rfl, g⟩
      exact ⟨_, rfl, hK _ _ g rfl⟩
    -- 25: law.go:89 pick
    apply told_is
    · intro W f hW hE h0 K hK
      have e90 : f 90 = _ := hE 1 90 _ rfl (by kernel_rfl)
      have e91 : f 91 = _ := hE 0 91 _ rfl (by kernel_rfl)
      clear hE h0
      refine yes_of (want_free rfl) ?_
      go_simp; exact hK _ _ (gb_refl _ _) rfl
    -- 26: law.go:89 assign
    apply told_is
    · intro W f hW hE h0 K hK
      have e92 : f 92 = _ := hE 0 92 _ rfl (by kernel_rfl)
      clear hE h0
      refine yes_of (want_free rfl) ?_
      go_simp; exact hK _ _ (gb_refl _ _) rfl
    intro W f hW hA
    simp only [lexIn, Act.put, List.setIfInBounds_toArray, List.set_cons_zero, List.set_cons_succ]
    have e8 : f 8 = _ := hA 0 (some 8) _ rfl
    rw [e8]
    clear hA
    go_wp2_with fail
    go_ret
    exact ⟨rfl, gb_below (gb_none HW2.out hW) (Nat.le_refl _)⟩

set_option maxRecDepth 100000 in
theorem lifted (os : Os) (started : os.Started) (H : Type) (enc : TypeId × Value → H) :
    ReturnsInHanded {} Try.checked os 5 .any (Rows.factsEdgesSpec.pre6 enc Try.prog Try.f5 Rows.factsEdgesRow.domain false) (Rows.factsEdgesSpec.post enc Try.prog Try.f5 false true false false) := by
  refine returnsInHanded_of_change (C := Try.checked) own started (by kernel_rfl) Try.func5
    (ChangeSpec.witness6 (enc := enc) (C := Try.checked) false ⟨#[], #[.int .u8 0, .int .u16 0, .int .u16 0, .int .i64 0], []⟩ 8 (by kernel_rfl) (by kernel_rfl) (by kernel_rfl) (by kernel_rfl)) ?_
  intro W base args ds gs before hval0 hW hcnd _
  have hval : ∀ (j : Nat) t v, Try.f5.params[j]? = some t → args[j]? = some v → Value.okWide Try.prog W .any base t v := hval0
  have hW' := hW
  obtain ⟨p, q, hA0, hV, rfl, hfz, hnd⟩ := hW
  have hA : DataW.TrodAll enc Try.prog W 0 (fun _ => true) true Try.f5.params.toList args.toList ds p := hA0
  rw [Try.params5] at hA hval
  obtain ⟨v0, vs0, d0, ds0, p0, q0, hargs, rfl, rfl, h0, r0⟩ := trodAll_cons hA
  obtain ⟨v1, vs1, d1, ds1, p1, q1, rfl, rfl, rfl, h1, r1⟩ := trodAll_cons r0
  obtain ⟨v2, vs2, d2, ds2, p2, q2, rfl, rfl, rfl, h2, r2⟩ := trodAll_cons r1
  obtain ⟨v3, vs3, d3, ds3, p3, q3, rfl, rfl, rfl, h3, r3⟩ := trodAll_cons r2
  obtain ⟨rfl, rfl, rfl⟩ := trodAll_nil r3
  obtain rfl : args = #[v0, v1, v2, v3] := by cases args; simp_all
  obtain ⟨rfl, rfl⟩ := trodVars_none hV
  obtain ⟨a0, rfl, rfl, rfl, w0⟩ := open_int Try.underlying5 (hval 0 5 v0 rfl rfl) h0
  obtain ⟨a1, rfl, rfl, rfl, w1⟩ := open_int Try.underlying42 (hval 1 42 v1 rfl rfl) h1
  obtain ⟨a2, rfl, rfl, rfl, w2⟩ := open_int Try.underlying42 (hval 2 42 v2 rfl rfl) h2
  obtain ⟨a3, rfl, rfl, rfl, w3⟩ := open_int Try.underlying3 (hval 3 3 v3 rfl rfl) h3
  clear hA0 hval0
  refine (walk a0 a1 a2 a3 W w0 w1 w2 w3).mono fun e W' ⟨he, bel⟩ => ?_
  subst he
  exact ⟨_, rfl, _, _, _, [], _, [], hW', trodAll_mk1 (shut_bool Try.underlying4 _), (trodAll_cons_mk (shut_int Try.underlying5 w0) (trodAll_cons_mk (shut_int Try.underlying42 w1) (trodAll_cons_mk (shut_int Try.underlying42 w2) (trodAll_cons_mk (shut_int Try.underlying3 w3) trodAll_mk0)))), rfl, bel.frame _, fun h => by cases h⟩

theorem over : Rows.factsEdgesRow.holds Try.pinned (OpenSpec.ofChange Rows.factsEdgesSpec) :=
  OpenClaim.holds_of_wide 5 Try.f5 rfl rfl rfl rfl rfl rfl rfl ⟨rfl, rfl, rfl, rfl, rfl⟩ rfl rfl rfl rfl rfl (by kernel_rfl) Try.func5 (by kernel_rfl)
    (of_decide_eq_true (by kernel_rfl)) (by unfold Func.isWrapper; first | (rw [if_pos (by decide +kernel)]; kernel_rfl) | (rw [if_neg (by decide +kernel)]; exact ⟨rfl, rfl⟩))
    (fun os started H enc _ => lifted os started H enc)

theorem proved : Rows.FactsEdgesSaid := over
#print axioms proved
end Go.Proofs.Ytgmgkcackkmgfaa.factsEdges
