/-
  Proved: whatever values of its parameters' types it is called with, deaddroplaw8.FactsMay returns true, and each argument reads behind the call as it read before.
  Conditions: none but those of the row itself.
-/
import Derived.Test.YtkjjgbcbgjgjeaaRows
import Derived.WalkKit
import Derived.ProofKit
import Derived.OpenShut
import Derived.ShutString
import Derived.Test.YtkjjgbcbgjgjeaaFtLaw
import Derived.Test.YtkjjgbcbgjgjeaaFtCopy
import Derived.Test.YtkjjgbcbgjgjeaaFtFound
import Derived.Test.YtkjjgbcbgjgjeaaTold
import Derived.Test.YtkjjgbcbgjgjeaaToldT
import Derived.Deep.DeepCutAuto
import Derived.ChangeOld
import Derived.Below
namespace Go.Proofs.Ytkjjgbcbgjgjeaa.factsMay
open Go.ChangeShapes Go.WideShapes Go.ChangeAt Go.RowKit
open Go.ChangeMaps (open_string shut_string)
open Go.Proofs.Ytkjjgbcbgjgjeaa.Mm Go.Proofs.Ytkjjgbcbgjgjeaa.Dt Go.Proofs.Ytkjjgbcbgjgjeaa.Td
set_option linter.unusedVariables false

theorem own : ownKnob Try.prog.godebug = none := by kernel_rfl
theorem laidOut : laidOutB Try.prog = true := by kernel_rfl
/-- What the walk is told of a slice of integers that came in. -/
def IsRow (k : IntKind) (w : World) (a : Option Addr) (len cap : Nat) (zs : List Int) : Prop :=
  (a = none ∧ len = 0 ∧ cap = 0 ∧ zs = []) ∨
  ∃ x, a = some x ∧ len ≤ cap ∧ cap ≤ maxLen ∧ zs.length = cap ∧ (∀ i, i < zs.length → w.cell? (x.add i) = some (.int k (zs.getD i 0))) ∧ ∀ n ∈ zs, (Lit.int k n).wf = true

attribute [local go_sem] Td.upon_value Td.upon_skip Td.upon_enter Td.upon_row Td.look_tmp Td.look_const Td.look_func Td.look_global
def dotV (x : Int × Int) : Td.Spec := fun W v => ∃ g, v = .slice (some ⟨g, 0, none⟩) 1 1 ∧ DL W (some ⟨g, 0, none⟩) 1 [x]
theorem dotV_stays {x : Int × Int} : Stays (fun a b => a.grownBy b none) (dotV x) := fun _ _ _ h ⟨g, e, hr⟩ => ⟨g, e, hr.keep h⟩
theorem dl_new1 (w : World) (x : Int × Int) (t : TypeId) : DL (w.alloc (.cells #[.int .i64 x.1, .int .i64 x.2] t)) (some ⟨w.heap.size, 0, none⟩) 1 [x] := by
  have hr := Row.new w t #[.int .i64 x.1, .int .i64 x.2]
  refine ⟨rfl, fun _ => ⟨w.heap.size, 0, rfl, hr.lt, fun i r h => ?_⟩⟩
  have hi : i = 0 := by have := (List.getElem?_eq_some_iff.1 h).1; simp at this; omega
  subst hi
  obtain rfl : x = r := by simpa using h
  exact ⟨hr.at_ (i := 0) rfl, hr.at_ (i := 1) rfl⟩
def runV (L : Nat) (l : List Rn) : Td.Spec := fun W v => ∃ A c, v = .slice A L c ∧ RL W A L l ∧ L ≤ c
theorem runV_stays {L : Nat} {l : List Rn} : Stays (fun a b => a.grownBy b none) (runV L l) := fun _ _ _ h ⟨A, c, e, hr, hc⟩ => ⟨A, c, e, hr.keep h, hc⟩
def minV (L : Nat) (l : List Rn) (B : Option Addr) (m d : Nat) : Td.Spec := fun W v => ∃ A c, v = .agg #[.slice A L c, .slice B m d] ∧ RL W A L l ∧ L ≤ c
theorem minV_stays {L : Nat} {l : List Rn} {B : Option Addr} {m d : Nat} : Stays (fun a b => a.grownBy b none) (minV L l B m d) := fun _ _ _ h ⟨A, c, e, hr, hc⟩ => ⟨A, c, e, hr.keep h, hc⟩

set_option maxHeartbeats 40000000 in
set_option maxRecDepth 100000 in
theorem walk (a0 : Option Addr) (len0 cap0 : Nat) (z0 : List Int) (a1 : Int) (w : World) (w0 : IsRow .u8 w a0 len0 cap0 z0) (w1 : (Lit.int .u8 a1).wf = true) :
    Calls Try.prog 5 #[.slice a0 len0 cap0, .int .u8 a1] w fun e w' => e = .returned (.bool true) ∧ Below w.heap.size w w' := by
  obtain ⟨x10, x11⟩ : 0 ≤ a1 ∧ a1 ≤ 255 := by
    have h1 : IntKind.u8.min = 0 := by decide
    have h2 : IntKind.u8.max = 255 := by decide
    simp only [Lit.wf, h1, h2, Bool.and_eq_true, decide_eq_true_eq] at w1
    exact w1
  obtain ⟨hnl0, _, _⟩ := nl_of_row w0
  obtain ⟨s, hsd0⟩ : ∃ s, makeK (z0.take len0) (min (len0 / 2) 40) = s := ⟨_, rfl⟩
  have HMays : Hid (MayS s) := by rw [← hsd0]; exact makeK_may _ _
  have HLens : Hid (s.seen.length ≤ 320 ∧ s.facts.length ≤ 320) := by
    have h := (makeK_low (z0.take len0) (min (len0 / 2) 40)).short (makeK_may _ _)
    rw [hsd0] at h
    show _ ∧ _
    omega
  have HLows : Hid (Low s 40) := by rw [← hsd0]; exact (makeK_low _ _).more (Nat.min_le_right _ _)
  have HKeys : Hid (Keyed s) := by rw [← hsd0]; exact makeK_keyed _ _
  have HMs : Hid (∀ W, w.grownBy W none → Calls Try.prog 12 #[.slice a0 len0 cap0] W (States s W)) := fun W hW => by rw [← hsd0]; exact make_any a0 len0 cap0 _ W (hnl0.keep hW)
  clear hnl0 hsd0
  obtain ⟨l, hl⟩ : ∃ l, s.facts = l := ⟨_, rfl⟩
  have HM := Lib.hid (HMs.out w (gb_refl _ _))
  have Hx1 : Hid (0 ≤ a1 ∧ a1 ≤ 255) := ⟨x10, x11⟩
  have Hl := Lib.hid hl
  have t0 : IntKind.i64.wrap a1 = a1 := by rw [IntKind.wrap_i64]; omega
  clear x10 x11 w0 w1 HMs hl
  go_enter Try.func5, Try.ntmps5
  go_upto_region 2 with (go_at_call 12; refine HM.out.mono ?_; rintro e w1 ⟨A, n, c, B, m, d, rfl, hs, hc, hd, g1⟩)
  obtain ⟨hb, hhb⟩ : ∃ hb, w1.heap.size = hb := ⟨_, rfl⟩
  rw [hhb]
  refine Td.named (fun W => w.grownBy W none ∧ Row W hb 26 #[.slice A n c, .slice B m d] ∧ SL W A n B m s) ⟨gb_alloc g1 _, by rw [← hhb]; exact Row.new _ _ _, hs.keep (gb_alloc (gb_refl _ _) _)⟩ ?_
  rintro W1 ⟨G1, hrow, hs1⟩
  have HG1 := Lib.hid G1
  have HSc : Hid (∀ W, W1.grownBy W none → W.cell? ⟨hb, 0, none⟩ = some (.slice A n c) ∧ W.cell? ⟨hb, 1, none⟩ = some (.slice B m d) ∧ RL W A n s.seen ∧ FL W B m l) := fun W hW => ⟨(hrow.kept hW (by simp)).at_ (i := 0) rfl, (hrow.kept hW (by simp)).at_ (i := 1) rfl, (hs1.keep hW).1, by rw [← Hl.out]; exact (hs1.keep hW).2⟩
  have hlen : l.length = m := by rw [← Hl.out]; exact hs1.2.1
  have Hnm : Hid (n ≤ 320 ∧ m ≤ 320) := by have h1 := hs1.1.1; have h2 := hs1.2.1; have h3 := HLens.out; show _ ∧ _; omega
  obtain ⟨y0, y1, _, _⟩ := HSc.out W1 (gb_refl _ _)
  clear hhb hs hc hd g1 G1 hrow hs1 HM
  by_cases hm : m < 2
  · have d1 : decide (m < 2) = true := decide_eq_true hm
    have d2 : decide ((m : Int) < 2) = true := decide_eq_true (by omega)
    clear hm hlen
    go_wp2_with (go_at_call 19; refine (awake8_any _).mono ?_; rintro e w7 ⟨rfl, g7⟩)
    go_ret
    exact ⟨rfl, gb_below (gb_none HG1.out g7) (Nat.le_refl _)⟩
  · have d1 : decide (m < 2) = false := decide_eq_false hm
    have d2 : decide ((m : Int) < 2) = false := decide_eq_false (by omega)
    obtain ⟨k, hk⟩ : ∃ k : Nat, a1 % ((m : Int) - 1) = (k : Int) := ⟨(a1 % ((m : Int) - 1)).toNat, by have := Int.emod_nonneg a1 (b := (m : Int) - 1) (by omega); omega⟩
    have hkm : k + 1 < m := by have := Int.emod_lt_of_pos a1 (b := (m : Int) - 1) (by omega); omega
    obtain ⟨M1, hM1⟩ : ∃ M1 : Int, (m : Int) - 1 = M1 := ⟨_, rfl⟩
    have t1 : IntKind.i64.wrap ((m : Int) - 1) = M1 := by rw [IntKind.wrap_i64]; have := Hnm.out; omega
    have t2 : a1.tmod M1 = (k : Int) := by rw [← hM1, Int.tmod_eq_emod_of_nonneg Hx1.out.1, hk]
    have t3 : ¬ M1 = 0 := by omega
    have t4 : IntKind.i64.wrap (k : Int) = (k : Int) := by rw [IntKind.wrap_i64]; have := Hnm.out; omega
    have Ht5 : Hid (IntKind.i64.wrap ((k : Int) + 1) = ((k + 1 : Nat) : Int)) := by show _ = _; rw [IntKind.wrap_i64]; have := Hnm.out; omega
    obtain ⟨x, hx⟩ : ∃ x, l[k]? = some x := ⟨_, List.getElem?_eq_getElem (by rw [hlen]; omega)⟩
    obtain ⟨y, hy⟩ : ∃ y, l[k + 1]? = some y := ⟨_, List.getElem?_eq_getElem (by rw [hlen]; omega)⟩
    have Hx := Lib.hid hx
    have Hy := Lib.hid hy
    have Hlen := Lib.hid hlen
    have Hkm := Lib.hid hkm
    have HM0 : Hid (0 < m) := by show 0 < m; omega
    have HMb : Hid (m ≤ 100000) := by have := Hnm.out; show m ≤ _; omega
    have HB : Hid ((k : Int) < (m : Int)) := by show _ < _; omega
    have HB1 : Hid (((k + 1 : Nat) : Int) < (m : Int) ∧ (k : Int) + 1 < (m : Int) ∧ 0 ≤ (k : Int) + 1) := by show _ ∧ _ ∧ _; omega
    obtain ⟨gB, oB, rfl, _, hat⟩ := (HSc.out W1 (gb_refl _ _)).2.2.2.2 (by omega)
    have HX : Hid (∀ W, W1.grownBy W none → At6 W gB (oB + k * 6) x) := fun W hW => fl_at6 (HSc.out W hW).2.2.2 Hx.out
    have HY : Hid (∀ W, W1.grownBy W none → At6 W gB (oB + (k + 1) * 6) y) := fun W hW => fl_at6 (HSc.out W hW).2.2.2 Hy.out
    have Hy1 : Hid ((l.set k y)[k + 1]? = some y) := by show _ = _; rw [List.getElem?_set_ne (by omega)]; exact hy
    clear hx hy hlen hkm hk hM1 hat hm
    go_upto_region 6 with fail
    clear y0 y1 d1 d2 t1 t2 t3 t4 t0
    apply wp_region_told_tail (le := fun a b => a.grownBy b none) 8 _ [isV _, isV _, emptyV, isV _, isV _, copyV W1.heap.size m l, stV W1.heap.size A n c m l, newB W1.heap.size 26 #[.slice none 0 0, .slice none 0 0]]
    case hL => rfl
    case hz => rfl
    case hLd => rfl
    case hLg => rfl
    case hLw => kernel_rfl
    case hlen => rfl
    case hn => rfl
    case hm => kernel_rfl
    case hB => kernel_rfl
    case ht => exact fun _ _ _ h k => gb_none h k
    case hw => exact gb_drew (gb_refl _ _)
    -- 0: more.go:35 fieldAddr
    apply told_is
    · intro W f hW hE h0 K hK
      have e5 := h0 5 (by kernel_rfl)
      conv at e5 => rhs; whnf
      clear hE h0
      refine yes_of (want_free rfl) ?_
      go_simp; exact hK _ _ (gb_refl _ _) rfl
    -- 1: more.go:35 load
    apply told_is
    · intro W f hW hE h0 K hK
      have e24 : f 24 = _ := hE 0 24 _ rfl (by kernel_rfl)
      clear hE h0
      refine yes_of (want_free rfl) ?_
      obtain ⟨z0, z1, z2⟩ := HSc.out W hW
      clear z2
      go_simp; exact hK _ _ (gb_refl _ _) rfl
    -- 2: more.go:35 buildSlice
    apply told_at emptyV_stays
    · intro W f hW hE h0 K hK
      clear hE h0
      refine yes_of (want_free rfl) ?_
      go_simp
      exact hK _ _ (gb_alloc (gb_refl _ _) _) ⟨_, rfl⟩
    -- 3: more.go:35 fieldAddr
    apply told_is
    · intro W f hW hE h0 K hK
      have e5 := h0 5 (by kernel_rfl)
      conv at e5 => rhs; whnf
      clear hE h0
      refine yes_of (want_free rfl) ?_
      go_simp; exact hK _ _ (gb_refl _ _) rfl
    -- 4: more.go:35 load
    apply told_is
    · intro W f hW hE h0 K hK
      have e27 : f 27 = _ := hE 0 27 _ rfl (by kernel_rfl)
      clear hE h0
      refine yes_of (want_free rfl) ?_
      obtain ⟨z0, z1, z2⟩ := HSc.out W hW
      clear z2
      go_simp; exact hK _ _ (gb_refl _ _) rfl
    -- 5: more.go:35 call
    apply told_at copyV_stays
    · intro W f hW hE h0 K hK
      have e26 := hE 2 26 _ rfl (by kernel_rfl)
      have e28 : f 28 = _ := hE 0 28 _ rfl (by kernel_rfl)
      clear hE h0
      refine yes_of (want_free rfl) ?_
      obtain ⟨ge, e26⟩ := e26
      refine upon_copy (.tmp 26) (.tmp 28) rfl ge e26 (some ⟨gB, oB, none⟩) m d l e28 (HSc.out W hW).2.2.2 HM0.out HMb.out ?_
      intro g' c' W' h1 h2 h3 h4
      exact hK _ _ h4 ⟨g', c', rfl, Nat.le_trans hW.size h2, h3, h1⟩
    -- 6: more.go:35 build
    apply told_at stV_stays
    · intro W f hW hE h0 K hK
      have e25 : f 25 = _ := hE 4 25 _ rfl (by kernel_rfl)
      have e29 := hE 0 29 _ rfl (by kernel_rfl)
      clear hE h0
      refine yes_of (want_free rfl) ?_
      obtain ⟨g', c', e29, h1, h2, h3⟩ := e29
      go_simp
      exact hK _ _ (gb_refl _ _) ⟨g', c', rfl, h1, h2, h3⟩
    -- 7: more.go:35 alloc
    apply told_at newB_stays
    · intro W f hW hE h0 K hK
      clear hE h0
      refine yes_of (want_free rfl) ?_
      go_simp
      exact hK _ _ (gb_alloc (gb_refl _ _) _) ⟨_, rfl, hW.size, Row.new _ _ _⟩
    intro W f hW hA
    simp only [lexIn, Act.put, List.setIfInBounds_toArray, List.set_cons_zero, List.set_cons_succ]
    have e30 := hA 1 (some 30) _ rfl
    have e8 := hA 0 (some 8) _ rfl
    clear hA
    obtain ⟨g1, c1, e30, hN1, hc1, hRF1⟩ := e30
    rw [e30]
    obtain ⟨gt, e8, hgN, hr⟩ := e8
    rw [e8]
    have q0 := hr.free 0
    have q1 := hr.free 1
    have u0 := hr.at_ (i := 0) rfl
    have u1 := hr.at_ (i := 1) rfl
    have k1 := gb_set1 W gt 0 (.slice A n c)
    have k2 := gb_set1 (W.setCell ⟨gt, 0, none⟩ (.slice A n c)) gt 1 (.slice (some ⟨g1, 0, none⟩) m c1)
    have hne : some g1 ≠ some gt := fun e => hRF1.ne hr (by decide) (Option.some.inj e)
    have Hrf := Lib.hid ((hRF1.kept k1 hne).kept k2 hne)
    have Hrw := Lib.hid ((hr.set_ 0 (.slice A n c)).set_ 1 (.slice (some ⟨g1, 0, none⟩) m c1))
    have Hgw := Lib.hid (gb_new (gb_new hW k1 hgN) k2 hgN)
    have HNW2 : Hid (W1.heap.size ≤ g1 ∧ W1.heap.size ≤ gt) := ⟨hN1, hgN⟩
    have HNEW2 := Lib.hid hne
    clear k1 k2 hne hN1 hgN hRF1 hW hc1
    rw [ends_is]
    go_simp
    clear q0 q1 u0 u1 hr
    go_upto_region 7 with fail
    refine Td.named (fun W' => W1.grownBy W' none ∧ Row W' gt 26 #[.slice A n c, .slice (some ⟨g1, 0, none⟩) m c1] ∧ RF W' g1 l) ⟨Hgw.out, Hrw.out, Hrf.out⟩ ?_
    rintro W2 ⟨hg, hrow, hrf⟩
    have HGW2 := Lib.hid hg
    have HrowW2 := Lib.hid hrow
    have HRFW2 := Lib.hid hrf
    clear Hgw Hrw Hrf hg hrow hrf
    apply wp_region_told_tail (le := fun a b => a.grownBy b none) 10 _ [isV _, isV _, isV _, isV _, isV _, isV _, isV _, isV _, isV _, isV _]
    case hL => rfl
    case hz => rfl
    case hLd => rfl
    case hLg => rfl
    case hLw => kernel_rfl
    case hlen => rfl
    case hn => rfl
    case hm => kernel_rfl
    case hB => kernel_rfl
    case ht => exact fun _ _ _ h k => gb_none h k
    case hw => exact gb_drew (gb_refl _ _)
    -- 0: more.go:36 fieldAddr
    apply told_is
    · intro W f hW hE h0 K hK
      have e8 := h0 8 (by kernel_rfl)
      conv at e8 => rhs; whnf
      clear hE h0
      refine yes_of (want_free rfl) ?_
      go_simp; exact hK _ _ (gb_refl _ _) rfl
    -- 1: more.go:36 load
    apply told_is
    · intro W f hW hE h0 K hK
      have e31 : f 31 = _ := hE 0 31 _ rfl (by kernel_rfl)
      clear hE h0
      refine yes_of (want_free rfl) ?_
      have y0 := (HrowW2.out.kept hW (by simp)).at_ (i := 0) rfl
      have y1 := (HrowW2.out.kept hW (by simp)).at_ (i := 1) rfl
      go_simp; exact hK _ _ (gb_refl _ _) rfl
    -- 2: more.go:36 move
    apply told_is
    · intro W f hW hE h0 K hK
      have e7 := h0 7 (by kernel_rfl)
      conv at e7 => rhs; whnf
      clear hE h0
      refine yes_of (want_free rfl) ?_
      go_simp; exact hK _ _ (gb_refl _ _) rfl
    -- 3: more.go:36 fieldAddr
    apply told_is
    · intro W f hW hE h0 K hK
      have e5 := h0 5 (by kernel_rfl)
      conv at e5 => rhs; whnf
      clear hE h0
      refine yes_of (want_free rfl) ?_
      go_simp; exact hK _ _ (gb_refl _ _) rfl
    -- 4: more.go:36 load
    apply told_is
    · intro W f hW hE h0 K hK
      have e34 : f 34 = _ := hE 0 34 _ rfl (by kernel_rfl)
      clear hE h0
      refine yes_of (want_free rfl) ?_
      obtain ⟨z0, z1, z2⟩ := HSc.out W (gb_none HGW2.out hW)
      clear z2
      go_simp; exact hK _ _ (gb_refl _ _) rfl
    -- 5: more.go:36 move
    apply told_is
    · intro W f hW hE h0 K hK
      have e7 := h0 7 (by kernel_rfl)
      conv at e7 => rhs; whnf
      clear hE h0
      refine yes_of (want_free rfl) ?_
      go_simp; exact hK _ _ (gb_refl _ _) rfl
    -- 6: more.go:36 binOp
    apply told_is
    · intro W f hW hE h0 K hK
      have e36 : f 36 = _ := hE 0 36 _ rfl (by kernel_rfl)
      clear hE h0
      refine yes_of (want_free rfl) ?_
      have t1 := Ht5.out
      go_simp; exact hK _ _ (gb_refl _ _) rfl
    -- 7: more.go:36 indexAddr
    apply told_is
    · intro W f hW hE h0 K hK
      have e35 : f 35 = _ := hE 2 35 _ rfl (by kernel_rfl)
      have e37 : f 37 = _ := hE 0 37 _ rfl (by kernel_rfl)
      clear hE h0
      refine yes_of (want_free rfl) ?_
      have b0 := HB.out; obtain ⟨b1, b2, b3⟩ := HB1.out
      go_simp; exact hK _ _ (gb_refl _ _) rfl
    -- 8: more.go:36 load
    apply told_is
    · intro W f hW hE h0 K hK
      have e38 : f 38 = _ := hE 0 38 _ rfl (by kernel_rfl)
      clear hE h0
      refine yes_of (want_free rfl) ?_
      obtain ⟨x0, x1, x2, x3, x4, x5⟩ := HY.out W (gb_none HGW2.out hW)
      go_simp; exact hK _ _ (gb_refl _ _) rfl
    -- 9: more.go:36 indexAddr
    apply told_is
    · intro W f hW hE h0 K hK
      have e32 : f 32 = _ := hE 7 32 _ rfl (by kernel_rfl)
      have e33 : f 33 = _ := hE 6 33 _ rfl (by kernel_rfl)
      clear hE h0
      refine yes_of (want_free rfl) ?_
      have b0 := HB.out; obtain ⟨b1, b2, b3⟩ := HB1.out
      go_simp; exact hK _ _ (gb_refl _ _) rfl
    intro W f hW hA
    simp only [lexIn, Act.put, List.setIfInBounds_toArray, List.set_cons_zero, List.set_cons_succ]
    have e39 : f 39 = _ := hA 1 (some 39) _ rfl
    rw [e39]
    have e40 : f 40 = _ := hA 0 (some 40) _ rfl
    rw [e40]
    clear hA
    have hat := (HRFW2.out.kept hW (by simp)).at6 Hx.out
    obtain ⟨u0, u1, u2, u3, u4, u5⟩ := hat
    have hrf := HRFW2.out.kept hW (by simp)
    have q0 := hrf.free (k * 6 )
    have q1 := hrf.free (k * 6 + 1)
    have q2 := hrf.free (k * 6 + 2)
    have q3 := hrf.free (k * 6 + 3)
    have q4 := hrf.free (k * 6 + 4)
    have q5 := hrf.free (k * 6 + 5)
    have hgr := RF.grown6 W g1 k y
    have Hrf := Lib.hid (hrf.put6 Hx.out y)
    have Hrw := Lib.hid ((HrowW2.out.kept hW (by simp)).kept hgr (Ne.symm HNEW2.out))
    have Hgw := Lib.hid (gb_new (gb_none HGW2.out hW) hgr HNW2.out.1)
    clear hgr hrf hW
    rw [ends_is]
    go_simp
    clear q0 q1 q2 q3 q4 q5 u0 u1 u2 u3 u4 u5
    go_upto_region 8 with fail
    refine Td.named (fun W' => W1.grownBy W' none ∧ Row W' gt 26 #[.slice A n c, .slice (some ⟨g1, 0, none⟩) m c1] ∧ RF W' g1 (l.set k y)) ⟨Hgw.out, Hrw.out, Hrf.out⟩ ?_
    rintro W3 ⟨hg, hrow, hrf⟩
    have HGW3 := Lib.hid hg
    have HrowW3 := Lib.hid hrow
    have HRFW3 := Lib.hid hrf
    clear Hgw Hrw Hrf hg hrow hrf
    apply wp_region_told_tail (le := fun a b => a.grownBy b none) 10 _ [isV _, isV _, isV _, isV _, isV _, isV _, isV _, isV _, isV _, isV _]
    case hL => rfl
    case hz => rfl
    case hLd => rfl
    case hLg => rfl
    case hLw => kernel_rfl
    case hlen => rfl
    case hn => rfl
    case hm => kernel_rfl
    case hB => kernel_rfl
    case ht => exact fun _ _ _ h k => gb_none h k
    case hw => exact gb_drew (gb_refl _ _)
    -- 0: more.go:37 fieldAddr
    apply told_is
    · intro W f hW hE h0 K hK
      have e8 := h0 8 (by kernel_rfl)
      conv at e8 => rhs; whnf
      clear hE h0
      refine yes_of (want_free rfl) ?_
      go_simp; exact hK _ _ (gb_refl _ _) rfl
    -- 1: more.go:37 load
    apply told_is
    · intro W f hW hE h0 K hK
      have e41 : f 41 = _ := hE 0 41 _ rfl (by kernel_rfl)
      clear hE h0
      refine yes_of (want_free rfl) ?_
      have y0 := (HrowW3.out.kept hW (by simp)).at_ (i := 0) rfl
      have y1 := (HrowW3.out.kept hW (by simp)).at_ (i := 1) rfl
      go_simp; exact hK _ _ (gb_refl _ _) rfl
    -- 2: more.go:37 move
    apply told_is
    · intro W f hW hE h0 K hK
      have e7 := h0 7 (by kernel_rfl)
      conv at e7 => rhs; whnf
      clear hE h0
      refine yes_of (want_free rfl) ?_
      go_simp; exact hK _ _ (gb_refl _ _) rfl
    -- 3: more.go:37 binOp
    apply told_is
    · intro W f hW hE h0 K hK
      have e43 : f 43 = _ := hE 0 43 _ rfl (by kernel_rfl)
      clear hE h0
      refine yes_of (want_free rfl) ?_
      have t1 := Ht5.out
      go_simp; exact hK _ _ (gb_refl _ _) rfl
    -- 4: more.go:37 fieldAddr
    apply told_is
    · intro W f hW hE h0 K hK
      have e5 := h0 5 (by kernel_rfl)
      conv at e5 => rhs; whnf
      clear hE h0
      refine yes_of (want_free rfl) ?_
      go_simp; exact hK _ _ (gb_refl _ _) rfl
    -- 5: more.go:37 load
    apply told_is
    · intro W f hW hE h0 K hK
      have e45 : f 45 = _ := hE 0 45 _ rfl (by kernel_rfl)
      clear hE h0
      refine yes_of (want_free rfl) ?_
      obtain ⟨z0, z1, z2⟩ := HSc.out W (gb_none HGW3.out hW)
      clear z2
      go_simp; exact hK _ _ (gb_refl _ _) rfl
    -- 6: more.go:37 move
    apply told_is
    · intro W f hW hE h0 K hK
      have e7 := h0 7 (by kernel_rfl)
      conv at e7 => rhs; whnf
      clear hE h0
      refine yes_of (want_free rfl) ?_
      go_simp; exact hK _ _ (gb_refl _ _) rfl
    -- 7: more.go:37 indexAddr
    apply told_is
    · intro W f hW hE h0 K hK
      have e46 : f 46 = _ := hE 1 46 _ rfl (by kernel_rfl)
      have e47 : f 47 = _ := hE 0 47 _ rfl (by kernel_rfl)
      clear hE h0
      refine yes_of (want_free rfl) ?_
      have b0 := HB.out; obtain ⟨b1, b2, b3⟩ := HB1.out
      go_simp; exact hK _ _ (gb_refl _ _) rfl
    -- 8: more.go:37 load
    apply told_is
    · intro W f hW hE h0 K hK
      have e48 : f 48 = _ := hE 0 48 _ rfl (by kernel_rfl)
      clear hE h0
      refine yes_of (want_free rfl) ?_
      obtain ⟨x0, x1, x2, x3, x4, x5⟩ := HX.out W (gb_none HGW3.out hW)
      go_simp; exact hK _ _ (gb_refl _ _) rfl
    -- 9: more.go:37 indexAddr
    apply told_is
    · intro W f hW hE h0 K hK
      have e42 : f 42 = _ := hE 7 42 _ rfl (by kernel_rfl)
      have e44 : f 44 = _ := hE 5 44 _ rfl (by kernel_rfl)
      clear hE h0
      refine yes_of (want_free rfl) ?_
      have b0 := HB.out; obtain ⟨b1, b2, b3⟩ := HB1.out
      go_simp; exact hK _ _ (gb_refl _ _) rfl
    intro W f hW hA
    simp only [lexIn, Act.put, List.setIfInBounds_toArray, List.set_cons_zero, List.set_cons_succ]
    have e49 : f 49 = _ := hA 1 (some 49) _ rfl
    rw [e49]
    have e50 : f 50 = _ := hA 0 (some 50) _ rfl
    rw [e50]
    clear hA
    have hat := (HRFW3.out.kept hW (by simp)).at6 Hy1.out
    obtain ⟨u0, u1, u2, u3, u4, u5⟩ := hat
    have hrf := HRFW3.out.kept hW (by simp)
    have q0 := hrf.free ((k + 1) * 6 )
    have q1 := hrf.free ((k + 1) * 6 + 1)
    have q2 := hrf.free ((k + 1) * 6 + 2)
    have q3 := hrf.free ((k + 1) * 6 + 3)
    have q4 := hrf.free ((k + 1) * 6 + 4)
    have q5 := hrf.free ((k + 1) * 6 + 5)
    have hgr := RF.grown6 W g1 (k + 1) x
    have Hrf := Lib.hid (hrf.put6 Hy1.out x)
    have Hrw := Lib.hid ((HrowW3.out.kept hW (by simp)).kept hgr (Ne.symm HNEW2.out))
    have Hgw := Lib.hid (gb_new (gb_none HGW3.out hW) hgr HNW2.out.1)
    clear hgr hrf hW
    rw [ends_is]
    go_simp
    clear q0 q1 q2 q3 q4 q5 u0 u1 u2 u3 u4 u5
    go_upto_region 9 with fail
    refine Td.named (fun W' => W1.grownBy W' none ∧ Row W' gt 26 #[.slice A n c, .slice (some ⟨g1, 0, none⟩) m c1] ∧ RF W' g1 ((l.set k y).set (k + 1) x)) ⟨Hgw.out, Hrw.out, Hrf.out⟩ ?_
    rintro W4 ⟨hg, hrow, hrf⟩
    have HGW4 := Lib.hid hg
    have HrowW4 := Lib.hid hrow
    have HRFW4 := Lib.hid hrf
    clear Hgw Hrw Hrf hg hrow hrf
    have HSc4 : Hid (∀ W, W4.grownBy W none → _) := fun W hW => HSc.out W (gb_none HGW4.out hW)
    apply wp_region_told_tail (le := fun a b => a.grownBy b none) 8 _ [isV _, isV _, emptyV, isV _, isV _, copyV W4.heap.size m l, stV W4.heap.size A n c m l, newB W4.heap.size 26 #[.slice none 0 0, .slice none 0 0]]
    case hL => rfl
    case hz => rfl
    case hLd => rfl
    case hLg => rfl
    case hLw => kernel_rfl
    case hlen => rfl
    case hn => rfl
    case hm => kernel_rfl
    case hB => kernel_rfl
    case ht => exact fun _ _ _ h k => gb_none h k
    case hw => exact gb_drew (gb_refl _ _)
    -- 0: more.go:38 fieldAddr
    apply told_is
    · intro W f hW hE h0 K hK
      have e5 := h0 5 (by kernel_rfl)
      conv at e5 => rhs; whnf
      clear hE h0
      refine yes_of (want_free rfl) ?_
      go_simp; exact hK _ _ (gb_refl _ _) rfl
    -- 1: more.go:38 load
    apply told_is
    · intro W f hW hE h0 K hK
      have e51 : f 51 = _ := hE 0 51 _ rfl (by kernel_rfl)
      clear hE h0
      refine yes_of (want_free rfl) ?_
      obtain ⟨z0, z1, z2⟩ := HSc4.out W hW
      clear z2
      go_simp; exact hK _ _ (gb_refl _ _) rfl
    -- 2: more.go:38 buildSlice
    apply told_at emptyV_stays
    · intro W f hW hE h0 K hK
      clear hE h0
      refine yes_of (want_free rfl) ?_
      go_simp
      exact hK _ _ (gb_alloc (gb_refl _ _) _) ⟨_, rfl⟩
    -- 3: more.go:38 fieldAddr
    apply told_is
    · intro W f hW hE h0 K hK
      have e5 := h0 5 (by kernel_rfl)
      conv at e5 => rhs; whnf
      clear hE h0
      refine yes_of (want_free rfl) ?_
      go_simp; exact hK _ _ (gb_refl _ _) rfl
    -- 4: more.go:38 load
    apply told_is
    · intro W f hW hE h0 K hK
      have e54 : f 54 = _ := hE 0 54 _ rfl (by kernel_rfl)
      clear hE h0
      refine yes_of (want_free rfl) ?_
      obtain ⟨z0, z1, z2⟩ := HSc4.out W hW
      clear z2
      go_simp; exact hK _ _ (gb_refl _ _) rfl
    -- 5: more.go:38 call
    apply told_at copyV_stays
    · intro W f hW hE h0 K hK
      have e53 := hE 2 53 _ rfl (by kernel_rfl)
      have e55 : f 55 = _ := hE 0 55 _ rfl (by kernel_rfl)
      clear hE h0
      refine yes_of (want_free rfl) ?_
      obtain ⟨ge, e53⟩ := e53
      refine upon_copy (.tmp 53) (.tmp 55) rfl ge e53 (some ⟨gB, oB, none⟩) m d l e55 (HSc4.out W hW).2.2.2 HM0.out HMb.out ?_
      intro g' c' W' h1 h2 h3 h4
      exact hK _ _ h4 ⟨g', c', rfl, Nat.le_trans hW.size h2, h3, h1⟩
    -- 6: more.go:38 build
    apply told_at stV_stays
    · intro W f hW hE h0 K hK
      have e52 : f 52 = _ := hE 4 52 _ rfl (by kernel_rfl)
      have e56 := hE 0 56 _ rfl (by kernel_rfl)
      clear hE h0
      refine yes_of (want_free rfl) ?_
      obtain ⟨g', c', e56, h1, h2, h3⟩ := e56
      go_simp
      exact hK _ _ (gb_refl _ _) ⟨g', c', rfl, h1, h2, h3⟩
    -- 7: more.go:38 alloc
    apply told_at newB_stays
    · intro W f hW hE h0 K hK
      clear hE h0
      refine yes_of (want_free rfl) ?_
      go_simp
      exact hK _ _ (gb_alloc (gb_refl _ _) _) ⟨_, rfl, hW.size, Row.new _ _ _⟩
    intro W f hW hA
    simp only [lexIn, Act.put, List.setIfInBounds_toArray, List.set_cons_zero, List.set_cons_succ]
    have e57 := hA 1 (some 57) _ rfl
    have e9 := hA 0 (some 9) _ rfl
    clear hA
    obtain ⟨g2, c2, e57, hN1, hc1, hRF1⟩ := e57
    rw [e57]
    obtain ⟨gu, e9, hgN, hr⟩ := e9
    rw [e9]
    have q0 := hr.free 0
    have q1 := hr.free 1
    have u0 := hr.at_ (i := 0) rfl
    have u1 := hr.at_ (i := 1) rfl
    have k1 := gb_set1 W gu 0 (.slice A n c)
    have k2 := gb_set1 (W.setCell ⟨gu, 0, none⟩ (.slice A n c)) gu 1 (.slice (some ⟨g2, 0, none⟩) m c2)
    have hne : some g2 ≠ some gu := fun e => hRF1.ne hr (by decide) (Option.some.inj e)
    have Hrf := Lib.hid ((hRF1.kept k1 hne).kept k2 hne)
    have Hrw := Lib.hid ((hr.set_ 0 (.slice A n c)).set_ 1 (.slice (some ⟨g2, 0, none⟩) m c2))
    have Hgw := Lib.hid (gb_new (gb_new hW k1 hgN) k2 hgN)
    have HNW5 : Hid (W4.heap.size ≤ g2 ∧ W4.heap.size ≤ gu) := ⟨hN1, hgN⟩
    have HNEW5 := Lib.hid hne
    clear k1 k2 hne hN1 hgN hRF1 hW hc1
    rw [ends_is]
    go_simp
    clear q0 q1 u0 u1 hr
    go_upto_region 10 with fail
    refine Td.named (fun W' => W4.grownBy W' none ∧ Row W' gu 26 #[.slice A n c, .slice (some ⟨g2, 0, none⟩) m c2] ∧ RF W' g2 l) ⟨Hgw.out, Hrw.out, Hrf.out⟩ ?_
    rintro W5 ⟨hg, hrow, hrf⟩
    have HGW5 := Lib.hid hg
    have HrowW5 := Lib.hid hrow
    have HRFW5 := Lib.hid hrf
    clear Hgw Hrw Hrf hg hrow hrf
    apply wp_region_told_tail (le := fun a b => a.grownBy b none) 10 _ [isV _, isV _, isV _, isV _, isV _, isV _, isV _, isV _, isV _, isV _]
    case hL => rfl
    case hz => rfl
    case hLd => rfl
    case hLg => rfl
    case hLw => kernel_rfl
    case hlen => rfl
    case hn => rfl
    case hm => kernel_rfl
    case hB => kernel_rfl
    case ht => exact fun _ _ _ h k => gb_none h k
    case hw => exact gb_drew (gb_refl _ _)
    -- 0: more.go:39 fieldAddr
    apply told_is
    · intro W f hW hE h0 K hK
      have e9 := h0 9 (by kernel_rfl)
      conv at e9 => rhs; whnf
      clear hE h0
      refine yes_of (want_free rfl) ?_
      go_simp; exact hK _ _ (gb_refl _ _) rfl
    -- 1: more.go:39 load
    apply told_is
    · intro W f hW hE h0 K hK
      have e58 : f 58 = _ := hE 0 58 _ rfl (by kernel_rfl)
      clear hE h0
      refine yes_of (want_free rfl) ?_
      have y0 := (HrowW5.out.kept hW (by simp)).at_ (i := 0) rfl
      have y1 := (HrowW5.out.kept hW (by simp)).at_ (i := 1) rfl
      go_simp; exact hK _ _ (gb_refl _ _) rfl
    -- 2: more.go:39 move
    apply told_is
    · intro W f hW hE h0 K hK
      have e7 := h0 7 (by kernel_rfl)
      conv at e7 => rhs; whnf
      clear hE h0
      refine yes_of (want_free rfl) ?_
      go_simp; exact hK _ _ (gb_refl _ _) rfl
    -- 3: more.go:39 binOp
    apply told_is
    · intro W f hW hE h0 K hK
      have e60 : f 60 = _ := hE 0 60 _ rfl (by kernel_rfl)
      clear hE h0
      refine yes_of (want_free rfl) ?_
      have t1 := Ht5.out
      go_simp; exact hK _ _ (gb_refl _ _) rfl
    -- 4: more.go:39 fieldAddr
    apply told_is
    · intro W f hW hE h0 K hK
      have e9 := h0 9 (by kernel_rfl)
      conv at e9 => rhs; whnf
      clear hE h0
      refine yes_of (want_free rfl) ?_
      go_simp; exact hK _ _ (gb_refl _ _) rfl
    -- 5: more.go:39 load
    apply told_is
    · intro W f hW hE h0 K hK
      have e62 : f 62 = _ := hE 0 62 _ rfl (by kernel_rfl)
      clear hE h0
      refine yes_of (want_free rfl) ?_
      have y0 := (HrowW5.out.kept hW (by simp)).at_ (i := 0) rfl
      have y1 := (HrowW5.out.kept hW (by simp)).at_ (i := 1) rfl
      go_simp; exact hK _ _ (gb_refl _ _) rfl
    -- 6: more.go:39 move
    apply told_is
    · intro W f hW hE h0 K hK
      have e7 := h0 7 (by kernel_rfl)
      conv at e7 => rhs; whnf
      clear hE h0
      refine yes_of (want_free rfl) ?_
      go_simp; exact hK _ _ (gb_refl _ _) rfl
    -- 7: more.go:39 indexAddr
    apply told_is
    · intro W f hW hE h0 K hK
      have e63 : f 63 = _ := hE 1 63 _ rfl (by kernel_rfl)
      have e64 : f 64 = _ := hE 0 64 _ rfl (by kernel_rfl)
      clear hE h0
      refine yes_of (want_free rfl) ?_
      have b0 := HB.out; obtain ⟨b1, b2, b3⟩ := HB1.out
      go_simp; exact hK _ _ (gb_refl _ _) rfl
    -- 8: more.go:39 load
    apply told_is
    · intro W f hW hE h0 K hK
      have e65 : f 65 = _ := hE 0 65 _ rfl (by kernel_rfl)
      clear hE h0
      refine yes_of (want_free rfl) ?_
      obtain ⟨x0, x1, x2, x3, x4, x5⟩ := (HRFW5.out.kept hW (by simp)).at6 Hx.out
      go_simp; exact hK _ _ (gb_refl _ _) rfl
    -- 9: more.go:39 indexAddr
    apply told_is
    · intro W f hW hE h0 K hK
      have e59 : f 59 = _ := hE 7 59 _ rfl (by kernel_rfl)
      have e61 : f 61 = _ := hE 5 61 _ rfl (by kernel_rfl)
      clear hE h0
      refine yes_of (want_free rfl) ?_
      have b0 := HB.out; obtain ⟨b1, b2, b3⟩ := HB1.out
      go_simp; exact hK _ _ (gb_refl _ _) rfl
    intro W f hW hA
    simp only [lexIn, Act.put, List.setIfInBounds_toArray, List.set_cons_zero, List.set_cons_succ]
    have e66 : f 66 = _ := hA 1 (some 66) _ rfl
    rw [e66]
    have e67 : f 67 = _ := hA 0 (some 67) _ rfl
    rw [e67]
    clear hA
    have hat := (HRFW5.out.kept hW (by simp)).at6 Hy.out
    obtain ⟨u0, u1, u2, u3, u4, u5⟩ := hat
    have hrf := HRFW5.out.kept hW (by simp)
    have q0 := hrf.free ((k + 1) * 6 )
    have q1 := hrf.free ((k + 1) * 6 + 1)
    have q2 := hrf.free ((k + 1) * 6 + 2)
    have q3 := hrf.free ((k + 1) * 6 + 3)
    have q4 := hrf.free ((k + 1) * 6 + 4)
    have q5 := hrf.free ((k + 1) * 6 + 5)
    have hgr := RF.grown6 W g2 (k + 1) x
    have Hrf := Lib.hid (hrf.put6 Hy.out x)
    have Hrw := Lib.hid ((HrowW5.out.kept hW (by simp)).kept hgr (Ne.symm HNEW5.out))
    have Hgw := Lib.hid (gb_new (gb_none HGW5.out hW) hgr HNW5.out.1)
    clear hgr hrf hW
    rw [ends_is]
    go_simp
    clear q0 q1 q2 q3 q4 q5 u0 u1 u2 u3 u4 u5
    go_upto_region 11 with fail
    refine Td.named (fun W' => W4.grownBy W' none ∧ Row W' gu 26 #[.slice A n c, .slice (some ⟨g2, 0, none⟩) m c2] ∧ RF W' g2 (l.set (k + 1) x)) ⟨Hgw.out, Hrw.out, Hrf.out⟩ ?_
    rintro W6 ⟨hg, hrow, hrf⟩
    have HGW6 := Lib.hid hg
    have HrowW6 := Lib.hid hrow
    have HRFW6 := Lib.hid hrf
    clear Hgw Hrw Hrf hg hrow hrf
    have HG6 : Hid (W1.grownBy W6 none) := gb_none HGW4.out HGW6.out
    have HSc6 : Hid (∀ W, W6.grownBy W none → _) := fun W hW => HSc.out W (gb_none HG6.out hW)
    have HX6 : Hid (∀ W, W6.grownBy W none → _) := fun W hW => HX.out W (gb_none HG6.out hW)
    obtain ⟨Lo, hLo⟩ : ∃ Lo, (ofR [] [(x.d, x.n)]).length = Lo := ⟨_, rfl⟩
    obtain ⟨rm, hrm⟩ : ∃ rm, minusR s.seen (ofR [] [(x.d, x.n)]) = rm := ⟨_, rfl⟩
    obtain ⟨Lm, hLm⟩ : ∃ Lm, rm.length = Lm := ⟨_, rfl⟩
    have HLo := Lib.hid hLo
    have Hrm := Lib.hid hrm
    have HLm := Lib.hid hLm
    have HLob : Hid (Lo ≤ 1) := by show Lo ≤ 1; rw [← hLo]; exact of_len _
    have HLmb : Hid (Lm ≤ 320) := by
      show Lm ≤ 320
      rw [← hLm, ← hrm]
      have h := runs_len (minus_may HMays.out.1 (of_may [(x.d, x.n)])) 40 (fun d n hh => (HLows.out d n ((minus_has HMays.out.1 (of_may _) d n).1 hh).1))
      omega
    have Hxin : Hid (x ∈ s.facts) := by have := List.mem_of_getElem? Hx.out; rw [← Hl.out] at this; exact this
    have HnotV : Hid (¬ MayS ⟨rm, l⟩) := by
      refine not_may_seen (f := x) (by have := List.mem_of_getElem? Hx.out; exact this) ?_
      show ¬ Has rm x.d x.n
      rw [← Hrm.out, minus_has HMays.out.1 (of_may _), of_has]
      rintro ⟨h1, h2⟩
      have hok := HMays.out.1.ok h1
      exact h2 ⟨by simp, by unfold Ok at *; dsimp only; omega⟩
    have HnotT : Hid (¬ MayS ⟨s.seen, (l.set k y).set (k + 1) x⟩) := by
      refine not_may_sor (not_sor (i := k) (j := k + 1) (x := y) (y := x) ?_ (set_at Hy1.out x) (by omega) ?_)
      · show ((l.set k y).set (k + 1) x)[k]? = some y
        rw [List.getElem?_set_ne (by omega)]; exact set_at Hx.out y
      · have hs := HMays.out.2.2.2
        rw [Hl.out] at hs
        exact fun h => (hs.next Hx.out Hy.out (by omega)).asym h
    have HnotU : Hid (¬ MayS ⟨s.seen, l.set (k + 1) x⟩) := by
      refine not_may_sor (not_sor (i := k) (j := k + 1) (x := x) (y := x) ?_ (set_at Hy.out x) (by omega) fun h => h.irr ⟨rfl, rfl⟩)
      show (l.set (k + 1) x)[k]? = some x
      rw [List.getElem?_set_ne (by omega)]; exact Hx.out
    have HlT : Hid (((l.set k y).set (k + 1) x).length = m) := by show _ = _; rw [List.length_set, List.length_set, Hlen.out]
    have HlU : Hid ((l.set (k + 1) x).length = m) := by show _ = _; rw [List.length_set, Hlen.out]
    clear hLo hrm hLm
    apply wp_region_told_tail (le := fun a b => a.grownBy b none) 15 _ [isV _, isV _, isV _, isV _, isV _, isV _, isV _, isV _, dotV (x.d, x.n), runV Lo (ofR [] [(x.d, x.n)]), runV Lm rm, isV _, isV _, minV Lm rm (some ⟨gB, oB, none⟩) m d, newB W6.heap.size 26 #[.slice none 0 0, .slice none 0 0]]
    case hL => rfl
    case hz => rfl
    case hLd => rfl
    case hLg => rfl
    case hLw => kernel_rfl
    case hlen => rfl
    case hn => rfl
    case hm => kernel_rfl
    case hB => kernel_rfl
    case ht => exact fun _ _ _ h k => gb_none h k
    case hw => exact gb_drew (gb_refl _ _)
    -- 0: more.go:40 fieldAddr
    apply told_is
    · intro W f hW hE h0 K hK
      have e5 := h0 5 (by kernel_rfl)
      conv at e5 => rhs; whnf
      clear hE h0
      refine yes_of (want_free rfl) ?_
      go_simp; exact hK _ _ (gb_refl _ _) rfl
    -- 1: more.go:40 load
    apply told_is
    · intro W f hW hE h0 K hK
      have e68 : f 68 = _ := hE 0 68 _ rfl (by kernel_rfl)
      clear hE h0
      refine yes_of (want_free rfl) ?_
      obtain ⟨z0, z1, z2⟩ := HSc6.out W hW
      clear z2
      go_simp; exact hK _ _ (gb_refl _ _) rfl
    -- 2: more.go:40 fieldAddr
    apply told_is
    · intro W f hW hE h0 K hK
      have e5 := h0 5 (by kernel_rfl)
      conv at e5 => rhs; whnf
      clear hE h0
      refine yes_of (want_free rfl) ?_
      go_simp; exact hK _ _ (gb_refl _ _) rfl
    -- 3: more.go:40 load
    apply told_is
    · intro W f hW hE h0 K hK
      have e70 : f 70 = _ := hE 0 70 _ rfl (by kernel_rfl)
      clear hE h0
      refine yes_of (want_free rfl) ?_
      obtain ⟨z0, z1, z2⟩ := HSc6.out W hW
      clear z2
      go_simp; exact hK _ _ (gb_refl _ _) rfl
    -- 4: more.go:40 move
    apply told_is
    · intro W f hW hE h0 K hK
      have e7 := h0 7 (by kernel_rfl)
      conv at e7 => rhs; whnf
      clear hE h0
      refine yes_of (want_free rfl) ?_
      go_simp; exact hK _ _ (gb_refl _ _) rfl
    -- 5: more.go:40 indexAddr
    apply told_is
    · intro W f hW hE h0 K hK
      have e71 : f 71 = _ := hE 1 71 _ rfl (by kernel_rfl)
      have e72 : f 72 = _ := hE 0 72 _ rfl (by kernel_rfl)
      clear hE h0
      refine yes_of (want_free rfl) ?_
      have b0 := HB.out; obtain ⟨b1, b2, b3⟩ := HB1.out
      go_simp; exact hK _ _ (gb_refl _ _) rfl
    -- 6: more.go:40 fieldAddr
    apply told_is
    · intro W f hW hE h0 K hK
      have e73 : f 73 = _ := hE 0 73 _ rfl (by kernel_rfl)
      clear hE h0
      refine yes_of (want_free rfl) ?_
      go_simp; exact hK _ _ (gb_refl _ _) rfl
    -- 7: more.go:40 load
    apply told_is
    · intro W f hW hE h0 K hK
      have e74 : f 74 = _ := hE 0 74 _ rfl (by kernel_rfl)
      clear hE h0
      refine yes_of (want_free rfl) ?_
      obtain ⟨x0, x1, x2, x3, x4, x5⟩ := HX6.out W hW
      go_simp; exact hK _ _ (gb_refl _ _) rfl
    -- 8: more.go:40 buildSlice
    apply told_at dotV_stays
    · intro W f hW hE h0 K hK
      have e75 : f 75 = _ := hE 0 75 _ rfl (by kernel_rfl)
      clear hE h0
      refine yes_of (want_free rfl) ?_
      go_simp
      exact hK _ _ (gb_alloc (gb_refl _ _) _) ⟨_, rfl, dl_new1 _ _ _⟩
    -- 9: more.go:40 call
    apply told_at runV_stays
    · intro W f hW hE h0 K hK
      have e76 := hE 0 76 _ rfl (by kernel_rfl)
      clear hE h0
      refine yes_of (want_free rfl) ?_
      obtain ⟨gd, e76, hdl⟩ := e76
      go_simp
      refine (refOf_any (some ⟨gd, 0, none⟩) 1 1 [(x.d, x.n)] W hdl (by decide)).mono ?_
      rintro e w1' ⟨A2, c2', he, f2, h2, g⟩; rw [HLo.out] at he f2 h2; subst he
      exact ⟨_, rfl, hK _ _ g ⟨A2, c2', rfl, f2, h2.2⟩⟩
    -- 10: more.go:40 call
    apply told_at runV_stays
    · intro W f hW hE h0 K hK
      have e69 : f 69 = _ := hE 8 69 _ rfl (by kernel_rfl)
      have e77 := hE 0 77 _ rfl (by kernel_rfl)
      clear hE h0
      refine yes_of (want_free rfl) ?_
      obtain ⟨A2, c2', e77, f2, h2⟩ := e77
      go_simp
      refine (refMinus_any A A2 n c Lo c2' s.seen _ W (HSc6.out W hW).2.2.1 f2 HMays.out.1 (of_may _) (by have := Hnm.out; omega) (by have := HLob.out; omega)).mono ?_
      rintro e w1' ⟨A3, c3, he, f3, h3, g⟩; rw [Hrm.out] at he f3 h3; rw [HLm.out] at he f3 h3; subst he
      exact ⟨_, rfl, hK _ _ g ⟨A3, c3, rfl, f3, h3.2⟩⟩
    -- 11: more.go:40 fieldAddr
    apply told_is
    · intro W f hW hE h0 K hK
      have e5 := h0 5 (by kernel_rfl)
      conv at e5 => rhs; whnf
      clear hE h0
      refine yes_of (want_free rfl) ?_
      go_simp; exact hK _ _ (gb_refl _ _) rfl
    -- 12: more.go:40 load
    apply told_is
    · intro W f hW hE h0 K hK
      have e79 : f 79 = _ := hE 0 79 _ rfl (by kernel_rfl)
      clear hE h0
      refine yes_of (want_free rfl) ?_
      obtain ⟨z0, z1, z2⟩ := HSc6.out W hW
      clear z2
      go_simp; exact hK _ _ (gb_refl _ _) rfl
    -- 13: more.go:40 build
    apply told_at minV_stays
    · intro W f hW hE h0 K hK
      have e78 := hE 2 78 _ rfl (by kernel_rfl)
      have e80 : f 80 = _ := hE 0 80 _ rfl (by kernel_rfl)
      clear hE h0
      refine yes_of (want_free rfl) ?_
      obtain ⟨A3, c3, e78, f3, h3⟩ := e78
      go_simp
      exact hK _ _ (gb_refl _ _) ⟨A3, c3, rfl, f3, h3⟩
    -- 14: more.go:40 alloc
    apply told_at newB_stays
    · intro W f hW hE h0 K hK
      clear hE h0
      refine yes_of (want_free rfl) ?_
      go_simp
      exact hK _ _ (gb_alloc (gb_refl _ _) _) ⟨_, rfl, hW.size, Row.new _ _ _⟩
    intro W f hW hA
    simp only [lexIn, Act.put, List.setIfInBounds_toArray, List.set_cons_zero, List.set_cons_succ]
    have e81 := hA 1 (some 81) _ rfl
    have e10 := hA 0 (some 10) _ rfl
    clear hA
    obtain ⟨A3, c3, e81, hrl, hc3⟩ := e81
    rw [e81]
    obtain ⟨gv, e10, hgN, hr⟩ := e10
    rw [e10]
    have q0 := hr.free 0
    have q1 := hr.free 1
    have u0 := hr.at_ (i := 0) rfl
    have u1 := hr.at_ (i := 1) rfl
    have k1 := gb_set1 W gv 0 (.slice A3 Lm c3)
    have k2 := gb_set1 (W.setCell ⟨gv, 0, none⟩ (.slice A3 Lm c3)) gv 1 (.slice (some ⟨gB, oB, none⟩) m d)
    have r1 := hr.set_ 0 (.slice A3 Lm c3)
    have Hrl := Lib.hid (rl_beside (rl_beside hrl k1 hr) k2 r1)
    have Hrw := Lib.hid (r1.set_ 1 (.slice (some ⟨gB, oB, none⟩) m d))
    have Hgw := Lib.hid (gb_new (gb_new hW k1 hgN) k2 hgN)
    clear k1 k2 r1 hrl hgN hW hc3
    rw [ends_is]
    go_simp
    clear q0 q1 u0 u1 hr
    go_upto_region 12 with fail
    refine Td.named (fun W' => W6.grownBy W' none ∧ Row W' gv 26 #[.slice A3 Lm c3, .slice (some ⟨gB, oB, none⟩) m d] ∧ RL W' A3 Lm rm) ⟨Hgw.out, Hrw.out, Hrl.out⟩ ?_
    rintro W7 ⟨hg, hrow, hrl⟩
    have HGW7 := Lib.hid hg
    have HrowW7 := Lib.hid hrow
    have HRL7 := Lib.hid hrl
    clear Hgw Hrw Hrl hg hrow hrl
    have HK7 : Hid (∀ W, W7.grownBy W none → ((W.cell? ⟨hb, 0, none⟩ = some (.slice A n c) ∧ W.cell? ⟨hb, 1, none⟩ = some (.slice (some ⟨gB, oB, none⟩) m d)) ∧ (W.cell? ⟨gt, 0, none⟩ = some (.slice A n c) ∧ W.cell? ⟨gt, 1, none⟩ = some (.slice (some ⟨g1, 0, none⟩) m c1)) ∧ (W.cell? ⟨gu, 0, none⟩ = some (.slice A n c) ∧ W.cell? ⟨gu, 1, none⟩ = some (.slice (some ⟨g2, 0, none⟩) m c2)) ∧ (W.cell? ⟨gv, 0, none⟩ = some (.slice A3 Lm c3) ∧ W.cell? ⟨gv, 1, none⟩ = some (.slice (some ⟨gB, oB, none⟩) m d)))) := fun W hW => by
      have h1 := HSc6.out W (gb_none HGW7.out hW)
      have h2 := HrowW4.out.kept (gb_none HGW6.out (gb_none HGW7.out hW)) (by simp)
      have h3 := HrowW6.out.kept (gb_none HGW7.out hW) (by simp)
      have h4 := HrowW7.out.kept hW (by simp)
      exact ⟨⟨h1.1, h1.2.1⟩, ⟨h2.at_ (i := 0) rfl, h2.at_ (i := 1) rfl⟩, ⟨h3.at_ (i := 0) rfl, h3.at_ (i := 1) rfl⟩, ⟨h4.at_ (i := 0) rfl, h4.at_ (i := 1) rfl⟩⟩
    have HS7 : Hid (∀ W, W7.grownBy W none → SL W A n (some ⟨gB, oB, none⟩) m s) := fun W hW => by
      have h1 := HSc6.out W (gb_none HGW7.out hW)
      exact ⟨h1.2.2.1, by rw [Hl.out]; exact h1.2.2.2⟩
    have HT7 : Hid (∀ W, W7.grownBy W none → SL W A n (some ⟨g1, 0, none⟩) m ⟨s.seen, (l.set k y).set (k + 1) x⟩) := fun W hW => ⟨(HS7.out W hW).1, (HRFW4.out.kept (gb_none HGW6.out (gb_none HGW7.out hW)) (by simp)).fl HlT.out⟩
    have HU7 : Hid (∀ W, W7.grownBy W none → SL W A n (some ⟨g2, 0, none⟩) m ⟨s.seen, l.set (k + 1) x⟩) := fun W hW => ⟨(HS7.out W hW).1, (HRFW6.out.kept (gb_none HGW7.out hW) (by simp)).fl HlU.out⟩
    have HV7 : Hid (∀ W, W7.grownBy W none → SL W A3 Lm (some ⟨gB, oB, none⟩) m ⟨rm, l⟩) := fun W hW => ⟨HRL7.out.keep hW, by rw [← Hl.out]; exact (HS7.out W hW).2⟩
    have HB7 : Hid (∀ W, W7.grownBy W none → SL W A n none 0 ⟨s.seen, []⟩) := fun W hW => ⟨(HS7.out W hW).1, FL.none _ _⟩
    have Hfin : Hid (w.grownBy W7 none) := gb_none HG1.out (gb_none HG6.out HGW7.out)
    obtain ⟨⟨p0, p1⟩, ⟨p2, p3⟩, ⟨p4, p5⟩, ⟨p6, p7⟩⟩ := HK7.out W7 (gb_refl _ _)
    go_wp2_with (go_at_call 13; first
      | (with_reducible refine (pMayS_any A (some ⟨gB, oB, none⟩) n c m d s W7 (HS7.out W7 (gb_refl _ _)) (by have := Hnm.out; omega) (by have := Hnm.out; omega)).mono ?_); intro e v1 hh; obtain ⟨he, gg⟩ := hh.yes HMays.out; clear hh; subst he; have Hv1 := Lib.hid gg; obtain ⟨⟨a10, a11⟩, ⟨a12, a13⟩, ⟨a14, a15⟩, ⟨a16, a17⟩⟩ := HK7.out v1 gg; clear gg
      | (with_reducible refine (pMayS_any A (some ⟨g1, 0, none⟩) n c m c1 _ v1 (HT7.out v1 Hv1.out) (by have := Hnm.out; omega) (by have := Hnm.out; omega)).mono ?_); intro e v2 hh; obtain ⟨he, gg⟩ := hh.no HnotT.out; clear hh; subst he; have Hv2 := Lib.hid (gb_none Hv1.out gg); obtain ⟨⟨b10, b11⟩, ⟨b12, b13⟩, ⟨b14, b15⟩, ⟨b16, b17⟩⟩ := HK7.out v2 Hv2.out; clear gg
      | (with_reducible refine (pMayS_any A (some ⟨g2, 0, none⟩) n c m c2 _ v2 (HU7.out v2 Hv2.out) (by have := Hnm.out; omega) (by have := Hnm.out; omega)).mono ?_); intro e v3 hh; obtain ⟨he, gg⟩ := hh.no HnotU.out; clear hh; subst he; have Hv3 := Lib.hid (gb_none Hv2.out gg); obtain ⟨⟨e10, e11⟩, ⟨e12, e13⟩, ⟨e14, e15⟩, ⟨e16, e17⟩⟩ := HK7.out v3 Hv3.out; clear gg
      | (with_reducible refine (pMayS_any A3 (some ⟨gB, oB, none⟩) Lm c3 m d _ v3 (HV7.out v3 Hv3.out) (by have := HLmb.out; omega) (by have := Hnm.out; omega)).mono ?_); intro e v4 hh; obtain ⟨he, gg⟩ := hh.no HnotV.out; clear hh; subst he; have Hv4 := Lib.hid (gb_none Hv3.out gg); obtain ⟨⟨f10, f11⟩, ⟨f12, f13⟩, ⟨f14, f15⟩, ⟨f16, f17⟩⟩ := HK7.out v4 Hv4.out; clear gg
      | (with_reducible refine (pMayS_any A none n c 0 0 _ v4 (HB7.out v4 Hv4.out) (by have := Hnm.out; omega) (by omega)).mono ?_); intro e v5 hh; obtain ⟨he, gg⟩ := hh.yes (may_bare HMays.out); clear hh; subst he; have Hv5 := Lib.hid (gb_none Hv4.out gg); clear gg)
    go_wp2_with (go_at_call 19; refine (awake8_any _).mono ?_; rintro e w7 ⟨rfl, g7⟩)
    go_ret
    exact ⟨rfl, gb_below (gb_none Hfin.out (gb_none Hv5.out g7)) (Nat.le_refl _)⟩

set_option maxRecDepth 100000 in
theorem lifted (os : Os) (started : os.Started) (H : Type) (enc : TypeId × Value → H) :
    ReturnsInHanded {} Try.checked os 5 .any (Rows.factsMaySpec.pre6 enc Try.prog Try.f5 Rows.factsMayRow.domain false) (Rows.factsMaySpec.post enc Try.prog Try.f5 false true false false) := by
  refine returnsInHanded_of_change (C := Try.checked) own started (by kernel_rfl) Try.func5
    (ChangeSpec.witness6 (enc := enc) (C := Try.checked) false ⟨#[], #[.slice none 0 0, .int .u8 0], []⟩ 8 (by kernel_rfl) (by kernel_rfl) (by kernel_rfl) (by kernel_rfl)) ?_
  intro W base args ds gs before hval0 hW hcnd _
  have hval : ∀ (j : Nat) t v, Try.f5.params[j]? = some t → args[j]? = some v → Value.okWide Try.prog W .any base t v := hval0
  have hW' := hW
  obtain ⟨p, q, hA0, hV, rfl, hfz, hnd⟩ := hW
  have hA : DataW.TrodAll enc Try.prog W 0 (fun _ => true) true Try.f5.params.toList args.toList ds p := hA0
  rw [Try.params5] at hA hval
  obtain ⟨v0, vs0, d0, ds0, p0, q0, hargs, rfl, rfl, h0, r0⟩ := trodAll_cons hA
  obtain ⟨v1, vs1, d1, ds1, p1, q1, rfl, rfl, rfl, h1, r1⟩ := trodAll_cons r0
  obtain ⟨rfl, rfl, rfl⟩ := trodAll_nil r1
  obtain rfl : args = #[v0, v1] := by cases args; simp_all
  obtain ⟨rfl, rfl⟩ := trodVars_none hV
  have k0 := h0
  have lt0 : ∀ x ∈ p0, x.block < W.heap.size := by obtain ⟨m, hm⟩ := k0; exact DataW.trod_lt m _ _ _ hm
  obtain ⟨a0, len0, cap0, rfl⟩ := okWide_slice Try.underlying22 (hval 0 22 v0 rfl rfl)
  obtain ⟨z0, w0⟩ : ∃ zs, IsRow .u8 W a0 len0 cap0 zs := by
    obtain ⟨fuel, hf⟩ := h0
    rcases open_ints Try.underlying22 Try.underlying5 (by kernel_rfl) hf with ⟨hcs, _⟩ | ⟨x, l, c, zs, hcs, _, hl, hm, hz, _, hcell, hwz⟩
    · simp [Value.cells] at hcs
      obtain ⟨rfl, rfl, rfl⟩ := hcs
      exact ⟨[], .inl ⟨rfl, rfl, rfl, rfl⟩⟩
    · simp [Value.cells] at hcs
      obtain ⟨rfl, rfl, rfl⟩ := hcs
      exact ⟨zs, .inr ⟨_, rfl, hl, hm, by simpa using hz, hcell, hwz⟩⟩
  obtain ⟨a1, rfl, rfl, rfl, w1⟩ := open_int Try.underlying5 (hval 1 5 v1 rfl rfl) h1
  clear hA0 hval0
  refine (walk a0 len0 cap0 z0 a1 W w0 w1).mono fun e W' ⟨he, bel⟩ => ?_
  subst he
  exact ⟨_, rfl, _, _, _, [], _, [], hW', trodAll_mk1 (shut_bool Try.underlying4 _), (trodAll_cons_mk (Below.trod laidOut (by kernel_rfl) (of_decide_eq_true (by kernel_rfl)) k0 bel lt0) (trodAll_cons_mk (shut_int Try.underlying5 w1) trodAll_mk0)), rfl, bel.frame _, fun h => by cases h⟩

theorem over : Rows.factsMayRow.holds Try.pinned (OpenSpec.ofChange Rows.factsMaySpec) :=
  OpenClaim.holds_of_wide 5 Try.f5 rfl rfl rfl rfl rfl rfl rfl ⟨rfl, rfl, rfl, rfl, rfl⟩ rfl rfl rfl rfl rfl (by kernel_rfl) Try.func5 (by kernel_rfl)
    (of_decide_eq_true (by kernel_rfl)) (by unfold Func.isWrapper; first | (rw [if_pos (by decide +kernel)]; kernel_rfl) | (rw [if_neg (by decide +kernel)]; exact ⟨rfl, rfl⟩))
    (fun os started H enc _ => lifted os started H enc)

theorem proved : Rows.FactsMaySaid := over
#print axioms proved
end Go.Proofs.Ytkjjgbcbgjgjeaa.factsMay
