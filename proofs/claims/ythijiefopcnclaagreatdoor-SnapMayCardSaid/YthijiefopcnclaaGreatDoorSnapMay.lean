/-
  Proved: whatever values of its parameters' types it is called with, deaddroplaw13.SnapMay returns true, and each argument reads behind the call as it read before; the listed package-level variables being what the program's own text lays (the card ties them).
  Conditions: none but those of the card itself.
-/
import Derived.Test.YthijiefopcnclaaGreatDoorCards
import Derived.Test.YthijiefopcnclaaGreatDoorTie
import Derived.WalkKit
import Derived.ProofKit
import Derived.OpenShut
import Derived.ShutString
import Derived.Below
import Derived.ChangeOld
import Derived.Deep.DeepHandedRow
import Derived.LaidSub
import Derived.LaidHandle
import Derived.LaidLaws
import Derived.RowKitTokens
import Derived.Stop.LaidTwo
import Derived.Test.YthijiefopcnclaaGreatDoorSnLaw
import Derived.Test.YthijiefopcnclaaGreatDoorZRow
import Derived.Test.YthijiefopcnclaaGreatDoorFtCopy
import Derived.Test.YthijiefopcnclaaGreatDoorTdA
import Derived.Deep.DeepCutAuto
import Derived.Deep.CutBlock

namespace Go.Proofs.YthijiefopcnclaaGreatDoor.snapMay
open Go.ChangeShapes Go.WideShapes Go.ChangeAt Go.RowKit
open Go.ChangeMaps (open_string shut_string)
open Go.Proofs.YthijiefopcnclaaGreatDoor.Mm Go.Proofs.YthijiefopcnclaaGreatDoor.Dt Go.Proofs.YthijiefopcnclaaGreatDoor.Td Go.Proofs.YthijiefopcnclaaGreatDoor.Vw Go.Proofs.YthijiefopcnclaaGreatDoor
set_option linter.unusedVariables false

theorem own : ownKnob Tryz.prog.godebug = none := by kernel_rfl
theorem laidOut : laidOutB Tryz.prog = true := by kernel_rfl
/-- What the walk is told of a slice of integers that came in. -/
def IsRow (k : IntKind) (w : World) (a : Option Addr) (len cap : Nat) (zs : List Int) : Prop :=
  (a = none ∧ len = 0 ∧ cap = 0 ∧ zs = []) ∨
  ∃ x, a = some x ∧ len ≤ cap ∧ cap ≤ maxLen ∧ zs.length = cap ∧ (∀ i, i < zs.length → w.cell? (x.add i) = some (.int k (zs.getD i 0))) ∧ ∀ n ∈ zs, (Lit.int k n).wf = true

attribute [local go_sem] Td.upon_value Td.upon_skip Td.upon_enter Td.upon_row Td.look_tmp Td.look_const Td.look_func Td.look_global
theorem app_front {w : World} {N n : Nat} {v : Value} {l : List Rn} (h : w.ownsRow N 50 3 v (1 + n) (rv [⟨9, 1, 1⟩] ++ rv l)) (hn : l.length = n) : ∃ A c, v = .slice A (1 + n) c ∧ RL w A (1 + n) (⟨9, 1, 1⟩ :: l) := by
  have h2 : w.ownsRow N 50 3 v (1 + n) (rv (⟨9, 1, 1⟩ :: l)) := h
  obtain ⟨A, c, e, hr, _⟩ := own_rl h2 (by rw [List.length_cons, hn]; omega)
  exact ⟨A, c, e, hr⟩

set_option maxHeartbeats 40000000 in
set_option maxRecDepth 100000 in
theorem walk (a0 : Option Addr) (len0 cap0 : Nat) (z0 : List Int) (a1 : Int) (a2 : Int) (w : World) (w0 : IsRow .u8 w a0 len0 cap0 z0) (w1 : (Lit.int .u8 a1).wf = true) (w2 : (Lit.int .u8 a2).wf = true) (hT : w.cell? ⟨0, 0, none⟩ = some (.iface 155 (.agg #[.pointer (some ⟨2, 53, none⟩)]))) :
    Calls Tryz.prog 6 #[.slice a0 len0 cap0, .int .u8 a1, .int .u8 a2] w fun e w' => e = .returned (.bool true) ∧ Below w.heap.size w w' := by
  obtain ⟨x10, x11⟩ : 0 ≤ a1 ∧ a1 ≤ 255 := by
    have h1 : IntKind.u8.min = 0 := by decide
    have h2 : IntKind.u8.max = 255 := by decide
    simp only [Lit.wf, h1, h2, Bool.and_eq_true, decide_eq_true_eq] at w1
    exact w1
  obtain ⟨x20, x21⟩ : 0 ≤ a2 ∧ a2 ≤ 255 := by
    have h1 : IntKind.u8.min = 0 := by decide
    have h2 : IntKind.u8.max = 255 := by decide
    simp only [Lit.wf, h1, h2, Bool.and_eq_true, decide_eq_true_eq] at w2
    exact w2
  obtain ⟨hnl0, _, _⟩ := nl_of_row w0
  obtain ⟨s, hsd0⟩ : ∃ s, makeK (z0.take len0) (min (len0 / 2) 40) = s := ⟨_, rfl⟩
  have HPu : Hid (Puts s) := by rw [← hsd0]; exact make_puts _ _ (by omega)
  have HLens : Hid (s.seen.length ≤ 320 ∧ s.facts.length ≤ 320) := by rw [← hsd0]; exact make_short _ _ (by omega)
  have HLow : Hid (Low s 40) := by rw [← hsd0]; exact (makeK_low _ _).more (Nat.min_le_right _ _)
  have HM : Hid (Calls Tryz.prog 16 #[.slice a0 len0 cap0] w (States s w)) := by rw [← hsd0]; exact make_any a0 len0 cap0 _ w hnl0
  have HT : Hid (ErrT w) := hT
  have HAw : Hid (∀ W, w.grownBy W none → Calls Tryz.prog 8 #[] W fun e w' => e = .returned (.bool true) ∧ W.grownBy w' none) := fun W hW => awake13_any W (HT.out.keep hW (by simp))
  clear hnl0 hsd0 w0 hT
  obtain ⟨l, hl⟩ : ∃ l, s.facts = l := ⟨_, rfl⟩
  have Hx1 : Hid (0 ≤ a1 ∧ a1 ≤ 255) := ⟨x10, x11⟩
  have Hl := Lib.hid hl
  have Ht0 : Hid (IntKind.i64.wrap a1 = a1) := by show _ = _; rw [IntKind.wrap_i64]; omega
  obtain ⟨q, hq⟩ : ∃ q, a2.tmod 4 = q := ⟨_, rfl⟩
  have Hq : Hid (q = 0 ∨ q = 1 ∨ q = 2 ∨ q = 3) := by show _ ∨ _; rw [← hq, Int.tmod_eq_emod_of_nonneg x20]; omega
  have hqw : IntKind.u8.wrap q = q := by rcases Hq.out with h | h | h | h <;> (rw [h]; decide)
  clear x10 x11 x20 x21 w1 w2 hl
  go_enter Tryz.func6, Tryz.ntmps6
  go_upto_region 1 with fail
  go_wp2_with fail
  refine HM.out.mono ?_
  rintro e w1 ⟨A, n, c, B, m, d, rfl, hs, hc, hd, g1⟩
  go_upto_region 2 with fail
  obtain ⟨hb, hhb⟩ : ∃ hb, w1.heap.size = hb := ⟨_, rfl⟩
  rw [hhb]
  refine Td.named (fun W => w.grownBy W none ∧ Row W hb 25 #[.slice A n c, .slice B m d] ∧ SL W A n B m s) ⟨gb_alloc g1 _, by rw [← hhb]; exact Row.new _ _ _, hs.keep (gb_alloc (gb_refl _ _) _)⟩ ?_
  rintro W1 ⟨G1, hrow, hs1⟩
  have HG1 := Lib.hid G1
  have HSc : Hid (∀ W, W1.grownBy W none → W.cell? ⟨hb, 0, none⟩ = some (.slice A n c) ∧ W.cell? ⟨hb, 1, none⟩ = some (.slice B m d) ∧ RL W A n s.seen ∧ FL W B m l) := fun W hW => ⟨(hrow.kept hW (by simp)).at_ (i := 0) rfl, (hrow.kept hW (by simp)).at_ (i := 1) rfl, (hs1.keep hW).1, by rw [← Hl.out]; exact (hs1.keep hW).2⟩
  have hlen : l.length = m := by rw [← Hl.out]; exact hs1.2.1
  have Hnm : Hid (n ≤ 320 ∧ m ≤ 320) := by have h1 := hs1.1.1; have h2 := hs1.2.1; have h3 := HLens.out; show _ ∧ _; omega
  have HRLs := Lib.hid hs1.1
  obtain ⟨y0, y1, _, _⟩ := HSc.out W1 (gb_refl _ _)
  clear hhb hs hc hd g1 G1 hrow hs1 HM
  by_cases hm : m = 0
  · subst hm
    have e1 : (((0 : Nat) : Int) == 0) = true := by decide
    go_wp2_with fail
    refine (HAw.out _ HG1.out).mono ?_
    rintro e w7 ⟨rfl, g7⟩
    go_wp2_with fail
    go_ret
    exact ⟨rfl, gb_below (gb_none HG1.out g7) (Nat.le_refl _)⟩
  · have e1 : ((m : Int) == 0) = false := by simp; omega
    obtain ⟨k, hk⟩ : ∃ k : Nat, a1 % (m : Int) = (k : Int) := ⟨(a1 % (m : Int)).toNat, by have := Int.emod_nonneg a1 (b := (m : Int)) (by omega); omega⟩
    have hkm : k < m := by have := Int.emod_lt_of_pos a1 (b := (m : Int)) (by omega); omega
    have Ht2 : Hid (a1.tmod (m : Int) = (k : Int) ∧ ¬ m = 0 ∧ IntKind.i64.wrap (k : Int) = (k : Int)) := ⟨by rw [Int.tmod_eq_emod_of_nonneg Hx1.out.1, hk], hm, by rw [IntKind.wrap_i64]; have := Hnm.out; omega⟩
    obtain ⟨x, hx⟩ : ∃ x, l[k]? = some x := ⟨_, List.getElem?_eq_getElem (by rw [hlen]; omega)⟩
    have Hx := Lib.hid hx
    have Hlen := Lib.hid hlen
    have HM0 : Hid (0 < m) := by show 0 < m; omega
    have HMb : Hid (m ≤ 100000) := by have := Hnm.out; show m ≤ _; omega
    have HB : Hid ((k : Int) < (m : Int)) := by show _ < _; omega
    have Hxn : Hid (1 ≤ x.n ∧ x.n ≤ 40) := by
      obtain ⟨_, hh⟩ := HPu.out.1.2.2.1 x (by rw [Hl.out]; exact List.mem_of_getElem? hx)
      refine ⟨?_, HLow.out _ _ hh⟩
      obtain ⟨r, hr, h1, h2, h3⟩ := hh
      have := HPu.out.1.1.1 r hr
      unfold Ok at this
      omega
    clear hx hlen hkm hk hm
    go_upto_region 4 with fail
    clear e1 y0 y1
    apply wp_region_told_tail (le := fun a b => a.grownBy b none) 8 _ [isV _, isV _, emptyV, isV _, isV _, copyV W1.heap.size m l, stV W1.heap.size A n c m l, newB W1.heap.size 25 #[.slice none 0 0, .slice none 0 0]]
    case hL => rfl
    case hz => rfl
    case hLd => rfl
    case hLg => rfl
    case hLw => kernel_rfl
    case hlen => rfl
    case hn => rfl
    case hm => kernel_rfl
    case hB => kernel_rfl
    case ht => exact fun _ _ _ h k => gb_none h k
    case hw => exact gb_drew (gb_refl _ _)
    -- 0: more.go:27 fieldAddr
    apply told_is
    · intro W f hW hE h0 K hK
      have e7 := h0 7 (by kernel_rfl)
      conv at e7 => rhs; whnf
      clear hE h0
      refine yes_of (want_free rfl) ?_
      go_simp; exact hK _ _ (gb_refl _ _) rfl
    -- 1: more.go:27 load
    apply told_is
    · intro W f hW hE h0 K hK
      have e19 : f 19 = _ := hE 0 19 _ rfl (by kernel_rfl)
      clear hE h0
      refine yes_of (want_free rfl) ?_
      obtain ⟨z0, z1, z2⟩ := HSc.out W hW
      clear z2
      go_simp; exact hK _ _ (gb_refl _ _) rfl
    -- 2: more.go:27 buildSlice
    apply told_at emptyV_stays
    · intro W f hW hE h0 K hK
      clear hE h0
      refine yes_of (want_free rfl) ?_
      go_simp
      exact hK _ _ (gb_alloc (gb_refl _ _) _) ⟨_, rfl⟩
    -- 3: more.go:27 fieldAddr
    apply told_is
    · intro W f hW hE h0 K hK
      have e7 := h0 7 (by kernel_rfl)
      conv at e7 => rhs; whnf
      clear hE h0
      refine yes_of (want_free rfl) ?_
      go_simp; exact hK _ _ (gb_refl _ _) rfl
    -- 4: more.go:27 load
    apply told_is
    · intro W f hW hE h0 K hK
      have e22 : f 22 = _ := hE 0 22 _ rfl (by kernel_rfl)
      clear hE h0
      refine yes_of (want_free rfl) ?_
      obtain ⟨z0, z1, z2⟩ := HSc.out W hW
      clear z2
      go_simp; exact hK _ _ (gb_refl _ _) rfl
    -- 5: more.go:27 call
    apply told_at copyV_stays
    · intro W f hW hE h0 K hK
      have e21 := hE 2 21 _ rfl (by kernel_rfl)
      have e23 : f 23 = _ := hE 0 23 _ rfl (by kernel_rfl)
      clear hE h0
      refine yes_of (want_free rfl) ?_
      obtain ⟨ge, e21⟩ := e21
      refine upon_copy (.tmp 21) (.tmp 23) rfl ge e21 B m d l e23 (HSc.out W hW).2.2.2 HM0.out HMb.out ?_
      intro g' c' W' h1 h2 h3 h4
      exact hK _ _ h4 ⟨g', c', rfl, Nat.le_trans hW.size h2, h3, h1⟩
    -- 6: more.go:27 build
    apply told_at stV_stays
    · intro W f hW hE h0 K hK
      have e20 : f 20 = _ := hE 4 20 _ rfl (by kernel_rfl)
      have e24 := hE 0 24 _ rfl (by kernel_rfl)
      clear hE h0
      refine yes_of (want_free rfl) ?_
      obtain ⟨g', c', e24, h1, h2, h3⟩ := e24
      go_simp
      exact hK _ _ (gb_refl _ _) ⟨g', c', rfl, h1, h2, h3⟩
    -- 7: more.go:27 alloc
    apply told_at newB_stays
    · intro W f hW hE h0 K hK
      clear hE h0
      refine yes_of (want_free rfl) ?_
      go_simp
      exact hK _ _ (gb_alloc (gb_refl _ _) _) ⟨_, rfl, hW.size, Row.new _ _ _⟩
    intro W f hW hA
    simp only [lexIn, Act.put, List.setIfInBounds_toArray, List.set_cons_zero, List.set_cons_succ]
    have e25 := hA 1 (some 25) _ rfl
    have e8 := hA 0 (some 8) _ rfl
    clear hA
    obtain ⟨g1, c1, e25, hN1, hc1, hRF1⟩ := e25
    rw [e25]
    obtain ⟨gt, e8, hgN, hr⟩ := e8
    rw [e8]
    have q0 := hr.free 0
    have q1 := hr.free 1
    have u0 := hr.at_ (i := 0) rfl
    have u1 := hr.at_ (i := 1) rfl
    have k1 := gb_set1 W gt 0 (.slice A n c)
    have k2 := gb_set1 (W.setCell ⟨gt, 0, none⟩ (.slice A n c)) gt 1 (.slice (some ⟨g1, 0, none⟩) m c1)
    have hne : some g1 ≠ some gt := fun e => hRF1.ne hr (by decide) (Option.some.inj e)
    have Hrf := Lib.hid ((hRF1.kept k1 hne).kept k2 hne)
    have Hrw := Lib.hid ((hr.set_ 0 (.slice A n c)).set_ 1 (.slice (some ⟨g1, 0, none⟩) m c1))
    have Hgw := Lib.hid (gb_new (gb_new hW k1 hgN) k2 hgN)
    have HNW2 : Hid (W1.heap.size ≤ g1 ∧ W1.heap.size ≤ gt) := ⟨hN1, hgN⟩
    have HNEW2 := Lib.hid hne
    clear k1 k2 hne hN1 hgN hRF1 hW hc1
    rw [ends_is]
    go_simp
    clear q0 q1 u0 u1 hr
    go_upto_region 5 with fail
    refine Td.named (fun W' => W1.grownBy W' none ∧ Row W' gt 25 #[.slice A n c, .slice (some ⟨g1, 0, none⟩) m c1] ∧ RF W' g1 l) ⟨Hgw.out, Hrw.out, Hrf.out⟩ ?_
    rintro W2 ⟨hg, hrow, hrf⟩
    have HGW2 := Lib.hid hg
    have HrowW2 := Lib.hid hrow
    have HRFW2 := Lib.hid hrf
    clear Hgw Hrw Hrf hg hrow hrf
    apply wp_region_told (le := fun a b => a.grownBy b none) [isV _, isV _, isV _, isV _, isV _, isV _, isV _, isV _, isV _, isV _]
    case hn => rfl
    case hm => kernel_rfl
    case hB => kernel_rfl
    case ht => exact fun _ _ _ h k => gb_none h k
    case hw => exact gb_drew (gb_refl _ _)
    -- 0: more.go:28 fieldAddr
    apply told_is
    · intro W f hW hE h0 K hK
      have e8 := h0 8 (by kernel_rfl)
      conv at e8 => rhs; whnf
      clear hE h0
      refine yes_of (want_free rfl) ?_
      go_simp; exact hK _ _ (gb_refl _ _) rfl
    -- 1: more.go:28 load
    apply told_is
    · intro W f hW hE h0 K hK
      have e26 : f 26 = _ := hE 0 26 _ rfl (by kernel_rfl)
      clear hE h0
      refine yes_of (want_free rfl) ?_
      have y0 := (HrowW2.out.kept hW (by simp)).at_ (i := 0) rfl
      have y1 := (HrowW2.out.kept hW (by simp)).at_ (i := 1) rfl
      go_simp; exact hK _ _ (gb_refl _ _) rfl
    -- 2: more.go:28 move
    apply told_is
    · intro W f hW hE h0 K hK
      have e1 := h0 1 (by kernel_rfl)
      conv at e1 => rhs; whnf
      clear hE h0
      refine yes_of (want_free rfl) ?_
      go_simp; exact hK _ _ (gb_refl _ _) rfl
    -- 3: more.go:28 convert
    apply told_is
    · intro W f hW hE h0 K hK
      have e28 : f 28 = _ := hE 0 28 _ rfl (by kernel_rfl)
      clear hE h0
      refine yes_of (want_free rfl) ?_
      have t0 := Ht0.out
      go_simp; exact hK _ _ (gb_refl _ _) rfl
    -- 4: more.go:28 fieldAddr
    apply told_is
    · intro W f hW hE h0 K hK
      have e8 := h0 8 (by kernel_rfl)
      conv at e8 => rhs; whnf
      clear hE h0
      refine yes_of (want_free rfl) ?_
      go_simp; exact hK _ _ (gb_refl _ _) rfl
    -- 5: more.go:28 load
    apply told_is
    · intro W f hW hE h0 K hK
      have e30 : f 30 = _ := hE 0 30 _ rfl (by kernel_rfl)
      clear hE h0
      refine yes_of (want_free rfl) ?_
      have y0 := (HrowW2.out.kept hW (by simp)).at_ (i := 0) rfl
      have y1 := (HrowW2.out.kept hW (by simp)).at_ (i := 1) rfl
      go_simp; exact hK _ _ (gb_refl _ _) rfl
    -- 6: more.go:28 call
    apply told_is
    · intro W f hW hE h0 K hK
      have e31 : f 31 = _ := hE 0 31 _ rfl (by kernel_rfl)
      clear hE h0
      refine yes_of (want_free rfl) ?_
      go_simp; exact hK _ _ (gb_refl _ _) rfl
    -- 7: more.go:28 binOp
    apply told_is
    · intro W f hW hE h0 K hK
      have e29 : f 29 = _ := hE 3 29 _ rfl (by kernel_rfl)
      have e32 : f 32 = _ := hE 0 32 _ rfl (by kernel_rfl)
      clear hE h0
      refine yes_of (want_free rfl) ?_
      obtain ⟨t2, t3, t4⟩ := Ht2.out
      go_simp; exact hK _ _ (gb_refl _ _) rfl
    -- 8: more.go:28 indexAddr
    apply told_is
    · intro W f hW hE h0 K hK
      have e27 : f 27 = _ := hE 6 27 _ rfl (by kernel_rfl)
      have e33 : f 33 = _ := hE 0 33 _ rfl (by kernel_rfl)
      clear hE h0
      refine yes_of (want_free rfl) ?_
      have b0 := HB.out
      go_simp; exact hK _ _ (gb_refl _ _) rfl
    -- 9: more.go:28 assign
    apply told_is
    · intro W f hW hE h0 K hK
      have e34 : f 34 = _ := hE 0 34 _ rfl (by kernel_rfl)
      clear hE h0
      refine yes_of (want_free rfl) ?_
      go_simp; exact hK _ _ (gb_refl _ _) rfl
    intro W f hW hA
    simp only [lexIn, Act.put, List.setIfInBounds_toArray, List.set_cons_zero, List.set_cons_succ]
    have e9 : f 9 = _ := hA 0 (some 9) _ rfl
    rw [e9]
    clear hA
    have hrow3 := HrowW2.out.kept hW (by simp)
    have hrf3 := HRFW2.out.kept hW (by simp)
    go_upto_region 6 with fail
    refine Td.named (fun W' => W1.grownBy W' none ∧ Row W' gt 25 #[.slice A n c, .slice (some ⟨g1, 0, none⟩) m c1] ∧ RF W' g1 l) ⟨gb_none HGW2.out hW, hrow3, hrf3⟩ ?_
    clear hW hrow3 hrf3
    rintro W3 ⟨n1, n2, n3⟩
    have HG3 := Lib.hid n1
    have Hrow3 := Lib.hid n2
    have HRF3 := Lib.hid n3
    have HNg : Hid (W1.heap.size ≤ g1) := HNW2.out.1
    have HNE2 : Hid (some gt ≠ some g1) := Ne.symm HNEW2.out
    clear n1 n2 n3
    go_upto_block 0 with fail
    clear hq
    go_cut [] (fun wx => ∃ (A' B' : Option Addr) (p' q' n' d' : Nat) (u : St), Row wx gt 25 #[.slice A' p' q', .slice B' n' d'] ∧ SL wx A' p' B' n' u ∧ ¬ MayS u ∧ (p' ≤ 1000 ∧ n' ≤ 1000) ∧ W1.grownBy wx none)
    case first =>
      rcases Hq.out with rfl | rfl | rfl | rfl
      · obtain ⟨z0, z1, z2, z3, z4, z5⟩ := HRF3.out.at6 Hx.out
        have qf := HRF3.out.free (k * 6 + 3)
        go_wp2_with fail
        have hr9 := HRF3.out
        have hp := hr9.put Hx.out 3 (.int .i64 4) ⟨x.d, x.n, x.key, 4, x.item, x.v⟩ (by decide) rfl
        have k1 := gb_set1 W3 g1 (k * 6 + 3) (.int .i64 4)
        have hrow9 := (Hrow3.out).kept k1 HNE2.out
        have hg9 := gb_new (HG3.out) k1 HNg.out
        go_meet
        refine ⟨A, some ⟨g1, 0, none⟩, n, c, m, c1, ⟨s.seen, l.set k ⟨x.d, x.n, x.key, 4, x.item, x.v⟩⟩, hrow9, ⟨HRLs.out.keep hg9, hp.fl (by rw [List.length_set]; exact Hlen.out)⟩, not_may_right (List.mem_iff_getElem?.2 ⟨k, set_at Hx.out _⟩) (fun h => by unfold RightF at h; simp only at h; omega), by have := Hnm.out; omega, hg9⟩
      · obtain ⟨z0, z1, z2, z3, z4, z5⟩ := HRF3.out.at6 Hx.out
        have qf := HRF3.out.free (k * 6 + 1)
        have t1 : IntKind.i64.wrap (x.n + 100) = x.n + 100 := by rw [IntKind.wrap_i64]; have := Hxn.out; omega
        go_wp2_with fail
        have hr9 := HRF3.out
        have hp := hr9.put Hx.out 1 (.int .i64 (x.n + 100)) ⟨x.d, x.n + 100, x.key, x.kind, x.item, x.v⟩ (by decide) rfl
        have k1 := gb_set1 W3 g1 (k * 6 + 1) (.int .i64 (x.n + 100))
        have hrow9 := (Hrow3.out).kept k1 HNE2.out
        have hg9 := gb_new (HG3.out) k1 HNg.out
        go_meet
        refine ⟨A, some ⟨g1, 0, none⟩, n, c, m, c1, ⟨s.seen, l.set k ⟨x.d, x.n + 100, x.key, x.kind, x.item, x.v⟩⟩, hrow9, ⟨HRLs.out.keep hg9, hp.fl (by rw [List.length_set]; exact Hlen.out)⟩, not_may_far (K := 40) HLow.out (List.mem_iff_getElem?.2 ⟨k, set_at Hx.out _⟩) (by show (40 : Int) < x.n + 100; have := Hxn.out; omega), by have := Hnm.out; omega, hg9⟩
      · have hmk := make_zero 41 41 rfl (by omega) W3
        obtain ⟨w5, hw5⟩ : ∃ w5, W3.alloc (.cells (zc 41) 5) = w5 := ⟨_, rfl⟩
        have hgw : W3.grownBy w5 none := by rw [← hw5]; exact gb_alloc (gb_refl _ _) _
        have htx := text_zero 41 W3 w5 (by rw [← hw5]; exact Row.new _ _ _)
        obtain ⟨ks, hks⟩ : ∃ ks, zs 41 = ks := ⟨_, rfl⟩
        have Hks : Hid (ks.size = 41) := by rw [← hks]; exact zs_size 41
        rw [hw5] at hmk
        rw [hks] at htx
        obtain ⟨z0, z1, z2, z3, z4, z5⟩ := (HRF3.out.kept hgw (by simp)).at6 Hx.out
        have qf := (HRF3.out.kept hgw (by simp)).free (k * 6 + 2)
        have Hgw := Lib.hid hgw
        clear hw5 hks hgw
        go_wp2_with fail
        have hgw := Hgw.out
        have hr9 := HRF3.out.kept hgw (by simp)
        have hp := hr9.put Hx.out 2 (.string ks) ⟨x.d, x.n, ks, x.kind, x.item, x.v⟩ (by decide) rfl
        have k1 := gb_set1 w5 g1 (k * 6 + 2) (.string ks)
        have hrow9 := (Hrow3.out.kept hgw (by simp)).kept k1 HNE2.out
        have hg9 := gb_new (gb_none HG3.out hgw) k1 HNg.out
        go_meet
        refine ⟨A, some ⟨g1, 0, none⟩, n, c, m, c1, ⟨s.seen, l.set k ⟨x.d, x.n, ks, x.kind, x.item, x.v⟩⟩, hrow9, ⟨HRLs.out.keep hg9, hp.fl (by rw [List.length_set]; exact Hlen.out)⟩, not_may_right (List.mem_iff_getElem?.2 ⟨k, set_at Hx.out _⟩) (fun h => by unfold RightF at h; have := Hks.out; simp only at h; omega), by have := Hnm.out; omega, hg9⟩
      · have hn0 : 0 < n := by
          obtain ⟨_, r, hr, _⟩ := HPu.out.1.2.2.1 x (by rw [Hl.out]; exact List.mem_of_getElem? Hx.out)
          have h1 := HRLs.out.1
          have h2 : s.seen ≠ [] := fun e => by rw [e] at hr; cases hr
          have h3 := List.length_pos_iff.2 h2
          omega
        obtain ⟨gs, os, eA, _, _⟩ := HRLs.out.2 hn0
        subst eA
        obtain ⟨i3, hi3, hz3, hs3, hb3⟩ := info_parts run_inf
        have HRL3 := HRLs.out.keep HG3.out
        have hnews := Lib.hid (rl_news (HRL3.keep (gb_alloc (gb_refl W3 none) (.cells #[.int .i64 9, .int .i64 1, .int .i64 1] 50))) hn0)
        have HownR : Hid ((W3.alloc (.cells #[.int .i64 9, .int .i64 1, .int .i64 1] 50)).ownsRow W3.heap.size 50 3 (.slice (some ⟨W3.heap.size, 0, none⟩) 1 1) 1 (rv [⟨9, 1, 1⟩])) := ⟨rfl, .inr ⟨W3.heap.size, 1, _, rfl, Nat.le_refl _, heap_alloc_new W3 _, Nat.le_refl _, by decide, rfl, rfl⟩⟩
        have HRL3' := Lib.hid HRL3
        have Hn0 := Lib.hid hn0
        have y0 : W3.cell? ⟨gt, 0, none⟩ = some (.slice (some ⟨gs, os, none⟩) n c) := Hrow3.out.at_ (i := 0) rfl
        have hgl := Hrow3.out.lt
        clear HRL3 hn0
        go_wp2_with (at_builtin; go_must (refine wpList_append_own _ rfl (.tmp 38) (.tmp 40) 22 rfl W3.heap.size 50 i3 (.agg #[.int .i64 0, .int .i64 0, .int .i64 0]) 3 24 Tryz.underlying22 hi3 hz3 hs3 hb3 rfl (by decide) _ 1 _ rfl HownR.out ⟨gs, os, none⟩ n c (rv s.seen) rfl (by rw [rv_len, HRLs.out.1]) hnews.out (rv_one _) (by have := Hnm.out; simp only [maxLen]; omega) (by have := Hnm.out; omega) (by rw [World.size_alloc]; omega) ?_); intro v8 w8 own8 hgrow _; obtain ⟨A8, c8, rfl, hR8⟩ := app_front own8 HRLs.out.1; have hg38 : W3.grownBy w8 none := gb_new (gb_alloc (gb_refl W3 none) _) hgrow (Nat.le_refl _); have hr9 := Hrow3.out.kept hg38 (by simp); have s0 : w8.cell? ⟨gt, 0, none⟩ = some (.slice (some ⟨gs, os, none⟩) n c) := hr9.at_ (i := 0) rfl; have q0 := hr9.free 0; have HR8 := Lib.hid hR8; have Hg38 := Lib.hid hg38; have Hr9 := Lib.hid hr9; clear own8 hgrow hR8 hg38 hr9)
        have k1 := gb_set1 w8 gt 0 (.slice A8 (1 + n) c8)
        have hg9 := gb_new (gb_none HG3.out Hg38.out) k1 HNW2.out.2
        have hf8 := (HRF3.out.fl Hlen.out).keep Hg38.out
        go_meet
        exact ⟨A8, some ⟨g1, 0, none⟩, 1 + n, c8, m, c1, ⟨⟨9, 1, 1⟩ :: s.seen, l⟩, Hr9.out.set_ 0 _, ⟨rl_beside HR8.out k1 Hr9.out, fl_beside hf8 k1 Hr9.out⟩, not_may_run (List.mem_cons_self ..) (fun h => by unfold Ok at h; simp only at h; omega), by have := Hnm.out; omega, hg9⟩
    case rest =>
      obtain ⟨A', B', p', q', n', d', u, hrow, hsl, hnm, hb1, hg⟩ := hcut
      have HrowR := Lib.hid hrow
      have HSLR := Lib.hid hsl
      have HGR := Lib.hid (gb_none HG1.out hg)
      have HNM := Lib.hid hnm
      have Hb1 := Lib.hid hb1
      have HRc : Hid (∀ W, wc.grownBy W none → W.cell? ⟨gt, 0, none⟩ = some (.slice A' p' q') ∧ W.cell? ⟨gt, 1, none⟩ = some (.slice B' n' d')) := fun W hW => ⟨(HrowR.out.kept hW (by simp)).at_ (i := 0) rfl, (HrowR.out.kept hW (by simp)).at_ (i := 1) rfl⟩
      have HPn : Hid (∀ W, wc.grownBy W none → Calls Tryz.prog 11 #[.agg #[.slice A' p' q', .slice B' n' d']] W fun e w' => e = .returned (.string ⟨#[]⟩) ∧ W.grownBy w' none) := fun W hW => putS_no A' B' p' q' n' d' u W (HSLR.out.keep hW) (fun h => HNM.out h.1) (by have := Hb1.out; omega) (by have := Hb1.out; omega)
      obtain ⟨y0, y1⟩ := HRc.out wc (gb_refl _ _)
      clear hrow hsl hnm hb1 hg
      go_wp2_with fail
      refine (HPn.out wc (gb_refl _ _)).mono ?_
      rintro e v1 ⟨rfl, k1⟩
      have Hk1 := Lib.hid k1
      clear k1
      go_wp2_with fail
      refine (getS_any ⟨#[]⟩ v1 (by simp) (HT.out.keep (gb_none HGR.out Hk1.out) (by simp))).mono ?_
      rintro e v2 ⟨hres, k2⟩
      have Hk2 := Lib.hid (gb_none Hk1.out k2)
      rcases hres with ⟨t, _, _, _, _, _, _, hp, _⟩ | ⟨_, rfl⟩
      · exact absurd rfl (put_ne hp)
      clear k2 y0 y1
      obtain ⟨y0, y1⟩ := HRc.out v2 Hk2.out
      have hgl := (HrowR.out.kept Hk2.out (by simp)).lt
      go_wp2_with fail
      refine (HPn.out _ (gb_alloc Hk2.out _)).mono ?_
      rintro e v3 ⟨rfl, k3⟩
      have Hk3 := Lib.hid (gb_none (gb_alloc Hk2.out (.cells #[.slice none 0 0, .slice none 0 0] 25)) k3)
      clear k3 y0 y1
      obtain ⟨y0, y1⟩ := HRc.out v3 Hk3.out
      go_wp2_with fail
      refine (refMayS_any A' B' p' q' n' d' u v3 (HSLR.out.keep Hk3.out) (by have := Hb1.out; omega) (by have := Hb1.out; omega)).mono ?_
      intro e v4 hh
      obtain ⟨he, k4⟩ := hh.no HNM.out
      subst he
      have Hk4 := Lib.hid (gb_none Hk3.out k4)
      clear hh k4
      go_wp2_with fail
      refine (HAw.out _ (gb_none HGR.out Hk4.out)).mono ?_
      rintro e v5 ⟨rfl, k5⟩
      go_wp2_with fail
      go_ret
      exact ⟨rfl, gb_below (gb_none (gb_none HGR.out Hk4.out) k5) (Nat.le_refl _)⟩

theorem et : Tryz.prog.globalNamed "errors.errorType" = some 0 := by kernel_rfl
theorem rt : (Tryz.prog.cutTypes.find? (·.1 == "internal/reflectlite.rtype")).map (·.2) = some 155 := by kernel_rfl
theorem one_error : ((List.range 218).filter fun t => Tryz.prog.rowNamed t [101, 114, 114, 111, 114]) = [53] := by kernel_rfl
theorem how_many : Tryz.prog.types.size = 218 := by kernel_rfl
theorem handle : typeHandle Tryz.prog 53 = .pointer (some ⟨2, 53, none⟩) := by kernel_rfl
theorem errT {W : World} (h : laidMetH Tryz.prog Rows.snapMayRow.laid W) : W.cell? ⟨0, 0, none⟩ = some (.iface 155 (.agg #[.pointer (some ⟨2, 53, none⟩)])) := by
  have hm : ("errors.errorType", Rows.laid_errors_errorType) ∈ (Rows.snapMayRow.laid.filter fun x => x.2.handleName?.isSome) := by simp [Rows.snapMayRow, List.filter, DataW.handleName?, Rows.laid_errors_errorType]
  obtain ⟨n, u, t, hn, hu, ht, hr, hc⟩ := (laidMetH_iff.1 h).2 _ hm
  obtain rfl := Option.some.inj hn
  obtain rfl := Option.some.inj (rt.symm.trans hu)
  have hin : t ∈ [53] := by
    rw [← one_error]
    exact List.mem_filter.2 ⟨List.mem_range.2 (how_many ▸ ht), hr⟩
  obtain rfl := List.mem_singleton.1 hin
  rw [handle] at hc
  have := World.var?_cell et hc 0
  simpa using this

set_option maxRecDepth 100000 in
theorem contract (H : Type) (enc : TypeId × Value → H) (W : World) (base : Nat) (args : Array Value) (ds gs : List (DataW H)) (before : List MemPlace)
    (hval0 : ∀ (j : Nat) t v, Tryz.f6.params[j]? = some t → args[j]? = some v → Value.okWide Tryz.prog W .any base t v)
    (hW : DataW.Whole enc Tryz.prog Tryz.f6.params.toList Rows.snapMaySpec.vars false W args.toList ds gs before) (hL : laidMetH Tryz.prog Rows.snapMayRow.laid W) :
    Calls Tryz.prog 6 args W fun e W' => ∃ v, e = .returned v ∧ Rows.snapMaySpec.post enc Tryz.prog Tryz.f6 false true false false W args v W' := by
  have hval : ∀ (j : Nat) t v, Tryz.f6.params[j]? = some t → args[j]? = some v → Value.okWide Tryz.prog W .any base t v := hval0
  have hW' := hW
  obtain ⟨p, q, hA0, hV, rfl, hfz, hnd⟩ := hW
  have hA : DataW.TrodAll enc Tryz.prog W 0 (fun _ => true) true Tryz.f6.params.toList args.toList ds p := hA0
  rw [Tryz.params6] at hA hval
  obtain ⟨v0, vs0, d0, ds0, p0, q0, hargs, rfl, rfl, h0, r0⟩ := trodAll_cons hA
  obtain ⟨v1, vs1, d1, ds1, p1, q1, rfl, rfl, rfl, h1, r1⟩ := trodAll_cons r0
  obtain ⟨v2, vs2, d2, ds2, p2, q2, rfl, rfl, rfl, h2, r2⟩ := trodAll_cons r1
  obtain ⟨rfl, rfl, rfl⟩ := trodAll_nil r2
  obtain rfl : args = #[v0, v1, v2] := by cases args; simp_all
  obtain ⟨rfl, rfl⟩ := trodVars_none hV
  have k0 := h0
  have lt0 : ∀ x ∈ p0, x.block < W.heap.size := by obtain ⟨m, hm⟩ := k0; exact DataW.trod_lt m _ _ _ hm
  obtain ⟨a0, len0, cap0, rfl⟩ := okWide_slice Tryz.underlying36 (hval 0 36 v0 rfl rfl)
  obtain ⟨z0, w0⟩ : ∃ zs, IsRow .u8 W a0 len0 cap0 zs := by
    obtain ⟨fuel, hf⟩ := h0
    rcases open_ints Tryz.underlying36 Tryz.underlying5 (by kernel_rfl) hf with ⟨hcs, _⟩ | ⟨x, l, c, zs, hcs, _, hl, hm, hz, _, hcell, hwz⟩
    · simp [Value.cells] at hcs
      obtain ⟨rfl, rfl, rfl⟩ := hcs
      exact ⟨[], .inl ⟨rfl, rfl, rfl, rfl⟩⟩
    · simp [Value.cells] at hcs
      obtain ⟨rfl, rfl, rfl⟩ := hcs
      exact ⟨zs, .inr ⟨_, rfl, hl, hm, by simpa using hz, hcell, hwz⟩⟩
  obtain ⟨a1, rfl, rfl, rfl, w1⟩ := open_int Tryz.underlying5 (hval 1 5 v1 rfl rfl) h1
  obtain ⟨a2, rfl, rfl, rfl, w2⟩ := open_int Tryz.underlying5 (hval 2 5 v2 rfl rfl) h2
  clear hA0 hval0
  refine (walk a0 len0 cap0 z0 a1 a2 W w0 w1 w2 (errT hL)).mono fun e W' ⟨he, bel⟩ => ?_
  subst he
  exact ⟨_, rfl, _, _, _, [], _, [], hW', trodAll_mk1 (shut_bool Tryz.underlying4 _), (trodAll_cons_mk (Below.trod laidOut (by kernel_rfl) (of_decide_eq_true (by kernel_rfl)) k0 bel lt0) (trodAll_cons_mk (shut_int Tryz.underlying5 w1) (trodAll_cons_mk (shut_int Tryz.underlying5 w2) trodAll_mk0))), rfl, bel.frame _, fun h => by cases h⟩

def lay (cs : Array Value) : Obj → Obj
  | .cells _ t frozen => .cells cs t frozen
  | o => o

noncomputable def laidWorld (os : Os) : World :=
  { World.holding Tryz.prog os ⟨#[], #[], []⟩ with heap := ((World.holding Tryz.prog os ⟨#[], #[], []⟩).heap).modify 0 (lay #[.iface 155 (.agg #[.pointer (some ⟨2, 53, none⟩)])]) }
theorem laid_met (os : Os) : laidMetH Tryz.prog Rows.snapMayRow.laid ((laidWorld os).forCall (fun _ _ => 0) ⟨#[], #[.slice none 0 0, .int .u8 0, .int .u8 0], []⟩).memory :=
  laidMetH_of_parts (laidMet_nil _ _) (by kernel_rfl)
theorem reads (os : Os) {H : Type} (enc : TypeId × Value → H) : ∃ places, DataW.whole enc Tryz.prog ((laidWorld os).forCall (fun _ _ => 0) ⟨#[], #[.slice none 0 0, .int .u8 0, .int .u8 0], []⟩).memory Tryz.f6.params.toList Rows.snapMaySpec.vars false (show Array Value from #[.slice none 0 0, .int .u8 0, .int .u8 0]).toList 8 = some ([.nil, .lit (.int .u8 0), .lit (.int .u8 0)], [], places) :=
  ⟨[], by kernel_rfl⟩

set_option maxRecDepth 100000 in
theorem lifted (os : Os) (started : os.Started) (H : Type) (enc : TypeId × Value → H) (F : Stop.Interp) :
    ReturnsInHanded {} Tryz.checked os 6 .any ((OpenSpec.ofChange Rows.snapMaySpec).preRow enc Tryz.prog Tryz.f6 Rows.snapMayRow.domain false Rows.snapMayRow.laid) (((OpenSpec.ofChange Rows.snapMaySpec).at F).post enc Tryz.prog Tryz.f6 false true false false) := by
  obtain ⟨places, hx⟩ := reads os enc
  refine returnsInHanded_of_row (C := Tryz.checked) (s := OpenSpec.ofChange Rows.snapMaySpec) own started (by kernel_rfl) Tryz.func6
    (witness_row_at (enc := enc) (C := Tryz.checked) false (laidWorld os) #[.slice none 0 0, .int .u8 0, .int .u8 0] rfl (by kernel_rfl) (by kernel_rfl) (by kernel_rfl)
      (OpenSpec.preRow_of_cond 8 hx (by kernel_rfl) (fun k hk => by cases hk) (by kernel_rfl) (laid_met os))) ?_
  intro W base args ds gs before hval hW _ _ _ hL _ _
  exact contract H enc W base args ds gs before hval hW hL

theorem said : Rows.SnapMaySaid :=
  OpenClaim.holds_of_cond 6 Tryz.f6 rfl rfl rfl rfl rfl rfl rfl ⟨rfl, rfl, rfl, rfl, rfl⟩ rfl rfl rfl rfl rfl (by kernel_rfl) Tryz.func6 (by kernel_rfl)
    (of_decide_eq_true (by kernel_rfl)) (by unfold Func.isWrapper; first | (rw [if_pos (by decide +kernel)]; kernel_rfl) | (rw [if_neg (by decide +kernel)]; exact ⟨rfl, rfl⟩))
    (fun os started H enc _ F => by rw [OpenClaim.pre_eq_preRow]; exact lifted os started H enc F)

theorem plain (f : FuncId) (fn : Func) (hf : Tryz.pinned.checked.prog.funcNamed "deaddrop/deaddroplaw13.SnapMay" = some f) (hfn : Tryz.pinned.checked.prog.funcs[f]? = some fn) :
    true = Tryz.pinned.checked.prog.looks [] ∧ ∀ (j : Nat) t, fn.params[j]? = some t → Tryz.pinned.checked.prog.wantsStandIn t = false := by
  obtain rfl : f = 6 := Option.some.inj ((show Tryz.prog.funcNamed "deaddrop/deaddroplaw13.SnapMay" = some 6 by kernel_rfl).symm.trans hf) |>.symm
  obtain rfl : fn = Tryz.f6 := (Option.some.inj (Tryz.func6.symm.trans hfn)).symm
  refine ⟨by kernel_rfl, fun j t ht => ?_⟩
  have hall : (Tryz.f6.params.toList.all fun u => !Tryz.prog.wantsStandIn u) = true := by kernel_rfl
  have hm : t ∈ Tryz.f6.params.toList := by simpa using Array.mem_of_getElem? ht
  exact (show Tryz.prog.wantsStandIn t = false by simpa using List.all_eq_true.1 hall t hm)

theorem card : Rows.SnapMayCardSaid :=
  Claim7.holds_tied_plain_at .later [] _ _ _ _ said (fun _ h => by cases h) (by kernel_rfl) (fun _ h => by cases h) snapMay_row_tie rfl ⟨rfl, rfl⟩ (by kernel_rfl) rfl plain (by kernel_rfl)
#print axioms card
end Go.Proofs.YthijiefopcnclaaGreatDoor.snapMay
