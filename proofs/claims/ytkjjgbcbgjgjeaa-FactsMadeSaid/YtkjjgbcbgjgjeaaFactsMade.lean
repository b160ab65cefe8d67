/-
  Proved: whatever values of its parameters' types it is called with, deaddroplaw8.FactsMade returns true, and each argument reads behind the call as it read before.
  Conditions: none but those of the row itself.
-/
import Derived.Test.YtkjjgbcbgjgjeaaRows
import Derived.WalkKit
import Derived.ProofKit
import Derived.OpenShut
import Derived.ShutString
import Derived.Test.YtkjjgbcbgjgjeaaFtLaw
import Derived.Test.YtkjjgbcbgjgjeaaFtGreat
import Derived.Test.YtkjjgbcbgjgjeaaFtCopy
import Derived.Test.YtkjjgbcbgjgjeaaTold
import Derived.Test.YtkjjgbcbgjgjeaaToldT
import Derived.Deep.DeepCutAuto
import Derived.Deep.CutBlock
import Derived.ChangeOld
import Derived.Below
namespace Go.Proofs.Ytkjjgbcbgjgjeaa.factsMade
open Go.ChangeShapes Go.WideShapes Go.ChangeAt Go.RowKit
open Go.ChangeMaps (open_string shut_string)
open Go.Proofs.Ytkjjgbcbgjgjeaa.Mm Go.Proofs.Ytkjjgbcbgjgjeaa.Dt Go.Proofs.Ytkjjgbcbgjgjeaa.Td
set_option linter.unusedVariables false

theorem own : ownKnob Try.prog.godebug = none := by kernel_rfl
theorem laidOut : laidOutB Try.prog = true := by kernel_rfl
/-- What the walk is told of a slice of integers that came in. -/
def IsRow (k : IntKind) (w : World) (a : Option Addr) (len cap : Nat) (zs : List Int) : Prop :=
  (a = none ∧ len = 0 ∧ cap = 0 ∧ zs = []) ∨
  ∃ x, a = some x ∧ len ≤ cap ∧ cap ≤ maxLen ∧ zs.length = cap ∧ (∀ i, i < zs.length → w.cell? (x.add i) = some (.int k (zs.getD i 0))) ∧ ∀ n ∈ zs, (Lit.int k n).wf = true

attribute [local go_sem] Td.upon_value Td.upon_skip Td.upon_enter Td.upon_row Td.look_tmp Td.look_const Td.look_func Td.look_global

set_option maxHeartbeats 40000000 in
set_option maxRecDepth 100000 in
theorem walk (a0 : Option Addr) (len0 cap0 : Nat) (z0 : List Int) (a1 : Option Addr) (len1 cap1 : Nat) (z1 : List Int) (a2 : Int) (a3 : Int) (a4 : Int) (w : World) (w0 : IsRow .u8 w a0 len0 cap0 z0) (w1 : IsRow .u8 w a1 len1 cap1 z1) (w2 : (Lit.int .u8 a2).wf = true) (w3 : (Lit.int .u8 a3).wf = true) (w4 : (Lit.int .u8 a4).wf = true) :
    Calls Try.prog 3 #[.slice a0 len0 cap0, .slice a1 len1 cap1, .int .u8 a2, .int .u8 a3, .int .u8 a4] w fun e w' => e = .returned (.bool true) ∧ Below w.heap.size w w' := by
  obtain ⟨x20, x21⟩ : 0 ≤ a2 ∧ a2 ≤ 255 := by
    have h1 : IntKind.u8.min = 0 := by decide
    have h2 : IntKind.u8.max = 255 := by decide
    simp only [Lit.wf, h1, h2, Bool.and_eq_true, decide_eq_true_eq] at w2
    exact w2
  obtain ⟨x30, x31⟩ : 0 ≤ a3 ∧ a3 ≤ 255 := by
    have h1 : IntKind.u8.min = 0 := by decide
    have h2 : IntKind.u8.max = 255 := by decide
    simp only [Lit.wf, h1, h2, Bool.and_eq_true, decide_eq_true_eq] at w3
    exact w3
  obtain ⟨x40, x41⟩ : 0 ≤ a4 ∧ a4 ≤ 255 := by
    have h1 : IntKind.u8.min = 0 := by decide
    have h2 : IntKind.u8.max = 255 := by decide
    simp only [Lit.wf, h1, h2, Bool.and_eq_true, decide_eq_true_eq] at w4
    exact w4
  obtain ⟨hnl0, _, _⟩ := nl_of_row w0
  obtain ⟨s, hsd0⟩ : ∃ s, makeK (z0.take len0) (min (len0 / 2) 40) = s := ⟨_, rfl⟩
  have HMays : Hid (MayS s) := by rw [← hsd0]; exact makeK_may _ _
  have HLens : Hid (s.seen.length ≤ 320 ∧ s.facts.length ≤ 320) := by
    have h := (makeK_low (z0.take len0) (min (len0 / 2) 40)).short (makeK_may _ _)
    rw [hsd0] at h
    show _ ∧ _
    omega
  have HLows : Hid (Low s 40) := by rw [← hsd0]; exact (makeK_low _ _).more (Nat.min_le_right _ _)
  have HKeys : Hid (Keyed s) := by rw [← hsd0]; exact makeK_keyed _ _
  have HMs : Hid (∀ W, w.grownBy W none → Calls Try.prog 12 #[.slice a0 len0 cap0] W (States s W)) := fun W hW => by rw [← hsd0]; exact make_any a0 len0 cap0 _ W (hnl0.keep hW)
  clear hnl0 hsd0
  obtain ⟨hnl1, _, _⟩ := nl_of_row w1
  obtain ⟨t, hsd1⟩ : ∃ t, makeK (z1.take len1) (min (len1 / 2) 40) = t := ⟨_, rfl⟩
  have HMayt : Hid (MayS t) := by rw [← hsd1]; exact makeK_may _ _
  have HLent : Hid (t.seen.length ≤ 320 ∧ t.facts.length ≤ 320) := by
    have h := (makeK_low (z1.take len1) (min (len1 / 2) 40)).short (makeK_may _ _)
    rw [hsd1] at h
    show _ ∧ _
    omega
  have HLowt : Hid (Low t 40) := by rw [← hsd1]; exact (makeK_low _ _).more (Nat.min_le_right _ _)
  have HKeyt : Hid (Keyed t) := by rw [← hsd1]; exact makeK_keyed _ _
  have HMt : Hid (∀ W, w.grownBy W none → Calls Try.prog 12 #[.slice a1 len1 cap1] W (States t W)) := fun W hW => by rw [← hsd1]; exact make_any a1 len1 cap1 _ W (hnl1.keep hW)
  clear hnl1 hsd1
  obtain ⟨l, hl⟩ : ∃ l, s.facts = l := ⟨_, rfl⟩
  have Hl := Lib.hid hl
  obtain ⟨r1, hr1⟩ : ∃ r1, a3 % 4 = r1 := ⟨_, rfl⟩
  obtain ⟨X, hX⟩ : ∃ X, 107 + r1 = X := ⟨_, rfl⟩
  have Hb1 : Hid (a3.tmod 4 = r1) := by show _ = _; rw [Int.tmod_eq_emod_of_nonneg x30, hr1]
  have Hb2 : Hid (IntKind.u8.wrap r1 = r1) := by show _ = _; rw [IntKind.wrap_u8']; omega
  have Hb3 : Hid (IntKind.u8.wrap (107 + r1) = X) := by show _ = _; rw [IntKind.wrap_u8']; omega
  have HX0 : Hid (0 ≤ X ∧ X < 256) := by show _ ∧ _; omega
  obtain ⟨kd, hkd⟩ : ∃ kd, a4 % 5 = kd := ⟨_, rfl⟩
  have Hk1 : Hid (IntKind.i64.wrap a4 = a4) := by show _ = _; rw [IntKind.wrap_i64]; omega
  have Hk2 : Hid (a4.tmod 5 = kd) := by show _ = _; rw [Int.tmod_eq_emod_of_nonneg x40, hkd]
  have Hk3 : Hid (IntKind.i64.wrap kd = kd) := by show _ = _; rw [IntKind.wrap_i64]; omega
  obtain ⟨e16, he16⟩ : ∃ e16, a2 / 16 = e16 := ⟨_, rfl⟩
  obtain ⟨r, hr⟩ : ∃ r, e16 % 5 = r := ⟨_, rfl⟩
  have Hr1 : Hid (a2.tdiv 16 = e16) := by show _ = _; rw [Int.tdiv_eq_ediv_of_nonneg x20, he16]
  have Hr2 : Hid (IntKind.u8.wrap e16 = e16) := by show _ = _; rw [IntKind.wrap_u8']; omega
  have Hr3 : Hid (e16.tmod 5 = r) := by show _ = _; rw [Int.tmod_eq_emod_of_nonneg (by omega), hr]
  have Hr4 : Hid (IntKind.u8.wrap r = r) := by show _ = _; rw [IntKind.wrap_u8']; omega
  have Hr5 : Hid (r = 0 ∨ r = 1 ∨ r = 2 ∨ r = 3 ∨ r = 4) := by show _ ∨ _ ∨ _ ∨ _ ∨ _; omega
  have Hw1 : Hid (IntKind.i64.wrap a2 = a2) := by show _ = _; rw [IntKind.wrap_i64]; omega
  have Hx2 : Hid (0 ≤ a2 ∧ a2 ≤ 255) := ⟨x20, x21⟩
  clear hr1 hX hkd he16 hr x20 x21 x30 x31 x40 x41 w0 w1 w2 w3 w4 hl
  go_enter Try.func3, Try.ntmps3
  go_upto_region 2 with (go_at_call 12; first
    | (with_reducible refine (HMs.out w (gb_refl _ _)).mono ?_); rintro e w1 ⟨A, n, c, B, m, d, rfl, hs, hc, hd, g1⟩
    | refine (HMt.out w1 g1).mono ?_; rintro e w2 ⟨A', n', c', B', m', d', rfl, hs', hc', hd', g2⟩)
  obtain ⟨hb, hhb⟩ : ∃ hb, w2.heap.size = hb := ⟨_, rfl⟩
  obtain ⟨hb', hhb'⟩ : ∃ hb', hb + 1 = hb' := ⟨_, rfl⟩
  rw [hhb]
  try rw [hhb']
  refine Td.named (fun W => w.grownBy W none ∧ Row W hb 26 #[.slice A n c, .slice B m d] ∧ Row W hb' 26 #[.slice A' n' c', .slice B' m' d'] ∧ SL W A n B m s ∧ SL W A' n' B' m' t) ⟨gb_alloc (gb_alloc (gb_none g1 g2) _) _, by rw [← hhb]; exact (Row.new _ _ _).alloc _, by rw [← hhb', ← hhb]; have h := Row.new (w2.alloc (.cells #[.slice A n c, .slice B m d] 26)) 26 #[.slice A' n' c', .slice B' m' d']; rwa [World.size_alloc] at h, (hs.keep g2).keep (gb_alloc (gb_alloc (gb_refl _ _) _) _), hs'.keep (gb_alloc (gb_alloc (gb_refl _ _) _) _)⟩ ?_
  rintro W1 ⟨G1, hrow, hrow', hs1, hs1'⟩
  have HG1 := Lib.hid G1
  have hnm : n ≤ 320 ∧ m ≤ 320 ∧ n' ≤ 320 ∧ m' ≤ 320 := by have h1 := hs1.1.1; have h2 := hs1.2.1; have h3 := hs1'.1.1; have h4 := hs1'.2.1; have h5 := HLens.out; have h6 := HLent.out; omega
  have Hnm := Lib.hid hnm
  have HA1 : Hid (∀ W, W1.grownBy W none → W.cell? ⟨hb, 0, none⟩ = some (.slice A n c) ∧ W.cell? ⟨hb, 1, none⟩ = some (.slice B m d) ∧ SL W A n B m s) := fun W hW => ⟨(hrow.kept hW (by simp)).at_ (i := 0) rfl, (hrow.kept hW (by simp)).at_ (i := 1) rfl, hs1.keep hW⟩
  have HB1 : Hid (∀ W, W1.grownBy W none → W.cell? ⟨hb', 0, none⟩ = some (.slice A' n' c') ∧ W.cell? ⟨hb', 1, none⟩ = some (.slice B' m' d') ∧ SL W A' n' B' m' t) := fun W hW => ⟨(hrow'.kept hW (by simp)).at_ (i := 0) rfl, (hrow'.kept hW (by simp)).at_ (i := 1) rfl, hs1'.keep hW⟩
  clear hhb hhb' hs hs' hc hc' hd hd' g1 g2 G1 hrow hrow' hs1 hs1' HMs HMt hnm
  have hc1 := text_b1 (x := X) HX0.out.1 HX0.out.2 (Row.new W1 5 #[.int .u8 X])
  obtain ⟨kk, hkk⟩ : ∃ kk, b1 X = kk := ⟨_, rfl⟩
  rw [hkk] at hc1
  have t1 := Hb1.out
  have t2 := Hb2.out
  have t3 := Hb3.out
  clear hkk
  go_upto_region 3 with fail
  clear hc1 t1 t2 t3
  obtain ⟨W2, hW2⟩ : ∃ W2, W1.alloc (.cells #[.int .u8 X] 5) = W2 := ⟨_, rfl⟩
  rw [hW2]
  have g12 : W1.grownBy W2 none := by rw [← hW2]; exact gb_alloc (gb_refl _ _) _
  have HG2 : Hid (w.grownBy W2 none) := gb_none HG1.out g12
  have HA : Hid (∀ W, W2.grownBy W none → W.cell? ⟨hb, 0, none⟩ = some (.slice A n c) ∧ W.cell? ⟨hb, 1, none⟩ = some (.slice B m d) ∧ SL W A n B m s) := fun W hW => HA1.out W (gb_none g12 hW)
  have HB : Hid (∀ W, W2.grownBy W none → W.cell? ⟨hb', 0, none⟩ = some (.slice A' n' c') ∧ W.cell? ⟨hb', 1, none⟩ = some (.slice B' m' d') ∧ SL W A' n' B' m' t) := fun W hW => HB1.out W (gb_none g12 hW)
  obtain ⟨bs, hbs⟩ := asB (s = t)
  obtain ⟨fl, hfl⟩ : ∃ fl, findL s.facts kk kd = fl := ⟨_, rfl⟩
  obtain ⟨L, hL⟩ : ∃ L, fl.length = L := ⟨_, rfl⟩
  have HLb : Hid (L ≤ 320) := by
    have h := find_len s.facts kk kd
    rw [hfl, hL] at h
    exact Nat.le_trans h HLens.out.2
  have Hbs := Lib.hid hbs
  have HFl := Lib.hid hfl
  have HL := Lib.hid hL
  have Hnq : Hid (∀ W, (binOp .neq 4 (.bool bs) (.bool bs)).run Try.prog W = .ok (.bool false) W) := fun W => by cases bs <;> rfl
  clear hbs hfl hL hW2 g12
  apply wp_region_told (le := fun a b => a.grownBy b none) [isV _, isV _, isV _, isV _, isV _, isV _, isV _, isV _, isV _, factsS L fl, isV _, isV _, isV _, isV _, isV _, factsS L fl, isV _, isV _, isV _, isV _, isV _, isV _, isV _, isV _, isV _, isV _, isV _, isV _]
  case hn => rfl
  case hm => kernel_rfl
  case hB => kernel_rfl
  case ht => exact fun _ _ _ h k => gb_none h k
  case hw => exact gb_drew (gb_refl _ _)
  -- 0: law.go:56 load
  apply told_is
  · intro W f hW hE h0 K hK
    have e11 := h0 11 (by kernel_rfl)
    conv at e11 => rhs; whnf
    clear hE h0
    refine yes_of (want_free rfl) ?_
    obtain ⟨z0, z1, _, _⟩ := HA.out W hW
    go_simp; exact hK _ _ (gb_refl _ _) rfl
  -- 1: law.go:56 call
  apply told_is
  · intro W f hW hE h0 K hK
    have e25 : f 25 = _ := hE 0 25 _ rfl (by kernel_rfl)
    clear hE h0
    refine yes_of (want_free rfl) ?_
    go_simp
    refine (pMayS_any A B n c m d s W (HA.out W hW).2.2 (by have := Hnm.out; omega) (by have := Hnm.out; omega)).mono ?_
    intro e w1' hh; obtain ⟨he, g⟩ := hh.yes HMays.out; subst he
    exact ⟨_, rfl, hK _ _ g rfl⟩
  -- 2: law.go:56 unOp
  apply told_is
  · intro W f hW hE h0 K hK
    have e26 : f 26 = _ := hE 0 26 _ rfl (by kernel_rfl)
    clear hE h0
    refine yes_of (want_free rfl) ?_
    go_simp; exact hK _ _ (gb_refl _ _) rfl
  -- 3: law.go:56 move
  apply told_is
  · intro W f hW hE h0 K hK
    have e27 : f 27 = _ := hE 0 27 _ rfl (by kernel_rfl)
    clear hE h0
    refine yes_of (want_free rfl) ?_
    go_simp; exact hK _ _ (gb_refl _ _) rfl
  -- 4: law.go:56 load
  apply told_is
  · intro W f hW hE h0 K hK
    have e11 := h0 11 (by kernel_rfl)
    conv at e11 => rhs; whnf
    have e28 : f 28 = _ := hE 0 28 _ rfl (by kernel_rfl)
    clear hE h0
    refine yes_of (want_yes rfl rfl e28) ?_
    obtain ⟨z0, z1, _, _⟩ := HA.out W hW
    go_simp; exact hK _ _ (gb_refl _ _) rfl
  -- 5: law.go:56 move
  apply told_is
  · intro W f hW hE h0 K hK
    have e13 := h0 13 (by kernel_rfl)
    conv at e13 => rhs; whnf
    have e28 : f 28 = _ := hE 1 28 _ rfl (by kernel_rfl)
    clear hE h0
    refine yes_of (want_yes rfl rfl e28) ?_
    go_simp; exact hK _ _ (gb_refl _ _) rfl
  -- 6: law.go:56 move
  apply told_is
  · intro W f hW hE h0 K hK
    have e4 := h0 4 (by kernel_rfl)
    conv at e4 => rhs; whnf
    have e28 : f 28 = _ := hE 2 28 _ rfl (by kernel_rfl)
    clear hE h0
    refine yes_of (want_yes rfl rfl e28) ?_
    go_simp; exact hK _ _ (gb_refl _ _) rfl
  -- 7: law.go:56 convert
  apply told_is
  · intro W f hW hE h0 K hK
    have e31 : f 31 = _ := hE 0 31 _ rfl (by kernel_rfl)
    have e28 : f 28 = _ := hE 3 28 _ rfl (by kernel_rfl)
    clear hE h0
    refine yes_of (want_yes rfl rfl e28) ?_
    have t1 := Hk1.out
    go_simp; exact hK _ _ (gb_refl _ _) rfl
  -- 8: law.go:56 binOp
  apply told_is
  · intro W f hW hE h0 K hK
    have e32 : f 32 = _ := hE 0 32 _ rfl (by kernel_rfl)
    have e28 : f 28 = _ := hE 4 28 _ rfl (by kernel_rfl)
    clear hE h0
    refine yes_of (want_yes rfl rfl e28) ?_
    have t1 := Hk2.out; have t2 := Hk3.out
    go_simp; exact hK _ _ (gb_refl _ _) rfl
  -- 9: law.go:56 call
  apply told_at factsS_stays
  · intro W f hW hE h0 K hK
    have e29 : f 29 = _ := hE 4 29 _ rfl (by kernel_rfl)
    have e30 : f 30 = _ := hE 3 30 _ rfl (by kernel_rfl)
    have e33 : f 33 = _ := hE 0 33 _ rfl (by kernel_rfl)
    have e28 : f 28 = _ := hE 5 28 _ rfl (by kernel_rfl)
    clear hE h0
    refine yes_of (want_yes rfl rfl e28) ?_
    go_simp
    refine (pFind_any A B n c m d s kk kd W (HA.out W hW).2.2 (by have := Hnm.out; omega)).mono ?_
    rintro e w1' ⟨A2, c2, he, f2, h2, g⟩; rw [HFl.out] at he f2 h2; rw [HL.out] at he f2 h2; subst he
    exact ⟨_, rfl, hK _ _ g ⟨A2, c2, rfl, f2, h2⟩⟩
  -- 10: law.go:56 load
  apply told_is
  · intro W f hW hE h0 K hK
    have e11 := h0 11 (by kernel_rfl)
    conv at e11 => rhs; whnf
    have e28 : f 28 = _ := hE 6 28 _ rfl (by kernel_rfl)
    clear hE h0
    refine yes_of (want_yes rfl rfl e28) ?_
    obtain ⟨z0, z1, _, _⟩ := HA.out W hW
    go_simp; exact hK _ _ (gb_refl _ _) rfl
  -- 11: law.go:56 move
  apply told_is
  · intro W f hW hE h0 K hK
    have e13 := h0 13 (by kernel_rfl)
    conv at e13 => rhs; whnf
    have e28 : f 28 = _ := hE 7 28 _ rfl (by kernel_rfl)
    clear hE h0
    refine yes_of (want_yes rfl rfl e28) ?_
    go_simp; exact hK _ _ (gb_refl _ _) rfl
  -- 12: law.go:56 move
  apply told_is
  · intro W f hW hE h0 K hK
    have e4 := h0 4 (by kernel_rfl)
    conv at e4 => rhs; whnf
    have e28 : f 28 = _ := hE 8 28 _ rfl (by kernel_rfl)
    clear hE h0
    refine yes_of (want_yes rfl rfl e28) ?_
    go_simp; exact hK _ _ (gb_refl _ _) rfl
  -- 13: law.go:56 convert
  apply told_is
  · intro W f hW hE h0 K hK
    have e37 : f 37 = _ := hE 0 37 _ rfl (by kernel_rfl)
    have e28 : f 28 = _ := hE 9 28 _ rfl (by kernel_rfl)
    clear hE h0
    refine yes_of (want_yes rfl rfl e28) ?_
    have t1 := Hk1.out
    go_simp; exact hK _ _ (gb_refl _ _) rfl
  -- 14: law.go:56 binOp
  apply told_is
  · intro W f hW hE h0 K hK
    have e38 : f 38 = _ := hE 0 38 _ rfl (by kernel_rfl)
    have e28 : f 28 = _ := hE 10 28 _ rfl (by kernel_rfl)
    clear hE h0
    refine yes_of (want_yes rfl rfl e28) ?_
    have t1 := Hk2.out; have t2 := Hk3.out
    go_simp; exact hK _ _ (gb_refl _ _) rfl
  -- 15: law.go:56 call
  apply told_at factsS_stays
  · intro W f hW hE h0 K hK
    have e35 : f 35 = _ := hE 4 35 _ rfl (by kernel_rfl)
    have e36 : f 36 = _ := hE 3 36 _ rfl (by kernel_rfl)
    have e39 : f 39 = _ := hE 0 39 _ rfl (by kernel_rfl)
    have e28 : f 28 = _ := hE 11 28 _ rfl (by kernel_rfl)
    clear hE h0
    refine yes_of (want_yes rfl rfl e28) ?_
    go_simp
    refine (refFind_any A B n c m d s kk kd W (HA.out W hW).2.2 (by have := Hnm.out; omega)).mono ?_
    rintro e w1' ⟨A2, c2, he, f2, h2, g⟩; rw [HFl.out] at he f2 h2; rw [HL.out] at he f2 h2; subst he
    exact ⟨_, rfl, hK _ _ g ⟨A2, c2, rfl, f2, h2⟩⟩
  -- 16: law.go:56 call
  apply told_is
  · intro W f hW hE h0 K hK
    have e34 := hE 6 34 _ rfl (by kernel_rfl)
    have e40 := hE 0 40 _ rfl (by kernel_rfl)
    have e28 : f 28 = _ := hE 12 28 _ rfl (by kernel_rfl)
    clear hE h0
    refine yes_of (want_yes rfl rfl e28) ?_
    obtain ⟨A2, c2, e34, f2, h2⟩ := e34
    obtain ⟨A3, c3, e40, f3, h3⟩ := e40
    go_simp
    refine (sameFacts_yes A2 A3 L c2 L c3 fl fl W f2 f3 rfl (by have := HLb.out; omega) (by have := HLb.out; omega)).mono ?_
    rintro e w1' ⟨rfl, g⟩
    exact ⟨_, rfl, hK _ _ g rfl⟩
  -- 17: law.go:56 unOp
  apply told_is
  · intro W f hW hE h0 K hK
    have e41 : f 41 = _ := hE 0 41 _ rfl (by kernel_rfl)
    have e28 : f 28 = _ := hE 13 28 _ rfl (by kernel_rfl)
    clear hE h0
    refine yes_of (want_yes rfl rfl e28) ?_
    go_simp; exact hK _ _ (gb_refl _ _) rfl
  -- 18: law.go:56 pick
  apply told_is
  · intro W f hW hE h0 K hK
    have e28 : f 28 = _ := hE 14 28 _ rfl (by kernel_rfl)
    have e42 : f 42 = _ := hE 0 42 _ rfl (by kernel_rfl)
    clear hE h0
    refine yes_of (want_free rfl) ?_
    go_simp; exact hK _ _ (gb_refl _ _) rfl
  -- 19: law.go:56 move
  apply told_is
  · intro W f hW hE h0 K hK
    have e43 : f 43 = _ := hE 0 43 _ rfl (by kernel_rfl)
    clear hE h0
    refine yes_of (want_free rfl) ?_
    go_simp; exact hK _ _ (gb_refl _ _) rfl
  -- 20: law.go:56 load
  apply told_is
  · intro W f hW hE h0 K hK
    have e11 := h0 11 (by kernel_rfl)
    conv at e11 => rhs; whnf
    have e44 : f 44 = _ := hE 0 44 _ rfl (by kernel_rfl)
    clear hE h0
    refine yes_of (want_yes rfl rfl e44) ?_
    obtain ⟨z0, z1, _, _⟩ := HA.out W hW
    go_simp; exact hK _ _ (gb_refl _ _) rfl
  -- 21: law.go:56 load
  apply told_is
  · intro W f hW hE h0 K hK
    have e12 := h0 12 (by kernel_rfl)
    conv at e12 => rhs; whnf
    have e44 : f 44 = _ := hE 1 44 _ rfl (by kernel_rfl)
    clear hE h0
    refine yes_of (want_yes rfl rfl e44) ?_
    obtain ⟨z0, z1, _, _⟩ := HB.out W hW
    go_simp; exact hK _ _ (gb_refl _ _) rfl
  -- 22: law.go:56 call
  apply told_is
  · intro W f hW hE h0 K hK
    have e45 : f 45 = _ := hE 1 45 _ rfl (by kernel_rfl)
    have e46 : f 46 = _ := hE 0 46 _ rfl (by kernel_rfl)
    have e44 : f 44 = _ := hE 2 44 _ rfl (by kernel_rfl)
    clear hE h0
    refine yes_of (want_yes rfl rfl e44) ?_
    go_simp
    refine (pSame_any A B A' B' n c m d n' c' m' d' s t W (HA.out W hW).2.2 (HB.out W hW).2.2 (by have := Hnm.out; omega) (by have := Hnm.out; omega) (by have := Hnm.out; omega) (by have := Hnm.out; omega)).mono ?_
    intro e w1' hh; obtain ⟨he, g⟩ := hh.is Hbs.out; subst he
    exact ⟨_, rfl, hK _ _ g rfl⟩
  -- 23: law.go:56 load
  apply told_is
  · intro W f hW hE h0 K hK
    have e11 := h0 11 (by kernel_rfl)
    conv at e11 => rhs; whnf
    have e44 : f 44 = _ := hE 3 44 _ rfl (by kernel_rfl)
    clear hE h0
    refine yes_of (want_yes rfl rfl e44) ?_
    obtain ⟨z0, z1, _, _⟩ := HA.out W hW
    go_simp; exact hK _ _ (gb_refl _ _) rfl
  -- 24: law.go:56 load
  apply told_is
  · intro W f hW hE h0 K hK
    have e12 := h0 12 (by kernel_rfl)
    conv at e12 => rhs; whnf
    have e44 : f 44 = _ := hE 4 44 _ rfl (by kernel_rfl)
    clear hE h0
    refine yes_of (want_yes rfl rfl e44) ?_
    obtain ⟨z0, z1, _, _⟩ := HB.out W hW
    go_simp; exact hK _ _ (gb_refl _ _) rfl
  -- 25: law.go:56 call
  apply told_is
  · intro W f hW hE h0 K hK
    have e48 : f 48 = _ := hE 1 48 _ rfl (by kernel_rfl)
    have e49 : f 49 = _ := hE 0 49 _ rfl (by kernel_rfl)
    have e44 : f 44 = _ := hE 5 44 _ rfl (by kernel_rfl)
    clear hE h0
    refine yes_of (want_yes rfl rfl e44) ?_
    go_simp
    refine (refSameSt_any A B A' B' n c m d n' c' m' d' s t W (HA.out W hW).2.2 (HB.out W hW).2.2 (by have := Hnm.out; omega) (by have := Hnm.out; omega) (by have := Hnm.out; omega) (by have := Hnm.out; omega)).mono ?_
    intro e w1' hh; obtain ⟨he, g⟩ := hh.is Hbs.out; subst he
    exact ⟨_, rfl, hK _ _ g rfl⟩
  -- 26: law.go:56 binOp
  apply told_is
  · intro W f hW hE h0 K hK
    have e47 : f 47 = _ := hE 3 47 _ rfl (by kernel_rfl)
    have e50 : f 50 = _ := hE 0 50 _ rfl (by kernel_rfl)
    have e44 : f 44 = _ := hE 6 44 _ rfl (by kernel_rfl)
    clear hE h0
    refine yes_of (want_yes rfl rfl e44) ?_
    have hq := Hnq.out W
    go_simp; exact hK _ _ (gb_refl _ _) rfl
  -- 27: law.go:56 pick
  apply told_is
  · intro W f hW hE h0 K hK
    have e44 : f 44 = _ := hE 7 44 _ rfl (by kernel_rfl)
    have e51 : f 51 = _ := hE 0 51 _ rfl (by kernel_rfl)
    clear hE h0
    refine yes_of (want_free rfl) ?_
    go_simp; exact hK _ _ (gb_refl _ _) rfl
  intro W f hW hA
  simp only [lexIn, Act.put, List.setIfInBounds_toArray, List.set_cons_zero, List.set_cons_succ]
  have e52 : f 52 = _ := hA 0 (some 52) _ rfl
  rw [e52]
  clear hA
  have HGW : Hid (W2.grownBy W none) := hW
  obtain ⟨y0, y1, hy⟩ := HA.out W hW
  have hlen : l.length = m := by rw [← Hl.out]; exact hy.2.1
  have Hlen := Lib.hid hlen
  clear hW hy
  by_cases hm : m = 0
  · subst hm
    clear hlen
    go_wp2_with (go_at_call 19; refine (awake8_any _).mono ?_; rintro e w7 ⟨rfl, g7⟩)
    go_ret
    exact ⟨rfl, gb_below (gb_none HG2.out (gb_none HGW.out g7)) (Nat.le_refl _)⟩
  · have e0 : (m == 0) = false := by rw [beq_eq_false_iff_ne]; exact hm
    have e0' : ((m : Int) == 0) = false := by rw [beq_eq_false_iff_ne]; omega
    obtain ⟨k, hk⟩ : ∃ k : Nat, a2 % (m : Int) = (k : Int) := ⟨(a2 % (m : Int)).toNat, by have := Int.emod_nonneg a2 (b := (m : Int)) (by omega); omega⟩
    have hkm : k < m := by have := Int.emod_lt_of_pos a2 (b := (m : Int)) (by omega); omega
    have Hw2 : Hid (a2.tmod (m : Int) = (k : Int)) := by show _ = _; rw [Int.tmod_eq_emod_of_nonneg Hx2.out.1, hk]
    have Hw3 : Hid (¬ (m : Int) = 0) := by show ¬ _; omega
    have Hw4 : Hid (IntKind.i64.wrap (k : Int) = (k : Int)) := by show _ = _; rw [IntKind.wrap_i64]; have := Hnm.out; omega
    have HBk : Hid ((k : Int) < (m : Int)) := by show _ < _; omega
    obtain ⟨x, hx⟩ : ∃ x, l[k]? = some x := ⟨_, List.getElem?_eq_getElem (by rw [hlen]; omega)⟩
    have Hx := Lib.hid hx
    have Hsz : Hid (¬ 9223372036854775807 < x.item.size + 1) := by
      have hxm := List.mem_of_getElem? hx
      rw [← Hl.out] at hxm
      have h := (HMays.out.2.2.1 x hxm).1
      unfold RightF at h
      show ¬ _
      omega
    have HM0 : Hid (0 < m) := by show 0 < m; omega
    have HMb : Hid (m ≤ 100000) := by have := Hnm.out; show m ≤ _; omega
    have HSc : Hid (∀ W', W.grownBy W' none → W'.cell? ⟨hb, 0, none⟩ = some (.slice A n c) ∧ W'.cell? ⟨hb, 1, none⟩ = some (.slice B m d) ∧ RL W' A n s.seen ∧ FL W' B m l) := fun W' hW' => by
      obtain ⟨h1, h2, h3⟩ := HA.out W' (gb_none HGW.out hW')
      exact ⟨h1, h2, h3.1, by rw [← Hl.out]; exact h3.2⟩
    clear hk hkm hx hlen hm
    go_upto_region 7 with fail
    clear y0 y1 e0 e0'
    clear HB HB1 HA1 Hnq Hbs HFl HL HLb
    generalize W = W20 at *
    apply wp_region_told_tail (le := fun a b => a.grownBy b none) 8 _ [isV _, isV _, emptyV, isV _, isV _, copyV W20.heap.size m l, stV W20.heap.size A n c m l, newB W20.heap.size 26 #[.slice none 0 0, .slice none 0 0]]
    case hL => rfl
    case hz => rfl
    case hLd => rfl
    case hLg => rfl
    case hLw => kernel_rfl
    case hlen => rfl
    case hn => rfl
    case hm => kernel_rfl
    case hB => kernel_rfl
    case ht => exact fun _ _ _ h k => gb_none h k
    case hw => exact gb_drew (gb_refl _ _)
    -- 0: law.go:62 fieldAddr
    apply told_is
    · intro W f hW hE h0 K hK
      have e11 := h0 11 (by kernel_rfl)
      conv at e11 => rhs; whnf
      clear hE h0
      refine yes_of (want_free rfl) ?_
      go_simp; exact hK _ _ (gb_refl _ _) rfl
    -- 1: law.go:62 load
    apply told_is
    · intro W f hW hE h0 K hK
      have e58 : f 58 = _ := hE 0 58 _ rfl (by kernel_rfl)
      clear hE h0
      refine yes_of (want_free rfl) ?_
      obtain ⟨z0, z1, z2⟩ := HSc.out W hW
      clear z2
      go_simp; exact hK _ _ (gb_refl _ _) rfl
    -- 2: law.go:62 buildSlice
    apply told_at emptyV_stays
    · intro W f hW hE h0 K hK
      clear hE h0
      refine yes_of (want_free rfl) ?_
      go_simp
      exact hK _ _ (gb_alloc (gb_refl _ _) _) ⟨_, rfl⟩
    -- 3: law.go:62 fieldAddr
    apply told_is
    · intro W f hW hE h0 K hK
      have e11 := h0 11 (by kernel_rfl)
      conv at e11 => rhs; whnf
      clear hE h0
      refine yes_of (want_free rfl) ?_
      go_simp; exact hK _ _ (gb_refl _ _) rfl
    -- 4: law.go:62 load
    apply told_is
    · intro W f hW hE h0 K hK
      have e61 : f 61 = _ := hE 0 61 _ rfl (by kernel_rfl)
      clear hE h0
      refine yes_of (want_free rfl) ?_
      obtain ⟨z0, z1, z2⟩ := HSc.out W hW
      clear z2
      go_simp; exact hK _ _ (gb_refl _ _) rfl
    -- 5: law.go:62 call
    apply told_at copyV_stays
    · intro W f hW hE h0 K hK
      have e60 := hE 2 60 _ rfl (by kernel_rfl)
      have e62 : f 62 = _ := hE 0 62 _ rfl (by kernel_rfl)
      clear hE h0
      refine yes_of (want_free rfl) ?_
      obtain ⟨ge, e60⟩ := e60
      refine upon_copy (.tmp 60) (.tmp 62) rfl ge e60 B m d l e62 (HSc.out W hW).2.2.2 HM0.out HMb.out ?_
      intro g' c' W' h1 h2 h3 h4
      exact hK _ _ h4 ⟨g', c', rfl, Nat.le_trans hW.size h2, h3, h1⟩
    -- 6: law.go:62 build
    apply told_at stV_stays
    · intro W f hW hE h0 K hK
      have e59 : f 59 = _ := hE 4 59 _ rfl (by kernel_rfl)
      have e63 := hE 0 63 _ rfl (by kernel_rfl)
      clear hE h0
      refine yes_of (want_free rfl) ?_
      obtain ⟨g', c', e63, h1, h2, h3⟩ := e63
      go_simp
      exact hK _ _ (gb_refl _ _) ⟨g', c', rfl, h1, h2, h3⟩
    -- 7: law.go:62 alloc
    apply told_at newB_stays
    · intro W f hW hE h0 K hK
      clear hE h0
      refine yes_of (want_free rfl) ?_
      go_simp
      exact hK _ _ (gb_alloc (gb_refl _ _) _) ⟨_, rfl, hW.size, Row.new _ _ _⟩
    intro W f hW hA
    simp only [lexIn, Act.put, List.setIfInBounds_toArray, List.set_cons_zero, List.set_cons_succ]
    have e64 := hA 1 (some 64) _ rfl
    have e14 := hA 0 (some 14) _ rfl
    clear hA
    obtain ⟨g1, c1, e64, hN1, hc1, hRF1⟩ := e64
    rw [e64]
    obtain ⟨gt, e14, hgN, hr⟩ := e14
    rw [e14]
    have q0 := hr.free 0
    have q1 := hr.free 1
    have u0 := hr.at_ (i := 0) rfl
    have u1 := hr.at_ (i := 1) rfl
    have k1 := gb_set1 W gt 0 (.slice A n c)
    have k2 := gb_set1 (W.setCell ⟨gt, 0, none⟩ (.slice A n c)) gt 1 (.slice (some ⟨g1, 0, none⟩) m c1)
    have hne : some g1 ≠ some gt := fun e => hRF1.ne hr (by decide) (Option.some.inj e)
    have Hrf := Lib.hid ((hRF1.kept k1 hne).kept k2 hne)
    have Hrw := Lib.hid ((hr.set_ 0 (.slice A n c)).set_ 1 (.slice (some ⟨g1, 0, none⟩) m c1))
    have Hgw := Lib.hid (gb_new (gb_new hW k1 hgN) k2 hgN)
    have HNW3 : Hid (W20.heap.size ≤ g1 ∧ W20.heap.size ≤ gt) := ⟨hN1, hgN⟩
    have HNEW3 := Lib.hid hne
    clear k1 k2 hne hN1 hgN hRF1 hW hc1
    rw [ends_is]
    go_simp
    clear q0 q1 u0 u1 hr
    go_upto_region 8 with fail
    refine Td.named (fun W' => W20.grownBy W' none ∧ Row W' gt 26 #[.slice A n c, .slice (some ⟨g1, 0, none⟩) m c1] ∧ RF W' g1 l) ⟨Hgw.out, Hrw.out, Hrf.out⟩ ?_
    rintro W3 ⟨hg, hrow, hrf⟩
    have HGW3 := Lib.hid hg
    have HrowW3 := Lib.hid hrow
    have HRFW3 := Lib.hid hrf
    clear Hgw Hrw Hrf hg hrow hrf
    apply wp_region_told (le := fun a b => a.grownBy b none) [isV _, isV _, isV _, isV _, isV _, isV _, isV _, isV _, isV _, isV _]
    case hn => rfl
    case hm => kernel_rfl
    case hB => kernel_rfl
    case ht => exact fun _ _ _ h k => gb_none h k
    case hw => exact gb_drew (gb_refl _ _)
    -- 0: law.go:63 fieldAddr
    apply told_is
    · intro W f hW hE h0 K hK
      have e14 := h0 14 (by kernel_rfl)
      conv at e14 => rhs; whnf
      clear hE h0
      refine yes_of (want_free rfl) ?_
      go_simp; exact hK _ _ (gb_refl _ _) rfl
    -- 1: law.go:63 load
    apply told_is
    · intro W f hW hE h0 K hK
      have e65 : f 65 = _ := hE 0 65 _ rfl (by kernel_rfl)
      clear hE h0
      refine yes_of (want_free rfl) ?_
      have y0 := (HrowW3.out.kept hW (by simp)).at_ (i := 0) rfl
      have y1 := (HrowW3.out.kept hW (by simp)).at_ (i := 1) rfl
      go_simp; exact hK _ _ (gb_refl _ _) rfl
    -- 2: law.go:63 move
    apply told_is
    · intro W f hW hE h0 K hK
      have e2 := h0 2 (by kernel_rfl)
      conv at e2 => rhs; whnf
      clear hE h0
      refine yes_of (want_free rfl) ?_
      go_simp; exact hK _ _ (gb_refl _ _) rfl
    -- 3: law.go:63 convert
    apply told_is
    · intro W f hW hE h0 K hK
      have e67 : f 67 = _ := hE 0 67 _ rfl (by kernel_rfl)
      clear hE h0
      refine yes_of (want_free rfl) ?_
      have t1 := Hw1.out
      go_simp; exact hK _ _ (gb_refl _ _) rfl
    -- 4: law.go:63 fieldAddr
    apply told_is
    · intro W f hW hE h0 K hK
      have e14 := h0 14 (by kernel_rfl)
      conv at e14 => rhs; whnf
      clear hE h0
      refine yes_of (want_free rfl) ?_
      go_simp; exact hK _ _ (gb_refl _ _) rfl
    -- 5: law.go:63 load
    apply told_is
    · intro W f hW hE h0 K hK
      have e69 : f 69 = _ := hE 0 69 _ rfl (by kernel_rfl)
      clear hE h0
      refine yes_of (want_free rfl) ?_
      have y0 := (HrowW3.out.kept hW (by simp)).at_ (i := 0) rfl
      have y1 := (HrowW3.out.kept hW (by simp)).at_ (i := 1) rfl
      go_simp; exact hK _ _ (gb_refl _ _) rfl
    -- 6: law.go:63 call
    apply told_is
    · intro W f hW hE h0 K hK
      have e70 : f 70 = _ := hE 0 70 _ rfl (by kernel_rfl)
      clear hE h0
      refine yes_of (want_free rfl) ?_
      go_simp; exact hK _ _ (gb_refl _ _) rfl
    -- 7: law.go:63 binOp
    apply told_is
    · intro W f hW hE h0 K hK
      have e68 : f 68 = _ := hE 3 68 _ rfl (by kernel_rfl)
      have e71 : f 71 = _ := hE 0 71 _ rfl (by kernel_rfl)
      clear hE h0
      refine yes_of (want_free rfl) ?_
      have t1 := Hw2.out; have t2 := Hw3.out; have t3 := Hw4.out; have t4 : ¬ m = 0 := Nat.ne_of_gt HM0.out
      go_simp; exact hK _ _ (gb_refl _ _) rfl
    -- 8: law.go:63 indexAddr
    apply told_is
    · intro W f hW hE h0 K hK
      have e66 : f 66 = _ := hE 6 66 _ rfl (by kernel_rfl)
      have e72 : f 72 = _ := hE 0 72 _ rfl (by kernel_rfl)
      clear hE h0
      refine yes_of (want_free rfl) ?_
      have b0 := HBk.out
      go_simp; exact hK _ _ (gb_refl _ _) rfl
    -- 9: law.go:63 assign
    apply told_is
    · intro W f hW hE h0 K hK
      have e73 : f 73 = _ := hE 0 73 _ rfl (by kernel_rfl)
      clear hE h0
      refine yes_of (want_free rfl) ?_
      go_simp; exact hK _ _ (gb_refl _ _) rfl
    intro W f hW hA
    simp only [lexIn, Act.put, List.setIfInBounds_toArray, List.set_cons_zero, List.set_cons_succ]
    have e15 : f 15 = _ := hA 0 (some 15) _ rfl
    rw [e15]
    clear hA
    have HRF4 : Hid (RF W g1 l) := HRFW3.out.kept hW (by simp)
    have Hrow4 : Hid (Row W gt 26 #[.slice A n c, .slice (some ⟨g1, 0, none⟩) m c1]) := HrowW3.out.kept hW (by simp)
    have HG4 : Hid (W20.grownBy W none) := gb_none HGW3.out hW
    clear hW
    generalize W = W4 at *
    have t1 := Hr1.out
    have t2 := Hr2.out
    have t3 := Hr3.out
    have t4 := Hr4.out
    go_upto_block 0 with fail
    clear t1 t2 t3 t4
    go_cut [88] (fun _ wx => ∃ x', RF wx g1 (l.set k x') ∧ W4.grownBy wx (some g1))
    case first =>
      have hr5 := Hr5.out
      rcases hr5 with hr5 | hr5 | hr5 | hr5 | hr5
      · subst hr5
        have hr5 := trivial
        obtain ⟨u0, u1, u2, u3, u4, u5⟩ := HRF4.out.at6 Hx.out
        have q0 := HRF4.out.free (k * 6 + 1)
        have q0' := HRF4.out.free (k * 6)
        obtain ⟨nv, hnv⟩ : ∃ nv, IntKind.i64.wrap (x.n + 40) = nv := ⟨_, rfl⟩
        clear hr5
        go_wp2_with fail
        go_meet
        first
          | exact ⟨⟨x.d, nv, x.key, x.kind, x.item, x.v⟩, HRF4.out.put Hx.out 1 _ ⟨x.d, nv, x.key, x.kind, x.item, x.v⟩ (by decide) rfl, gb_set1 _ _ _ _⟩
      · subst hr5
        have hr5 := trivial
        obtain ⟨u0, u1, u2, u3, u4, u5⟩ := HRF4.out.at6 Hx.out
        have q0 := HRF4.out.free (k * 6 + 3)
        have q0' := HRF4.out.free (k * 6)
        obtain ⟨km, hkm⟩ : ∃ km, x.kind.tmod 3 = km := ⟨_, rfl⟩
        obtain ⟨kw, hkw⟩ : ∃ kw, IntKind.i64.wrap km = kw := ⟨_, rfl⟩
        obtain ⟨nv, hnv⟩ : ∃ nv, IntKind.i64.wrap (1 + kw) = nv := ⟨_, rfl⟩
        obtain ⟨nv2, hnv2⟩ : ∃ nv2, IntKind.i64.wrap (1 + km) = nv2 := ⟨_, rfl⟩
        clear hr5
        go_wp2_with fail
        go_meet
        first
          | exact ⟨⟨x.d, x.n, x.key, nv2, x.item, x.v⟩, HRF4.out.put Hx.out 3 _ ⟨x.d, x.n, x.key, nv2, x.item, x.v⟩ (by decide) rfl, gb_set1 _ _ _ _⟩
          | exact ⟨⟨x.d, x.n, x.key, nv, x.item, x.v⟩, HRF4.out.put Hx.out 3 _ ⟨x.d, x.n, x.key, nv, x.item, x.v⟩ (by decide) rfl, gb_set1 _ _ _ _⟩
      · subst hr5
        have hr5 := trivial
        obtain ⟨u0, u1, u2, u3, u4, u5⟩ := HRF4.out.at6 Hx.out
        have q0 := HRF4.out.free (k * 6 + 5)
        have q0' := HRF4.out.free (k * 6)
        obtain ⟨nv, hnv⟩ : ∃ nv, IntKind.i64.wrap (x.v + 1) = nv := ⟨_, rfl⟩
        clear hr5
        go_wp2_with fail
        go_meet
        first
          | exact ⟨⟨x.d, x.n, x.key, x.kind, x.item, nv⟩, HRF4.out.put Hx.out 5 _ ⟨x.d, x.n, x.key, x.kind, x.item, nv⟩ (by decide) rfl, gb_set1 _ _ _ _⟩
      · subst hr5
        have hr5 := trivial
        obtain ⟨u0, u1, u2, u3, u4, u5⟩ := HRF4.out.at6 Hx.out
        have q0 := HRF4.out.free (k * 6 + 4)
        have q0' := HRF4.out.free (k * 6)
        have hsz := Hsz.out
        clear hr5
        go_wp2_with fail
        go_meet
        first
          | exact ⟨⟨x.d, x.n, x.key, x.kind, (x.item ++ ⟨#[120]⟩), x.v⟩, HRF4.out.put Hx.out 4 _ ⟨x.d, x.n, x.key, x.kind, (x.item ++ ⟨#[120]⟩), x.v⟩ (by decide) rfl, gb_set1 _ _ _ _⟩
      · subst hr5
        have hr5 := trivial
        obtain ⟨u0, u1, u2, u3, u4, u5⟩ := HRF4.out.at6 Hx.out
        have q0 := HRF4.out.free (k * 6 + 0)
        have q0' := HRF4.out.free (k * 6)
        obtain ⟨km, hkm⟩ : ∃ km, IntKind.i64.wrap (x.d + 1) = km := ⟨_, rfl⟩
        obtain ⟨kt, hkt⟩ : ∃ kt, km.tmod 4 = kt := ⟨_, rfl⟩
        obtain ⟨nv, hnv⟩ : ∃ nv, IntKind.i64.wrap kt = nv := ⟨_, rfl⟩
        clear hr5
        go_wp2_with fail
        go_meet
        first
          | exact ⟨⟨nv, x.n, x.key, x.kind, x.item, x.v⟩, HRF4.out.put Hx.out 0 _ ⟨nv, x.n, x.key, x.kind, x.item, x.v⟩ (by decide) rfl, gb_set1 _ _ _ _⟩
          | exact ⟨⟨kt, x.n, x.key, x.kind, x.item, x.v⟩, HRF4.out.put Hx.out 0 _ ⟨kt, x.n, x.key, x.kind, x.item, x.v⟩ (by decide) rfl, gb_set1 _ _ _ _⟩
    case rest =>
      obtain ⟨x', hrf, hg5⟩ := hcut
      have HRF6 := Lib.hid hrf
      have Hrow6 : Hid (Row wc gt 26 #[.slice A n c, .slice (some ⟨g1, 0, none⟩) m c1]) := Hrow4.out.kept hg5 (Ne.symm HNEW3.out)
      have HG6 : Hid (W20.grownBy wc none) := gb_new HG4.out hg5 HNW3.out.1
      have HE6 : Hid (w.grownBy wc none) := gb_none HG2.out (gb_none HGW.out HG6.out)
      have HlT : Hid ((l.set k x').length = m) := by show _ = _; rw [List.length_set, Hlen.out]
      have HA6 : Hid (∀ W, wc.grownBy W none → W.cell? ⟨hb, 0, none⟩ = some (.slice A n c) ∧ W.cell? ⟨hb, 1, none⟩ = some (.slice B m d) ∧ SL W A n B m s) := fun W hW => HA.out W (gb_none HGW.out (gb_none HG6.out hW))
      have HC6 : Hid (∀ W, wc.grownBy W none → W.cell? ⟨gt, 0, none⟩ = some (.slice A n c) ∧ W.cell? ⟨gt, 1, none⟩ = some (.slice (some ⟨g1, 0, none⟩) m c1) ∧ SL W A n (some ⟨g1, 0, none⟩) m ⟨s.seen, l.set k x'⟩) := fun W hW => ⟨(Hrow6.out.kept hW (by simp)).at_ (i := 0) rfl, (Hrow6.out.kept hW (by simp)).at_ (i := 1) rfl, (HA6.out W hW).2.2.1, (HRF6.out.kept hW (by simp)).fl HlT.out⟩
      obtain ⟨bm, hbm⟩ := asB (MayS ⟨s.seen, l.set k x'⟩)
      obtain ⟨be, hbe⟩ := asB (s = ⟨s.seen, l.set k x'⟩)
      have Hbm := Lib.hid hbm
      have Hbe := Lib.hid hbe
      clear hbm hbe hg5 hrf
      go_upto_region 19 with fail
      apply wp_region_told (le := fun a b => a.grownBy b none) [isV _, isV _, isV _, isV _, isV _, isV _, isV _, isV _, isV _, isV _, isV _, isV _, isV _, isV _, isV _, isV _, isV _, isV _]
      case hn => rfl
      case hm => kernel_rfl
      case hB => kernel_rfl
      case ht => exact fun _ _ _ h k => gb_none h k
      case hw => exact gb_drew (gb_refl _ _)
      -- 0: law.go:76 load
      apply told_is
      · intro W f hW hE h0 K hK
        have e14 := h0 14 (by kernel_rfl)
        conv at e14 => rhs; whnf
        clear hE h0
        refine yes_of (want_free rfl) ?_
        obtain ⟨z0, z1, _⟩ := HC6.out W hW
        go_simp; exact hK _ _ (gb_refl _ _) rfl
      -- 1: law.go:76 call
      apply told_is
      · intro W f hW hE h0 K hK
        have e131 : f 131 = _ := hE 0 131 _ rfl (by kernel_rfl)
        clear hE h0
        refine yes_of (want_free rfl) ?_
        go_simp
        refine (pMayS_any A (some ⟨g1, 0, none⟩) n c m c1 ⟨s.seen, l.set k x'⟩ W (HC6.out W hW).2.2 (by have := Hnm.out; omega) (by have := Hnm.out; omega)).mono ?_
        intro e w1' hh; obtain ⟨he, g⟩ := hh.is Hbm.out; subst he
        exact ⟨_, rfl, hK _ _ g rfl⟩
      -- 2: law.go:76 load
      apply told_is
      · intro W f hW hE h0 K hK
        have e14 := h0 14 (by kernel_rfl)
        conv at e14 => rhs; whnf
        clear hE h0
        refine yes_of (want_free rfl) ?_
        obtain ⟨z0, z1, _⟩ := HC6.out W hW
        go_simp; exact hK _ _ (gb_refl _ _) rfl
      -- 3: law.go:76 call
      apply told_is
      · intro W f hW hE h0 K hK
        have e133 : f 133 = _ := hE 0 133 _ rfl (by kernel_rfl)
        clear hE h0
        refine yes_of (want_free rfl) ?_
        go_simp
        refine (refMayS_any A (some ⟨g1, 0, none⟩) n c m c1 ⟨s.seen, l.set k x'⟩ W (HC6.out W hW).2.2 (by have := Hnm.out; omega) (by have := Hnm.out; omega)).mono ?_
        intro e w1' hh; obtain ⟨he, g⟩ := hh.is Hbm.out; subst he
        exact ⟨_, rfl, hK _ _ g rfl⟩
      -- 4: law.go:76 binOp
      apply told_is
      · intro W f hW hE h0 K hK
        have e132 : f 132 = _ := hE 2 132 _ rfl (by kernel_rfl)
        have e134 : f 134 = _ := hE 0 134 _ rfl (by kernel_rfl)
        clear hE h0
        refine yes_of (want_free rfl) ?_
        cases bm
        all_goals (go_simp; exact hK _ _ (gb_refl _ _) rfl)
      -- 5: law.go:76 move
      apply told_is
      · intro W f hW hE h0 K hK
        have e135 : f 135 = _ := hE 0 135 _ rfl (by kernel_rfl)
        clear hE h0
        refine yes_of (want_free rfl) ?_
        go_simp; exact hK _ _ (gb_refl _ _) rfl
      -- 6: law.go:76 load
      apply told_is
      · intro W f hW hE h0 K hK
        have e11 := h0 11 (by kernel_rfl)
        conv at e11 => rhs; whnf
        have e136 : f 136 = _ := hE 0 136 _ rfl (by kernel_rfl)
        clear hE h0
        refine yes_of (want_yes rfl rfl e136) ?_
        obtain ⟨z0, z1, _⟩ := HA6.out W hW
        go_simp; exact hK _ _ (gb_refl _ _) rfl
      -- 7: law.go:76 load
      apply told_is
      · intro W f hW hE h0 K hK
        have e14 := h0 14 (by kernel_rfl)
        conv at e14 => rhs; whnf
        have e136 : f 136 = _ := hE 1 136 _ rfl (by kernel_rfl)
        clear hE h0
        refine yes_of (want_yes rfl rfl e136) ?_
        obtain ⟨z0, z1, _⟩ := HC6.out W hW
        go_simp; exact hK _ _ (gb_refl _ _) rfl
      -- 8: law.go:76 call
      apply told_is
      · intro W f hW hE h0 K hK
        have e137 : f 137 = _ := hE 1 137 _ rfl (by kernel_rfl)
        have e138 : f 138 = _ := hE 0 138 _ rfl (by kernel_rfl)
        have e136 : f 136 = _ := hE 2 136 _ rfl (by kernel_rfl)
        clear hE h0
        refine yes_of (want_yes rfl rfl e136) ?_
        go_simp
        refine (pSame_any A B A (some ⟨g1, 0, none⟩) n c m d n c m c1 s ⟨s.seen, l.set k x'⟩ W (HA6.out W hW).2.2 (HC6.out W hW).2.2 (by have := Hnm.out; omega) (by have := Hnm.out; omega) (by have := Hnm.out; omega) (by have := Hnm.out; omega)).mono ?_
        intro e w1' hh; obtain ⟨he, g⟩ := hh.is Hbe.out; subst he
        exact ⟨_, rfl, hK _ _ g rfl⟩
      -- 9: law.go:76 load
      apply told_is
      · intro W f hW hE h0 K hK
        have e11 := h0 11 (by kernel_rfl)
        conv at e11 => rhs; whnf
        have e136 : f 136 = _ := hE 3 136 _ rfl (by kernel_rfl)
        clear hE h0
        refine yes_of (want_yes rfl rfl e136) ?_
        obtain ⟨z0, z1, _⟩ := HA6.out W hW
        go_simp; exact hK _ _ (gb_refl _ _) rfl
      -- 10: law.go:76 load
      apply told_is
      · intro W f hW hE h0 K hK
        have e14 := h0 14 (by kernel_rfl)
        conv at e14 => rhs; whnf
        have e136 : f 136 = _ := hE 4 136 _ rfl (by kernel_rfl)
        clear hE h0
        refine yes_of (want_yes rfl rfl e136) ?_
        obtain ⟨z0, z1, _⟩ := HC6.out W hW
        go_simp; exact hK _ _ (gb_refl _ _) rfl
      -- 11: law.go:76 call
      apply told_is
      · intro W f hW hE h0 K hK
        have e140 : f 140 = _ := hE 1 140 _ rfl (by kernel_rfl)
        have e141 : f 141 = _ := hE 0 141 _ rfl (by kernel_rfl)
        have e136 : f 136 = _ := hE 5 136 _ rfl (by kernel_rfl)
        clear hE h0
        refine yes_of (want_yes rfl rfl e136) ?_
        go_simp
        refine (refSameSt_any A B A (some ⟨g1, 0, none⟩) n c m d n c m c1 s ⟨s.seen, l.set k x'⟩ W (HA6.out W hW).2.2 (HC6.out W hW).2.2 (by have := Hnm.out; omega) (by have := Hnm.out; omega) (by have := Hnm.out; omega) (by have := Hnm.out; omega)).mono ?_
        intro e w1' hh; obtain ⟨he, g⟩ := hh.is Hbe.out; subst he
        exact ⟨_, rfl, hK _ _ g rfl⟩
      -- 12: law.go:76 binOp
      apply told_is
      · intro W f hW hE h0 K hK
        have e139 : f 139 = _ := hE 3 139 _ rfl (by kernel_rfl)
        have e142 : f 142 = _ := hE 0 142 _ rfl (by kernel_rfl)
        have e136 : f 136 = _ := hE 6 136 _ rfl (by kernel_rfl)
        clear hE h0
        refine yes_of (want_yes rfl rfl e136) ?_
        cases be
        all_goals (go_simp; exact hK _ _ (gb_refl _ _) rfl)
      -- 13: law.go:76 pick
      apply told_is
      · intro W f hW hE h0 K hK
        have e136 : f 136 = _ := hE 7 136 _ rfl (by kernel_rfl)
        have e143 : f 143 = _ := hE 0 143 _ rfl (by kernel_rfl)
        clear hE h0
        refine yes_of (want_free rfl) ?_
        go_simp; exact hK _ _ (gb_refl _ _) rfl
      -- 14: law.go:76 move
      apply told_is
      · intro W f hW hE h0 K hK
        have e144 : f 144 = _ := hE 0 144 _ rfl (by kernel_rfl)
        clear hE h0
        refine yes_of (want_free rfl) ?_
        go_simp; exact hK _ _ (gb_refl _ _) rfl
      -- 15: law.go:76 call
      apply told_is
      · intro W f hW hE h0 K hK
        have e145 : f 145 = _ := hE 0 145 _ rfl (by kernel_rfl)
        clear hE h0
        refine yes_of (want_yes rfl rfl e145) ?_
        go_simp
        refine (awake8_any _).mono ?_
        rintro e w1' ⟨rfl, g⟩
        exact ⟨_, rfl, hK _ _ g rfl⟩
      -- 16: law.go:76 pick
      apply told_is
      · intro W f hW hE h0 K hK
        have e145 : f 145 = _ := hE 1 145 _ rfl (by kernel_rfl)
        have e146 : f 146 = _ := hE 0 146 _ rfl (by kernel_rfl)
        clear hE h0
        refine yes_of (want_free rfl) ?_
        go_simp; exact hK _ _ (gb_refl _ _) rfl
      -- 17: law.go:76 assign
      apply told_is
      · intro W f hW hE h0 K hK
        have e147 : f 147 = _ := hE 0 147 _ rfl (by kernel_rfl)
        clear hE h0
        refine yes_of (want_free rfl) ?_
        go_simp; exact hK _ _ (gb_refl _ _) rfl
      intro W f hW hA
      simp only [lexIn, Act.put, List.setIfInBounds_toArray, List.set_cons_zero, List.set_cons_succ]
      have e10 : f 10 = _ := hA 0 (some 10) _ rfl
      rw [e10]
      clear hA
      go_wp2_with fail
      go_ret
      exact ⟨rfl, gb_below (gb_none HE6.out hW) (Nat.le_refl _)⟩

set_option maxRecDepth 100000 in
theorem lifted (os : Os) (started : os.Started) (H : Type) (enc : TypeId × Value → H) :
    ReturnsInHanded {} Try.checked os 3 .any (Rows.factsMadeSpec.pre6 enc Try.prog Try.f3 Rows.factsMadeRow.domain false) (Rows.factsMadeSpec.post enc Try.prog Try.f3 false true false false) := by
  refine returnsInHanded_of_change (C := Try.checked) own started (by kernel_rfl) Try.func3
    (ChangeSpec.witness6 (enc := enc) (C := Try.checked) false ⟨#[], #[.slice none 0 0, .slice none 0 0, .int .u8 0, .int .u8 0, .int .u8 0], []⟩ 8 (by kernel_rfl) (by kernel_rfl) (by kernel_rfl) (by kernel_rfl)) ?_
  intro W base args ds gs before hval0 hW hcnd _
  have hval : ∀ (j : Nat) t v, Try.f3.params[j]? = some t → args[j]? = some v → Value.okWide Try.prog W .any base t v := hval0
  have hW' := hW
  obtain ⟨p, q, hA0, hV, rfl, hfz, hnd⟩ := hW
  have hA : DataW.TrodAll enc Try.prog W 0 (fun _ => true) true Try.f3.params.toList args.toList ds p := hA0
  rw [Try.params3] at hA hval
  obtain ⟨v0, vs0, d0, ds0, p0, q0, hargs, rfl, rfl, h0, r0⟩ := trodAll_cons hA
  obtain ⟨v1, vs1, d1, ds1, p1, q1, rfl, rfl, rfl, h1, r1⟩ := trodAll_cons r0
  obtain ⟨v2, vs2, d2, ds2, p2, q2, rfl, rfl, rfl, h2, r2⟩ := trodAll_cons r1
  obtain ⟨v3, vs3, d3, ds3, p3, q3, rfl, rfl, rfl, h3, r3⟩ := trodAll_cons r2
  obtain ⟨v4, vs4, d4, ds4, p4, q4, rfl, rfl, rfl, h4, r4⟩ := trodAll_cons r3
  obtain ⟨rfl, rfl, rfl⟩ := trodAll_nil r4
  obtain rfl : args = #[v0, v1, v2, v3, v4] := by cases args; simp_all
  obtain ⟨rfl, rfl⟩ := trodVars_none hV
  have k0 := h0
  have lt0 : ∀ x ∈ p0, x.block < W.heap.size := by obtain ⟨m, hm⟩ := k0; exact DataW.trod_lt m _ _ _ hm
  obtain ⟨a0, len0, cap0, rfl⟩ := okWide_slice Try.underlying22 (hval 0 22 v0 rfl rfl)
  obtain ⟨z0, w0⟩ : ∃ zs, IsRow .u8 W a0 len0 cap0 zs := by
    obtain ⟨fuel, hf⟩ := h0
    rcases open_ints Try.underlying22 Try.underlying5 (by kernel_rfl) hf with ⟨hcs, _⟩ | ⟨x, l, c, zs, hcs, _, hl, hm, hz, _, hcell, hwz⟩
    · simp [Value.cells] at hcs
      obtain ⟨rfl, rfl, rfl⟩ := hcs
      exact ⟨[], .inl ⟨rfl, rfl, rfl, rfl⟩⟩
    · simp [Value.cells] at hcs
      obtain ⟨rfl, rfl, rfl⟩ := hcs
      exact ⟨zs, .inr ⟨_, rfl, hl, hm, by simpa using hz, hcell, hwz⟩⟩
  have k1 := h1
  have lt1 : ∀ x ∈ p1, x.block < W.heap.size := by obtain ⟨m, hm⟩ := k1; exact DataW.trod_lt m _ _ _ hm
  obtain ⟨a1, len1, cap1, rfl⟩ := okWide_slice Try.underlying22 (hval 1 22 v1 rfl rfl)
  obtain ⟨z1, w1⟩ : ∃ zs, IsRow .u8 W a1 len1 cap1 zs := by
    obtain ⟨fuel, hf⟩ := h1
    rcases open_ints Try.underlying22 Try.underlying5 (by kernel_rfl) hf with ⟨hcs, _⟩ | ⟨x, l, c, zs, hcs, _, hl, hm, hz, _, hcell, hwz⟩
    · simp [Value.cells] at hcs
      obtain ⟨rfl, rfl, rfl⟩ := hcs
      exact ⟨[], .inl ⟨rfl, rfl, rfl, rfl⟩⟩
    · simp [Value.cells] at hcs
      obtain ⟨rfl, rfl, rfl⟩ := hcs
      exact ⟨zs, .inr ⟨_, rfl, hl, hm, by simpa using hz, hcell, hwz⟩⟩
  obtain ⟨a2, rfl, rfl, rfl, w2⟩ := open_int Try.underlying5 (hval 2 5 v2 rfl rfl) h2
  obtain ⟨a3, rfl, rfl, rfl, w3⟩ := open_int Try.underlying5 (hval 3 5 v3 rfl rfl) h3
  obtain ⟨a4, rfl, rfl, rfl, w4⟩ := open_int Try.underlying5 (hval 4 5 v4 rfl rfl) h4
  clear hA0 hval0
  refine (walk a0 len0 cap0 z0 a1 len1 cap1 z1 a2 a3 a4 W w0 w1 w2 w3 w4).mono fun e W' ⟨he, bel⟩ => ?_
  subst he
  exact ⟨_, rfl, _, _, _, [], _, [], hW', trodAll_mk1 (shut_bool Try.underlying4 _), (trodAll_cons_mk (Below.trod laidOut (by kernel_rfl) (of_decide_eq_true (by kernel_rfl)) k0 bel lt0) (trodAll_cons_mk (Below.trod laidOut (by kernel_rfl) (of_decide_eq_true (by kernel_rfl)) k1 bel lt1) (trodAll_cons_mk (shut_int Try.underlying5 w2) (trodAll_cons_mk (shut_int Try.underlying5 w3) (trodAll_cons_mk (shut_int Try.underlying5 w4) trodAll_mk0))))), rfl, bel.frame _, fun h => by cases h⟩

theorem over : Rows.factsMadeRow.holds Try.pinned (OpenSpec.ofChange Rows.factsMadeSpec) :=
  OpenClaim.holds_of_wide 3 Try.f3 rfl rfl rfl rfl rfl rfl rfl ⟨rfl, rfl, rfl, rfl, rfl⟩ rfl rfl rfl rfl rfl (by kernel_rfl) Try.func3 (by kernel_rfl)
    (of_decide_eq_true (by kernel_rfl)) (by unfold Func.isWrapper; first | (rw [if_pos (by decide +kernel)]; kernel_rfl) | (rw [if_neg (by decide +kernel)]; exact ⟨rfl, rfl⟩))
    (fun os started H enc _ => lifted os started H enc)

theorem proved : Rows.FactsMadeSaid := over
#print axioms proved
end Go.Proofs.Ytkjjgbcbgjgjeaa.factsMade
