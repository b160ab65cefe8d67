/-
  Proved: whatever values of its parameters' types it is called with, deaddroplaw15.MemberHead returns true, and each argument reads behind the call as it read before; the listed package-level variables being what the program's own text lays (the card ties them).
  Conditions: none but those of the card itself.
-/
import Derived.Test.YtdlafgkiddhejaaGreatDoorCards
import Derived.Test.YtdlafgkiddhejaaGreatDoorTie
import Derived.WalkKit
import Derived.ProofKit
import Derived.OpenShut
import Derived.ShutString
import Derived.Below
import Derived.ChangeOld
import Derived.Deep.DeepHandedRow
import Derived.LaidSub
import Derived.LaidHandle
import Derived.LaidLaws
import Derived.RowKitTokens
import Derived.Stop.LaidTwo
import Derived.Lib.LaidTab
import Derived.Test.YtdlafgkiddhejaaGreatDoorMbLaw
import Derived.Test.YtdlafgkiddhejaaGreatDoorMbOpen
import Derived.Test.YtdlafgkiddhejaaGreatDoorTdA
import Derived.Deep.DeepCutAuto
import Derived.Test.YtdlafgkiddhejaaGreatDoorSn
namespace Go.Proofs.YtdlafgkiddhejaaGreatDoor.memberHead
open Go.ChangeShapes Go.WideShapes Go.ChangeAt Go.RowKit
open Go.ChangeMaps (open_string shut_string)
open Go.Proofs.YtdlafgkiddhejaaGreatDoor.Mm Go.Proofs.YtdlafgkiddhejaaGreatDoor.Dt Go.Proofs.YtdlafgkiddhejaaGreatDoor.Td Go.Proofs.YtdlafgkiddhejaaGreatDoor.Vw Go.Proofs.YtdlafgkiddhejaaGreatDoor.Wd Go.Proofs.YtdlafgkiddhejaaGreatDoor.Hh Go.Proofs.YtdlafgkiddhejaaGreatDoor.Mb Go.Proofs.YtdlafgkiddhejaaGreatDoor.Me Go.Proofs.YtdlafgkiddhejaaGreatDoor
set_option linter.unusedVariables false

theorem own : ownKnob Tryz.prog.godebug = none := by kernel_rfl
theorem laidOut : laidOutB Tryz.prog = true := by kernel_rfl

attribute [local go_sem] Td.upon_value Td.upon_skip Td.upon_enter Td.upon_row Td.look_tmp Td.look_const Td.look_func Td.look_global
theorem may_mix {a b : Rc} (ha : MayR a) (hb : MayR b) : MayR ⟨a.seq, a.prev, a.kind, a.dev, b.wraps, b.tag⟩ := ⟨⟨ha.1.1, ha.1.2.1, ha.1.2.2.1, ha.1.2.2.2.1, ha.1.2.2.2.2.1, ha.1.2.2.2.2.2.1, hb.1.2.2.2.2.2.2⟩, hb.2⟩
theorem may_dev {a : Rc} {d : Int} (ha : MayR a) (hd : 0 ≤ d ∧ d < 8) : MayR ⟨a.seq, a.prev, a.kind, d, a.wraps, a.tag⟩ := ⟨⟨ha.1.1, ha.1.2.1, ha.1.2.2.1, ha.1.2.2.2.1, hd.1, hd.2, ha.1.2.2.2.2.2.2⟩, ha.2⟩

set_option maxHeartbeats 40000000 in
set_option maxRecDepth 100000 in
theorem walk (rx0 : Rc) (RA0 : Option Addr) (rc0 : Nat) (rx1 : Rc) (RA1 : Option Addr) (rc1 : Nat) (a2 : Int) (w : World) (w0 : WL w RA0 rx0.wraps.length rx0.wraps) (c0 : rx0.wraps.length ≤ rc0) (w1 : WL w RA1 rx1.wraps.length rx1.wraps) (c1 : rx1.wraps.length ≤ rc1) (w2 : (Lit.int .u8 a2).wf = true) (hE : Sn.Two w 0 1 ∧ Sn.Two w 2 3 ∧ Sn.Two w 4 5 ∧ Sn.Two w 6 7) (hT : w.cell? ⟨9, 0, none⟩ = some (.iface 126 (.agg #[.pointer (some ⟨12, 45, none⟩)]))) (hS : Tabs w) :
    Calls Tryz.prog 7 #[.agg #[.int .i64 rx0.seq, .string rx0.prev, .int .i64 rx0.kind, .int .i64 rx0.dev, .slice RA0 rx0.wraps.length rc0, .string rx0.tag], .agg #[.int .i64 rx1.seq, .string rx1.prev, .int .i64 rx1.kind, .int .i64 rx1.dev, .slice RA1 rx1.wraps.length rc1, .string rx1.tag], .int .u8 a2] w fun e w' => e = .returned (.bool true) ∧ Below w.heap.size w w' := by
  have HR : Hid (Rdy w) := ⟨hS, MErrs.of hE, hT⟩
  have HAw : Hid (∀ W, w.grownBy W none → Calls Tryz.prog 9 #[] W fun e w' => e = .returned (.bool true) ∧ W.grownBy w' none) := fun W hW => awake15_any W (HR.out.keep hW)
  clear hS hE hT
  obtain ⟨b0, hb0⟩ : ∃ b0, w.heap.size = b0 := ⟨_, rfl⟩
  obtain ⟨b1, hb1⟩ : ∃ b1, b0 + 1 = b1 := ⟨_, rfl⟩
  obtain ⟨W0, hW0⟩ : ∃ W0, (w.alloc (.cells #[.int .i64 rx0.seq, .string rx0.prev, .int .i64 rx0.kind, .int .i64 rx0.dev, .slice RA0 rx0.wraps.length rc0, .string rx0.tag] 26)).alloc (.cells #[.int .i64 rx1.seq, .string rx1.prev, .int .i64 rx1.kind, .int .i64 rx1.dev, .slice RA1 rx1.wraps.length rc1, .string rx1.tag] 26) = W0 := ⟨_, rfl⟩
  have G0 : w.grownBy W0 none := by rw [← hW0]; exact gb_alloc (gb_alloc (gb_refl _ _) _) _
  have hr0 : Row W0 b0 26 #[.int .i64 rx0.seq, .string rx0.prev, .int .i64 rx0.kind, .int .i64 rx0.dev, .slice RA0 rx0.wraps.length rc0, .string rx0.tag] := by rw [← hW0, ← hb0]; exact (Row.new _ _ _).alloc _
  have hr1 : Row W0 b1 26 #[.int .i64 rx1.seq, .string rx1.prev, .int .i64 rx1.kind, .int .i64 rx1.dev, .slice RA1 rx1.wraps.length rc1, .string rx1.tag] := by
    rw [← hW0, ← hb1, ← hb0]
    have h := Row.new (w.alloc (.cells #[.int .i64 rx0.seq, .string rx0.prev, .int .i64 rx0.kind, .int .i64 rx0.dev, .slice RA0 rx0.wraps.length rc0, .string rx0.tag] 26)) 26 #[.int .i64 rx1.seq, .string rx1.prev, .int .i64 rx1.kind, .int .i64 rx1.dev, .slice RA1 rx1.wraps.length rc1, .string rx1.tag]
    rwa [World.size_alloc] at h
  have HC : Hid (∀ W, W0.grownBy W none → RecC0 W b0 rx0 RA0 rc0 ∧ RecC0 W b1 rx1 RA1 rc1) := fun W hW => ⟨rec_row (hr0.kept hW (by simp)), rec_row (hr1.kept hW (by simp))⟩
  have HW0 : Hid (∀ W, W0.grownBy W none → WL W RA0 rx0.wraps.length rx0.wraps) := fun W hW => w0.keep (gb_none G0 hW)
  have HW1 : Hid (∀ W, W0.grownBy W none → WL W RA1 rx1.wraps.length rx1.wraps) := fun W hW => w1.keep (gb_none G0 hW)
  have Hc0 := Lib.hid c0
  have Hc1 := Lib.hid c1
  have HG := Lib.hid G0
  obtain ⟨n0, n1⟩ := u8_of w2
  have Hn2 : Hid (0 ≤ a2 ∧ a2 ≤ 255) := ⟨n0, n1⟩
  clear hr0 hr1 w0 w1 c0 c1 w2 n0 n1 G0
  obtain ⟨⟨y0, y1, y2, y3, y4, y5⟩, z0, z1, z2, z3, z4, z5⟩ := HC.out W0 (gb_refl _ _)
  have HGa := Lib.hid (great_any rx0 RA0 rc0 W0 (HW0.out W0 (gb_refl _ _)) Hc0.out)
  go_enter Tryz.func7, Tryz.ntmps7
  go_upto_region 1 with fail
  clear hW0 hb0 hb1
  go_wp2_with fail
  refine HGa.out.mono ?_
  rintro e v1 ⟨⟨q, rfl, hq⟩, g1⟩
  have Hq1 := Lib.hid hq
  have Hgv1 := Lib.hid g1
  clear hq g1 HGa y0 y1 y2 y3 y4 y5 z0 z1 z2 z3 z4 z5
  obtain ⟨⟨y0, y1, y2, y3, y4, y5⟩, z0, z1, z2, z3, z4, z5⟩ := HC.out v1 Hgv1.out
  cases q with
  | true =>
    clear y0 y1 y2 y3 y4 y5 z0 z1 z2 z3 z4 z5
    go_wp2_with fail
    refine (HAw.out v1 (gb_none HG.out Hgv1.out)).mono ?_
    rintro e wz ⟨rfl, gz⟩
    go_wp2_with fail
    go_ret
    exact ⟨rfl, gb_below (gb_none (gb_none HG.out Hgv1.out) gz) (Nat.le_refl _)⟩
  | false =>
  have HGb := Lib.hid (great_any rx1 RA1 rc1 v1 (HW1.out v1 Hgv1.out) Hc1.out)
  go_wp2_with fail
  refine HGb.out.mono ?_
  rintro e v2 ⟨⟨q, rfl, hq⟩, g2⟩
  have Hq2 := Lib.hid hq
  have Hgv2 := Lib.hid (gb_none Hgv1.out g2)
  clear hq g2 HGb y0 y1 y2 y3 y4 y5 z0 z1 z2 z3 z4 z5
  obtain ⟨⟨y0, y1, y2, y3, y4, y5⟩, z0, z1, z2, z3, z4, z5⟩ := HC.out v2 Hgv2.out
  cases q with
  | true =>
    clear y0 y1 y2 y3 y4 y5 z0 z1 z2 z3 z4 z5
    go_wp2_with fail
    refine (HAw.out v2 (gb_none HG.out Hgv2.out)).mono ?_
    rintro e wz ⟨rfl, gz⟩
    go_wp2_with fail
    go_ret
    exact ⟨rfl, gb_below (gb_none (gb_none HG.out Hgv2.out) gz) (Nat.le_refl _)⟩
  | false =>
  have HMa := Lib.hid (refMay_any rx0 RA0 rc0 v2 (HW0.out v2 Hgv2.out) (by have := Hq1.out (by first | rfl | trivial); omega))
  by_cases hma : MayR rx0
  rotate_left
  · go_wp2_with fail
    refine HMa.out.mono ?_
    intro e v3 hh
    obtain ⟨he, g3⟩ := hh.no hma
    subst he
    have Hgv3 := Lib.hid (gb_none Hgv2.out g3)
    clear hh g3 y0 y1 y2 y3 y4 y5 z0 z1 z2 z3 z4 z5
    obtain ⟨⟨y0, y1, y2, y3, y4, y5⟩, z0, z1, z2, z3, z4, z5⟩ := HC.out v3 Hgv3.out
    clear y0 y1 y2 y3 y4 y5 z0 z1 z2 z3 z4 z5
    go_wp2_with fail
    refine (HAw.out v3 (gb_none HG.out Hgv3.out)).mono ?_
    rintro e wz ⟨rfl, gz⟩
    go_wp2_with fail
    go_ret
    exact ⟨rfl, gb_below (gb_none (gb_none HG.out Hgv3.out) gz) (Nat.le_refl _)⟩
  go_wp2_with fail
  refine HMa.out.mono ?_
  intro e v3 hh
  obtain ⟨he, g3⟩ := hh.yes hma
  subst he
  have Hgv3 := Lib.hid (gb_none Hgv2.out g3)
  clear hh g3 HMa y0 y1 y2 y3 y4 y5 z0 z1 z2 z3 z4 z5
  obtain ⟨⟨y0, y1, y2, y3, y4, y5⟩, z0, z1, z2, z3, z4, z5⟩ := HC.out v3 Hgv3.out
  have HMb := Lib.hid (refMay_any rx1 RA1 rc1 v3 (HW1.out v3 Hgv3.out) (by have := Hq2.out (by first | rfl | trivial); omega))
  by_cases hmb : MayR rx1
  rotate_left
  · go_wp2_with fail
    refine HMb.out.mono ?_
    intro e v4 hh
    obtain ⟨he, g4⟩ := hh.no hmb
    subst he
    have Hgv4 := Lib.hid (gb_none Hgv3.out g4)
    clear hh g4 y0 y1 y2 y3 y4 y5 z0 z1 z2 z3 z4 z5
    obtain ⟨⟨y0, y1, y2, y3, y4, y5⟩, z0, z1, z2, z3, z4, z5⟩ := HC.out v4 Hgv4.out
    clear y0 y1 y2 y3 y4 y5 z0 z1 z2 z3 z4 z5
    go_wp2_with fail
    refine (HAw.out v4 (gb_none HG.out Hgv4.out)).mono ?_
    rintro e wz ⟨rfl, gz⟩
    go_wp2_with fail
    go_ret
    exact ⟨rfl, gb_below (gb_none (gb_none HG.out Hgv4.out) gz) (Nat.le_refl _)⟩
  go_wp2_with fail
  refine HMb.out.mono ?_
  intro e v4 hh
  obtain ⟨he, g4⟩ := hh.yes hmb
  subst he
  have Hgv4 := Lib.hid (gb_none Hgv3.out g4)
  clear hh g4 HMb y0 y1 y2 y3 y4 y5 z0 z1 z2 z3 z4 z5
  have Hma := Lib.hid hma
  have Hmb := Lib.hid hmb
  have Hn0 : Hid (rx0.wraps.length ≤ 12) := Hq1.out (by first | rfl | trivial)
  have Hn1 : Hid (rx1.wraps.length ≤ 12) := Hq2.out (by first | rfl | trivial)
  clear hma hmb Hq1 Hq2
  go_upto_region 3 with fail
  obtain ⟨⟨y0, y1, y2, y3, y4, y5⟩, z0, z1, z2, z3, z4, z5⟩ := HC.out v4 Hgv4.out
  go_upto_region 4 with fail
  obtain ⟨b7, hb7⟩ : ∃ b7, v4.heap.size = b7 := ⟨_, rfl⟩
  obtain ⟨W5, hW5⟩ : ∃ W5, v4.alloc (.cells #[.int .i64 rx0.seq, .string rx0.prev, .int .i64 rx0.kind, .int .i64 rx0.dev, .slice RA0 rx0.wraps.length rc0, .string rx0.tag] 26) = W5 := ⟨_, rfl⟩
  have HR5 : Hid (Row W5 b7 26 #[.int .i64 rx0.seq, .string rx0.prev, .int .i64 rx0.kind, .int .i64 rx0.dev, .slice RA0 rx0.wraps.length rc0, .string rx0.tag]) := by rw [← hW5, ← hb7]; exact Row.new _ _ _
  have HgW5 : Hid (W0.grownBy W5 none) := by rw [← hW5]; exact gb_alloc Hgv4.out _
  have Hb7 : Hid (W0.heap.size ≤ b7) := by show _ ≤ _; rw [← hb7]; exact Hgv4.out.size
  rw [hb7, hW5]
  clear hb7 hW5 y0 y1 y2 y3 y4 y5 z0 z1 z2 z3 z4 z5
  obtain ⟨⟨y0, y1, y2, y3, y4, y5⟩, z0, z1, z2, z3, z4, z5⟩ := HC.out W5 HgW5.out
  have x4 : W5.cell? ⟨b7, 4, none⟩ = some (.slice RA0 rx0.wraps.length rc0) := HR5.out.at_ (i := 4) rfl
  have f4 : W5.frozen? ⟨b7, 4, none⟩ = false := HR5.out.free 4
  go_upto_region 5 with fail
  have HR6 := Lib.hid (HR5.out.set_ 4 (.slice RA1 rx1.wraps.length rc1))
  have HgW6 : Hid (W0.grownBy (W5.setCell ⟨b7, 4, none⟩ (.slice RA1 rx1.wraps.length rc1)) none) := gb_new HgW5.out (gb_set1 _ _ _ _) Hb7.out
  obtain ⟨W6, hW6⟩ : ∃ W6, W5.setCell ⟨b7, 4, none⟩ (.slice RA1 rx1.wraps.length rc1) = W6 := ⟨_, rfl⟩
  rw [hW6] at HR6 HgW6 ⊢
  clear hW6 x4 f4 y0 y1 y2 y3 y4 y5 z0 z1 z2 z3 z4 z5
  obtain ⟨⟨y0, y1, y2, y3, y4, y5⟩, z0, z1, z2, z3, z4, z5⟩ := HC.out W6 HgW6.out
  have x5 : W6.cell? ⟨b7, 5, none⟩ = some (.string rx0.tag) := HR6.out.at_ (i := 5) rfl
  have f5 : W6.frozen? ⟨b7, 5, none⟩ = false := HR6.out.free 5
  go_upto_region 6 with fail
  have HR7 := Lib.hid (HR6.out.set_ 5 (.string rx1.tag))
  have HgW7 : Hid (W0.grownBy (W6.setCell ⟨b7, 5, none⟩ (.string rx1.tag)) none) := gb_new HgW6.out (gb_set1 _ _ _ _) Hb7.out
  obtain ⟨W7, hW7⟩ : ∃ W7, W6.setCell ⟨b7, 5, none⟩ (.string rx1.tag) = W7 := ⟨_, rfl⟩
  rw [hW7] at HR7 HgW7 ⊢
  clear hW7 x5 f5 y0 y1 y2 y3 y4 y5 z0 z1 z2 z3 z4 z5
  have HCc0 : Hid (∀ W, W7.grownBy W none → W.cell? ⟨b7, 0, none⟩ = some (.int .i64 rx0.seq) ∧ W.cell? ⟨b7, 1, none⟩ = some (.string rx0.prev) ∧ W.cell? ⟨b7, 2, none⟩ = some (.int .i64 rx0.kind) ∧ W.cell? ⟨b7, 3, none⟩ = some (.int .i64 rx0.dev) ∧ W.cell? ⟨b7, 4, none⟩ = some (.slice RA1 rx1.wraps.length rc1) ∧ W.cell? ⟨b7, 5, none⟩ = some (.string rx1.tag)) := fun W hW => ⟨(HR7.out.kept hW (by simp)).at_ (i := 0) rfl, (HR7.out.kept hW (by simp)).at_ (i := 1) rfl, (HR7.out.kept hW (by simp)).at_ (i := 2) rfl, (HR7.out.kept hW (by simp)).at_ (i := 3) rfl, (HR7.out.kept hW (by simp)).at_ (i := 4) rfl, (HR7.out.kept hW (by simp)).at_ (i := 5) rfl⟩
  obtain ⟨qs, hqs⟩ : ∃ qs : Bool, qs = true ↔ rx0.seq = rx1.seq ∧ rx0.kind = rx1.kind ∧ rx0.dev = rx1.dev ∧ rx0.prev = rx1.prev := by
    by_cases h : rx0.seq = rx1.seq ∧ rx0.kind = rx1.kind ∧ rx0.dev = rx1.dev ∧ rx0.prev = rx1.prev
    · exact ⟨true, fun _ => h, fun _ => rfl⟩
    · exact ⟨false, fun e => (by cases e), fun e => absurd e h⟩
  have Hqs := Lib.hid hqs
  clear hqs
  go_cut [8] (fun v wx => v = .bool qs ∧ wx = W7)
  case first =>
    obtain ⟨⟨y0, y1, y2, y3, y4, y5⟩, z0, z1, z2, z3, z4, z5⟩ := HC.out W7 HgW7.out
    by_cases h1 : rx0.seq = rx1.seq
    · have h1e : (rx0.seq == rx1.seq) = true := eq_yes h1
      by_cases h2 : rx0.prev = rx1.prev
      · have h2e : (rx0.prev.toList == rx1.prev.toList) = true := str_eq h2
        by_cases h3 : rx0.kind = rx1.kind
        · have h3e : (rx0.kind == rx1.kind) = true := eq_yes h3
          by_cases h4 : rx0.dev = rx1.dev
          · have h4e : (rx0.dev == rx1.dev) = true := eq_yes h4
            have HE : Hid (qs = true) := Hqs.out.2 ⟨h1, h3, h4, h2⟩
            clear h1 h2 h3 h4
            go_wp2_with fail
            go_meet
            exact ⟨by rw [HE.out], rfl⟩
          · have h4e : (rx0.dev == rx1.dev) = false := eq_no h4
            have HE : Hid (qs = false) := by
              cases hq : qs with
              | false => exact rfl
              | true => exact absurd (Hqs.out.1 hq).2.2.1 h4
            clear h1 h2 h3 h4
            go_wp2_with fail
            go_meet
            exact ⟨by rw [HE.out], rfl⟩
        · have h3e : (rx0.kind == rx1.kind) = false := eq_no h3
          have HE : Hid (qs = false) := by
            cases hq : qs with
            | false => exact rfl
            | true => exact absurd (Hqs.out.1 hq).2.1 h3
          clear h1 h2 h3
          go_wp2_with fail
          go_meet
          exact ⟨by rw [HE.out], rfl⟩
      · have h2e : (rx0.prev.toList == rx1.prev.toList) = false := str_ne h2
        have HE : Hid (qs = false) := by
          cases hq : qs with
          | false => exact rfl
          | true => exact absurd (Hqs.out.1 hq).2.2.2 h2
        clear h1 h2
        go_wp2_with fail
        go_meet
        exact ⟨by rw [HE.out], rfl⟩
    · have h1e : (rx0.seq == rx1.seq) = false := eq_no h1
      have HE : Hid (qs = false) := by
        cases hq : qs with
        | false => exact rfl
        | true => exact absurd (Hqs.out.1 hq).1 h1
      clear h1
      go_wp2_with fail
      go_meet
      exact ⟨by rw [HE.out], rfl⟩
  case rest =>
  obtain ⟨rfl, hwc⟩ := hcut
  have hwc2 := hwc.symm
  subst hwc2
  clear hwc
  go_upto_region 7 with fail
  obtain ⟨⟨y0, y1, y2, y3, y4, y5⟩, z0, z1, z2, z3, z4, z5⟩ := HC.out W7 HgW7.out
  go_upto_region 8 with fail
  obtain ⟨b9, hb9⟩ : ∃ b9, W7.heap.size = b9 := ⟨_, rfl⟩
  obtain ⟨W8, hW8⟩ : ∃ W8, W7.alloc (.cells #[.int .i64 rx0.seq, .string rx0.prev, .int .i64 rx0.kind, .int .i64 rx0.dev, .slice RA0 rx0.wraps.length rc0, .string rx0.tag] 26) = W8 := ⟨_, rfl⟩
  have HR8 : Hid (Row W8 b9 26 #[.int .i64 rx0.seq, .string rx0.prev, .int .i64 rx0.kind, .int .i64 rx0.dev, .slice RA0 rx0.wraps.length rc0, .string rx0.tag]) := by rw [← hW8, ← hb9]; exact Row.new _ _ _
  have HgW8 : Hid (W0.grownBy W8 none) := by rw [← hW8]; exact gb_alloc HgW7.out _
  have g78 : W7.grownBy W8 none := by rw [← hW8]; exact gb_alloc (gb_refl _ _) _
  have Hb9 : Hid (W7.heap.size ≤ b9) := by show _ ≤ _; rw [← hb9]; exact Nat.le_refl _
  have HG78 := Lib.hid g78
  rw [hb9, hW8]
  clear hb9 hW8 g78 y0 y1 y2 y3 y4 y5 z0 z1 z2 z3 z4 z5
  obtain ⟨⟨y0, y1, y2, y3, y4, y5⟩, z0, z1, z2, z3, z4, z5⟩ := HC.out W8 HgW8.out
  have x3 : W8.cell? ⟨b9, 3, none⟩ = some (.int .i64 rx0.dev) := HR8.out.at_ (i := 3) rfl
  have f3 : W8.frozen? ⟨b9, 3, none⟩ = false := HR8.out.free 3
  have hdv : 0 ≤ rx0.dev ∧ rx0.dev < 8 := ⟨Hma.out.1.2.2.2.2.1, Hma.out.1.2.2.2.2.2.1⟩
  obtain ⟨m, hm⟩ : ∃ m : Int, a2 % 7 = m := ⟨_, rfl⟩
  have hm1 : 0 ≤ m ∧ m < 7 := by rw [← hm]; omega
  obtain ⟨D9, hD9⟩ : ∃ D9 : Int, (rx0.dev + 1 + m) % 8 = D9 := ⟨_, rfl⟩
  have HD9 : Hid (0 ≤ D9 ∧ D9 < 8 ∧ rx0.dev ≠ D9) := by show _ ∧ _; rw [← hD9]; omega
  have t0 : IntKind.i64.wrap a2 = a2 := by rw [IntKind.wrap_i64]; have := Hn2.out; omega
  have t1 : a2.tmod 7 = m := by rw [Int.tmod_eq_emod_of_nonneg Hn2.out.1, hm]
  have t2 : IntKind.i64.wrap m = m := by rw [IntKind.wrap_i64]; omega
  have t3 : IntKind.i64.wrap (rx0.dev + 1) = rx0.dev + 1 := by rw [IntKind.wrap_i64]; omega
  have t4 : IntKind.i64.wrap (rx0.dev + 1 + m) = rx0.dev + 1 + m := by rw [IntKind.wrap_i64]; omega
  have t5 : (rx0.dev + 1 + m).tmod 8 = D9 := by rw [Int.tmod_eq_emod_of_nonneg (by omega), hD9]
  have t6 : IntKind.i64.wrap D9 = D9 := by rw [IntKind.wrap_i64]; have := HD9.out; omega
  clear hm hD9 hdv hm1
  go_upto_region 9 with fail
  have HR9 := Lib.hid (HR8.out.set_ 3 (.int .i64 D9))
  have g9 : W7.grownBy (W8.setCell ⟨b9, 3, none⟩ (.int .i64 D9)) none := gb_new HG78.out (gb_set1 _ _ _ _) Hb9.out
  obtain ⟨W9, hW9⟩ : ∃ W9, W8.setCell ⟨b9, 3, none⟩ (.int .i64 D9) = W9 := ⟨_, rfl⟩
  rw [hW9] at HR9 g9 ⊢
  have Hg9 : Hid (W0.grownBy W9 none) := gb_none HgW7.out g9
  have HCc : Hid (∀ W, W9.grownBy W none → W.cell? ⟨b7, 0, none⟩ = some (.int .i64 rx0.seq) ∧ W.cell? ⟨b7, 1, none⟩ = some (.string rx0.prev) ∧ W.cell? ⟨b7, 2, none⟩ = some (.int .i64 rx0.kind) ∧ W.cell? ⟨b7, 3, none⟩ = some (.int .i64 rx0.dev) ∧ W.cell? ⟨b7, 4, none⟩ = some (.slice RA1 rx1.wraps.length rc1) ∧ W.cell? ⟨b7, 5, none⟩ = some (.string rx1.tag)) := fun W hW => HCc0.out W (gb_none g9 hW)
  have HCd : Hid (∀ W, W9.grownBy W none → W.cell? ⟨b9, 0, none⟩ = some (.int .i64 rx0.seq) ∧ W.cell? ⟨b9, 1, none⟩ = some (.string rx0.prev) ∧ W.cell? ⟨b9, 2, none⟩ = some (.int .i64 rx0.kind) ∧ W.cell? ⟨b9, 3, none⟩ = some (.int .i64 D9) ∧ W.cell? ⟨b9, 4, none⟩ = some (.slice RA0 rx0.wraps.length rc0) ∧ W.cell? ⟨b9, 5, none⟩ = some (.string rx0.tag)) := fun W hW => ⟨(HR9.out.kept hW (by simp)).at_ (i := 0) rfl, (HR9.out.kept hW (by simp)).at_ (i := 1) rfl, (HR9.out.kept hW (by simp)).at_ (i := 2) rfl, (HR9.out.kept hW (by simp)).at_ (i := 3) rfl, (HR9.out.kept hW (by simp)).at_ (i := 4) rfl, (HR9.out.kept hW (by simp)).at_ (i := 5) rfl⟩
  clear hW9 x3 f3 t0 t1 t2 t3 t4 t5 t6 g9 y0 y1 y2 y3 y4 y5 z0 z1 z2 z3 z4 z5
  obtain ⟨c9, hc9⟩ : ∃ c9 : Rc, c9 = ⟨rx0.seq, rx0.prev, rx0.kind, rx0.dev, rx1.wraps, rx1.tag⟩ := ⟨_, rfl⟩
  obtain ⟨d9, hd9⟩ : ∃ d9 : Rc, d9 = ⟨rx0.seq, rx0.prev, rx0.kind, D9, rx0.wraps, rx0.tag⟩ := ⟨_, rfl⟩
  have hmc : MayR c9 := by rw [hc9]; exact may_mix Hma.out Hmb.out
  have hmd : MayR d9 := by rw [hd9]; exact may_dev Hma.out ⟨HD9.out.1, HD9.out.2.1⟩
  have ec : Mb.headB rx0 = Mb.headB c9 := (headB_is Hma.out hmc).2 (by rw [hc9]; exact ⟨rfl, rfl, rfl, rfl⟩)
  have ed : Mb.headB rx0 ≠ Mb.headB d9 := fun e => HD9.out.2.2 (by have := ((headB_is Hma.out hmd).1 e).2.2.1; rw [hd9] at this; exact this)
  have eb : qs = true ↔ Mb.headB rx0 = Mb.headB rx1 := Hqs.out.trans (headB_is Hma.out Hmb.out).symm
  have en : Mb.headB rx0 ≠ ⟨#[]⟩ := headB_ne Hma.out
  have HHa : Hid (∀ W, W9.grownBy W none → Calls Tryz.prog 20 #[.agg #[.int .i64 rx0.seq, .string rx0.prev, .int .i64 rx0.kind, .int .i64 rx0.dev, .slice RA0 rx0.wraps.length rc0, .string rx0.tag]] W fun e w' => e = .returned (.string (Mb.headB rx0)) ∧ W.grownBy w' none) := fun W hW => head_any rx0 RA0 rc0 W (HW0.out W (gb_none Hg9.out hW)) (by have := Hn0.out; omega)
  have HHb : Hid (∀ W, W9.grownBy W none → Calls Tryz.prog 20 #[.agg #[.int .i64 rx1.seq, .string rx1.prev, .int .i64 rx1.kind, .int .i64 rx1.dev, .slice RA1 rx1.wraps.length rc1, .string rx1.tag]] W fun e w' => e = .returned (.string (Mb.headB rx1)) ∧ W.grownBy w' none) := fun W hW => head_any rx1 RA1 rc1 W (HW1.out W (gb_none Hg9.out hW)) (by have := Hn1.out; omega)
  have HHc : Hid (∀ W, W9.grownBy W none → Calls Tryz.prog 20 #[.agg #[.int .i64 rx0.seq, .string rx0.prev, .int .i64 rx0.kind, .int .i64 rx0.dev, .slice RA1 rx1.wraps.length rc1, .string rx1.tag]] W fun e w' => e = .returned (.string (Mb.headB rx0)) ∧ W.grownBy w' none) := fun W hW => by
    rw [ec, hc9]
    exact head_any ⟨rx0.seq, rx0.prev, rx0.kind, rx0.dev, rx1.wraps, rx1.tag⟩ RA1 rc1 W (HW1.out W (gb_none Hg9.out hW)) (by have := Hn1.out; show rx1.wraps.length ≤ _; omega)
  have HHd : Hid (∀ W, W9.grownBy W none → Calls Tryz.prog 20 #[.agg #[.int .i64 rx0.seq, .string rx0.prev, .int .i64 rx0.kind, .int .i64 D9, .slice RA0 rx0.wraps.length rc0, .string rx0.tag]] W fun e w' => e = .returned (.string (Mb.headB d9)) ∧ W.grownBy w' none) := fun W hW => by
    rw [hd9]
    exact head_any ⟨rx0.seq, rx0.prev, rx0.kind, D9, rx0.wraps, rx0.tag⟩ RA0 rc0 W (HW0.out W (gb_none Hg9.out hW)) (by have := Hn0.out; show rx0.wraps.length ≤ _; omega)
  have HAw9 : Hid (∀ W, W9.grownBy W none → Calls Tryz.prog 9 #[] W fun e w' => e = .returned (.bool true) ∧ W.grownBy w' none) := fun W hW => HAw.out W (gb_none HG.out (gb_none Hg9.out hW))
  obtain ⟨PA, hPA⟩ : ∃ PA, Mb.headB rx0 = PA := ⟨_, rfl⟩
  obtain ⟨PB, hPB⟩ : ∃ PB, Mb.headB rx1 = PB := ⟨_, rfl⟩
  obtain ⟨PD, hPD⟩ : ∃ PD, Mb.headB d9 = PD := ⟨_, rfl⟩
  rw [hPA] at HHa HHc ed eb en
  rw [hPB] at HHb eb
  rw [hPD] at HHd ed
  have HQ : Hid ((PA.toList == PA.toList) = true ∧ (PA.toList == PB.toList) = qs ∧ (PA.toList == PD.toList) = false ∧ (PA.toList != PD.toList) = true ∧ (PA.toList == []) = false ∧ (PA.toList != []) = true) := by
    have h3 : (PA.toList == PD.toList) = false := str_ne ed
    have h5 : (PA.toList == []) = false := str_some (fun e => en (ByteArray.ext (Array.eq_empty_of_size_eq_zero e)))
    refine ⟨str_eq rfl, ?_, h3, by rw [bne, h3]; rfl, h5, by rw [bne, h5]; rfl⟩
    cases qs with
    | true => exact str_eq (eb.1 rfl)
    | false => exact str_ne (fun e => by have := eb.2 e; cases this)
  have Hqq : Hid (∀ W, (binOp .eql 4 (.bool qs) (.bool qs)).run Tryz.prog W = .ok (.bool true) W) := fun W => by cases qs <;> rfl
  clear hPA hPB hPD ec ed eb en hmc hmd hc9 hd9
  apply wp_region_told (le := fun a b => a.grownBy b none) [isV _, isV _, isV _, isV _, isV _, isV _, isV _, isV _, isV _, isV _, isV _, isV _, isV _, isV _, isV _, isV _, isV _, isV _, isV _, isV _, isV _, isV _, isV _, isV _, isV _, isV _, isV _, isV _, isV _, isV _]
  case hn => rfl
  case hm => kernel_rfl
  case hB => kernel_rfl
  case ht => exact fun _ _ _ h k => gb_none h k
  case hw => exact gb_drew (gb_refl _ _)
  -- 0: more.go:38 load
  apply told_is
  · intro W f hW hE h0 K hK
    have e3 := h0 3 (by kernel_rfl)
    conv at e3 => rhs; whnf
    clear hE h0
    refine yes_of (want_free rfl) ?_
    obtain ⟨⟨y0, y1, y2, y3, y4, y5⟩, _⟩ := HC.out W (gb_none Hg9.out hW)
    go_simp; exact hK _ _ (gb_refl _ _) rfl
  -- 1: more.go:38 call
  apply told_is
  · intro W f hW hE h0 K hK
    have e70 : f 70 = _ := hE 0 70 _ rfl (by kernel_rfl)
    clear hE h0
    refine yes_of (want_free rfl) ?_
    go_simp
    refine (HHa.out W hW).mono ?_
    rintro e w1' ⟨rfl, g'⟩
    exact ⟨_, rfl, hK _ _ g' rfl⟩
  -- 2: more.go:38 load
  apply told_is
  · intro W f hW hE h0 K hK
    have e7 := h0 7 (by kernel_rfl)
    conv at e7 => rhs; whnf
    clear hE h0
    refine yes_of (want_free rfl) ?_
    obtain ⟨y0, y1, y2, y3, y4, y5⟩ := HCc.out W hW
    go_simp; exact hK _ _ (gb_refl _ _) rfl
  -- 3: more.go:38 call
  apply told_is
  · intro W f hW hE h0 K hK
    have e72 : f 72 = _ := hE 0 72 _ rfl (by kernel_rfl)
    clear hE h0
    refine yes_of (want_free rfl) ?_
    go_simp
    refine (HHc.out W hW).mono ?_
    rintro e w1' ⟨rfl, g'⟩
    exact ⟨_, rfl, hK _ _ g' rfl⟩
  -- 4: more.go:38 binOp
  apply told_is
  · intro W f hW hE h0 K hK
    have e71 : f 71 = _ := hE 2 71 _ rfl (by kernel_rfl)
    have e73 : f 73 = _ := hE 0 73 _ rfl (by kernel_rfl)
    clear hE h0
    refine yes_of (want_free rfl) ?_
    have q1 := HQ.out.1
    go_simp; exact hK _ _ (gb_refl _ _) rfl
  -- 5: more.go:38 move
  apply told_is
  · intro W f hW hE h0 K hK
    have e74 : f 74 = _ := hE 0 74 _ rfl (by kernel_rfl)
    clear hE h0
    refine yes_of (want_free rfl) ?_
    go_simp; exact hK _ _ (gb_refl _ _) rfl
  -- 6: more.go:38 load
  apply told_is
  · intro W f hW hE h0 K hK
    have e3 := h0 3 (by kernel_rfl)
    conv at e3 => rhs; whnf
    have e75 : f 75 = _ := hE 0 75 _ rfl (by kernel_rfl)
    clear hE h0
    refine yes_of (want_yes rfl rfl e75) ?_
    obtain ⟨⟨y0, y1, y2, y3, y4, y5⟩, _⟩ := HC.out W (gb_none Hg9.out hW)
    go_simp; exact hK _ _ (gb_refl _ _) rfl
  -- 7: more.go:38 call
  apply told_is
  · intro W f hW hE h0 K hK
    have e76 : f 76 = _ := hE 0 76 _ rfl (by kernel_rfl)
    have e75 : f 75 = _ := hE 1 75 _ rfl (by kernel_rfl)
    clear hE h0
    refine yes_of (want_yes rfl rfl e75) ?_
    go_simp
    refine (HHa.out W hW).mono ?_
    rintro e w1' ⟨rfl, g'⟩
    exact ⟨_, rfl, hK _ _ g' rfl⟩
  -- 8: more.go:38 load
  apply told_is
  · intro W f hW hE h0 K hK
    have e4 := h0 4 (by kernel_rfl)
    conv at e4 => rhs; whnf
    have e75 : f 75 = _ := hE 2 75 _ rfl (by kernel_rfl)
    clear hE h0
    refine yes_of (want_yes rfl rfl e75) ?_
    obtain ⟨_, y0, y1, y2, y3, y4, y5⟩ := HC.out W (gb_none Hg9.out hW)
    go_simp; exact hK _ _ (gb_refl _ _) rfl
  -- 9: more.go:38 call
  apply told_is
  · intro W f hW hE h0 K hK
    have e78 : f 78 = _ := hE 0 78 _ rfl (by kernel_rfl)
    have e75 : f 75 = _ := hE 3 75 _ rfl (by kernel_rfl)
    clear hE h0
    refine yes_of (want_yes rfl rfl e75) ?_
    go_simp
    refine (HHb.out W hW).mono ?_
    rintro e w1' ⟨rfl, g'⟩
    exact ⟨_, rfl, hK _ _ g' rfl⟩
  -- 10: more.go:38 binOp
  apply told_is
  · intro W f hW hE h0 K hK
    have e77 : f 77 = _ := hE 2 77 _ rfl (by kernel_rfl)
    have e79 : f 79 = _ := hE 0 79 _ rfl (by kernel_rfl)
    have e75 : f 75 = _ := hE 4 75 _ rfl (by kernel_rfl)
    clear hE h0
    refine yes_of (want_yes rfl rfl e75) ?_
    have q1 := HQ.out.2.1
    go_simp; exact hK _ _ (gb_refl _ _) rfl
  -- 11: more.go:38 move
  apply told_is
  · intro W f hW hE h0 K hK
    have e8 := h0 8 (by kernel_rfl)
    conv at e8 => rhs; whnf
    have e75 : f 75 = _ := hE 5 75 _ rfl (by kernel_rfl)
    clear hE h0
    refine yes_of (want_yes rfl rfl e75) ?_
    go_simp; exact hK _ _ (gb_refl _ _) rfl
  -- 12: more.go:38 binOp
  apply told_is
  · intro W f hW hE h0 K hK
    have e80 : f 80 = _ := hE 1 80 _ rfl (by kernel_rfl)
    have e81 : f 81 = _ := hE 0 81 _ rfl (by kernel_rfl)
    have e75 : f 75 = _ := hE 6 75 _ rfl (by kernel_rfl)
    clear hE h0
    refine yes_of (want_yes rfl rfl e75) ?_
    have q1 := Hqq.out W
    go_simp; exact hK _ _ (gb_refl _ _) rfl
  -- 13: more.go:38 pick
  apply told_is
  · intro W f hW hE h0 K hK
    have e75 : f 75 = _ := hE 7 75 _ rfl (by kernel_rfl)
    have e82 : f 82 = _ := hE 0 82 _ rfl (by kernel_rfl)
    clear hE h0
    refine yes_of (want_free rfl) ?_
    go_simp; exact hK _ _ (gb_refl _ _) rfl
  -- 14: more.go:38 move
  apply told_is
  · intro W f hW hE h0 K hK
    have e83 : f 83 = _ := hE 0 83 _ rfl (by kernel_rfl)
    clear hE h0
    refine yes_of (want_free rfl) ?_
    go_simp; exact hK _ _ (gb_refl _ _) rfl
  -- 15: more.go:38 load
  apply told_is
  · intro W f hW hE h0 K hK
    have e3 := h0 3 (by kernel_rfl)
    conv at e3 => rhs; whnf
    have e84 : f 84 = _ := hE 0 84 _ rfl (by kernel_rfl)
    clear hE h0
    refine yes_of (want_yes rfl rfl e84) ?_
    obtain ⟨⟨y0, y1, y2, y3, y4, y5⟩, _⟩ := HC.out W (gb_none Hg9.out hW)
    go_simp; exact hK _ _ (gb_refl _ _) rfl
  -- 16: more.go:38 call
  apply told_is
  · intro W f hW hE h0 K hK
    have e85 : f 85 = _ := hE 0 85 _ rfl (by kernel_rfl)
    have e84 : f 84 = _ := hE 1 84 _ rfl (by kernel_rfl)
    clear hE h0
    refine yes_of (want_yes rfl rfl e84) ?_
    go_simp
    refine (HHa.out W hW).mono ?_
    rintro e w1' ⟨rfl, g'⟩
    exact ⟨_, rfl, hK _ _ g' rfl⟩
  -- 17: more.go:38 load
  apply told_is
  · intro W f hW hE h0 K hK
    have e9 := h0 9 (by kernel_rfl)
    conv at e9 => rhs; whnf
    have e84 : f 84 = _ := hE 2 84 _ rfl (by kernel_rfl)
    clear hE h0
    refine yes_of (want_yes rfl rfl e84) ?_
    obtain ⟨y0, y1, y2, y3, y4, y5⟩ := HCd.out W hW
    go_simp; exact hK _ _ (gb_refl _ _) rfl
  -- 18: more.go:38 call
  apply told_is
  · intro W f hW hE h0 K hK
    have e87 : f 87 = _ := hE 0 87 _ rfl (by kernel_rfl)
    have e84 : f 84 = _ := hE 3 84 _ rfl (by kernel_rfl)
    clear hE h0
    refine yes_of (want_yes rfl rfl e84) ?_
    go_simp
    refine (HHd.out W hW).mono ?_
    rintro e w1' ⟨rfl, g'⟩
    exact ⟨_, rfl, hK _ _ g' rfl⟩
  -- 19: more.go:38 binOp
  apply told_is
  · intro W f hW hE h0 K hK
    have e86 : f 86 = _ := hE 2 86 _ rfl (by kernel_rfl)
    have e88 : f 88 = _ := hE 0 88 _ rfl (by kernel_rfl)
    have e84 : f 84 = _ := hE 4 84 _ rfl (by kernel_rfl)
    clear hE h0
    refine yes_of (want_yes rfl rfl e84) ?_
    obtain ⟨_, _, q1, q2, _⟩ := HQ.out
    go_simp; exact hK _ _ (gb_refl _ _) rfl
  -- 20: more.go:38 pick
  apply told_is
  · intro W f hW hE h0 K hK
    have e84 : f 84 = _ := hE 5 84 _ rfl (by kernel_rfl)
    have e89 : f 89 = _ := hE 0 89 _ rfl (by kernel_rfl)
    clear hE h0
    refine yes_of (want_free rfl) ?_
    go_simp; exact hK _ _ (gb_refl _ _) rfl
  -- 21: more.go:38 move
  apply told_is
  · intro W f hW hE h0 K hK
    have e90 : f 90 = _ := hE 0 90 _ rfl (by kernel_rfl)
    clear hE h0
    refine yes_of (want_free rfl) ?_
    go_simp; exact hK _ _ (gb_refl _ _) rfl
  -- 22: more.go:38 load
  apply told_is
  · intro W f hW hE h0 K hK
    have e3 := h0 3 (by kernel_rfl)
    conv at e3 => rhs; whnf
    have e91 : f 91 = _ := hE 0 91 _ rfl (by kernel_rfl)
    clear hE h0
    refine yes_of (want_yes rfl rfl e91) ?_
    obtain ⟨⟨y0, y1, y2, y3, y4, y5⟩, _⟩ := HC.out W (gb_none Hg9.out hW)
    go_simp; exact hK _ _ (gb_refl _ _) rfl
  -- 23: more.go:38 call
  apply told_is
  · intro W f hW hE h0 K hK
    have e92 : f 92 = _ := hE 0 92 _ rfl (by kernel_rfl)
    have e91 : f 91 = _ := hE 1 91 _ rfl (by kernel_rfl)
    clear hE h0
    refine yes_of (want_yes rfl rfl e91) ?_
    go_simp
    refine (HHa.out W hW).mono ?_
    rintro e w1' ⟨rfl, g'⟩
    exact ⟨_, rfl, hK _ _ g' rfl⟩
  -- 24: more.go:38 binOp
  apply told_is
  · intro W f hW hE h0 K hK
    have e93 : f 93 = _ := hE 0 93 _ rfl (by kernel_rfl)
    have e91 : f 91 = _ := hE 2 91 _ rfl (by kernel_rfl)
    clear hE h0
    refine yes_of (want_yes rfl rfl e91) ?_
    obtain ⟨_, _, _, _, q1, q2⟩ := HQ.out
    go_simp; exact hK _ _ (gb_refl _ _) rfl
  -- 25: more.go:38 pick
  apply told_is
  · intro W f hW hE h0 K hK
    have e91 : f 91 = _ := hE 3 91 _ rfl (by kernel_rfl)
    have e94 : f 94 = _ := hE 0 94 _ rfl (by kernel_rfl)
    clear hE h0
    refine yes_of (want_free rfl) ?_
    go_simp; exact hK _ _ (gb_refl _ _) rfl
  -- 26: more.go:38 move
  apply told_is
  · intro W f hW hE h0 K hK
    have e95 : f 95 = _ := hE 0 95 _ rfl (by kernel_rfl)
    clear hE h0
    refine yes_of (want_free rfl) ?_
    go_simp; exact hK _ _ (gb_refl _ _) rfl
  -- 27: more.go:38 call
  apply told_is
  · intro W f hW hE h0 K hK
    have e96 : f 96 = _ := hE 0 96 _ rfl (by kernel_rfl)
    clear hE h0
    refine yes_of (want_yes rfl rfl e96) ?_
    go_simp
    refine (HAw9.out W hW).mono ?_
    rintro e w1' ⟨rfl, g'⟩
    exact ⟨_, rfl, hK _ _ g' rfl⟩
  -- 28: more.go:38 pick
  apply told_is
  · intro W f hW hE h0 K hK
    have e96 : f 96 = _ := hE 1 96 _ rfl (by kernel_rfl)
    have e97 : f 97 = _ := hE 0 97 _ rfl (by kernel_rfl)
    clear hE h0
    refine yes_of (want_free rfl) ?_
    go_simp; exact hK _ _ (gb_refl _ _) rfl
  -- 29: more.go:38 assign
  apply told_is
  · intro W f hW hE h0 K hK
    have e98 : f 98 = _ := hE 0 98 _ rfl (by kernel_rfl)
    clear hE h0
    refine yes_of (want_free rfl) ?_
    go_simp; exact hK _ _ (gb_refl _ _) rfl
  intro W f hW hA
  simp only [lexIn, Act.put, List.setIfInBounds_toArray, List.set_cons_zero, List.set_cons_succ]
  have e6 : f 6 = _ := hA 0 (some 6) _ rfl
  rw [e6]
  clear hA
  have HgE := Lib.hid (gb_none HG.out (gb_none Hg9.out hW))
  clear hW
  go_wp2_with fail
  go_ret
  exact ⟨rfl, gb_below HgE.out (Nat.le_refl _)⟩

theorem star : "*" ++ "errors.errorString" = "*errors.errorString" := by decide
theorem row_err (u : TypeId) (h : Tryz.prog.typeName? 3 u = some "*errors.errorString") : u = 168 :=
  typeName_ptr_named (nm := "errors.errorString") (by rw [star]; kernel_rfl) (by kernel_rfl) (by decide) u (by rw [star]; exact h)
theorem two0_1 {W : World} (h : laidMetH Tryz.prog Rows.memberHeadRow.laid W) : Sn.Two W 0 1 := by
  have h4 : laidMet Tryz.prog [("deaddrop/member.errMany", Rows.laid_deaddrop_member_errMany), ("deaddrop/member.errRecord", Rows.laid_deaddrop_member_errRecord)] W := (laidMetH_iff.1 (laidMetH.filter (fun x => x.1 == "deaddrop/member.errMany" || x.1 == "deaddrop/member.errRecord") h)).1
  obtain ⟨a0, a1, s0, s1, c0, c1, t0, t1, hv0, hv1, hc0, hs0, hz0, hc1, hs1, hz1, hne, hb0, hb1⟩ := laid_sentinels2 h4 (g0 := 0) (g1 := 1) (ti := 45) (by kernel_rfl) (by kernel_rfl) (by kernel_rfl) (by kernel_rfl) Tryz.underlying45 row_err Tryz.underlying168 Tryz.underlying187 rfl rfl Tryz.underlying9 (by kernel_rfl) (by kernel_rfl)
  exact ⟨a0, a1, c0, c1, t0, t1, by simpa using World.var?_cell (g := 0) (by kernel_rfl) hv0 0, by simpa using World.var?_cell (g := 1) (by kernel_rfl) hv1 0, hne, hb0, hb1⟩
theorem two2_3 {W : World} (h : laidMetH Tryz.prog Rows.memberHeadRow.laid W) : Sn.Two W 2 3 := by
  have h4 : laidMet Tryz.prog [("deaddrop/member.errSeq", Rows.laid_deaddrop_member_errSeq), ("deaddrop/member.errPrev", Rows.laid_deaddrop_member_errPrev)] W := (laidMetH_iff.1 (laidMetH.filter (fun x => x.1 == "deaddrop/member.errSeq" || x.1 == "deaddrop/member.errPrev") h)).1
  obtain ⟨a0, a1, s0, s1, c0, c1, t0, t1, hv0, hv1, hc0, hs0, hz0, hc1, hs1, hz1, hne, hb0, hb1⟩ := laid_sentinels2 h4 (g0 := 2) (g1 := 3) (ti := 45) (by kernel_rfl) (by kernel_rfl) (by kernel_rfl) (by kernel_rfl) Tryz.underlying45 row_err Tryz.underlying168 Tryz.underlying187 rfl rfl Tryz.underlying9 (by kernel_rfl) (by kernel_rfl)
  exact ⟨a0, a1, c0, c1, t0, t1, by simpa using World.var?_cell (g := 2) (by kernel_rfl) hv0 0, by simpa using World.var?_cell (g := 3) (by kernel_rfl) hv1 0, hne, hb0, hb1⟩
theorem two4_5 {W : World} (h : laidMetH Tryz.prog Rows.memberHeadRow.laid W) : Sn.Two W 4 5 := by
  have h4 : laidMet Tryz.prog [("deaddrop/member.errFirst", Rows.laid_deaddrop_member_errFirst), ("deaddrop/member.errHave", Rows.laid_deaddrop_member_errHave)] W := (laidMetH_iff.1 (laidMetH.filter (fun x => x.1 == "deaddrop/member.errFirst" || x.1 == "deaddrop/member.errHave") h)).1
  obtain ⟨a0, a1, s0, s1, c0, c1, t0, t1, hv0, hv1, hc0, hs0, hz0, hc1, hs1, hz1, hne, hb0, hb1⟩ := laid_sentinels2 h4 (g0 := 4) (g1 := 5) (ti := 45) (by kernel_rfl) (by kernel_rfl) (by kernel_rfl) (by kernel_rfl) Tryz.underlying45 row_err Tryz.underlying168 Tryz.underlying187 rfl rfl Tryz.underlying9 (by kernel_rfl) (by kernel_rfl)
  exact ⟨a0, a1, c0, c1, t0, t1, by simpa using World.var?_cell (g := 4) (by kernel_rfl) hv0 0, by simpa using World.var?_cell (g := 5) (by kernel_rfl) hv1 0, hne, hb0, hb1⟩
theorem two6_7 {W : World} (h : laidMetH Tryz.prog Rows.memberHeadRow.laid W) : Sn.Two W 6 7 := by
  have h4 : laidMet Tryz.prog [("deaddrop/member.errNone", Rows.laid_deaddrop_member_errNone), ("deaddrop/member.errStay", Rows.laid_deaddrop_member_errStay)] W := (laidMetH_iff.1 (laidMetH.filter (fun x => x.1 == "deaddrop/member.errNone" || x.1 == "deaddrop/member.errStay") h)).1
  obtain ⟨a0, a1, s0, s1, c0, c1, t0, t1, hv0, hv1, hc0, hs0, hz0, hc1, hs1, hz1, hne, hb0, hb1⟩ := laid_sentinels2 h4 (g0 := 6) (g1 := 7) (ti := 45) (by kernel_rfl) (by kernel_rfl) (by kernel_rfl) (by kernel_rfl) Tryz.underlying45 row_err Tryz.underlying168 Tryz.underlying187 rfl rfl Tryz.underlying9 (by kernel_rfl) (by kernel_rfl)
  exact ⟨a0, a1, c0, c1, t0, t1, by simpa using World.var?_cell (g := 6) (by kernel_rfl) hv0 0, by simpa using World.var?_cell (g := 7) (by kernel_rfl) hv1 0, hne, hb0, hb1⟩
theorem et : Tryz.prog.globalNamed "errors.errorType" = some 9 := by kernel_rfl
theorem rt : (Tryz.prog.cutTypes.find? (·.1 == "internal/reflectlite.rtype")).map (·.2) = some 126 := by kernel_rfl
theorem one_error : ((List.range 198).filter fun t => Tryz.prog.rowNamed t [101, 114, 114, 111, 114]) = [45] := by kernel_rfl
theorem how_many : Tryz.prog.types.size = 198 := by kernel_rfl
theorem handle : typeHandle Tryz.prog 45 = .pointer (some ⟨12, 45, none⟩) := by kernel_rfl
theorem errT {W : World} (h : laidMetH Tryz.prog Rows.memberHeadRow.laid W) : W.cell? ⟨9, 0, none⟩ = some (.iface 126 (.agg #[.pointer (some ⟨12, 45, none⟩)])) := by
  have hm : ("errors.errorType", Rows.laid_errors_errorType) ∈ (Rows.memberHeadRow.laid.filter fun x => x.2.handleName?.isSome) := List.mem_filter.2 ⟨List.Mem.tail _ (List.Mem.tail _ (List.Mem.head _)), by simp [DataW.handleName?, Rows.laid_errors_errorType]⟩
  obtain ⟨n, u, t, hn, hu, ht, hr, hc⟩ := (laidMetH_iff.1 h).2 _ hm
  obtain rfl := Option.some.inj hn
  obtain rfl := Option.some.inj (rt.symm.trans hu)
  have hin : t ∈ [45] := by
    rw [← one_error]
    exact List.mem_filter.2 ⟨List.mem_range.2 (how_many ▸ ht), hr⟩
  obtain rfl := List.mem_singleton.1 hin
  rw [handle] at hc
  have := World.var?_cell et hc 0
  simpa using this
theorem tabs {W : World} (h : laidMetH Tryz.prog Rows.memberHeadRow.laid W) : Tabs W := by
  have gh1 : laidMet Tryz.prog [("deaddrop/sha.opening", Rows.laid_deaddrop_sha_opening)] W := (laidMetH_iff.1 (laidMetH.filter (fun x => x.1 == "deaddrop/sha.opening") h)).1
  have h1 : Lib.TabIs Tryz.prog W "deaddrop/sha.opening" .u32 [1779033703, 3144134277, 1013904242, 2773480762, 1359893119, 2600822924, 528734635, 1541459225] := Lib.tabIs_of_head (rest := []) (g := 8) (t := 96) (e := 59) (n := 8) (by kernel_rfl) (by kernel_rfl) Tryz.underlying96 Tryz.underlying59 (by kernel_rfl) (by kernel_rfl) gh1
  have gh2 : laidMet Tryz.prog [("deaddrop/sha.roundNumbers", Rows.laid_deaddrop_sha_roundNumbers)] W := (laidMetH_iff.1 (laidMetH.filter (fun x => x.1 == "deaddrop/sha.roundNumbers") h)).1
  have h2 : Lib.TabIs Tryz.prog W "deaddrop/sha.roundNumbers" .u32 [1116352408, 1899447441, 3049323471, 3921009573, 961987163, 1508970993, 2453635748, 2870763221, 3624381080, 310598401, 607225278, 1426881987, 1925078388, 2162078206, 2614888103, 3248222580, 3835390401, 4022224774, 264347078, 604807628, 770255983, 1249150122, 1555081692, 1996064986, 2554220882, 2821834349, 2952996808, 3210313671, 3336571891, 3584528711, 113926993, 338241895, 666307205, 773529912, 1294757372, 1396182291, 1695183700, 1986661051, 2177026350, 2456956037, 2730485921, 2820302411, 3259730800, 3345764771, 3516065817, 3600352804, 4094571909, 275423344, 430227734, 506948616, 659060556, 883997877, 958139571, 1322822218, 1537002063, 1747873779, 1955562222, 2024104815, 2227730452, 2361852424, 2428436474, 2756734187, 3204031479, 3329325298] := Lib.tabIs_of_head (rest := []) (g := 10) (t := 156) (e := 59) (n := 64) (by kernel_rfl) (by kernel_rfl) Tryz.underlying156 Tryz.underlying59 (by kernel_rfl) (by kernel_rfl) gh2
  have e1 : ∀ i, i < 8 → ([1779033703, 3144134277, 1013904242, 2773480762, 1359893119, 2600822924, 528734635, 1541459225] : List Int).getD i 0 = ((firstH.getD i 0).toNat : Int) := by decide
  have e2 : ∀ i, i < 64 → ([1116352408, 1899447441, 3049323471, 3921009573, 961987163, 1508970993, 2453635748, 2870763221, 3624381080, 310598401, 607225278, 1426881987, 1925078388, 2162078206, 2614888103, 3248222580, 3835390401, 4022224774, 264347078, 604807628, 770255983, 1249150122, 1555081692, 1996064986, 2554220882, 2821834349, 2952996808, 3210313671, 3336571891, 3584528711, 113926993, 338241895, 666307205, 773529912, 1294757372, 1396182291, 1695183700, 1986661051, 2177026350, 2456956037, 2730485921, 2820302411, 3259730800, 3345764771, 3516065817, 3600352804, 4094571909, 275423344, 430227734, 506948616, 659060556, 883997877, 958139571, 1322822218, 1537002063, 1747873779, 1955562222, 2024104815, 2227730452, 2361852424, 2428436474, 2756734187, 3204031479, 3329325298] : List Int).getD i 0 = ((konst.getD i 0).toNat : Int) := by decide +kernel
  have c1 : ∀ i, i < 8 → W.cell? ⟨8, i, none⟩ = some (w32 (firstH.getD i 0)) := fun i hi => by
    have := h1.cell (g := 8) (by kernel_rfl) i hi
    rw [e1 i hi] at this; exact this
  have c2 : ∀ i, i < 64 → W.cell? ⟨10, i, none⟩ = some (w32 (konst.getD i 0)) := fun i hi => by
    have := h2.cell (g := 10) (by kernel_rfl) i hi
    rw [e2 i hi] at this; exact this
  exact ⟨block_lt_of_cell (c2 0 (by decide)), c1, c2⟩

set_option maxRecDepth 100000 in
theorem contract (H : Type) (enc : TypeId × Value → H) (W : World) (base : Nat) (args : Array Value) (ds gs : List (DataW H)) (before : List MemPlace)
    (hval0 : ∀ (j : Nat) t v, Tryz.f7.params[j]? = some t → args[j]? = some v → Value.okWide Tryz.prog W .any base t v)
    (hW : DataW.Whole enc Tryz.prog Tryz.f7.params.toList Rows.memberHeadSpec.vars false W args.toList ds gs before) (hL : laidMetH Tryz.prog Rows.memberHeadRow.laid W) :
    Calls Tryz.prog 7 args W fun e W' => ∃ v, e = .returned v ∧ Rows.memberHeadSpec.post enc Tryz.prog Tryz.f7 false true false false W args v W' := by
  have hval : ∀ (j : Nat) t v, Tryz.f7.params[j]? = some t → args[j]? = some v → Value.okWide Tryz.prog W .any base t v := hval0
  have hW' := hW
  obtain ⟨p, q, hA0, hV, rfl, hfz, hnd⟩ := hW
  have hA : DataW.TrodAll enc Tryz.prog W 0 (fun _ => true) true Tryz.f7.params.toList args.toList ds p := hA0
  rw [Tryz.params7] at hA hval
  obtain ⟨v0, vs0, d0, ds0, p0, q0, hargs, rfl, rfl, h0, r0⟩ := trodAll_cons hA
  obtain ⟨v1, vs1, d1, ds1, p1, q1, rfl, rfl, rfl, h1, r1⟩ := trodAll_cons r0
  obtain ⟨v2, vs2, d2, ds2, p2, q2, rfl, rfl, rfl, h2, r2⟩ := trodAll_cons r1
  obtain ⟨rfl, rfl, rfl⟩ := trodAll_nil r2
  obtain rfl : args = #[v0, v1, v2] := by cases args; simp_all
  obtain ⟨rfl, rfl⟩ := trodVars_none hV
  have k0 := h0
  have lt0 : ∀ x ∈ p0, x.block < W.heap.size := by obtain ⟨m, hm⟩ := k0; exact DataW.trod_lt m _ _ _ hm
  obtain ⟨rx0, RA0, rc0, rfl, w0, c0⟩ := open_record (hval 0 26 v0 rfl rfl) h0
  have k1 := h1
  have lt1 : ∀ x ∈ p1, x.block < W.heap.size := by obtain ⟨m, hm⟩ := k1; exact DataW.trod_lt m _ _ _ hm
  obtain ⟨rx1, RA1, rc1, rfl, w1, c1⟩ := open_record (hval 1 26 v1 rfl rfl) h1
  obtain ⟨a2, rfl, rfl, rfl, w2⟩ := open_int Tryz.underlying5 (hval 2 5 v2 rfl rfl) h2
  clear hA0 hval0
  refine (walk rx0 RA0 rc0 rx1 RA1 rc1 a2 W w0 c0 w1 c1 w2 ⟨two0_1 hL, two2_3 hL, two4_5 hL, two6_7 hL⟩ (errT hL) (tabs hL)).mono fun e W' ⟨he, bel⟩ => ?_
  subst he
  exact ⟨_, rfl, _, _, _, [], _, [], hW', trodAll_mk1 (shut_bool Tryz.underlying4 _), (trodAll_cons_mk (Below.trod laidOut (by kernel_rfl) (of_decide_eq_true (by kernel_rfl)) k0 bel lt0) (trodAll_cons_mk (Below.trod laidOut (by kernel_rfl) (of_decide_eq_true (by kernel_rfl)) k1 bel lt1) (trodAll_cons_mk (shut_int Tryz.underlying5 w2) trodAll_mk0))), rfl, bel.frame _, fun h => by cases h⟩

def lay (cs : Array Value) : Obj → Obj
  | .cells _ t frozen => .cells cs t frozen
  | o => o
noncomputable def low : Nat := (World.holding Tryz.prog default ⟨#[], #[], []⟩).heap.size
noncomputable def laidWorld (os : Os) : World :=
  { World.holding Tryz.prog os ⟨#[.cells #[.string ⟨#[109, 111, 114, 101, 32, 116, 104, 97, 110, 32, 97, 32, 99, 104, 97, 105, 110, 32, 109, 97, 121, 32, 104, 97, 118, 101]⟩] 187, .cells #[.string ⟨#[105, 116, 32, 109, 97, 121, 32, 110, 111, 116, 32, 98, 101]⟩] 187, .cells #[.string ⟨#[110, 111, 116, 32, 116, 104, 101, 32, 111, 110, 101, 32, 98, 101, 104, 105, 110, 100, 32, 116, 104, 101, 32, 111, 110, 101, 32, 97, 104, 101, 97, 100]⟩] 187, .cells #[.string ⟨#[97, 110, 111, 116, 104, 101, 114, 32, 114, 101, 99, 111, 114, 100, 39, 115, 32, 104, 97, 115, 104, 32, 116, 104, 97, 110, 32, 116, 104, 97, 116, 32, 111, 102, 32, 116, 104, 101, 32, 111, 110, 101, 32, 97, 104, 101, 97, 100]⟩] 187, .cells #[.string ⟨#[116, 104, 101, 32, 102, 105, 114, 115, 116, 32, 114, 101, 99, 111, 114, 100, 32, 97, 100, 100, 115, 32, 100, 101, 118, 105, 99, 101, 32, 48]⟩] 187, .cells #[.string ⟨#[97, 100, 100, 101, 100, 32, 119, 104, 105, 108, 101, 32, 105, 116, 32, 105, 115, 32, 97, 32, 109, 101, 109, 98, 101, 114]⟩] 187, .cells #[.string ⟨#[114, 101, 118, 111, 107, 101, 100, 32, 119, 104, 105, 108, 101, 32, 105, 116, 32, 105, 115, 32, 110, 111, 32, 109, 101, 109, 98, 101, 114]⟩] 187, .cells #[.string ⟨#[105, 116, 32, 115, 116, 97, 121, 115, 32, 102, 111, 114, 32, 103, 111, 111, 100]⟩] 187], #[], []⟩ with heap := ((((((((((((World.holding Tryz.prog os ⟨#[.cells #[.string ⟨#[109, 111, 114, 101, 32, 116, 104, 97, 110, 32, 97, 32, 99, 104, 97, 105, 110, 32, 109, 97, 121, 32, 104, 97, 118, 101]⟩] 187, .cells #[.string ⟨#[105, 116, 32, 109, 97, 121, 32, 110, 111, 116, 32, 98, 101]⟩] 187, .cells #[.string ⟨#[110, 111, 116, 32, 116, 104, 101, 32, 111, 110, 101, 32, 98, 101, 104, 105, 110, 100, 32, 116, 104, 101, 32, 111, 110, 101, 32, 97, 104, 101, 97, 100]⟩] 187, .cells #[.string ⟨#[97, 110, 111, 116, 104, 101, 114, 32, 114, 101, 99, 111, 114, 100, 39, 115, 32, 104, 97, 115, 104, 32, 116, 104, 97, 110, 32, 116, 104, 97, 116, 32, 111, 102, 32, 116, 104, 101, 32, 111, 110, 101, 32, 97, 104, 101, 97, 100]⟩] 187, .cells #[.string ⟨#[116, 104, 101, 32, 102, 105, 114, 115, 116, 32, 114, 101, 99, 111, 114, 100, 32, 97, 100, 100, 115, 32, 100, 101, 118, 105, 99, 101, 32, 48]⟩] 187, .cells #[.string ⟨#[97, 100, 100, 101, 100, 32, 119, 104, 105, 108, 101, 32, 105, 116, 32, 105, 115, 32, 97, 32, 109, 101, 109, 98, 101, 114]⟩] 187, .cells #[.string ⟨#[114, 101, 118, 111, 107, 101, 100, 32, 119, 104, 105, 108, 101, 32, 105, 116, 32, 105, 115, 32, 110, 111, 32, 109, 101, 109, 98, 101, 114]⟩] 187, .cells #[.string ⟨#[105, 116, 32, 115, 116, 97, 121, 115, 32, 102, 111, 114, 32, 103, 111, 111, 100]⟩] 187], #[], []⟩).heap).modify 0 (lay #[.iface 168 (.pointer (some ⟨low, 0, none⟩))])).modify 1 (lay #[.iface 168 (.pointer (some ⟨low + 1, 0, none⟩))])).modify 2 (lay #[.iface 168 (.pointer (some ⟨low + 2, 0, none⟩))])).modify 3 (lay #[.iface 168 (.pointer (some ⟨low + 3, 0, none⟩))])).modify 4 (lay #[.iface 168 (.pointer (some ⟨low + 4, 0, none⟩))])).modify 5 (lay #[.iface 168 (.pointer (some ⟨low + 5, 0, none⟩))])).modify 6 (lay #[.iface 168 (.pointer (some ⟨low + 6, 0, none⟩))])).modify 7 (lay #[.iface 168 (.pointer (some ⟨low + 7, 0, none⟩))])).modify 9 (lay #[.iface 126 (.agg #[.pointer (some ⟨12, 45, none⟩)])])).modify 8 (lay #[.int .u32 1779033703, .int .u32 3144134277, .int .u32 1013904242, .int .u32 2773480762, .int .u32 1359893119, .int .u32 2600822924, .int .u32 528734635, .int .u32 1541459225])).modify 10 (lay #[.int .u32 1116352408, .int .u32 1899447441, .int .u32 3049323471, .int .u32 3921009573, .int .u32 961987163, .int .u32 1508970993, .int .u32 2453635748, .int .u32 2870763221, .int .u32 3624381080, .int .u32 310598401, .int .u32 607225278, .int .u32 1426881987, .int .u32 1925078388, .int .u32 2162078206, .int .u32 2614888103, .int .u32 3248222580, .int .u32 3835390401, .int .u32 4022224774, .int .u32 264347078, .int .u32 604807628, .int .u32 770255983, .int .u32 1249150122, .int .u32 1555081692, .int .u32 1996064986, .int .u32 2554220882, .int .u32 2821834349, .int .u32 2952996808, .int .u32 3210313671, .int .u32 3336571891, .int .u32 3584528711, .int .u32 113926993, .int .u32 338241895, .int .u32 666307205, .int .u32 773529912, .int .u32 1294757372, .int .u32 1396182291, .int .u32 1695183700, .int .u32 1986661051, .int .u32 2177026350, .int .u32 2456956037, .int .u32 2730485921, .int .u32 2820302411, .int .u32 3259730800, .int .u32 3345764771, .int .u32 3516065817, .int .u32 3600352804, .int .u32 4094571909, .int .u32 275423344, .int .u32 430227734, .int .u32 506948616, .int .u32 659060556, .int .u32 883997877, .int .u32 958139571, .int .u32 1322822218, .int .u32 1537002063, .int .u32 1747873779, .int .u32 1955562222, .int .u32 2024104815, .int .u32 2227730452, .int .u32 2361852424, .int .u32 2428436474, .int .u32 2756734187, .int .u32 3204031479, .int .u32 3329325298]) }
theorem laid_met (os : Os) : laidMetH Tryz.prog Rows.memberHeadRow.laid ((laidWorld os).forCall (fun _ _ => 0) ⟨#[], #[.agg #[.int .i64 0, .string ⟨#[]⟩, .int .i64 0, .int .i64 0, .slice none 0 0, .string ⟨#[]⟩], .agg #[.int .i64 0, .string ⟨#[]⟩, .int .i64 0, .int .i64 0, .slice none 0 0, .string ⟨#[]⟩], .int .u8 0], []⟩).memory :=
  laidMetH_of_parts (laidMet_of_run' 8 (by kernel_rfl) (by kernel_rfl)) (by kernel_rfl)
theorem reads (os : Os) {H : Type} (enc : TypeId × Value → H) : ∃ places, DataW.whole enc Tryz.prog ((laidWorld os).forCall (fun _ _ => 0) ⟨#[], #[.agg #[.int .i64 0, .string ⟨#[]⟩, .int .i64 0, .int .i64 0, .slice none 0 0, .string ⟨#[]⟩], .agg #[.int .i64 0, .string ⟨#[]⟩, .int .i64 0, .int .i64 0, .slice none 0 0, .string ⟨#[]⟩], .int .u8 0], []⟩).memory Tryz.f7.params.toList Rows.memberHeadSpec.vars false (show Array Value from #[.agg #[.int .i64 0, .string ⟨#[]⟩, .int .i64 0, .int .i64 0, .slice none 0 0, .string ⟨#[]⟩], .agg #[.int .i64 0, .string ⟨#[]⟩, .int .i64 0, .int .i64 0, .slice none 0 0, .string ⟨#[]⟩], .int .u8 0]).toList 8 = some ([.agg [.lit (.int .i64 0), .lit (.string []), .lit (.int .i64 0), .lit (.int .i64 0), .nil, .lit (.string [])], .agg [.lit (.int .i64 0), .lit (.string []), .lit (.int .i64 0), .lit (.int .i64 0), .nil, .lit (.string [])], .lit (.int .u8 0)], [], places) :=
  ⟨[], by kernel_rfl⟩

set_option maxRecDepth 100000 in
theorem lifted (os : Os) (started : os.Started) (H : Type) (enc : TypeId × Value → H) (F : Stop.Interp) :
    ReturnsInHanded {} Tryz.checked os 7 .any ((OpenSpec.ofChange Rows.memberHeadSpec).preRow enc Tryz.prog Tryz.f7 Rows.memberHeadRow.domain false Rows.memberHeadRow.laid) (((OpenSpec.ofChange Rows.memberHeadSpec).at F).post enc Tryz.prog Tryz.f7 false true false false) := by
  obtain ⟨places, hx⟩ := reads os enc
  refine returnsInHanded_of_row (C := Tryz.checked) (s := OpenSpec.ofChange Rows.memberHeadSpec) own started (by kernel_rfl) Tryz.func7
    (witness_row_at (enc := enc) (C := Tryz.checked) false (laidWorld os) #[.agg #[.int .i64 0, .string ⟨#[]⟩, .int .i64 0, .int .i64 0, .slice none 0 0, .string ⟨#[]⟩], .agg #[.int .i64 0, .string ⟨#[]⟩, .int .i64 0, .int .i64 0, .slice none 0 0, .string ⟨#[]⟩], .int .u8 0] rfl (by kernel_rfl) (by kernel_rfl) (by kernel_rfl)
      (OpenSpec.preRow_of_cond 8 hx (by kernel_rfl) (fun k hk => by cases hk) (by kernel_rfl) (laid_met os))) ?_
  intro W base args ds gs before hval hW _ _ _ hL _ _
  exact contract H enc W base args ds gs before hval hW hL

theorem said : Rows.MemberHeadSaid :=
  OpenClaim.holds_of_cond 7 Tryz.f7 rfl rfl rfl rfl rfl rfl rfl ⟨rfl, rfl, rfl, rfl, rfl⟩ rfl rfl rfl rfl rfl (by kernel_rfl) Tryz.func7 (by kernel_rfl)
    (of_decide_eq_true (by kernel_rfl)) (by unfold Func.isWrapper; first | (rw [if_pos (by decide +kernel)]; kernel_rfl) | (rw [if_neg (by decide +kernel)]; exact ⟨rfl, rfl⟩))
    (fun os started H enc _ F => by rw [OpenClaim.pre_eq_preRow]; exact lifted os started H enc F)

theorem plain (f : FuncId) (fn : Func) (hf : Tryz.pinned.checked.prog.funcNamed "deaddrop/deaddroplaw15.MemberHead" = some f) (hfn : Tryz.pinned.checked.prog.funcs[f]? = some fn) :
    true = Tryz.pinned.checked.prog.looks [] ∧ ∀ (j : Nat) t, fn.params[j]? = some t → Tryz.pinned.checked.prog.wantsStandIn t = false := by
  obtain rfl : f = 7 := Option.some.inj ((show Tryz.prog.funcNamed "deaddrop/deaddroplaw15.MemberHead" = some 7 by kernel_rfl).symm.trans hf) |>.symm
  obtain rfl : fn = Tryz.f7 := (Option.some.inj (Tryz.func7.symm.trans hfn)).symm
  refine ⟨by kernel_rfl, fun j t ht => ?_⟩
  have hall : (Tryz.f7.params.toList.all fun u => !Tryz.prog.wantsStandIn u) = true := by kernel_rfl
  have hm : t ∈ Tryz.f7.params.toList := by simpa using Array.mem_of_getElem? ht
  exact (show Tryz.prog.wantsStandIn t = false by simpa using List.all_eq_true.1 hall t hm)

theorem card : Rows.MemberHeadCardSaid :=
  Claim7.holds_tied_plain_at .later [] _ _ _ _ said (fun _ h => by cases h) (by kernel_rfl) (fun _ h => by cases h) memberHead_row_tie rfl ⟨rfl, rfl⟩ (by kernel_rfl) rfl plain (by kernel_rfl)
#print axioms card
end Go.Proofs.YtdlafgkiddhejaaGreatDoor.memberHead
