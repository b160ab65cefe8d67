/-
  Proved: whatever values of its parameters' types it is called with, deaddroplaw13.SnapAll returns true, and each argument reads behind the call as it read before; the listed package-level variables being what the program's own text lays (the card ties them).
  Conditions: none but those of the card itself.
-/
import Derived.Test.YthijiefopcnclaaGreatDoorCards
import Derived.Test.YthijiefopcnclaaGreatDoorTie
import Derived.WalkKit
import Derived.ProofKit
import Derived.OpenShut
import Derived.ShutString
import Derived.Below
import Derived.ChangeOld
import Derived.Deep.DeepHandedRow
import Derived.LaidSub
import Derived.LaidHandle
import Derived.LaidLaws
import Derived.RowKitTokens
import Derived.Stop.LaidTwo
import Derived.Test.YthijiefopcnclaaGreatDoorSnLaw
import Derived.Test.YthijiefopcnclaaGreatDoorSnGs
import Derived.Test.YthijiefopcnclaaGreatDoorFtD
import Derived.Test.YthijiefopcnclaaGreatDoorOpn
import Derived.Test.YthijiefopcnclaaGreatDoorTdA
import Derived.Deep.DeepCutAuto

namespace Go.Proofs.YthijiefopcnclaaGreatDoor.snapAll
open Go.ChangeShapes Go.WideShapes Go.ChangeAt Go.RowKit
open Go.ChangeMaps (open_string shut_string)
open Go.Proofs.YthijiefopcnclaaGreatDoor.Mm Go.Proofs.YthijiefopcnclaaGreatDoor.Dt Go.Proofs.YthijiefopcnclaaGreatDoor.Td Go.Proofs.YthijiefopcnclaaGreatDoor.Vw Go.Proofs.YthijiefopcnclaaGreatDoor
set_option linter.unusedVariables false

theorem own : ownKnob Tryz.prog.godebug = none := by kernel_rfl
theorem laidOut : laidOutB Tryz.prog = true := by kernel_rfl

attribute [local go_sem] Td.upon_value Td.upon_skip Td.upon_enter Td.upon_row Td.look_tmp Td.look_const Td.look_func Td.look_global
theorem little {w : World} {A B : Option Addr} {n m : Nat} {s : St} (hs : SL w A n B m s) (hg : ¬ GreatP s) : n ≤ 60 ∧ m ≤ 80 := by
  have h1 := hs.1.1; have h2 := hs.2.1
  exact ⟨Nat.le_of_not_lt fun h => hg (.inr (.inl (by rw [h1]; exact h))), Nat.le_of_not_lt fun h => hg (.inr (.inr (by rw [h2]; exact h)))⟩
/-- What came of bytes: their state; or the empty one. -/
def Got (s : ByteArray) (t : St) (q : Bool) : Prop := (q = true ∧ IsPut s.data.toList t) ∨ (q = false ∧ (∀ u, ¬ IsPut s.data.toList u) ∧ t = ⟨[], []⟩)
theorem got_of {s : ByteArray} {w w' : World} {e : Ending} (h : GetIs s w e w') : ∃ t q A p c B n d, e = .returned (.tuple #[.agg #[.slice A p c, .slice B n d], .bool q]) ∧ Got s t q ∧ SL w' A p B n t ∧ w.grownBy w' none := by
  obtain ⟨h, hg⟩ := h
  rcases h with ⟨t, A, p, c, B, n, d, hp, rfl, hs⟩ | ⟨hn, rfl⟩
  · exact ⟨t, true, A, p, c, B, n, d, rfl, .inl ⟨rfl, hp⟩, hs, hg⟩
  · exact ⟨⟨[], []⟩, false, none, 0, 0, none, 0, 0, rfl, .inr ⟨rfl, hn, rfl⟩, ⟨RL.none _ _, FL.none _ _⟩, hg⟩
theorem ref_got {s : ByteArray} {w w' : World} {e : Ending} (h : RefGetIs s w e w') : ∃ t q A p c B n d, e = .returned (.agg #[.slice A p c, .slice B n d, .bool q]) ∧ Got s t q ∧ SL w' A p B n t ∧ w.grownBy w' none := by
  obtain ⟨h, hg⟩ := h
  rcases h with ⟨t, A, p, c, B, n, d, hp, rfl, hs⟩ | ⟨hn, rfl⟩
  · exact ⟨t, true, A, p, c, B, n, d, rfl, .inl ⟨rfl, hp⟩, hs, hg⟩
  · exact ⟨⟨[], []⟩, false, none, 0, 0, none, 0, 0, rfl, .inr ⟨rfl, hn, rfl⟩, ⟨RL.none _ _, FL.none _ _⟩, hg⟩
theorem got_one {s : ByteArray} {t u : St} {q r : Bool} (h : Got s t q) (k : Got s u r) : t = u ∧ q = r := by
  rcases h with ⟨rfl, h⟩ | ⟨rfl, hn, rfl⟩
  · rcases k with ⟨rfl, k⟩ | ⟨_, hn, _⟩
    · exact ⟨put_one h k, rfl⟩
    · exact absurd h (hn t)
  · rcases k with ⟨_, k⟩ | ⟨rfl, _, rfl⟩
    · exact absurd k (hn u)
    · exact ⟨rfl, rfl⟩
theorem got_short {s : ByteArray} {t : St} {q : Bool} (h : Got s t q) : t.seen.length ≤ 65536 ∧ t.facts.length ≤ 400 := by
  rcases h with ⟨_, h⟩ | ⟨_, _, rfl⟩
  · exact ⟨h.1.2, h.1.1.2.1⟩
  · exact ⟨by simp, by simp⟩

set_option maxHeartbeats 40000000 in
set_option maxRecDepth 100000 in
theorem walk (SA0 SB0 : Option Addr) (sn0 sc0 sm0 sd0 : Nat) (st0 : St) (tx1 : ByteArray) (w : World) (w0 : SL w SA0 sn0 SB0 sm0 st0) (hT : w.cell? ⟨0, 0, none⟩ = some (.iface 155 (.agg #[.pointer (some ⟨2, 53, none⟩)]))) :
    Calls Tryz.prog 3 #[.agg #[.slice SA0 sn0 sc0, .slice SB0 sm0 sd0], .string tx1] w fun e w' => e = .returned (.bool true) ∧ Below w.heap.size w w' := by
  have HT : Hid (ErrT w) := hT
  have HAw : Hid (∀ W, w.grownBy W none → Calls Tryz.prog 8 #[] W fun e w' => e = .returned (.bool true) ∧ W.grownBy w' none) := fun W hW => awake13_any W (HT.out.keep hW (by simp))
  obtain ⟨hb, hhb⟩ : ∃ hb, w.heap.size = hb := ⟨_, rfl⟩
  obtain ⟨W0, hW0⟩ : ∃ W0, w.alloc (.cells #[.slice SA0 sn0 sc0, .slice SB0 sm0 sd0] 25) = W0 := ⟨_, rfl⟩
  have G0 : w.grownBy W0 none := by rw [← hW0]; exact gb_alloc (gb_refl _ _) _
  have hr0 : Row W0 hb 25 #[.slice SA0 sn0 sc0, .slice SB0 sm0 sd0] := by rw [← hW0, ← hhb]; exact Row.new _ _ _
  have HC : Hid (∀ W, W0.grownBy W none → W.cell? ⟨hb, 0, none⟩ = some (.slice SA0 sn0 sc0) ∧ W.cell? ⟨hb, 1, none⟩ = some (.slice SB0 sm0 sd0)) := fun W hW => ⟨(hr0.kept hW (by simp)).at_ (i := 0) rfl, (hr0.kept hW (by simp)).at_ (i := 1) rfl⟩
  have HS : Hid (SL W0 SA0 sn0 SB0 sm0 st0) := w0.keep G0
  have HG := Lib.hid G0
  obtain ⟨z0, z1⟩ := HC.out W0 (gb_refl _ _)
  clear hr0 w0 G0 hT
  go_enter Tryz.func3, Tryz.ntmps3
  go_upto_region 1 with fail
  clear hW0 hhb
  by_cases hgr : GreatP st0
  · go_wp2_with fail
    refine (great_any SA0 SB0 sn0 sc0 sm0 sd0 st0 W0 HS.out).mono ?_
    intro e w1 hh
    obtain ⟨he, g1⟩ := hh.yes hgr
    clear hh
    subst he
    have HGg := Lib.hid (gb_none HG.out g1)
    obtain ⟨y0, y1⟩ := HC.out w1 g1
    have Hg1 := Lib.hid g1
    clear g1
    go_wp2_with fail
    refine (HAw.out _ HGg.out).mono ?_
    rintro e w9 ⟨rfl, g9⟩
    go_wp2_with fail
    go_ret
    exact ⟨rfl, gb_below (gb_none HGg.out g9) (Nat.le_refl _)⟩
  · have Hlt : Hid (sn0 ≤ 60 ∧ sm0 ≤ 80) := little HS.out hgr
    by_cases hky : 3000 < tx1.size
    · have d1 : decide (3000 < tx1.size) = true := decide_eq_true hky
      have d2 : decide (3000 < (tx1.size : Int)) = true := decide_eq_true (by omega)
      clear hky
      go_wp2_with fail
      refine (great_any SA0 SB0 sn0 sc0 sm0 sd0 st0 W0 HS.out).mono ?_
      intro e w1 hh
      obtain ⟨he, g1⟩ := hh.no hgr
      clear hh
      subst he
      have HGg := Lib.hid (gb_none HG.out g1)
      obtain ⟨y0, y1⟩ := HC.out w1 g1
      have Hg1 := Lib.hid g1
      clear g1
      go_wp2_with fail
      refine (HAw.out _ HGg.out).mono ?_
      rintro e w9 ⟨rfl, g9⟩
      go_wp2_with fail
      go_ret
      exact ⟨rfl, gb_below (gb_none HGg.out g9) (Nat.le_refl _)⟩
    · have d1 : decide (3000 < tx1.size) = false := decide_eq_false hky
      have d2 : decide (3000 < (tx1.size : Int)) = false := decide_eq_false (by omega)
      have Hb : Hid (tx1.size ≤ 3000) := by show _ ≤ _; omega
      clear hky
      go_wp2_with fail
      refine (great_any SA0 SB0 sn0 sc0 sm0 sd0 st0 W0 HS.out).mono ?_
      intro e w1 hh
      obtain ⟨he, g1⟩ := hh.no hgr
      clear hh
      subst he
      have HGg := Lib.hid (gb_none HG.out g1)
      obtain ⟨y0, y1⟩ := HC.out w1 g1
      have Hg1 := Lib.hid g1
      clear g1
      clear hgr z0 z1
      go_wp2_with fail
      clear d1 d2 y0 y1
      refine (getS_any tx1 w1 (by rw [data_len]; have := Hb.out; omega) (HT.out.keep HGg.out (by simp))).mono ?_
      intro e w2 hh
      obtain ⟨t, q, A1, p1, c1, B1, n1, e1, rfl, hgo, hsl, g2⟩ := got_of hh
      have Hgo := Lib.hid hgo
      have Hg2 := Lib.hid (gb_none Hg1.out g2)
      obtain ⟨b2, hb2⟩ : ∃ b2, w2.heap.size = b2 := ⟨_, rfl⟩
      go_upto_region 4 with fail
      refine Td.named (fun W => W0.grownBy W none ∧ Row W b2 25 #[.slice A1 p1 c1, .slice B1 n1 e1] ∧ SL W A1 p1 B1 n1 t) ⟨gb_alloc Hg2.out _, by rw [← hb2]; exact Row.new _ _ _, hsl.keep (gb_alloc (gb_refl _ _) _)⟩ ?_
      clear hh hgo hsl g2 hb2 Hg2
      rintro W2 ⟨k1, k2, k3⟩
      have HG2 := Lib.hid k1
      have HR2 := Lib.hid k2
      have HS2 := Lib.hid k3
      clear k1 k2 k3
      go_wp2_with fail
      refine (refGetS_any tx1 W2 Hb.out).mono ?_
      intro e w3 hh
      obtain ⟨t', q', A2, p2, c2, B2, n2, e2, rfl, hgo, hsl, g3⟩ := ref_got hh
      obtain ⟨rfl, rfl⟩ := got_one Hgo.out hgo
      have Hg3 := Lib.hid g3
      obtain ⟨b3, hb3⟩ : ∃ b3, w3.heap.size = b3 := ⟨_, rfl⟩
      go_upto_region 5 with fail
      refine Td.named (fun W => W2.grownBy W none ∧ Row W b3 31 #[.slice A2 p2 c2, .slice B2 n2 e2, .bool q] ∧ SL W A2 p2 B2 n2 t) ⟨gb_alloc Hg3.out _, by rw [← hb3]; exact Row.new _ _ _, hsl.keep (gb_alloc (gb_refl _ _) _)⟩ ?_
      clear hh hgo hsl g3 hb3 Hg3
      rintro W3 ⟨k1, k2, k3⟩
      have HG3 : Hid (W0.grownBy W3 none) := gb_none HG2.out k1
      have HXs : Hid (∀ W, W3.grownBy W none → W.cell? ⟨hb, 0, none⟩ = some (.slice SA0 sn0 sc0) ∧ W.cell? ⟨hb, 1, none⟩ = some (.slice SB0 sm0 sd0)) := fun W hW => HC.out W (gb_none HG3.out hW)
      have HXx : Hid (∀ W, W3.grownBy W none → W.cell? ⟨b2, 0, none⟩ = some (.slice A1 p1 c1) ∧ W.cell? ⟨b2, 1, none⟩ = some (.slice B1 n1 e1)) := fun W hW => by
        have k := HR2.out.kept (gb_none k1 hW) (by simp)
        exact ⟨k.at_ (i := 0) rfl, k.at_ (i := 1) rfl⟩
      have HXy : Hid (∀ W, W3.grownBy W none → W.cell? ⟨b3, 0, none⟩ = some (.slice A2 p2 c2) ∧ W.cell? ⟨b3, 1, none⟩ = some (.slice B2 n2 e2) ∧ W.cell? ⟨b3, 2, none⟩ = some (.bool q)) := fun W hW => by
        have k := k2.kept hW (by simp)
        exact ⟨k.at_ (i := 0) rfl, k.at_ (i := 1) rfl, k.at_ (i := 2) rfl⟩
      have hlt := got_short Hgo.out
      have HSame : Hid (∀ W, W3.grownBy W none → Calls Tryz.prog 13 #[.agg #[.slice A1 p1 c1, .slice B1 n1 e1], .agg #[.slice A2 p2 c2, .slice B2 n2 e2]] W fun e w' => e = .returned (.bool true) ∧ W.grownBy w' none) := fun W hW => (refSameSt_any A1 B1 A2 B2 p1 c1 n1 e1 p2 c2 n2 e2 t t W (HS2.out.keep (gb_none k1 hW)) (k3.keep hW) (by have := HS2.out.1.1; omega) (by have := HS2.out.2.1; omega) (by have := k3.1.1; omega) (by have := k3.2.1; omega)).mono fun _ _ h => h.yes rfl
      have HAw3 : Hid (∀ W, W3.grownBy W none → Calls Tryz.prog 8 #[] W fun e w' => e = .returned (.bool true) ∧ W.grownBy w' none) := fun W hW => HAw.out W (gb_none HG.out (gb_none HG3.out hW))
      obtain ⟨P, hPu, hRe⟩ : ∃ P : ByteArray, (∀ W, W3.grownBy W none → Calls Tryz.prog 11 #[.agg #[.slice SA0 sn0 sc0, .slice SB0 sm0 sd0]] W fun e w' => e = .returned (.string P) ∧ W.grownBy w' none) ∧ (∀ W, W3.grownBy W none → Calls Tryz.prog 12 #[.agg #[.slice SA0 sn0 sc0, .slice SB0 sm0 sd0]] W fun e w' => e = .returned (.string P) ∧ W.grownBy w' none) := by
        have hl := HS.out.1.1
        have h6 := Hlt.out
        have hsk : ∀ W, W3.grownBy W none → SL W SA0 sn0 SB0 sm0 st0 := fun W hW => HS.out.keep (gb_none HG3.out hW)
        by_cases hm : MayS st0
        · exact ⟨(stW st0).bytes, fun W hW => putS_yes SA0 SB0 sn0 sc0 sm0 sd0 st0 W (hsk W hW) ⟨hm, by omega⟩ (by omega), fun W hW => putState_any SA0 SB0 sn0 sc0 sm0 sd0 st0 W (hsk W hW) hm (by omega)⟩
        · exact ⟨⟨#[]⟩, fun W hW => putS_no SA0 SB0 sn0 sc0 sm0 sd0 st0 W (hsk W hW) (fun h => hm h.1) (by omega) (by omega), fun W hW => refPut_no SA0 SB0 sn0 sc0 sm0 sd0 st0 W (hsk W hW) hm (by omega) (by omega)⟩
      have HPut := Lib.hid hPu
      have HRef := Lib.hid hRe
      clear k1 k2 k3 hlt hPu hRe
      apply wp_region_told (le := fun a b => a.grownBy b none) [isV _, isV _, isV _, isV _, isV _, isV _, isV _, isV _, isV _, isV _, isV _, isV _, isV _, isV _, isV _, isV _, isV _, isV _, isV _, isV _, isV _]
      case hn => rfl
      case hm => kernel_rfl
      case hB => kernel_rfl
      case ht => exact fun _ _ _ h k => gb_none h k
      case hw => exact gb_drew (gb_refl _ _)
      -- 0: law.go:25 load
      apply told_is
      · intro W f hW hE h0 K hK
        have e2 := h0 2 (by kernel_rfl)
        conv at e2 => rhs; whnf
        clear hE h0
        refine yes_of (want_free rfl) ?_
        obtain ⟨z0, z1⟩ := HXs.out W hW
        go_simp; exact hK _ _ (gb_refl _ _) rfl
      -- 1: law.go:25 call
      apply told_is
      · intro W f hW hE h0 K hK
        have e23 : f 23 = _ := hE 0 23 _ rfl (by kernel_rfl)
        clear hE h0
        refine yes_of (want_free rfl) ?_
        go_simp
        refine (HPut.out W hW).mono ?_
        rintro e w1' ⟨rfl, g'⟩
        exact ⟨_, rfl, hK _ _ g' rfl⟩
      -- 2: law.go:25 load
      apply told_is
      · intro W f hW hE h0 K hK
        have e2 := h0 2 (by kernel_rfl)
        conv at e2 => rhs; whnf
        clear hE h0
        refine yes_of (want_free rfl) ?_
        obtain ⟨z0, z1⟩ := HXs.out W hW
        go_simp; exact hK _ _ (gb_refl _ _) rfl
      -- 3: law.go:25 call
      apply told_is
      · intro W f hW hE h0 K hK
        have e25 : f 25 = _ := hE 0 25 _ rfl (by kernel_rfl)
        clear hE h0
        refine yes_of (want_free rfl) ?_
        go_simp
        refine (HRef.out W hW).mono ?_
        rintro e w1' ⟨rfl, g'⟩
        exact ⟨_, rfl, hK _ _ g' rfl⟩
      -- 4: law.go:25 binOp
      apply told_is
      · intro W f hW hE h0 K hK
        have e24 : f 24 = _ := hE 2 24 _ rfl (by kernel_rfl)
        have e26 : f 26 = _ := hE 0 26 _ rfl (by kernel_rfl)
        clear hE h0
        refine yes_of (want_free rfl) ?_
        go_simp; exact hK _ _ (gb_refl _ _) rfl
      -- 5: law.go:25 move
      apply told_is
      · intro W f hW hE h0 K hK
        have e27 : f 27 = _ := hE 0 27 _ rfl (by kernel_rfl)
        clear hE h0
        refine yes_of (want_free rfl) ?_
        go_simp; exact hK _ _ (gb_refl _ _) rfl
      -- 6: law.go:25 load
      apply told_is
      · intro W f hW hE h0 K hK
        have e5 := h0 5 (by kernel_rfl)
        conv at e5 => rhs; whnf
        have e28 : f 28 = _ := hE 0 28 _ rfl (by kernel_rfl)
        clear hE h0
        refine yes_of (want_yes rfl rfl e28) ?_
        obtain ⟨z0, z1⟩ := HXx.out W hW
        go_simp; exact hK _ _ (gb_refl _ _) rfl
      -- 7: law.go:25 fieldAddr
      apply told_is
      · intro W f hW hE h0 K hK
        have e7 := h0 7 (by kernel_rfl)
        conv at e7 => rhs; whnf
        have e28 : f 28 = _ := hE 1 28 _ rfl (by kernel_rfl)
        clear hE h0
        refine yes_of (want_yes rfl rfl e28) ?_
        go_simp; exact hK _ _ (gb_refl _ _) rfl
      -- 8: law.go:25 load
      apply told_is
      · intro W f hW hE h0 K hK
        have e30 : f 30 = _ := hE 0 30 _ rfl (by kernel_rfl)
        have e28 : f 28 = _ := hE 2 28 _ rfl (by kernel_rfl)
        clear hE h0
        refine yes_of (want_yes rfl rfl e28) ?_
        obtain ⟨z0, z1, z2⟩ := HXy.out W hW
        go_simp; exact hK _ _ (gb_refl _ _) rfl
      -- 9: law.go:25 call
      apply told_is
      · intro W f hW hE h0 K hK
        have e29 : f 29 = _ := hE 2 29 _ rfl (by kernel_rfl)
        have e31 : f 31 = _ := hE 0 31 _ rfl (by kernel_rfl)
        have e28 : f 28 = _ := hE 3 28 _ rfl (by kernel_rfl)
        clear hE h0
        refine yes_of (want_yes rfl rfl e28) ?_
        go_simp
        refine (HSame.out W hW).mono ?_
        rintro e w1' ⟨rfl, g'⟩
        exact ⟨_, rfl, hK _ _ g' rfl⟩
      -- 10: law.go:25 pick
      apply told_is
      · intro W f hW hE h0 K hK
        have e28 : f 28 = _ := hE 4 28 _ rfl (by kernel_rfl)
        have e32 : f 32 = _ := hE 0 32 _ rfl (by kernel_rfl)
        clear hE h0
        refine yes_of (want_free rfl) ?_
        go_simp; exact hK _ _ (gb_refl _ _) rfl
      -- 11: law.go:25 move
      apply told_is
      · intro W f hW hE h0 K hK
        have e33 : f 33 = _ := hE 0 33 _ rfl (by kernel_rfl)
        clear hE h0
        refine yes_of (want_free rfl) ?_
        go_simp; exact hK _ _ (gb_refl _ _) rfl
      -- 12: law.go:25 move
      apply told_is
      · intro W f hW hE h0 K hK
        have e6 := h0 6 (by kernel_rfl)
        conv at e6 => rhs; whnf
        have e34 : f 34 = _ := hE 0 34 _ rfl (by kernel_rfl)
        clear hE h0
        refine yes_of (want_yes rfl rfl e34) ?_
        go_simp; exact hK _ _ (gb_refl _ _) rfl
      -- 13: law.go:25 fieldAddr
      apply told_is
      · intro W f hW hE h0 K hK
        have e7 := h0 7 (by kernel_rfl)
        conv at e7 => rhs; whnf
        have e34 : f 34 = _ := hE 1 34 _ rfl (by kernel_rfl)
        clear hE h0
        refine yes_of (want_yes rfl rfl e34) ?_
        go_simp; exact hK _ _ (gb_refl _ _) rfl
      -- 14: law.go:25 load
      apply told_is
      · intro W f hW hE h0 K hK
        have e36 : f 36 = _ := hE 0 36 _ rfl (by kernel_rfl)
        have e34 : f 34 = _ := hE 2 34 _ rfl (by kernel_rfl)
        clear hE h0
        refine yes_of (want_yes rfl rfl e34) ?_
        obtain ⟨z0, z1, z2⟩ := HXy.out W hW
        go_simp; exact hK _ _ (gb_refl _ _) rfl
      -- 15: law.go:25 binOp
      apply told_is
      · intro W f hW hE h0 K hK
        have e35 : f 35 = _ := hE 2 35 _ rfl (by kernel_rfl)
        have e37 : f 37 = _ := hE 0 37 _ rfl (by kernel_rfl)
        have e34 : f 34 = _ := hE 3 34 _ rfl (by kernel_rfl)
        clear hE h0
        refine yes_of (want_yes rfl rfl e34) ?_
        go_simp; exact hK _ _ (gb_refl _ _) rfl
      -- 16: law.go:25 pick
      apply told_is
      · intro W f hW hE h0 K hK
        have e34 : f 34 = _ := hE 4 34 _ rfl (by kernel_rfl)
        have e38 : f 38 = _ := hE 0 38 _ rfl (by kernel_rfl)
        clear hE h0
        refine yes_of (want_free rfl) ?_
        go_simp; exact hK _ _ (gb_refl _ _) rfl
      -- 17: law.go:25 move
      apply told_is
      · intro W f hW hE h0 K hK
        have e39 : f 39 = _ := hE 0 39 _ rfl (by kernel_rfl)
        clear hE h0
        refine yes_of (want_free rfl) ?_
        go_simp; exact hK _ _ (gb_refl _ _) rfl
      -- 18: law.go:25 call
      apply told_is
      · intro W f hW hE h0 K hK
        have e40 : f 40 = _ := hE 0 40 _ rfl (by kernel_rfl)
        clear hE h0
        refine yes_of (want_yes rfl rfl e40) ?_
        go_simp
        refine (HAw3.out W hW).mono ?_
        rintro e w1' ⟨rfl, g'⟩
        exact ⟨_, rfl, hK _ _ g' rfl⟩
      -- 19: law.go:25 pick
      apply told_is
      · intro W f hW hE h0 K hK
        have e40 : f 40 = _ := hE 1 40 _ rfl (by kernel_rfl)
        have e41 : f 41 = _ := hE 0 41 _ rfl (by kernel_rfl)
        clear hE h0
        refine yes_of (want_free rfl) ?_
        go_simp; exact hK _ _ (gb_refl _ _) rfl
      -- 20: law.go:25 assign
      apply told_is
      · intro W f hW hE h0 K hK
        have e42 : f 42 = _ := hE 0 42 _ rfl (by kernel_rfl)
        clear hE h0
        refine yes_of (want_free rfl) ?_
        go_simp; exact hK _ _ (gb_refl _ _) rfl
      intro W f hW hA
      simp only [lexIn, Act.put, List.setIfInBounds_toArray, List.set_cons_zero, List.set_cons_succ]
      have e4 : f 4 = _ := hA 0 (some 4) _ rfl
      rw [e4]
      clear hA
      have HgE := Lib.hid (gb_none HG.out (gb_none HG3.out hW))
      clear hW
      go_wp2_with fail
      go_ret
      exact ⟨rfl, gb_below HgE.out (Nat.le_refl _)⟩

theorem et : Tryz.prog.globalNamed "errors.errorType" = some 0 := by kernel_rfl
theorem rt : (Tryz.prog.cutTypes.find? (·.1 == "internal/reflectlite.rtype")).map (·.2) = some 155 := by kernel_rfl
theorem one_error : ((List.range 218).filter fun t => Tryz.prog.rowNamed t [101, 114, 114, 111, 114]) = [53] := by kernel_rfl
theorem how_many : Tryz.prog.types.size = 218 := by kernel_rfl
theorem handle : typeHandle Tryz.prog 53 = .pointer (some ⟨2, 53, none⟩) := by kernel_rfl
theorem errT {W : World} (h : laidMetH Tryz.prog Rows.snapAllRow.laid W) : W.cell? ⟨0, 0, none⟩ = some (.iface 155 (.agg #[.pointer (some ⟨2, 53, none⟩)])) := by
  have hm : ("errors.errorType", Rows.laid_errors_errorType) ∈ (Rows.snapAllRow.laid.filter fun x => x.2.handleName?.isSome) := by simp [Rows.snapAllRow, List.filter, DataW.handleName?, Rows.laid_errors_errorType]
  obtain ⟨n, u, t, hn, hu, ht, hr, hc⟩ := (laidMetH_iff.1 h).2 _ hm
  obtain rfl := Option.some.inj hn
  obtain rfl := Option.some.inj (rt.symm.trans hu)
  have hin : t ∈ [53] := by
    rw [← one_error]
    exact List.mem_filter.2 ⟨List.mem_range.2 (how_many ▸ ht), hr⟩
  obtain rfl := List.mem_singleton.1 hin
  rw [handle] at hc
  have := World.var?_cell et hc 0
  simpa using this

set_option maxRecDepth 100000 in
theorem contract (H : Type) (enc : TypeId × Value → H) (W : World) (base : Nat) (args : Array Value) (ds gs : List (DataW H)) (before : List MemPlace)
    (hval0 : ∀ (j : Nat) t v, Tryz.f3.params[j]? = some t → args[j]? = some v → Value.okWide Tryz.prog W .any base t v)
    (hW : DataW.Whole enc Tryz.prog Tryz.f3.params.toList Rows.snapAllSpec.vars false W args.toList ds gs before) (hL : laidMetH Tryz.prog Rows.snapAllRow.laid W) :
    Calls Tryz.prog 3 args W fun e W' => ∃ v, e = .returned v ∧ Rows.snapAllSpec.post enc Tryz.prog Tryz.f3 false true false false W args v W' := by
  have hval : ∀ (j : Nat) t v, Tryz.f3.params[j]? = some t → args[j]? = some v → Value.okWide Tryz.prog W .any base t v := hval0
  have hW' := hW
  obtain ⟨p, q, hA0, hV, rfl, hfz, hnd⟩ := hW
  have hA : DataW.TrodAll enc Tryz.prog W 0 (fun _ => true) true Tryz.f3.params.toList args.toList ds p := hA0
  rw [Tryz.params3] at hA hval
  obtain ⟨v0, vs0, d0, ds0, p0, q0, hargs, rfl, rfl, h0, r0⟩ := trodAll_cons hA
  obtain ⟨v1, vs1, d1, ds1, p1, q1, rfl, rfl, rfl, h1, r1⟩ := trodAll_cons r0
  obtain ⟨rfl, rfl, rfl⟩ := trodAll_nil r1
  obtain rfl : args = #[v0, v1] := by cases args; simp_all
  obtain ⟨rfl, rfl⟩ := trodVars_none hV
  have k0 := h0
  have lt0 : ∀ x ∈ p0, x.block < W.heap.size := by obtain ⟨m, hm⟩ := k0; exact DataW.trod_lt m _ _ _ hm
  obtain ⟨SA0, sn0, sc0, SB0, sm0, sd0, st0, rfl, w0, _, _⟩ := open_state (hval 0 25 v0 rfl rfl) h0
  have k1 := h1
  have lt1 : ∀ x ∈ p1, x.block < W.heap.size := by obtain ⟨m, hm⟩ := k1; exact DataW.trod_lt m _ _ _ hm
  obtain ⟨tx1, rfl, _⟩ := open_string Tryz.underlying9 (hval 1 9 v1 rfl rfl) h1
  clear hA0 hval0
  refine (walk SA0 SB0 sn0 sc0 sm0 sd0 st0 tx1 W w0 (errT hL)).mono fun e W' ⟨he, bel⟩ => ?_
  subst he
  exact ⟨_, rfl, _, _, _, [], _, [], hW', trodAll_mk1 (shut_bool Tryz.underlying4 _), (trodAll_cons_mk (Below.trod laidOut (by kernel_rfl) (of_decide_eq_true (by kernel_rfl)) k0 bel lt0) (trodAll_cons_mk (Below.trod laidOut (by kernel_rfl) (of_decide_eq_true (by kernel_rfl)) k1 bel lt1) trodAll_mk0)), rfl, bel.frame _, fun h => by cases h⟩

def lay (cs : Array Value) : Obj → Obj
  | .cells _ t frozen => .cells cs t frozen
  | o => o

noncomputable def laidWorld (os : Os) : World :=
  { World.holding Tryz.prog os ⟨#[], #[], []⟩ with heap := ((World.holding Tryz.prog os ⟨#[], #[], []⟩).heap).modify 0 (lay #[.iface 155 (.agg #[.pointer (some ⟨2, 53, none⟩)])]) }
theorem laid_met (os : Os) : laidMetH Tryz.prog Rows.snapAllRow.laid ((laidWorld os).forCall (fun _ _ => 0) ⟨#[], #[.agg #[.slice none 0 0, .slice none 0 0], .string ⟨#[]⟩], []⟩).memory :=
  laidMetH_of_parts (laidMet_nil _ _) (by kernel_rfl)
theorem reads (os : Os) {H : Type} (enc : TypeId × Value → H) : ∃ places, DataW.whole enc Tryz.prog ((laidWorld os).forCall (fun _ _ => 0) ⟨#[], #[.agg #[.slice none 0 0, .slice none 0 0], .string ⟨#[]⟩], []⟩).memory Tryz.f3.params.toList Rows.snapAllSpec.vars false (show Array Value from #[.agg #[.slice none 0 0, .slice none 0 0], .string ⟨#[]⟩]).toList 8 = some ([.agg [.nil, .nil], .lit (.string [])], [], places) :=
  ⟨[], by kernel_rfl⟩

set_option maxRecDepth 100000 in
theorem lifted (os : Os) (started : os.Started) (H : Type) (enc : TypeId × Value → H) (F : Stop.Interp) :
    ReturnsInHanded {} Tryz.checked os 3 .any ((OpenSpec.ofChange Rows.snapAllSpec).preRow enc Tryz.prog Tryz.f3 Rows.snapAllRow.domain false Rows.snapAllRow.laid) (((OpenSpec.ofChange Rows.snapAllSpec).at F).post enc Tryz.prog Tryz.f3 false true false false) := by
  obtain ⟨places, hx⟩ := reads os enc
  refine returnsInHanded_of_row (C := Tryz.checked) (s := OpenSpec.ofChange Rows.snapAllSpec) own started (by kernel_rfl) Tryz.func3
    (witness_row_at (enc := enc) (C := Tryz.checked) false (laidWorld os) #[.agg #[.slice none 0 0, .slice none 0 0], .string ⟨#[]⟩] rfl (by kernel_rfl) (by kernel_rfl) (by kernel_rfl)
      (OpenSpec.preRow_of_cond 8 hx (by kernel_rfl) (fun k hk => by cases hk) (by kernel_rfl) (laid_met os))) ?_
  intro W base args ds gs before hval hW _ _ _ hL _ _
  exact contract H enc W base args ds gs before hval hW hL

theorem said : Rows.SnapAllSaid :=
  OpenClaim.holds_of_cond 3 Tryz.f3 rfl rfl rfl rfl rfl rfl rfl ⟨rfl, rfl, rfl, rfl, rfl⟩ rfl rfl rfl rfl rfl (by kernel_rfl) Tryz.func3 (by kernel_rfl)
    (of_decide_eq_true (by kernel_rfl)) (by unfold Func.isWrapper; first | (rw [if_pos (by decide +kernel)]; kernel_rfl) | (rw [if_neg (by decide +kernel)]; exact ⟨rfl, rfl⟩))
    (fun os started H enc _ F => by rw [OpenClaim.pre_eq_preRow]; exact lifted os started H enc F)

theorem plain (f : FuncId) (fn : Func) (hf : Tryz.pinned.checked.prog.funcNamed "deaddrop/deaddroplaw13.SnapAll" = some f) (hfn : Tryz.pinned.checked.prog.funcs[f]? = some fn) :
    true = Tryz.pinned.checked.prog.looks [] ∧ ∀ (j : Nat) t, fn.params[j]? = some t → Tryz.pinned.checked.prog.wantsStandIn t = false := by
  obtain rfl : f = 3 := Option.some.inj ((show Tryz.prog.funcNamed "deaddrop/deaddroplaw13.SnapAll" = some 3 by kernel_rfl).symm.trans hf) |>.symm
  obtain rfl : fn = Tryz.f3 := (Option.some.inj (Tryz.func3.symm.trans hfn)).symm
  refine ⟨by kernel_rfl, fun j t ht => ?_⟩
  have hall : (Tryz.f3.params.toList.all fun u => !Tryz.prog.wantsStandIn u) = true := by kernel_rfl
  have hm : t ∈ Tryz.f3.params.toList := by simpa using Array.mem_of_getElem? ht
  exact (show Tryz.prog.wantsStandIn t = false by simpa using List.all_eq_true.1 hall t hm)

theorem card : Rows.SnapAllCardSaid :=
  Claim7.holds_tied_plain_at .later [] _ _ _ _ said (fun _ h => by cases h) (by kernel_rfl) (fun _ h => by cases h) snapAll_row_tie rfl ⟨rfl, rfl⟩ (by kernel_rfl) rfl plain (by kernel_rfl)
#print axioms card
end Go.Proofs.YthijiefopcnclaaGreatDoor.snapAll
