/-
  Proved: whatever values of its parameters' types it is called with, deaddroplaw2.ShaKnown returns true, and each argument reads behind the call as it read before; the two tables of package sha being what the program's own text lays (the card ties them).
  Conditions: none but those of the card itself.
-/
import Derived.Test.YtkeincmmcdcggaaDoorCards
import Derived.Test.YtkeincmmcdcggaaDoorTie
import Derived.WalkKit
import Derived.ProofKit
import Derived.OpenShut
import Derived.ShutString
import Derived.Below
import Derived.Deep.DeepHandedRow
import Derived.Lib.LaidTab
import Derived.LaidSub
import Derived.Test.YtkeincmmcdcggaaDoorSAwake
import Derived.Test.YtkeincmmcdcggaaDoorTold
import Derived.IntWalk
namespace Go.Proofs.YtkeincmmcdcggaaDoor.shaKnown
open Go.ChangeShapes Go.WideShapes Go.ChangeAt Go.RowKit
open Go.ChangeMaps (open_string shut_string)
open Go.Proofs.YtkeincmmcdcggaaDoor.Wd Go.Proofs.YtkeincmmcdcggaaDoor.Mm
set_option linter.unusedVariables false

theorem own : ownKnob Tryd.prog.godebug = none := by kernel_rfl
def text0 : ByteArray := ⟨#[97, 98, 99]⟩
def want0 : ByteArray := ⟨#[186, 120, 22, 191, 143, 1, 207, 234, 65, 65, 64, 222, 93, 174, 34, 35, 176, 3, 97, 163, 150, 23, 122, 156, 180, 16, 255, 97, 242, 0, 21, 173]⟩
theorem known0 : (⟨(shaS (catB [text0])).toArray⟩ : ByteArray) = want0 := by
  have h : shaS (catB [text0]) = [186, 120, 22, 191, 143, 1, 207, 234, 65, 65, 64, 222, 93, 174, 34, 35, 176, 3, 97, 163, 150, 23, 122, 156, 180, 16, 255, 97, 242, 0, 21, 173] := by decide +kernel
  rw [h]; rfl
def text1 : ByteArray := ⟨#[97, 98, 99, 100, 98, 99, 100, 101, 99, 100, 101, 102, 100, 101, 102, 103, 101, 102, 103, 104, 102, 103, 104, 105, 103, 104, 105, 106, 104, 105, 106, 107, 105, 106, 107, 108, 106, 107, 108, 109, 107, 108, 109, 110, 108, 109, 110, 111, 109, 110, 111, 112, 110, 111, 112, 113]⟩
def want1 : ByteArray := ⟨#[36, 141, 106, 97, 210, 6, 56, 184, 229, 192, 38, 147, 12, 62, 96, 57, 163, 60, 228, 89, 100, 255, 33, 103, 246, 236, 237, 212, 25, 219, 6, 193]⟩
theorem known1 : (⟨(shaS (catB [text1])).toArray⟩ : ByteArray) = want1 := by
  have h : shaS (catB [text1]) = [36, 141, 106, 97, 210, 6, 56, 184, 229, 192, 38, 147, 12, 62, 96, 57, 163, 60, 228, 89, 100, 255, 33, 103, 246, 236, 237, 212, 25, 219, 6, 193] := by decide +kernel
  rw [h]; rfl
def text2 : ByteArray := ⟨#[84, 104, 101, 32, 113, 117, 105, 99, 107, 32, 98, 114, 111, 119, 110, 32, 102, 111, 120, 32, 106, 117, 109, 112, 115, 32, 111, 118, 101, 114, 32, 116, 104, 101, 32, 108, 97, 122, 121, 32, 100, 111, 103]⟩
def want2 : ByteArray := ⟨#[215, 168, 251, 179, 7, 215, 128, 148, 105, 202, 154, 188, 176, 8, 46, 79, 141, 86, 81, 228, 109, 60, 219, 118, 45, 2, 208, 191, 55, 201, 229, 146]⟩
theorem known2 : (⟨(shaS (catB [text2])).toArray⟩ : ByteArray) = want2 := by
  have h : shaS (catB [text2]) = [215, 168, 251, 179, 7, 215, 128, 148, 105, 202, 154, 188, 176, 8, 46, 79, 141, 86, 81, 228, 109, 60, 219, 118, 45, 2, 208, 191, 55, 201, 229, 146] := by decide +kernel
  rw [h]; rfl
theorem one_small (p : ByteArray) (h : p.size ≤ 9223372036854775807) : ∀ j, j < 1 → ([p].getD j ByteArray.empty).size ≤ 9223372036854775807 := fun j hj => by
  obtain rfl : j = 0 := by omega
  exact h
open Td
attribute [local go_sem] upon_value upon_skip upon_enter upon_row look_tmp look_const look_func look_global
/-- A slice of texts, told. -/
def strsV (n : Nat) (ss : List ByteArray) : Td.Spec := fun (W : World) (v : Value) => ∃ A c, v = Value.slice A n c ∧ Strs W A n ss
theorem strs_stays {n : Nat} {ss : List ByteArray} : Stays (fun a b => a.grownBy b none) (strsV n ss) := fun _ _ _ h ⟨A, c, e, hs⟩ => ⟨A, c, e, hs.keep h⟩
theorem strs_one (w : World) (p : ByteArray) (o : Obj) (ho : o = .cells #[.string p] 9 (0, 0)) : Strs (w.alloc o) (some ⟨w.heap.size, 0, none⟩) 1 [p] := by
  subst ho
  refine ⟨rfl, fun _ => ⟨w.heap.size, 0, rfl, by simp, fun i hi => ?_⟩⟩
  obtain rfl : i = 0 := by omega
  exact cell_of_row _ _ 0 #[.string p] 9 (0, 0) (heap_alloc_new _ _)

set_option maxHeartbeats 40000000 in
set_option maxRecDepth 100000 in
theorem walk (a0 : Int) (w0 : (Lit.int .u8 a0).wf = true) (w : World) (hT : Tabs w) :
    Calls Tryd.prog 6 #[.int .u8 a0] w fun e w' => e = .returned (.bool true) ∧ Below w.heap.size w w' := by
  obtain ⟨hx0, hx1⟩ : 0 ≤ a0 ∧ a0 ≤ 255 := by
    have h1 : IntKind.u8.min = 0 := by decide
    have h2 : IntKind.u8.max = 255 := by decide
    simp only [Lit.wf, h1, h2, Bool.and_eq_true, decide_eq_true_eq] at w0
    exact w0
  clear w0
  have h3 : a0 % 3 = 0 ∨ a0 % 3 = 1 ∨ a0 % 3 = 2 := by omega
  rcases h3 with h3 | h3 | h3
  · go_enter Tryd.func6, Tryd.ntmps6
    go_wp2_with fail
    refine Td.named (fun W => w.grownBy W none ∧ Row W w.heap.size 9 #[.string text0, .string text1, .string text2] ∧ Row W (w.heap.size + 1) 9 #[.string want0, .string want1, .string want2])
      ⟨gb_alloc (gb_alloc (gb_refl _ _) _) _, heap_alloc2_old _ _ _, heap_alloc2_new _ _ _⟩ ?_
    rintro wr ⟨hgr, hrt, hrw⟩
    have hTW := hT.keep hgr (by simp)
    have ct : ∀ W, wr.grownBy W none → W.cell? ⟨w.heap.size, 0, none⟩ = some (.string text0) := fun W hW => (hrt.kept hW (by simp)).at_ rfl
    have cw : ∀ W, wr.grownBy W none → W.cell? ⟨w.heap.size + 1, 0, none⟩ = some (.string want0) := fun W hW => (hrw.kept hW (by simp)).at_ rfl
    clear hrt hrw
    apply wp_region_told (le := fun a b => a.grownBy b none) [isV _, isV _, isV _, isV _, strsV 1 [text0], isV _, isV _, isV _, isV _, isV _, isV _, isV _, isV _, isV _, isV _]
    case hn => rfl
    case hm => kernel_rfl
    case hB => kernel_rfl
    case ht => exact fun _ _ _ h k => gb_none h k
    case hw => exact gb_drew (gb_refl _ _)
    -- 0: law.go:60 move
    apply told_is
    · intro W f hW hE h0 K hK
      have e3 := h0 3 (by kernel_rfl)
      conv at e3 => rhs; whnf
      clear hE h0
      refine yes_of (want_free rfl) ?_
      go_simp; exact hK _ _ (gb_refl _ _) rfl
    -- 1: law.go:60 move
    apply told_is
    · intro W f hW hE h0 K hK
      have e5 := h0 5 (by kernel_rfl)
      conv at e5 => rhs; whnf
      clear hE h0
      refine yes_of (want_free rfl) ?_
      go_simp; exact hK _ _ (gb_refl _ _) rfl
    -- 2: law.go:60 indexAddr
    apply told_is
    · intro W f hW hE h0 K hK
      have e13 : f 13 = _ := hE 1 13 _ rfl (by kernel_rfl)
      have e14 : f 14 = _ := hE 0 14 _ rfl (by kernel_rfl)
      clear hE h0
      refine yes_of (want_free rfl) ?_
      go_simp; exact hK _ _ (gb_refl _ _) rfl
    -- 3: law.go:60 load
    apply told_is
    · intro W f hW hE h0 K hK
      have e15 : f 15 = _ := hE 0 15 _ rfl (by kernel_rfl)
      clear hE h0
      refine yes_of (want_free rfl) ?_
      have hc := ct W hW
      go_simp; exact hK _ _ (gb_refl _ _) rfl
    -- 4: law.go:60 buildSlice
    apply told_at strs_stays
    · intro W f hW hE h0 K hK
      have e16 : f 16 = _ := hE 0 16 _ rfl (by kernel_rfl)
      clear hE h0
      refine yes_of (want_free rfl) ?_
      go_simp
      exact hK _ _ (gb_alloc (gb_refl _ _) _) ⟨_, _, rfl, strs_one _ _ _ rfl⟩
    -- 5: law.go:60 call
    apply told_is
    · intro W f hW hE h0 K hK
      have e17 := hE 0 17 _ rfl (by kernel_rfl)
      clear hE h0
      refine yes_of (want_free rfl) ?_
      obtain ⟨A, c, ev, hs⟩ := e17
      go_simp
      refine (sum_any _ 1 _ [text0] _ (by decide) (one_small _ (by decide)) hs (hTW.keep hW (by simp))).mono ?_
      rintro e w1 ⟨rfl, g⟩
      rw [known0]
      exact ⟨_, rfl, hK _ _ g rfl⟩
    -- 6: law.go:60 move
    apply told_is
    · intro W f hW hE h0 K hK
      have e4 := h0 4 (by kernel_rfl)
      conv at e4 => rhs; whnf
      clear hE h0
      refine yes_of (want_free rfl) ?_
      go_simp; exact hK _ _ (gb_refl _ _) rfl
    -- 7: law.go:60 move
    apply told_is
    · intro W f hW hE h0 K hK
      have e5 := h0 5 (by kernel_rfl)
      conv at e5 => rhs; whnf
      clear hE h0
      refine yes_of (want_free rfl) ?_
      go_simp; exact hK _ _ (gb_refl _ _) rfl
    -- 8: law.go:60 indexAddr
    apply told_is
    · intro W f hW hE h0 K hK
      have e19 : f 19 = _ := hE 1 19 _ rfl (by kernel_rfl)
      have e20 : f 20 = _ := hE 0 20 _ rfl (by kernel_rfl)
      clear hE h0
      refine yes_of (want_free rfl) ?_
      go_simp; exact hK _ _ (gb_refl _ _) rfl
    -- 9: law.go:60 load
    apply told_is
    · intro W f hW hE h0 K hK
      have e21 : f 21 = _ := hE 0 21 _ rfl (by kernel_rfl)
      clear hE h0
      refine yes_of (want_free rfl) ?_
      have hc := cw W hW
      go_simp; exact hK _ _ (gb_refl _ _) rfl
    -- 10: law.go:60 binOp
    apply told_is
    · intro W f hW hE h0 K hK
      have e18 : f 18 = _ := hE 4 18 _ rfl (by kernel_rfl)
      have e22 : f 22 = _ := hE 0 22 _ rfl (by kernel_rfl)
      clear hE h0
      refine yes_of (want_free rfl) ?_
      go_simp; exact hK _ _ (gb_refl _ _) rfl
    -- 11: law.go:60 move
    apply told_is
    · intro W f hW hE h0 K hK
      have e23 : f 23 = _ := hE 0 23 _ rfl (by kernel_rfl)
      clear hE h0
      refine yes_of (want_free rfl) ?_
      go_simp; exact hK _ _ (gb_refl _ _) rfl
    -- 12: law.go:60 call
    apply told_is
    · intro W f hW hE h0 K hK
      have e24 : f 24 = _ := hE 0 24 _ rfl (by kernel_rfl)
      clear hE h0
      refine yes_of (want_yes rfl rfl e24) ?_
      go_simp
      refine (awake_any _ (hTW.keep hW (by simp))).mono ?_
      rintro e w1 ⟨rfl, g⟩
      exact ⟨_, rfl, hK _ _ g rfl⟩
    -- 13: law.go:60 pick
    apply told_is
    · intro W f hW hE h0 K hK
      have e24 : f 24 = _ := hE 1 24 _ rfl (by kernel_rfl)
      have e25 : f 25 = _ := hE 0 25 _ rfl (by kernel_rfl)
      clear hE h0
      refine yes_of (want_free rfl) ?_
      go_simp; exact hK _ _ (gb_refl _ _) rfl
    -- 14: law.go:60 assign
    apply told_is
    · intro W f hW hE h0 K hK
      have e26 : f 26 = _ := hE 0 26 _ rfl (by kernel_rfl)
      clear hE h0
      refine yes_of (want_free rfl) ?_
      go_simp; exact hK _ _ (gb_refl _ _) rfl
    intro W f hW hA
    simp only [lexIn, Act.put, List.setIfInBounds_toArray, List.set_cons_zero, List.set_cons_succ]
    have e2 : f 2 = _ := hA 0 (some 2) _ rfl
    rw [e2]
    clear hA
    go_wp2
    go_ret
    exact ⟨rfl, below_of (gb_none hgr hW)⟩
  · go_enter Tryd.func6, Tryd.ntmps6
    go_wp2_with fail
    refine Td.named (fun W => w.grownBy W none ∧ Row W w.heap.size 9 #[.string text0, .string text1, .string text2] ∧ Row W (w.heap.size + 1) 9 #[.string want0, .string want1, .string want2])
      ⟨gb_alloc (gb_alloc (gb_refl _ _) _) _, heap_alloc2_old _ _ _, heap_alloc2_new _ _ _⟩ ?_
    rintro wr ⟨hgr, hrt, hrw⟩
    have hTW := hT.keep hgr (by simp)
    have ct : ∀ W, wr.grownBy W none → W.cell? ⟨w.heap.size, 1, none⟩ = some (.string text1) := fun W hW => (hrt.kept hW (by simp)).at_ rfl
    have cw : ∀ W, wr.grownBy W none → W.cell? ⟨w.heap.size + 1, 1, none⟩ = some (.string want1) := fun W hW => (hrw.kept hW (by simp)).at_ rfl
    clear hrt hrw
    apply wp_region_told (le := fun a b => a.grownBy b none) [isV _, isV _, isV _, isV _, strsV 1 [text1], isV _, isV _, isV _, isV _, isV _, isV _, isV _, isV _, isV _, isV _]
    case hn => rfl
    case hm => kernel_rfl
    case hB => kernel_rfl
    case ht => exact fun _ _ _ h k => gb_none h k
    case hw => exact gb_drew (gb_refl _ _)
    -- 0: law.go:60 move
    apply told_is
    · intro W f hW hE h0 K hK
      have e3 := h0 3 (by kernel_rfl)
      conv at e3 => rhs; whnf
      clear hE h0
      refine yes_of (want_free rfl) ?_
      go_simp; exact hK _ _ (gb_refl _ _) rfl
    -- 1: law.go:60 move
    apply told_is
    · intro W f hW hE h0 K hK
      have e5 := h0 5 (by kernel_rfl)
      conv at e5 => rhs; whnf
      clear hE h0
      refine yes_of (want_free rfl) ?_
      go_simp; exact hK _ _ (gb_refl _ _) rfl
    -- 2: law.go:60 indexAddr
    apply told_is
    · intro W f hW hE h0 K hK
      have e13 : f 13 = _ := hE 1 13 _ rfl (by kernel_rfl)
      have e14 : f 14 = _ := hE 0 14 _ rfl (by kernel_rfl)
      clear hE h0
      refine yes_of (want_free rfl) ?_
      go_simp; exact hK _ _ (gb_refl _ _) rfl
    -- 3: law.go:60 load
    apply told_is
    · intro W f hW hE h0 K hK
      have e15 : f 15 = _ := hE 0 15 _ rfl (by kernel_rfl)
      clear hE h0
      refine yes_of (want_free rfl) ?_
      have hc := ct W hW
      go_simp; exact hK _ _ (gb_refl _ _) rfl
    -- 4: law.go:60 buildSlice
    apply told_at strs_stays
    · intro W f hW hE h0 K hK
      have e16 : f 16 = _ := hE 0 16 _ rfl (by kernel_rfl)
      clear hE h0
      refine yes_of (want_free rfl) ?_
      go_simp
      exact hK _ _ (gb_alloc (gb_refl _ _) _) ⟨_, _, rfl, strs_one _ _ _ rfl⟩
    -- 5: law.go:60 call
    apply told_is
    · intro W f hW hE h0 K hK
      have e17 := hE 0 17 _ rfl (by kernel_rfl)
      clear hE h0
      refine yes_of (want_free rfl) ?_
      obtain ⟨A, c, ev, hs⟩ := e17
      go_simp
      refine (sum_any _ 1 _ [text1] _ (by decide) (one_small _ (by decide)) hs (hTW.keep hW (by simp))).mono ?_
      rintro e w1 ⟨rfl, g⟩
      rw [known1]
      exact ⟨_, rfl, hK _ _ g rfl⟩
    -- 6: law.go:60 move
    apply told_is
    · intro W f hW hE h0 K hK
      have e4 := h0 4 (by kernel_rfl)
      conv at e4 => rhs; whnf
      clear hE h0
      refine yes_of (want_free rfl) ?_
      go_simp; exact hK _ _ (gb_refl _ _) rfl
    -- 7: law.go:60 move
    apply told_is
    · intro W f hW hE h0 K hK
      have e5 := h0 5 (by kernel_rfl)
      conv at e5 => rhs; whnf
      clear hE h0
      refine yes_of (want_free rfl) ?_
      go_simp; exact hK _ _ (gb_refl _ _) rfl
    -- 8: law.go:60 indexAddr
    apply told_is
    · intro W f hW hE h0 K hK
      have e19 : f 19 = _ := hE 1 19 _ rfl (by kernel_rfl)
      have e20 : f 20 = _ := hE 0 20 _ rfl (by kernel_rfl)
      clear hE h0
      refine yes_of (want_free rfl) ?_
      go_simp; exact hK _ _ (gb_refl _ _) rfl
    -- 9: law.go:60 load
    apply told_is
    · intro W f hW hE h0 K hK
      have e21 : f 21 = _ := hE 0 21 _ rfl (by kernel_rfl)
      clear hE h0
      refine yes_of (want_free rfl) ?_
      have hc := cw W hW
      go_simp; exact hK _ _ (gb_refl _ _) rfl
    -- 10: law.go:60 binOp
    apply told_is
    · intro W f hW hE h0 K hK
      have e18 : f 18 = _ := hE 4 18 _ rfl (by kernel_rfl)
      have e22 : f 22 = _ := hE 0 22 _ rfl (by kernel_rfl)
      clear hE h0
      refine yes_of (want_free rfl) ?_
      go_simp; exact hK _ _ (gb_refl _ _) rfl
    -- 11: law.go:60 move
    apply told_is
    · intro W f hW hE h0 K hK
      have e23 : f 23 = _ := hE 0 23 _ rfl (by kernel_rfl)
      clear hE h0
      refine yes_of (want_free rfl) ?_
      go_simp; exact hK _ _ (gb_refl _ _) rfl
    -- 12: law.go:60 call
    apply told_is
    · intro W f hW hE h0 K hK
      have e24 : f 24 = _ := hE 0 24 _ rfl (by kernel_rfl)
      clear hE h0
      refine yes_of (want_yes rfl rfl e24) ?_
      go_simp
      refine (awake_any _ (hTW.keep hW (by simp))).mono ?_
      rintro e w1 ⟨rfl, g⟩
      exact ⟨_, rfl, hK _ _ g rfl⟩
    -- 13: law.go:60 pick
    apply told_is
    · intro W f hW hE h0 K hK
      have e24 : f 24 = _ := hE 1 24 _ rfl (by kernel_rfl)
      have e25 : f 25 = _ := hE 0 25 _ rfl (by kernel_rfl)
      clear hE h0
      refine yes_of (want_free rfl) ?_
      go_simp; exact hK _ _ (gb_refl _ _) rfl
    -- 14: law.go:60 assign
    apply told_is
    · intro W f hW hE h0 K hK
      have e26 : f 26 = _ := hE 0 26 _ rfl (by kernel_rfl)
      clear hE h0
      refine yes_of (want_free rfl) ?_
      go_simp; exact hK _ _ (gb_refl _ _) rfl
    intro W f hW hA
    simp only [lexIn, Act.put, List.setIfInBounds_toArray, List.set_cons_zero, List.set_cons_succ]
    have e2 : f 2 = _ := hA 0 (some 2) _ rfl
    rw [e2]
    clear hA
    go_wp2
    go_ret
    exact ⟨rfl, below_of (gb_none hgr hW)⟩
  · go_enter Tryd.func6, Tryd.ntmps6
    go_wp2_with fail
    refine Td.named (fun W => w.grownBy W none ∧ Row W w.heap.size 9 #[.string text0, .string text1, .string text2] ∧ Row W (w.heap.size + 1) 9 #[.string want0, .string want1, .string want2])
      ⟨gb_alloc (gb_alloc (gb_refl _ _) _) _, heap_alloc2_old _ _ _, heap_alloc2_new _ _ _⟩ ?_
    rintro wr ⟨hgr, hrt, hrw⟩
    have hTW := hT.keep hgr (by simp)
    have ct : ∀ W, wr.grownBy W none → W.cell? ⟨w.heap.size, 2, none⟩ = some (.string text2) := fun W hW => (hrt.kept hW (by simp)).at_ rfl
    have cw : ∀ W, wr.grownBy W none → W.cell? ⟨w.heap.size + 1, 2, none⟩ = some (.string want2) := fun W hW => (hrw.kept hW (by simp)).at_ rfl
    clear hrt hrw
    apply wp_region_told (le := fun a b => a.grownBy b none) [isV _, isV _, isV _, isV _, strsV 1 [text2], isV _, isV _, isV _, isV _, isV _, isV _, isV _, isV _, isV _, isV _]
    case hn => rfl
    case hm => kernel_rfl
    case hB => kernel_rfl
    case ht => exact fun _ _ _ h k => gb_none h k
    case hw => exact gb_drew (gb_refl _ _)
    -- 0: law.go:60 move
    apply told_is
    · intro W f hW hE h0 K hK
      have e3 := h0 3 (by kernel_rfl)
      conv at e3 => rhs; whnf
      clear hE h0
      refine yes_of (want_free rfl) ?_
      go_simp; exact hK _ _ (gb_refl _ _) rfl
    -- 1: law.go:60 move
    apply told_is
    · intro W f hW hE h0 K hK
      have e5 := h0 5 (by kernel_rfl)
      conv at e5 => rhs; whnf
      clear hE h0
      refine yes_of (want_free rfl) ?_
      go_simp; exact hK _ _ (gb_refl _ _) rfl
    -- 2: law.go:60 indexAddr
    apply told_is
    · intro W f hW hE h0 K hK
      have e13 : f 13 = _ := hE 1 13 _ rfl (by kernel_rfl)
      have e14 : f 14 = _ := hE 0 14 _ rfl (by kernel_rfl)
      clear hE h0
      refine yes_of (want_free rfl) ?_
      go_simp; exact hK _ _ (gb_refl _ _) rfl
    -- 3: law.go:60 load
    apply told_is
    · intro W f hW hE h0 K hK
      have e15 : f 15 = _ := hE 0 15 _ rfl (by kernel_rfl)
      clear hE h0
      refine yes_of (want_free rfl) ?_
      have hc := ct W hW
      go_simp; exact hK _ _ (gb_refl _ _) rfl
    -- 4: law.go:60 buildSlice
    apply told_at strs_stays
    · intro W f hW hE h0 K hK
      have e16 : f 16 = _ := hE 0 16 _ rfl (by kernel_rfl)
      clear hE h0
      refine yes_of (want_free rfl) ?_
      go_simp
      exact hK _ _ (gb_alloc (gb_refl _ _) _) ⟨_, _, rfl, strs_one _ _ _ rfl⟩
    -- 5: law.go:60 call
    apply told_is
    · intro W f hW hE h0 K hK
      have e17 := hE 0 17 _ rfl (by kernel_rfl)
      clear hE h0
      refine yes_of (want_free rfl) ?_
      obtain ⟨A, c, ev, hs⟩ := e17
      go_simp
      refine (sum_any _ 1 _ [text2] _ (by decide) (one_small _ (by decide)) hs (hTW.keep hW (by simp))).mono ?_
      rintro e w1 ⟨rfl, g⟩
      rw [known2]
      exact ⟨_, rfl, hK _ _ g rfl⟩
    -- 6: law.go:60 move
    apply told_is
    · intro W f hW hE h0 K hK
      have e4 := h0 4 (by kernel_rfl)
      conv at e4 => rhs; whnf
      clear hE h0
      refine yes_of (want_free rfl) ?_
      go_simp; exact hK _ _ (gb_refl _ _) rfl
    -- 7: law.go:60 move
    apply told_is
    · intro W f hW hE h0 K hK
      have e5 := h0 5 (by kernel_rfl)
      conv at e5 => rhs; whnf
      clear hE h0
      refine yes_of (want_free rfl) ?_
      go_simp; exact hK _ _ (gb_refl _ _) rfl
    -- 8: law.go:60 indexAddr
    apply told_is
    · intro W f hW hE h0 K hK
      have e19 : f 19 = _ := hE 1 19 _ rfl (by kernel_rfl)
      have e20 : f 20 = _ := hE 0 20 _ rfl (by kernel_rfl)
      clear hE h0
      refine yes_of (want_free rfl) ?_
      go_simp; exact hK _ _ (gb_refl _ _) rfl
    -- 9: law.go:60 load
    apply told_is
    · intro W f hW hE h0 K hK
      have e21 : f 21 = _ := hE 0 21 _ rfl (by kernel_rfl)
      clear hE h0
      refine yes_of (want_free rfl) ?_
      have hc := cw W hW
      go_simp; exact hK _ _ (gb_refl _ _) rfl
    -- 10: law.go:60 binOp
    apply told_is
    · intro W f hW hE h0 K hK
      have e18 : f 18 = _ := hE 4 18 _ rfl (by kernel_rfl)
      have e22 : f 22 = _ := hE 0 22 _ rfl (by kernel_rfl)
      clear hE h0
      refine yes_of (want_free rfl) ?_
      go_simp; exact hK _ _ (gb_refl _ _) rfl
    -- 11: law.go:60 move
    apply told_is
    · intro W f hW hE h0 K hK
      have e23 : f 23 = _ := hE 0 23 _ rfl (by kernel_rfl)
      clear hE h0
      refine yes_of (want_free rfl) ?_
      go_simp; exact hK _ _ (gb_refl _ _) rfl
    -- 12: law.go:60 call
    apply told_is
    · intro W f hW hE h0 K hK
      have e24 : f 24 = _ := hE 0 24 _ rfl (by kernel_rfl)
      clear hE h0
      refine yes_of (want_yes rfl rfl e24) ?_
      go_simp
      refine (awake_any _ (hTW.keep hW (by simp))).mono ?_
      rintro e w1 ⟨rfl, g⟩
      exact ⟨_, rfl, hK _ _ g rfl⟩
    -- 13: law.go:60 pick
    apply told_is
    · intro W f hW hE h0 K hK
      have e24 : f 24 = _ := hE 1 24 _ rfl (by kernel_rfl)
      have e25 : f 25 = _ := hE 0 25 _ rfl (by kernel_rfl)
      clear hE h0
      refine yes_of (want_free rfl) ?_
      go_simp; exact hK _ _ (gb_refl _ _) rfl
    -- 14: law.go:60 assign
    apply told_is
    · intro W f hW hE h0 K hK
      have e26 : f 26 = _ := hE 0 26 _ rfl (by kernel_rfl)
      clear hE h0
      refine yes_of (want_free rfl) ?_
      go_simp; exact hK _ _ (gb_refl _ _) rfl
    intro W f hW hA
    simp only [lexIn, Act.put, List.setIfInBounds_toArray, List.set_cons_zero, List.set_cons_succ]
    have e2 : f 2 = _ := hA 0 (some 2) _ rfl
    rw [e2]
    clear hA
    go_wp2
    go_ret
    exact ⟨rfl, below_of (gb_none hgr hW)⟩

def zs1 : List Int := [1779033703, 3144134277, 1013904242, 2773480762, 1359893119, 2600822924, 528734635, 1541459225]
def zs2 : List Int := [1116352408, 1899447441, 3049323471, 3921009573, 961987163, 1508970993, 2453635748, 2870763221, 3624381080, 310598401, 607225278, 1426881987, 1925078388, 2162078206, 2614888103, 3248222580, 3835390401, 4022224774, 264347078, 604807628, 770255983, 1249150122, 1555081692, 1996064986, 2554220882, 2821834349, 2952996808, 3210313671, 3336571891, 3584528711, 113926993, 338241895, 666307205, 773529912, 1294757372, 1396182291, 1695183700, 1986661051, 2177026350, 2456956037, 2730485921, 2820302411, 3259730800, 3345764771, 3516065817, 3600352804, 4094571909, 275423344, 430227734, 506948616, 659060556, 883997877, 958139571, 1322822218, 1537002063, 1747873779, 1955562222, 2024104815, 2227730452, 2361852424, 2428436474, 2756734187, 3204031479, 3329325298]
theorem tabs {W : World} (h : laidMetH Tryd.prog Rows.shaKnownRow.laid W) : Tabs W := by
  have h1 : Lib.TabIs Tryd.prog W "deaddrop/sha.opening" .u32 zs1 := Lib.tabIs_of_head (rest := [("deaddrop/sha.roundNumbers", Rows.laid_deaddrop_sha_roundNumbers)]) (g := 0) (t := 33) (e := 32) (n := 8) (by kernel_rfl) (by kernel_rfl) Tryd.underlying33 Tryd.underlying32 (by kernel_rfl) (by kernel_rfl) h
  have h2 : Lib.TabIs Tryd.prog W "deaddrop/sha.roundNumbers" .u32 zs2 := Lib.tabIs_of_head (rest := []) (g := 1) (t := 49) (e := 32) (n := 64) (by kernel_rfl) (by kernel_rfl) Tryd.underlying49 Tryd.underlying32 (by kernel_rfl) (by kernel_rfl) (laidMetH.filter (fun x => x.1 == "deaddrop/sha.roundNumbers") h)
  have e1 : ∀ i, i < 8 → zs1.getD i 0 = ((firstH.getD i 0).toNat : Int) := by decide
  have e2 : ∀ i, i < 64 → zs2.getD i 0 = ((konst.getD i 0).toNat : Int) := by decide +kernel
  have c1 : ∀ i, i < 8 → W.cell? ⟨0, i, none⟩ = some (w32 (firstH.getD i 0)) := fun i hi => by
    have := h1.cell (g := 0) (by kernel_rfl) i (by rw [show zs1.length = 8 from rfl]; exact hi)
    rw [e1 i hi] at this; exact this
  have c2 : ∀ i, i < 64 → W.cell? ⟨1, i, none⟩ = some (w32 (konst.getD i 0)) := fun i hi => by
    have := h2.cell (g := 1) (by kernel_rfl) i (by rw [show zs2.length = 64 from rfl]; exact hi)
    rw [e2 i hi] at this; exact this
  exact ⟨block_lt_of_cell (c2 0 (by decide)), c1, c2⟩

theorem contract (H : Type) (enc : TypeId × Value → H) (W : World) (base : Nat) (args : Array Value) (ds gs : List (DataW H)) (before : List MemPlace)
    (hval0 : ∀ (j : Nat) t v, Tryd.f6.params[j]? = some t → args[j]? = some v → Value.okWide Tryd.prog W .any base t v)
    (hW : DataW.Whole enc Tryd.prog Tryd.f6.params.toList Rows.shaKnownSpec.vars false W args.toList ds gs before) (hL : laidMetH Tryd.prog Rows.shaKnownRow.laid W) :
    Calls Tryd.prog 6 args W fun e W' => ∃ v, e = .returned v ∧ Rows.shaKnownSpec.post enc Tryd.prog Tryd.f6 false true false false W args v W' := by
  have hval : ∀ (j : Nat) t v, Tryd.f6.params[j]? = some t → args[j]? = some v → Value.okWide Tryd.prog W .any base t v := hval0
  have hW' := hW
  obtain ⟨p, q, hA0, hV, rfl, hfz, hnd⟩ := hW
  have hA : DataW.TrodAll enc Tryd.prog W 0 (fun _ => true) true Tryd.f6.params.toList args.toList ds p := hA0
  rw [Tryd.params6] at hA hval
  obtain ⟨v0, vs0, d0, ds0, p0, q0, hargs, rfl, rfl, h0, r0⟩ := trodAll_cons hA
  obtain ⟨rfl, rfl, rfl⟩ := trodAll_nil r0
  obtain rfl : args = #[v0] := by cases args; simp_all
  obtain ⟨rfl, rfl⟩ := trodVars_none hV
  obtain ⟨a0, rfl, rfl, rfl, w0⟩ := open_int Tryd.underlying5 (hval 0 5 v0 rfl rfl) h0
  clear hA0 hval0
  simp only [List.append_nil] at hW'
  refine (walk a0 w0 W (tabs hL)).mono fun e W' ⟨he, hg⟩ => ?_
  subst he
  exact ⟨_, rfl, _, _, _, [], [], [], hW', (trodAll_cons_mk (shut_bool Tryd.underlying4 _) trodAll_mk0), (trodAll_cons_mk (shut_int Tryd.underlying5 w0) trodAll_mk0), rfl, hg.frame _, fun h => by cases h⟩

def lay (cs : Array Value) : Obj → Obj
  | .cells _ t frozen => .cells cs t frozen
  | o => o
noncomputable def laidWorld (os : Os) : World :=
  { World.holding Tryd.prog os ⟨#[], #[], []⟩ with heap := ((World.holding Tryd.prog os ⟨#[], #[], []⟩).heap.modify 0 (lay #[.int .u32 1779033703, .int .u32 3144134277, .int .u32 1013904242, .int .u32 2773480762, .int .u32 1359893119, .int .u32 2600822924, .int .u32 528734635, .int .u32 1541459225])).modify 1 (lay #[.int .u32 1116352408, .int .u32 1899447441, .int .u32 3049323471, .int .u32 3921009573, .int .u32 961987163, .int .u32 1508970993, .int .u32 2453635748, .int .u32 2870763221, .int .u32 3624381080, .int .u32 310598401, .int .u32 607225278, .int .u32 1426881987, .int .u32 1925078388, .int .u32 2162078206, .int .u32 2614888103, .int .u32 3248222580, .int .u32 3835390401, .int .u32 4022224774, .int .u32 264347078, .int .u32 604807628, .int .u32 770255983, .int .u32 1249150122, .int .u32 1555081692, .int .u32 1996064986, .int .u32 2554220882, .int .u32 2821834349, .int .u32 2952996808, .int .u32 3210313671, .int .u32 3336571891, .int .u32 3584528711, .int .u32 113926993, .int .u32 338241895, .int .u32 666307205, .int .u32 773529912, .int .u32 1294757372, .int .u32 1396182291, .int .u32 1695183700, .int .u32 1986661051, .int .u32 2177026350, .int .u32 2456956037, .int .u32 2730485921, .int .u32 2820302411, .int .u32 3259730800, .int .u32 3345764771, .int .u32 3516065817, .int .u32 3600352804, .int .u32 4094571909, .int .u32 275423344, .int .u32 430227734, .int .u32 506948616, .int .u32 659060556, .int .u32 883997877, .int .u32 958139571, .int .u32 1322822218, .int .u32 1537002063, .int .u32 1747873779, .int .u32 1955562222, .int .u32 2024104815, .int .u32 2227730452, .int .u32 2361852424, .int .u32 2428436474, .int .u32 2756734187, .int .u32 3204031479, .int .u32 3329325298]) }
theorem laid_met (os : Os) : laidMet Tryd.prog Rows.shaKnownRow.laid ((laidWorld os).forCall (fun _ _ => 0) ⟨#[], #[.int .u8 0], []⟩).memory :=
  laidMet_of_run' 8 (by kernel_rfl) (by kernel_rfl)
theorem reads (os : Os) {H : Type} (enc : TypeId × Value → H) : ∃ places, DataW.whole enc Tryd.prog ((laidWorld os).forCall (fun _ _ => 0) ⟨#[], #[.int .u8 0], []⟩).memory Tryd.f6.params.toList Rows.shaKnownSpec.vars false (show Array Value from #[.int .u8 0]).toList 8 = some ([.lit (.int .u8 0)], [], places) :=
  ⟨[], by kernel_rfl⟩

set_option maxRecDepth 100000 in
theorem lifted (os : Os) (started : os.Started) (H : Type) (enc : TypeId × Value → H) (F : Stop.Interp) :
    ReturnsInHanded {} Tryd.checked os 6 .any ((OpenSpec.ofChange Rows.shaKnownSpec).preRow enc Tryd.prog Tryd.f6 Rows.shaKnownRow.domain false Rows.shaKnownRow.laid) (((OpenSpec.ofChange Rows.shaKnownSpec).at F).post enc Tryd.prog Tryd.f6 false true false false) := by
  obtain ⟨places, hx⟩ := reads os enc
  refine returnsInHanded_of_row (C := Tryd.checked) (s := OpenSpec.ofChange Rows.shaKnownSpec) own started (by kernel_rfl) Tryd.func6
    (witness_row_at (enc := enc) (C := Tryd.checked) false (laidWorld os) #[.int .u8 0] rfl (by kernel_rfl) (by kernel_rfl) (by kernel_rfl)
      (OpenSpec.preRow_of_cond 8 hx (by kernel_rfl) (fun k hk => by cases hk) (by kernel_rfl) (laid_met os))) ?_
  intro W base args ds gs before hval hW _ _ _ hL _ _
  exact contract H enc W base args ds gs before hval hW hL

theorem said : Rows.ShaKnownSaid :=
  OpenClaim.holds_of_cond 6 Tryd.f6 rfl rfl rfl rfl rfl rfl rfl ⟨rfl, rfl, rfl, rfl, rfl⟩ rfl rfl rfl rfl rfl (by kernel_rfl) Tryd.func6 (by kernel_rfl)
    (of_decide_eq_true (by kernel_rfl)) (by unfold Func.isWrapper; first | (rw [if_pos (by decide +kernel)]; kernel_rfl) | (rw [if_neg (by decide +kernel)]; exact ⟨rfl, rfl⟩))
    (fun os started H enc _ F => by rw [OpenClaim.pre_eq_preRow]; exact lifted os started H enc F)

theorem plain (f : FuncId) (fn : Func) (hf : Tryd.pinned.checked.prog.funcNamed "deaddrop/deaddroplaw2.ShaKnown" = some f) (hfn : Tryd.pinned.checked.prog.funcs[f]? = some fn) :
    false = Tryd.pinned.checked.prog.looks [] ∧ ∀ (j : Nat) t, fn.params[j]? = some t → Tryd.pinned.checked.prog.wantsStandIn t = false := by
  obtain rfl : f = 6 := Option.some.inj ((show Tryd.prog.funcNamed "deaddrop/deaddroplaw2.ShaKnown" = some 6 by kernel_rfl).symm.trans hf) |>.symm
  obtain rfl : fn = Tryd.f6 := (Option.some.inj (Tryd.func6.symm.trans hfn)).symm
  refine ⟨by kernel_rfl, fun j t ht => ?_⟩
  have hall : (Tryd.f6.params.toList.all fun u => !Tryd.prog.wantsStandIn u) = true := by kernel_rfl
  have hm : t ∈ Tryd.f6.params.toList := by simpa using Array.mem_of_getElem? ht
  exact (show Tryd.prog.wantsStandIn t = false by simpa using List.all_eq_true.1 hall t hm)

theorem card : Rows.ShaKnownCardSaid :=
  Claim7.holds_tied_plain_at .later [] _ _ _ _ said (fun _ h => by cases h) (by kernel_rfl) (fun _ h => by cases h) shaKnown_row_tie rfl ⟨rfl, rfl⟩ (by kernel_rfl) rfl plain (by kernel_rfl)
#print axioms card
end Go.Proofs.YtkeincmmcdcggaaDoor.shaKnown
