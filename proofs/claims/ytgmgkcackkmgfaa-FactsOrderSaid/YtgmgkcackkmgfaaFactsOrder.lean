/-
  Proved: whatever values of its parameters' types it is called with, deaddroplaw8.FactsOrder returns true, and each argument reads behind the call as it read before.
  Conditions: none but those of the row itself.
-/
import Derived.Test.YtgmgkcackkmgfaaRows
import Derived.WalkKit
import Derived.ProofKit
import Derived.OpenShut
import Derived.ShutString
import Derived.Test.YtgmgkcackkmgfaaFtLaw
import Derived.Test.YtgmgkcackkmgfaaTold
import Derived.Deep.DeepCutAuto
import Derived.Deep.RegionHeld3
import Derived.Deep.DrawnRows
import Derived.ChangeOld
import Derived.Below
namespace Go.Proofs.Ytgmgkcackkmgfaa.factsOrder
open Go.ChangeShapes Go.WideShapes Go.ChangeAt Go.RowKit
open Go.ChangeMaps (open_string shut_string)
open Go.Proofs.Ytgmgkcackkmgfaa.Mm Go.Proofs.Ytgmgkcackkmgfaa.Dt Go.Proofs.Ytgmgkcackkmgfaa.Td
set_option linter.unusedVariables false

theorem own : ownKnob Try.prog.godebug = none := by kernel_rfl
theorem laidOut : laidOutB Try.prog = true := by kernel_rfl

attribute [local go_sem] Td.upon_value Td.upon_skip Td.upon_enter Td.upon_row Td.look_tmp Td.look_const Td.look_func Td.look_global
theorem dl3 {w : World} {A : Option Addr} {x0 y0 x1 y1 x2 y2 : Int} (h : DL w A 3 [(x0, y0), (x1, y1), (x2, y2)]) : ∃ g o, A = some ⟨g, o, none⟩ ∧ g < w.heap.size ∧ w.cell? ⟨g, o, none⟩ = some (.int .i64 x0) ∧ w.cell? ⟨g, o + 1, none⟩ = some (.int .i64 y0) ∧ w.cell? ⟨g, o + 2, none⟩ = some (.int .i64 x1) ∧ w.cell? ⟨g, o + 3, none⟩ = some (.int .i64 y1) ∧ w.cell? ⟨g, o + 4, none⟩ = some (.int .i64 x2) ∧ w.cell? ⟨g, o + 5, none⟩ = some (.int .i64 y2) := by
  obtain ⟨g, o, e, hg, hc⟩ := h.2 (by decide)
  obtain ⟨c0, c1⟩ := hc 0 _ rfl
  obtain ⟨c2, c3⟩ := hc 1 _ rfl
  obtain ⟨c4, c5⟩ := hc 2 _ rfl
  exact ⟨g, o, e, hg, by simpa using c0, by simpa using c1, by simpa using c2, by simpa using c3, by simpa using c4, by simpa using c5⟩
theorem rows3 (w1 : World) (X Y Z : Array Value) (t : TypeId) : Row ((((w1.alloc (.cells X t)).alloc (.cells Y t)).alloc (.cells Z t)).drew) w1.heap.size t X ∧ Row ((((w1.alloc (.cells X t)).alloc (.cells Y t)).alloc (.cells Z t)).drew) (w1.heap.size + 1) t Y ∧ Row ((((w1.alloc (.cells X t)).alloc (.cells Y t)).alloc (.cells Z t)).drew) (w1.heap.size + 1 + 1) t Z := by
  have h1 := Row.new (w1.alloc (.cells X t)) t Y
  have h2 := Row.new ((w1.alloc (.cells X t)).alloc (.cells Y t)) t Z
  rw [World.size_alloc] at h1
  rw [World.size_alloc, World.size_alloc] at h2
  exact ⟨((((Row.new w1 t X).alloc _).alloc _).drew), ((h1.alloc _).drew), h2.drew⟩
/-- The six cells of three dots in boxes of their own. -/
def Cells3 (g0 g1 g2 : Nat) (x0 y0 x1 y1 x2 y2 : Int) (W : World) : Prop := W.cell? ⟨g0, 0, none⟩ = some (.int .i64 x0) ∧ W.cell? ⟨g0, 1, none⟩ = some (.int .i64 y0) ∧ W.cell? ⟨g1, 0, none⟩ = some (.int .i64 x1) ∧ W.cell? ⟨g1, 1, none⟩ = some (.int .i64 y1) ∧ W.cell? ⟨g2, 0, none⟩ = some (.int .i64 x2) ∧ W.cell? ⟨g2, 1, none⟩ = some (.int .i64 y2)
def Boxes (w : World) (x0 y0 x1 y1 x2 y2 : Int) (a b c : Value) (wx : World) : Prop := ∃ g0 g1 g2, a = .pointer (some ⟨g0, 0, none⟩) ∧ b = .pointer (some ⟨g1, 0, none⟩) ∧ c = .pointer (some ⟨g2, 0, none⟩) ∧ (∀ W, wx.grownBy W none → Cells3 g0 g1 g2 x0 y0 x1 y1 x2 y2 W) ∧ w.grownBy wx none
theorem boxes_of {w wx : World} {x0 y0 x1 y1 x2 y2 : Int} {g0 g1 g2 : Nat} (h0 : Row wx g0 27 #[.int .i64 x0, .int .i64 y0]) (h1 : Row wx g1 27 #[.int .i64 x1, .int .i64 y1]) (h2 : Row wx g2 27 #[.int .i64 x2, .int .i64 y2]) (hg : w.grownBy wx none) : Boxes w x0 y0 x1 y1 x2 y2 (.pointer (some ⟨g0, 0, none⟩)) (.pointer (some ⟨g1, 0, none⟩)) (.pointer (some ⟨g2, 0, none⟩)) wx :=
  ⟨g0, g1, g2, rfl, rfl, rfl, fun W hW => ⟨(h0.kept hW (by simp)).at_ (i := 0) rfl, (h0.kept hW (by simp)).at_ (i := 1) rfl, (h1.kept hW (by simp)).at_ (i := 0) rfl, (h1.kept hW (by simp)).at_ (i := 1) rfl, (h2.kept hW (by simp)).at_ (i := 0) rfl, (h2.kept hW (by simp)).at_ (i := 1) rfl⟩, hg⟩

set_option maxHeartbeats 40000000 in
set_option maxRecDepth 100000 in
theorem walk (a0 : Int) (a1 : Int) (a2 : Int) (w : World) (w0 : (Lit.int .u8 a0).wf = true) (w1 : (Lit.int .u8 a1).wf = true) (w2 : (Lit.int .u8 a2).wf = true) :
    Calls Try.prog 6 #[.int .u8 a0, .int .u8 a1, .int .u8 a2] w fun e w' => e = .returned (.bool true) ∧ Below w.heap.size w w' := by
  obtain ⟨x00, x01⟩ : 0 ≤ a0 ∧ a0 ≤ 255 := by
    have h1 : IntKind.u8.min = 0 := by decide
    have h2 : IntKind.u8.max = 255 := by decide
    simp only [Lit.wf, h1, h2, Bool.and_eq_true, decide_eq_true_eq] at w0
    exact w0
  obtain ⟨x10, x11⟩ : 0 ≤ a1 ∧ a1 ≤ 255 := by
    have h1 : IntKind.u8.min = 0 := by decide
    have h2 : IntKind.u8.max = 255 := by decide
    simp only [Lit.wf, h1, h2, Bool.and_eq_true, decide_eq_true_eq] at w1
    exact w1
  obtain ⟨x20, x21⟩ : 0 ≤ a2 ∧ a2 ≤ 255 := by
    have h1 : IntKind.u8.min = 0 := by decide
    have h2 : IntKind.u8.max = 255 := by decide
    simp only [Lit.wf, h1, h2, Bool.and_eq_true, decide_eq_true_eq] at w2
    exact w2
  have hl := nl_three w a0 a1 a2 5 ⟨x00, x01⟩ ⟨x10, x11⟩ ⟨x20, x21⟩
  have HD0 := list_any (some ⟨w.heap.size, 0, none⟩) 3 3 [a0, a1, a2] _ hl (by decide)
  obtain ⟨x0, y0, e0⟩ : ∃ x y, dotN a0 = (x, y) := ⟨_, _, rfl⟩
  obtain ⟨x1, y1, e1⟩ : ∃ x y, dotN a1 = (x, y) := ⟨_, _, rfl⟩
  obtain ⟨x2, y2, e2⟩ : ∃ x y, dotN a2 = (x, y) := ⟨_, _, rfl⟩
  have hdn : dotsN [a0, a1, a2] = [(x0, y0), (x1, y1), (x2, y2)] := by unfold dotsN; simp [e0, e1, e2]
  rw [hdn] at HD0
  have HD := Lib.hid HD0
  clear HD0 hl hdn e0 e1 e2 x00 x01 x10 x11 x20 x21 w0 w1 w2
  go_enter Try.func6, Try.ntmps6
  go_upto_region 2 with (go_at_call 23; refine HD.out.mono ?_; rintro e w1 ⟨A1, k1, he, hd, g1⟩; change e = .returned (.slice A1 3 k1) at he; subst he; obtain ⟨g, o, rfl, hgl, c0, c1, c2, c3, c4, c5⟩ := dl3 hd)
  have hle : (3 : Int) ≤ (3 : Int) := by decide
  have G1 : Hid (w.grownBy w1 none) := gb_none (gb_alloc (gb_refl _ _) _) g1
  have HC6 : Hid (∀ W, w1.grownBy W none → W.cell? ⟨g, o, none⟩ = some (.int .i64 x0) ∧ W.cell? ⟨g, o + 1, none⟩ = some (.int .i64 y0) ∧ W.cell? ⟨g, o + 2, none⟩ = some (.int .i64 x1) ∧ W.cell? ⟨g, o + 3, none⟩ = some (.int .i64 y1) ∧ W.cell? ⟨g, o + 4, none⟩ = some (.int .i64 x2) ∧ W.cell? ⟨g, o + 5, none⟩ = some (.int .i64 y2)) := fun W hW => by
    have hb := hW.block g hgl (by simp)
    exact ⟨(World.cell?_of_block (a := ⟨g, o, none⟩) hb).trans c0, (World.cell?_of_block (a := ⟨g, o + 1, none⟩) hb).trans c1, (World.cell?_of_block (a := ⟨g, o + 2, none⟩) hb).trans c2, (World.cell?_of_block (a := ⟨g, o + 3, none⟩) hb).trans c3, (World.cell?_of_block (a := ⟨g, o + 4, none⟩) hb).trans c4, (World.cell?_of_block (a := ⟨g, o + 5, none⟩) hb).trans c5⟩
  have Hgl := Lib.hid hgl
  clear hd g1 HD hgl
  go_cut [8, 9, 10] (fun a b c wx => Boxes w x0 y0 x1 y1 x2 y2 a b c wx)
  case first =>
    go_region_held3 (fun w' => w'.cell? ⟨g, o, none⟩ = some (.int .i64 x0) ∧ w'.cell? ⟨g, o + 1, none⟩ = some (.int .i64 y0) ∧ w'.cell? ⟨g, o + 2, none⟩ = some (.int .i64 x1) ∧ w'.cell? ⟨g, o + 3, none⟩ = some (.int .i64 y1) ∧ w'.cell? ⟨g, o + 4, none⟩ = some (.int .i64 x2) ∧ w'.cell? ⟨g, o + 5, none⟩ = some (.int .i64 y2)) (first | exact HC6.out _ (gb_drew (gb_alloc (gb_alloc (gb_alloc (gb_refl _ _) _) _) _)) | exact HC6.out _ (gb_drew (gb_alloc (gb_alloc (gb_refl _ _) _) _)) | exact HC6.out _ (gb_drew (gb_alloc (gb_refl _ _) _)) | exact HC6.out _ (gb_drew (gb_refl _ _)) | go_keep) (fail)
    all_goals (try go_wp2_with fail)
    all_goals go_meet
    all_goals first
      | exact boxes_of (rows3 _ _ _ _ _).1 (rows3 _ _ _ _ _).2.1 (rows3 _ _ _ _ _).2.2 (gb_drew (gb_alloc (gb_alloc (gb_alloc G1.out _) _) _))
      | exact boxes_of (rows3 _ _ _ _ _).1 (rows3 _ _ _ _ _).2.2 (rows3 _ _ _ _ _).2.1 (gb_drew (gb_alloc (gb_alloc (gb_alloc G1.out _) _) _))
      | exact boxes_of (rows3 _ _ _ _ _).2.1 (rows3 _ _ _ _ _).1 (rows3 _ _ _ _ _).2.2 (gb_drew (gb_alloc (gb_alloc (gb_alloc G1.out _) _) _))
      | exact boxes_of (rows3 _ _ _ _ _).2.1 (rows3 _ _ _ _ _).2.2 (rows3 _ _ _ _ _).1 (gb_drew (gb_alloc (gb_alloc (gb_alloc G1.out _) _) _))
      | exact boxes_of (rows3 _ _ _ _ _).2.2 (rows3 _ _ _ _ _).1 (rows3 _ _ _ _ _).2.1 (gb_drew (gb_alloc (gb_alloc (gb_alloc G1.out _) _) _))
      | exact boxes_of (rows3 _ _ _ _ _).2.2 (rows3 _ _ _ _ _).2.1 (rows3 _ _ _ _ _).1 (gb_drew (gb_alloc (gb_alloc (gb_alloc G1.out _) _) _))
  case rest =>
    obtain ⟨g0, g1, g2, rfl, rfl, rfl, hc3, hg3⟩ := hcut
    have HK := Lib.hid hc3
    have G : w.grownBy wc none := hg3
    clear hc3 hg3 HC6 G1 Hgl c0 c1 c2 c3 c4 c5 hle
    have hG := dotT_guard
    go_upto_region 3 with fail
    by_cases h1 : Lt x0 y0 x1 y1
    · by_cases h3 : Lt x1 y1 x2 y2
      · skip
        have CXY : Hid (cmpD x0 y0 x1 y1 = -1) := cmp_lt h1
        have CYX : Hid (cmpD x1 y1 x0 y0 = 1) := by have h := cmp_flip x0 y0 x1 y1; rw [CXY.out] at h; exact h
        have HQ : Hid (¬ (x0 = x1 ∧ y0 = y1)) := by show ¬ _; unfold Lt at h1; omega
        have CYZ : Hid (cmpD x1 y1 x2 y2 = -1) := cmp_lt h3
        have CXZ : Hid (cmpD x0 y0 x2 y2 = -1) := cmp_lt (by unfold Lt at *; omega)
        have HP : Hid (True) := trivial
        clear h1 h3
        apply wp_region_told (le := fun a b => a.grownBy b none) [isV _, isV _, isV _, isV _, isV _, isV _, isV _, isV _, isV _, isV _, isV _, isV _, isV _, isV _, isV _, isV _, isV _, isV _, isV _, isV _, isV _, isV _, isV _, isV _, isV _, isV _, isV _, isV _, isV _, isV _, isV _, isV _, isV _, isV _, isV _, isV _, isV _, isV _, isV _, isV _, isV _]
        case hn => rfl
        case hm => kernel_rfl
        case hB => kernel_rfl
        case ht => exact fun _ _ _ h k => gb_none h k
        case hw => exact gb_drew (gb_refl _ _)
        -- 0: law.go:96 load
        apply told_is
        · intro W f hW hE h0 K hK
          have e8 := h0 8 (by kernel_rfl)
          conv at e8 => rhs; whnf
          clear hE h0
          refine yes_of (want_free rfl) ?_
          obtain ⟨b0, b1, b2, b3, b4, b5⟩ := HK.out W hW
          go_simp; exact hK _ _ (gb_refl _ _) rfl
        -- 1: law.go:96 load
        apply told_is
        · intro W f hW hE h0 K hK
          have e9 := h0 9 (by kernel_rfl)
          conv at e9 => rhs; whnf
          clear hE h0
          refine yes_of (want_free rfl) ?_
          obtain ⟨b0, b1, b2, b3, b4, b5⟩ := HK.out W hW
          go_simp; exact hK _ _ (gb_refl _ _) rfl
        -- 2: law.go:96 call
        apply told_is
        · intro W f hW hE h0 K hK
          have e25 : f 25 = _ := hE 1 25 _ rfl (by kernel_rfl)
          have e26 : f 26 = _ := hE 0 26 _ rfl (by kernel_rfl)
          clear hE h0
          refine yes_of (want_free rfl) ?_
          go_simp
          refine (pCmp_any _ _ _ _ _).mono ?_
          rintro e w1' ⟨he, g⟩; rw [CXY.out] at he; subst he
          exact ⟨_, rfl, hK _ _ g.gb rfl⟩
        -- 3: law.go:96 load
        apply told_is
        · intro W f hW hE h0 K hK
          have e9 := h0 9 (by kernel_rfl)
          conv at e9 => rhs; whnf
          clear hE h0
          refine yes_of (want_free rfl) ?_
          obtain ⟨b0, b1, b2, b3, b4, b5⟩ := HK.out W hW
          go_simp; exact hK _ _ (gb_refl _ _) rfl
        -- 4: law.go:96 load
        apply told_is
        · intro W f hW hE h0 K hK
          have e8 := h0 8 (by kernel_rfl)
          conv at e8 => rhs; whnf
          clear hE h0
          refine yes_of (want_free rfl) ?_
          obtain ⟨b0, b1, b2, b3, b4, b5⟩ := HK.out W hW
          go_simp; exact hK _ _ (gb_refl _ _) rfl
        -- 5: law.go:96 call
        apply told_is
        · intro W f hW hE h0 K hK
          have e28 : f 28 = _ := hE 1 28 _ rfl (by kernel_rfl)
          have e29 : f 29 = _ := hE 0 29 _ rfl (by kernel_rfl)
          clear hE h0
          refine yes_of (want_free rfl) ?_
          go_simp
          refine (pCmp_any _ _ _ _ _).mono ?_
          rintro e w1' ⟨he, g⟩; rw [CYX.out] at he; subst he
          exact ⟨_, rfl, hK _ _ g.gb rfl⟩
        -- 6: law.go:96 unOp
        apply told_is
        · intro W f hW hE h0 K hK
          have e30 : f 30 = _ := hE 0 30 _ rfl (by kernel_rfl)
          clear hE h0
          refine yes_of (want_free rfl) ?_
          go_simp; exact hK _ _ (gb_refl _ _) rfl
        -- 7: law.go:96 binOp
        apply told_is
        · intro W f hW hE h0 K hK
          have e27 : f 27 = _ := hE 4 27 _ rfl (by kernel_rfl)
          have e31 : f 31 = _ := hE 0 31 _ rfl (by kernel_rfl)
          clear hE h0
          refine yes_of (want_free rfl) ?_
          go_simp; exact hK _ _ (gb_refl _ _) rfl
        -- 8: law.go:96 move
        apply told_is
        · intro W f hW hE h0 K hK
          have e32 : f 32 = _ := hE 0 32 _ rfl (by kernel_rfl)
          clear hE h0
          refine yes_of (want_free rfl) ?_
          go_simp; exact hK _ _ (gb_refl _ _) rfl
        -- 9: law.go:96 load
        apply told_is
        · intro W f hW hE h0 K hK
          have e8 := h0 8 (by kernel_rfl)
          conv at e8 => rhs; whnf
          have e33 : f 33 = _ := hE 0 33 _ rfl (by kernel_rfl)
          clear hE h0
          refine yes_of (want_yes rfl rfl e33) ?_
          obtain ⟨b0, b1, b2, b3, b4, b5⟩ := HK.out W hW
          go_simp; exact hK _ _ (gb_refl _ _) rfl
        -- 10: law.go:96 load
        apply told_is
        · intro W f hW hE h0 K hK
          have e9 := h0 9 (by kernel_rfl)
          conv at e9 => rhs; whnf
          have e33 : f 33 = _ := hE 1 33 _ rfl (by kernel_rfl)
          clear hE h0
          refine yes_of (want_yes rfl rfl e33) ?_
          obtain ⟨b0, b1, b2, b3, b4, b5⟩ := HK.out W hW
          go_simp; exact hK _ _ (gb_refl _ _) rfl
        -- 11: law.go:96 call
        apply told_is
        · intro W f hW hE h0 K hK
          have e34 : f 34 = _ := hE 1 34 _ rfl (by kernel_rfl)
          have e35 : f 35 = _ := hE 0 35 _ rfl (by kernel_rfl)
          have e33 : f 33 = _ := hE 2 33 _ rfl (by kernel_rfl)
          clear hE h0
          refine yes_of (want_yes rfl rfl e33) ?_
          go_simp
          refine (pCmp_any _ _ _ _ _).mono ?_
          rintro e w1' ⟨he, g⟩; rw [CXY.out] at he; subst he
          exact ⟨_, rfl, hK _ _ g.gb rfl⟩
        -- 12: law.go:96 binOp
        apply told_is
        · intro W f hW hE h0 K hK
          have e36 : f 36 = _ := hE 0 36 _ rfl (by kernel_rfl)
          have e33 : f 33 = _ := hE 3 33 _ rfl (by kernel_rfl)
          clear hE h0
          refine yes_of (want_yes rfl rfl e33) ?_
          go_simp; exact hK _ _ (gb_refl _ _) rfl
        -- 13: law.go:96 load
        apply told_is
        · intro W f hW hE h0 K hK
          have e8 := h0 8 (by kernel_rfl)
          conv at e8 => rhs; whnf
          have e33 : f 33 = _ := hE 4 33 _ rfl (by kernel_rfl)
          clear hE h0
          refine yes_of (want_yes rfl rfl e33) ?_
          obtain ⟨b0, b1, b2, b3, b4, b5⟩ := HK.out W hW
          go_simp; exact hK _ _ (gb_refl _ _) rfl
        -- 14: law.go:96 load
        apply told_is
        · intro W f hW hE h0 K hK
          have e9 := h0 9 (by kernel_rfl)
          conv at e9 => rhs; whnf
          have e33 : f 33 = _ := hE 5 33 _ rfl (by kernel_rfl)
          clear hE h0
          refine yes_of (want_yes rfl rfl e33) ?_
          obtain ⟨b0, b1, b2, b3, b4, b5⟩ := HK.out W hW
          go_simp; exact hK _ _ (gb_refl _ _) rfl
        -- 15: law.go:96 binOp
        apply told_is
        · intro W f hW hE h0 K hK
          have e38 : f 38 = _ := hE 1 38 _ rfl (by kernel_rfl)
          have e39 : f 39 = _ := hE 0 39 _ rfl (by kernel_rfl)
          have e33 : f 33 = _ := hE 6 33 _ rfl (by kernel_rfl)
          clear hE h0
          refine yes_of (want_yes rfl rfl e33) ?_
          have hne := HQ.out
          by_cases hx : x0 = x1
          · have hy : ¬ y0 = y1 := fun h => hne ⟨hx, h⟩
            clear hne
            go_simp; exact hK _ _ (gb_refl _ _) rfl
          clear hne
          go_simp; exact hK _ _ (gb_refl _ _) rfl
        -- 16: law.go:96 binOp
        apply told_is
        · intro W f hW hE h0 K hK
          have e37 : f 37 = _ := hE 3 37 _ rfl (by kernel_rfl)
          have e40 : f 40 = _ := hE 0 40 _ rfl (by kernel_rfl)
          have e33 : f 33 = _ := hE 7 33 _ rfl (by kernel_rfl)
          clear hE h0
          refine yes_of (want_yes rfl rfl e33) ?_
          go_simp; exact hK _ _ (gb_refl _ _) rfl
        -- 17: law.go:96 pick
        apply told_is
        · intro W f hW hE h0 K hK
          have e33 : f 33 = _ := hE 8 33 _ rfl (by kernel_rfl)
          have e41 : f 41 = _ := hE 0 41 _ rfl (by kernel_rfl)
          clear hE h0
          refine yes_of (want_free rfl) ?_
          go_simp; exact hK _ _ (gb_refl _ _) rfl
        -- 18: law.go:96 move
        apply told_is
        · intro W f hW hE h0 K hK
          have e42 : f 42 = _ := hE 0 42 _ rfl (by kernel_rfl)
          clear hE h0
          refine yes_of (want_free rfl) ?_
          go_simp; exact hK _ _ (gb_refl _ _) rfl
        -- 19: law.go:96 load
        apply told_is
        · intro W f hW hE h0 K hK
          have e8 := h0 8 (by kernel_rfl)
          conv at e8 => rhs; whnf
          have e43 : f 43 = _ := hE 0 43 _ rfl (by kernel_rfl)
          clear hE h0
          refine yes_of (want_yes rfl rfl e43) ?_
          obtain ⟨b0, b1, b2, b3, b4, b5⟩ := HK.out W hW
          go_simp; exact hK _ _ (gb_refl _ _) rfl
        -- 20: law.go:96 load
        apply told_is
        · intro W f hW hE h0 K hK
          have e9 := h0 9 (by kernel_rfl)
          conv at e9 => rhs; whnf
          have e43 : f 43 = _ := hE 1 43 _ rfl (by kernel_rfl)
          clear hE h0
          refine yes_of (want_yes rfl rfl e43) ?_
          obtain ⟨b0, b1, b2, b3, b4, b5⟩ := HK.out W hW
          go_simp; exact hK _ _ (gb_refl _ _) rfl
        -- 21: law.go:96 call
        apply told_is
        · intro W f hW hE h0 K hK
          have e44 : f 44 = _ := hE 1 44 _ rfl (by kernel_rfl)
          have e45 : f 45 = _ := hE 0 45 _ rfl (by kernel_rfl)
          have e43 : f 43 = _ := hE 2 43 _ rfl (by kernel_rfl)
          clear hE h0
          refine yes_of (want_yes rfl rfl e43) ?_
          go_simp
          refine (pCmp_any _ _ _ _ _).mono ?_
          rintro e w1' ⟨he, g⟩; rw [CXY.out] at he; subst he
          exact ⟨_, rfl, hK _ _ g.gb rfl⟩
        -- 22: law.go:96 binOp
        apply told_is
        · intro W f hW hE h0 K hK
          have e46 : f 46 = _ := hE 0 46 _ rfl (by kernel_rfl)
          have e43 : f 43 = _ := hE 3 43 _ rfl (by kernel_rfl)
          clear hE h0
          refine yes_of (want_yes rfl rfl e43) ?_
          go_simp; exact hK _ _ (gb_refl _ _) rfl
        -- 23: law.go:96 move
        apply told_is
        · intro W f hW hE h0 K hK
          have e47 : f 47 = _ := hE 0 47 _ rfl (by kernel_rfl)
          have e43 : f 43 = _ := hE 4 43 _ rfl (by kernel_rfl)
          clear hE h0
          refine yes_of (want_yes rfl rfl e43) ?_
          go_simp; exact hK _ _ (gb_refl _ _) rfl
        -- 24: law.go:96 load
        apply told_is
        · intro W f hW hE h0 K hK
          have e9 := h0 9 (by kernel_rfl)
          conv at e9 => rhs; whnf
          have e48 : f 48 = _ := hE 0 48 _ rfl (by kernel_rfl)
          clear hE h0
          refine yes_of (want_yes rfl rfl e48) ?_
          obtain ⟨b0, b1, b2, b3, b4, b5⟩ := HK.out W hW
          go_simp; exact hK _ _ (gb_refl _ _) rfl
        -- 25: law.go:96 load
        apply told_is
        · intro W f hW hE h0 K hK
          have e10 := h0 10 (by kernel_rfl)
          conv at e10 => rhs; whnf
          have e48 : f 48 = _ := hE 1 48 _ rfl (by kernel_rfl)
          clear hE h0
          refine yes_of (want_yes rfl rfl e48) ?_
          obtain ⟨b0, b1, b2, b3, b4, b5⟩ := HK.out W hW
          go_simp; exact hK _ _ (gb_refl _ _) rfl
        -- 26: law.go:96 call
        apply told_is
        · intro W f hW hE h0 K hK
          have e49 : f 49 = _ := hE 1 49 _ rfl (by kernel_rfl)
          have e50 : f 50 = _ := hE 0 50 _ rfl (by kernel_rfl)
          have e48 : f 48 = _ := hE 2 48 _ rfl (by kernel_rfl)
          clear hE h0
          refine yes_of (want_yes rfl rfl e48) ?_
          go_simp
          refine (pCmp_any _ _ _ _ _).mono ?_
          rintro e w1' ⟨he, g⟩; rw [CYZ.out] at he; subst he
          exact ⟨_, rfl, hK _ _ g.gb rfl⟩
        -- 27: law.go:96 binOp
        apply told_is
        · intro W f hW hE h0 K hK
          have e51 : f 51 = _ := hE 0 51 _ rfl (by kernel_rfl)
          have e48 : f 48 = _ := hE 3 48 _ rfl (by kernel_rfl)
          clear hE h0
          refine yes_of (want_yes rfl rfl e48) ?_
          go_simp; exact hK _ _ (gb_refl _ _) rfl
        -- 28: law.go:96 pick
        apply told_is
        · intro W f hW hE h0 K hK
          have e48 : f 48 = _ := hE 4 48 _ rfl (by kernel_rfl)
          have e52 : f 52 = _ := hE 0 52 _ rfl (by kernel_rfl)
          have e43 : f 43 = _ := hE 9 43 _ rfl (by kernel_rfl)
          clear hE h0
          refine yes_of (want_yes rfl rfl e43) ?_
          go_simp; exact hK _ _ (gb_refl _ _) rfl
        -- 29: law.go:96 move
        apply told_is
        · intro W f hW hE h0 K hK
          have e53 : f 53 = _ := hE 0 53 _ rfl (by kernel_rfl)
          have e43 : f 43 = _ := hE 10 43 _ rfl (by kernel_rfl)
          clear hE h0
          refine yes_of (want_yes rfl rfl e43) ?_
          go_simp; exact hK _ _ (gb_refl _ _) rfl
        -- 30: law.go:96 load
        apply told_is
        · intro W f hW hE h0 K hK
          have e8 := h0 8 (by kernel_rfl)
          conv at e8 => rhs; whnf
          have e54 : f 54 = _ := hE 0 54 _ rfl (by kernel_rfl)
          clear hE h0
          refine yes_of (want_yes rfl rfl e54) ?_
          obtain ⟨b0, b1, b2, b3, b4, b5⟩ := HK.out W hW
          go_simp; exact hK _ _ (gb_refl _ _) rfl
        -- 31: law.go:96 load
        apply told_is
        · intro W f hW hE h0 K hK
          have e10 := h0 10 (by kernel_rfl)
          conv at e10 => rhs; whnf
          have e54 : f 54 = _ := hE 1 54 _ rfl (by kernel_rfl)
          clear hE h0
          refine yes_of (want_yes rfl rfl e54) ?_
          obtain ⟨b0, b1, b2, b3, b4, b5⟩ := HK.out W hW
          go_simp; exact hK _ _ (gb_refl _ _) rfl
        -- 32: law.go:96 call
        apply told_is
        · intro W f hW hE h0 K hK
          have e55 : f 55 = _ := hE 1 55 _ rfl (by kernel_rfl)
          have e56 : f 56 = _ := hE 0 56 _ rfl (by kernel_rfl)
          have e54 : f 54 = _ := hE 2 54 _ rfl (by kernel_rfl)
          clear hE h0
          refine yes_of (want_yes rfl rfl e54) ?_
          go_simp
          refine (pCmp_any _ _ _ _ _).mono ?_
          rintro e w1' ⟨he, g⟩; rw [CXZ.out] at he; subst he
          exact ⟨_, rfl, hK _ _ g.gb rfl⟩
        -- 33: law.go:96 binOp
        apply told_is
        · intro W f hW hE h0 K hK
          have e57 : f 57 = _ := hE 0 57 _ rfl (by kernel_rfl)
          have e54 : f 54 = _ := hE 3 54 _ rfl (by kernel_rfl)
          clear hE h0
          refine yes_of (want_yes rfl rfl e54) ?_
          go_simp; exact hK _ _ (gb_refl _ _) rfl
        -- 34: law.go:96 pick
        apply told_is
        · intro W f hW hE h0 K hK
          have e54 : f 54 = _ := hE 4 54 _ rfl (by kernel_rfl)
          have e58 : f 58 = _ := hE 0 58 _ rfl (by kernel_rfl)
          have e43 : f 43 = _ := hE 15 43 _ rfl (by kernel_rfl)
          clear hE h0
          refine yes_of (want_yes rfl rfl e43) ?_
          go_simp; exact hK _ _ (gb_refl _ _) rfl
        -- 35: law.go:96 unOp
        apply told_is
        · intro W f hW hE h0 K hK
          have e59 : f 59 = _ := hE 0 59 _ rfl (by kernel_rfl)
          have e43 : f 43 = _ := hE 16 43 _ rfl (by kernel_rfl)
          clear hE h0
          refine yes_of (want_yes rfl rfl e43) ?_
          go_simp; exact hK _ _ (gb_refl _ _) rfl
        -- 36: law.go:96 pick
        apply told_is
        · intro W f hW hE h0 K hK
          have e43 : f 43 = _ := hE 17 43 _ rfl (by kernel_rfl)
          have e60 : f 60 = _ := hE 0 60 _ rfl (by kernel_rfl)
          clear hE h0
          refine yes_of (want_free rfl) ?_
          go_simp; exact hK _ _ (gb_refl _ _) rfl
        -- 37: law.go:96 move
        apply told_is
        · intro W f hW hE h0 K hK
          have e61 : f 61 = _ := hE 0 61 _ rfl (by kernel_rfl)
          clear hE h0
          refine yes_of (want_free rfl) ?_
          go_simp; exact hK _ _ (gb_refl _ _) rfl
        -- 38: law.go:96 call
        apply told_is
        · intro W f hW hE h0 K hK
          have e62 : f 62 = _ := hE 0 62 _ rfl (by kernel_rfl)
          clear hE h0
          refine yes_of (want_yes rfl rfl e62) ?_
          go_simp
          refine (awake8_any _).mono ?_
          rintro e w1' ⟨rfl, g⟩
          exact ⟨_, rfl, hK _ _ g rfl⟩
        -- 39: law.go:96 pick
        apply told_is
        · intro W f hW hE h0 K hK
          have e62 : f 62 = _ := hE 1 62 _ rfl (by kernel_rfl)
          have e63 : f 63 = _ := hE 0 63 _ rfl (by kernel_rfl)
          clear hE h0
          refine yes_of (want_free rfl) ?_
          go_simp; exact hK _ _ (gb_refl _ _) rfl
        -- 40: law.go:96 assign
        apply told_is
        · intro W f hW hE h0 K hK
          have e64 : f 64 = _ := hE 0 64 _ rfl (by kernel_rfl)
          clear hE h0
          refine yes_of (want_free rfl) ?_
          go_simp; exact hK _ _ (gb_refl _ _) rfl
        intro W f hW hA
        simp only [lexIn, Act.put, List.setIfInBounds_toArray, List.set_cons_zero, List.set_cons_succ]
        have e6 : f 6 = _ := hA 0 (some 6) _ rfl
        rw [e6]
        clear hA
        go_wp2_with fail
        go_ret
        exact ⟨rfl, gb_below (gb_none G hW) (Nat.le_refl _)⟩
      · skip
        have CXY : Hid (cmpD x0 y0 x1 y1 = -1) := cmp_lt h1
        have CYX : Hid (cmpD x1 y1 x0 y0 = 1) := by have h := cmp_flip x0 y0 x1 y1; rw [CXY.out] at h; exact h
        have HQ : Hid (¬ (x0 = x1 ∧ y0 = y1)) := by show ¬ _; unfold Lt at h1; omega
        obtain ⟨p, hp⟩ : ∃ p, cmpD x1 y1 x2 y2 = p := ⟨_, rfl⟩
        have CYZ := Lib.hid hp
        have HP : Hid (decide (p < 0) = false) := by
          show _ = _
          rw [decide_eq_false_iff_not, ← hp]
          by_cases h5 : x1 = x2 ∧ y1 = y2
          · rw [cmp_is h3 h5]; decide
          · rw [cmp_gt h3 h5]; decide
        clear h1 h3 hp
        apply wp_region_told (le := fun a b => a.grownBy b none) [isV _, isV _, isV _, isV _, isV _, isV _, isV _, isV _, isV _, isV _, isV _, isV _, isV _, isV _, isV _, isV _, isV _, isV _, isV _, isV _, isV _, isV _, isV _, isV _, isV _, isV _, isV _, isV _, isV _, isV _, isV _, isV _, isV _, isV _, isV _, isV _, isV _, isV _, isV _, isV _, isV _]
        case hn => rfl
        case hm => kernel_rfl
        case hB => kernel_rfl
        case ht => exact fun _ _ _ h k => gb_none h k
        case hw => exact gb_drew (gb_refl _ _)
        -- 0: law.go:96 load
        apply told_is
        · intro W f hW hE h0 K hK
          have e8 := h0 8 (by kernel_rfl)
          conv at e8 => rhs; whnf
          clear hE h0
          refine yes_of (want_free rfl) ?_
          obtain ⟨b0, b1, b2, b3, b4, b5⟩ := HK.out W hW
          go_simp; exact hK _ _ (gb_refl _ _) rfl
        -- 1: law.go:96 load
        apply told_is
        · intro W f hW hE h0 K hK
          have e9 := h0 9 (by kernel_rfl)
          conv at e9 => rhs; whnf
          clear hE h0
          refine yes_of (want_free rfl) ?_
          obtain ⟨b0, b1, b2, b3, b4, b5⟩ := HK.out W hW
          go_simp; exact hK _ _ (gb_refl _ _) rfl
        -- 2: law.go:96 call
        apply told_is
        · intro W f hW hE h0 K hK
          have e25 : f 25 = _ := hE 1 25 _ rfl (by kernel_rfl)
          have e26 : f 26 = _ := hE 0 26 _ rfl (by kernel_rfl)
          clear hE h0
          refine yes_of (want_free rfl) ?_
          go_simp
          refine (pCmp_any _ _ _ _ _).mono ?_
          rintro e w1' ⟨he, g⟩; rw [CXY.out] at he; subst he
          exact ⟨_, rfl, hK _ _ g.gb rfl⟩
        -- 3: law.go:96 load
        apply told_is
        · intro W f hW hE h0 K hK
          have e9 := h0 9 (by kernel_rfl)
          conv at e9 => rhs; whnf
          clear hE h0
          refine yes_of (want_free rfl) ?_
          obtain ⟨b0, b1, b2, b3, b4, b5⟩ := HK.out W hW
          go_simp; exact hK _ _ (gb_refl _ _) rfl
        -- 4: law.go:96 load
        apply told_is
        · intro W f hW hE h0 K hK
          have e8 := h0 8 (by kernel_rfl)
          conv at e8 => rhs; whnf
          clear hE h0
          refine yes_of (want_free rfl) ?_
          obtain ⟨b0, b1, b2, b3, b4, b5⟩ := HK.out W hW
          go_simp; exact hK _ _ (gb_refl _ _) rfl
        -- 5: law.go:96 call
        apply told_is
        · intro W f hW hE h0 K hK
          have e28 : f 28 = _ := hE 1 28 _ rfl (by kernel_rfl)
          have e29 : f 29 = _ := hE 0 29 _ rfl (by kernel_rfl)
          clear hE h0
          refine yes_of (want_free rfl) ?_
          go_simp
          refine (pCmp_any _ _ _ _ _).mono ?_
          rintro e w1' ⟨he, g⟩; rw [CYX.out] at he; subst he
          exact ⟨_, rfl, hK _ _ g.gb rfl⟩
        -- 6: law.go:96 unOp
        apply told_is
        · intro W f hW hE h0 K hK
          have e30 : f 30 = _ := hE 0 30 _ rfl (by kernel_rfl)
          clear hE h0
          refine yes_of (want_free rfl) ?_
          go_simp; exact hK _ _ (gb_refl _ _) rfl
        -- 7: law.go:96 binOp
        apply told_is
        · intro W f hW hE h0 K hK
          have e27 : f 27 = _ := hE 4 27 _ rfl (by kernel_rfl)
          have e31 : f 31 = _ := hE 0 31 _ rfl (by kernel_rfl)
          clear hE h0
          refine yes_of (want_free rfl) ?_
          go_simp; exact hK _ _ (gb_refl _ _) rfl
        -- 8: law.go:96 move
        apply told_is
        · intro W f hW hE h0 K hK
          have e32 : f 32 = _ := hE 0 32 _ rfl (by kernel_rfl)
          clear hE h0
          refine yes_of (want_free rfl) ?_
          go_simp; exact hK _ _ (gb_refl _ _) rfl
        -- 9: law.go:96 load
        apply told_is
        · intro W f hW hE h0 K hK
          have e8 := h0 8 (by kernel_rfl)
          conv at e8 => rhs; whnf
          have e33 : f 33 = _ := hE 0 33 _ rfl (by kernel_rfl)
          clear hE h0
          refine yes_of (want_yes rfl rfl e33) ?_
          obtain ⟨b0, b1, b2, b3, b4, b5⟩ := HK.out W hW
          go_simp; exact hK _ _ (gb_refl _ _) rfl
        -- 10: law.go:96 load
        apply told_is
        · intro W f hW hE h0 K hK
          have e9 := h0 9 (by kernel_rfl)
          conv at e9 => rhs; whnf
          have e33 : f 33 = _ := hE 1 33 _ rfl (by kernel_rfl)
          clear hE h0
          refine yes_of (want_yes rfl rfl e33) ?_
          obtain ⟨b0, b1, b2, b3, b4, b5⟩ := HK.out W hW
          go_simp; exact hK _ _ (gb_refl _ _) rfl
        -- 11: law.go:96 call
        apply told_is
        · intro W f hW hE h0 K hK
          have e34 : f 34 = _ := hE 1 34 _ rfl (by kernel_rfl)
          have e35 : f 35 = _ := hE 0 35 _ rfl (by kernel_rfl)
          have e33 : f 33 = _ := hE 2 33 _ rfl (by kernel_rfl)
          clear hE h0
          refine yes_of (want_yes rfl rfl e33) ?_
          go_simp
          refine (pCmp_any _ _ _ _ _).mono ?_
          rintro e w1' ⟨he, g⟩; rw [CXY.out] at he; subst he
          exact ⟨_, rfl, hK _ _ g.gb rfl⟩
        -- 12: law.go:96 binOp
        apply told_is
        · intro W f hW hE h0 K hK
          have e36 : f 36 = _ := hE 0 36 _ rfl (by kernel_rfl)
          have e33 : f 33 = _ := hE 3 33 _ rfl (by kernel_rfl)
          clear hE h0
          refine yes_of (want_yes rfl rfl e33) ?_
          go_simp; exact hK _ _ (gb_refl _ _) rfl
        -- 13: law.go:96 load
        apply told_is
        · intro W f hW hE h0 K hK
          have e8 := h0 8 (by kernel_rfl)
          conv at e8 => rhs; whnf
          have e33 : f 33 = _ := hE 4 33 _ rfl (by kernel_rfl)
          clear hE h0
          refine yes_of (want_yes rfl rfl e33) ?_
          obtain ⟨b0, b1, b2, b3, b4, b5⟩ := HK.out W hW
          go_simp; exact hK _ _ (gb_refl _ _) rfl
        -- 14: law.go:96 load
        apply told_is
        · intro W f hW hE h0 K hK
          have e9 := h0 9 (by kernel_rfl)
          conv at e9 => rhs; whnf
          have e33 : f 33 = _ := hE 5 33 _ rfl (by kernel_rfl)
          clear hE h0
          refine yes_of (want_yes rfl rfl e33) ?_
          obtain ⟨b0, b1, b2, b3, b4, b5⟩ := HK.out W hW
          go_simp; exact hK _ _ (gb_refl _ _) rfl
        -- 15: law.go:96 binOp
        apply told_is
        · intro W f hW hE h0 K hK
          have e38 : f 38 = _ := hE 1 38 _ rfl (by kernel_rfl)
          have e39 : f 39 = _ := hE 0 39 _ rfl (by kernel_rfl)
          have e33 : f 33 = _ := hE 6 33 _ rfl (by kernel_rfl)
          clear hE h0
          refine yes_of (want_yes rfl rfl e33) ?_
          have hne := HQ.out
          by_cases hx : x0 = x1
          · have hy : ¬ y0 = y1 := fun h => hne ⟨hx, h⟩
            clear hne
            go_simp; exact hK _ _ (gb_refl _ _) rfl
          clear hne
          go_simp; exact hK _ _ (gb_refl _ _) rfl
        -- 16: law.go:96 binOp
        apply told_is
        · intro W f hW hE h0 K hK
          have e37 : f 37 = _ := hE 3 37 _ rfl (by kernel_rfl)
          have e40 : f 40 = _ := hE 0 40 _ rfl (by kernel_rfl)
          have e33 : f 33 = _ := hE 7 33 _ rfl (by kernel_rfl)
          clear hE h0
          refine yes_of (want_yes rfl rfl e33) ?_
          go_simp; exact hK _ _ (gb_refl _ _) rfl
        -- 17: law.go:96 pick
        apply told_is
        · intro W f hW hE h0 K hK
          have e33 : f 33 = _ := hE 8 33 _ rfl (by kernel_rfl)
          have e41 : f 41 = _ := hE 0 41 _ rfl (by kernel_rfl)
          clear hE h0
          refine yes_of (want_free rfl) ?_
          go_simp; exact hK _ _ (gb_refl _ _) rfl
        -- 18: law.go:96 move
        apply told_is
        · intro W f hW hE h0 K hK
          have e42 : f 42 = _ := hE 0 42 _ rfl (by kernel_rfl)
          clear hE h0
          refine yes_of (want_free rfl) ?_
          go_simp; exact hK _ _ (gb_refl _ _) rfl
        -- 19: law.go:96 load
        apply told_is
        · intro W f hW hE h0 K hK
          have e8 := h0 8 (by kernel_rfl)
          conv at e8 => rhs; whnf
          have e43 : f 43 = _ := hE 0 43 _ rfl (by kernel_rfl)
          clear hE h0
          refine yes_of (want_yes rfl rfl e43) ?_
          obtain ⟨b0, b1, b2, b3, b4, b5⟩ := HK.out W hW
          go_simp; exact hK _ _ (gb_refl _ _) rfl
        -- 20: law.go:96 load
        apply told_is
        · intro W f hW hE h0 K hK
          have e9 := h0 9 (by kernel_rfl)
          conv at e9 => rhs; whnf
          have e43 : f 43 = _ := hE 1 43 _ rfl (by kernel_rfl)
          clear hE h0
          refine yes_of (want_yes rfl rfl e43) ?_
          obtain ⟨b0, b1, b2, b3, b4, b5⟩ := HK.out W hW
          go_simp; exact hK _ _ (gb_refl _ _) rfl
        -- 21: law.go:96 call
        apply told_is
        · intro W f hW hE h0 K hK
          have e44 : f 44 = _ := hE 1 44 _ rfl (by kernel_rfl)
          have e45 : f 45 = _ := hE 0 45 _ rfl (by kernel_rfl)
          have e43 : f 43 = _ := hE 2 43 _ rfl (by kernel_rfl)
          clear hE h0
          refine yes_of (want_yes rfl rfl e43) ?_
          go_simp
          refine (pCmp_any _ _ _ _ _).mono ?_
          rintro e w1' ⟨he, g⟩; rw [CXY.out] at he; subst he
          exact ⟨_, rfl, hK _ _ g.gb rfl⟩
        -- 22: law.go:96 binOp
        apply told_is
        · intro W f hW hE h0 K hK
          have e46 : f 46 = _ := hE 0 46 _ rfl (by kernel_rfl)
          have e43 : f 43 = _ := hE 3 43 _ rfl (by kernel_rfl)
          clear hE h0
          refine yes_of (want_yes rfl rfl e43) ?_
          go_simp; exact hK _ _ (gb_refl _ _) rfl
        -- 23: law.go:96 move
        apply told_is
        · intro W f hW hE h0 K hK
          have e47 : f 47 = _ := hE 0 47 _ rfl (by kernel_rfl)
          have e43 : f 43 = _ := hE 4 43 _ rfl (by kernel_rfl)
          clear hE h0
          refine yes_of (want_yes rfl rfl e43) ?_
          go_simp; exact hK _ _ (gb_refl _ _) rfl
        -- 24: law.go:96 load
        apply told_is
        · intro W f hW hE h0 K hK
          have e9 := h0 9 (by kernel_rfl)
          conv at e9 => rhs; whnf
          have e48 : f 48 = _ := hE 0 48 _ rfl (by kernel_rfl)
          clear hE h0
          refine yes_of (want_yes rfl rfl e48) ?_
          obtain ⟨b0, b1, b2, b3, b4, b5⟩ := HK.out W hW
          go_simp; exact hK _ _ (gb_refl _ _) rfl
        -- 25: law.go:96 load
        apply told_is
        · intro W f hW hE h0 K hK
          have e10 := h0 10 (by kernel_rfl)
          conv at e10 => rhs; whnf
          have e48 : f 48 = _ := hE 1 48 _ rfl (by kernel_rfl)
          clear hE h0
          refine yes_of (want_yes rfl rfl e48) ?_
          obtain ⟨b0, b1, b2, b3, b4, b5⟩ := HK.out W hW
          go_simp; exact hK _ _ (gb_refl _ _) rfl
        -- 26: law.go:96 call
        apply told_is
        · intro W f hW hE h0 K hK
          have e49 : f 49 = _ := hE 1 49 _ rfl (by kernel_rfl)
          have e50 : f 50 = _ := hE 0 50 _ rfl (by kernel_rfl)
          have e48 : f 48 = _ := hE 2 48 _ rfl (by kernel_rfl)
          clear hE h0
          refine yes_of (want_yes rfl rfl e48) ?_
          go_simp
          refine (pCmp_any _ _ _ _ _).mono ?_
          rintro e w1' ⟨he, g⟩; rw [CYZ.out] at he; subst he
          exact ⟨_, rfl, hK _ _ g.gb rfl⟩
        -- 27: law.go:96 binOp
        apply told_is
        · intro W f hW hE h0 K hK
          have e51 : f 51 = _ := hE 0 51 _ rfl (by kernel_rfl)
          have e48 : f 48 = _ := hE 3 48 _ rfl (by kernel_rfl)
          clear hE h0
          refine yes_of (want_yes rfl rfl e48) ?_
          have hp := HP.out
          go_simp; exact hK _ _ (gb_refl _ _) rfl
        -- 28: law.go:96 pick
        apply told_is
        · intro W f hW hE h0 K hK
          have e48 : f 48 = _ := hE 4 48 _ rfl (by kernel_rfl)
          have e52 : f 52 = _ := hE 0 52 _ rfl (by kernel_rfl)
          have e43 : f 43 = _ := hE 9 43 _ rfl (by kernel_rfl)
          clear hE h0
          refine yes_of (want_yes rfl rfl e43) ?_
          go_simp; exact hK _ _ (gb_refl _ _) rfl
        -- 29: law.go:96 move
        apply told_is
        · intro W f hW hE h0 K hK
          have e53 : f 53 = _ := hE 0 53 _ rfl (by kernel_rfl)
          have e43 : f 43 = _ := hE 10 43 _ rfl (by kernel_rfl)
          clear hE h0
          refine yes_of (want_yes rfl rfl e43) ?_
          go_simp; exact hK _ _ (gb_refl _ _) rfl
        -- 30: law.go:96 load
        apply told_is
        · intro W f hW hE h0 K hK
          have e54 : f 54 = _ := hE 0 54 _ rfl (by kernel_rfl)
          clear hE h0
          refine no_of (want_no rfl rfl e54 rfl) ?_
          exact hK _ _ (gb_refl _ _) rfl
        -- 31: law.go:96 load
        apply told_is
        · intro W f hW hE h0 K hK
          have e54 : f 54 = _ := hE 1 54 _ rfl (by kernel_rfl)
          clear hE h0
          refine no_of (want_no rfl rfl e54 rfl) ?_
          exact hK _ _ (gb_refl _ _) rfl
        -- 32: law.go:96 call
        apply told_is
        · intro W f hW hE h0 K hK
          have e54 : f 54 = _ := hE 2 54 _ rfl (by kernel_rfl)
          clear hE h0
          refine no_of (want_no rfl rfl e54 rfl) ?_
          exact hK _ _ (gb_refl _ _) rfl
        -- 33: law.go:96 binOp
        apply told_is
        · intro W f hW hE h0 K hK
          have e54 : f 54 = _ := hE 3 54 _ rfl (by kernel_rfl)
          clear hE h0
          refine no_of (want_no rfl rfl e54 rfl) ?_
          exact hK _ _ (gb_refl _ _) rfl
        -- 34: law.go:96 pick
        apply told_is
        · intro W f hW hE h0 K hK
          have e54 : f 54 = _ := hE 4 54 _ rfl (by kernel_rfl)
          have e58 : f 58 = _ := hE 0 58 _ rfl (by kernel_rfl)
          have e43 : f 43 = _ := hE 15 43 _ rfl (by kernel_rfl)
          clear hE h0
          refine yes_of (want_yes rfl rfl e43) ?_
          go_simp; exact hK _ _ (gb_refl _ _) rfl
        -- 35: law.go:96 unOp
        apply told_is
        · intro W f hW hE h0 K hK
          have e59 : f 59 = _ := hE 0 59 _ rfl (by kernel_rfl)
          have e43 : f 43 = _ := hE 16 43 _ rfl (by kernel_rfl)
          clear hE h0
          refine yes_of (want_yes rfl rfl e43) ?_
          go_simp; exact hK _ _ (gb_refl _ _) rfl
        -- 36: law.go:96 pick
        apply told_is
        · intro W f hW hE h0 K hK
          have e43 : f 43 = _ := hE 17 43 _ rfl (by kernel_rfl)
          have e60 : f 60 = _ := hE 0 60 _ rfl (by kernel_rfl)
          clear hE h0
          refine yes_of (want_free rfl) ?_
          go_simp; exact hK _ _ (gb_refl _ _) rfl
        -- 37: law.go:96 move
        apply told_is
        · intro W f hW hE h0 K hK
          have e61 : f 61 = _ := hE 0 61 _ rfl (by kernel_rfl)
          clear hE h0
          refine yes_of (want_free rfl) ?_
          go_simp; exact hK _ _ (gb_refl _ _) rfl
        -- 38: law.go:96 call
        apply told_is
        · intro W f hW hE h0 K hK
          have e62 : f 62 = _ := hE 0 62 _ rfl (by kernel_rfl)
          clear hE h0
          refine yes_of (want_yes rfl rfl e62) ?_
          go_simp
          refine (awake8_any _).mono ?_
          rintro e w1' ⟨rfl, g⟩
          exact ⟨_, rfl, hK _ _ g rfl⟩
        -- 39: law.go:96 pick
        apply told_is
        · intro W f hW hE h0 K hK
          have e62 : f 62 = _ := hE 1 62 _ rfl (by kernel_rfl)
          have e63 : f 63 = _ := hE 0 63 _ rfl (by kernel_rfl)
          clear hE h0
          refine yes_of (want_free rfl) ?_
          go_simp; exact hK _ _ (gb_refl _ _) rfl
        -- 40: law.go:96 assign
        apply told_is
        · intro W f hW hE h0 K hK
          have e64 : f 64 = _ := hE 0 64 _ rfl (by kernel_rfl)
          clear hE h0
          refine yes_of (want_free rfl) ?_
          go_simp; exact hK _ _ (gb_refl _ _) rfl
        intro W f hW hA
        simp only [lexIn, Act.put, List.setIfInBounds_toArray, List.set_cons_zero, List.set_cons_succ]
        have e6 : f 6 = _ := hA 0 (some 6) _ rfl
        rw [e6]
        clear hA
        go_wp2_with fail
        go_ret
        exact ⟨rfl, gb_below (gb_none G hW) (Nat.le_refl _)⟩
    · by_cases h2 : x0 = x1 ∧ y0 = y1
      · skip
        have CXY : Hid (cmpD x0 y0 x1 y1 = 0) := cmp_is h1 h2
        have CYX : Hid (cmpD x1 y1 x0 y0 = 0) := by have h := cmp_flip x0 y0 x1 y1; rw [CXY.out] at h; exact h
        have HQ : Hid (x0 = x1 ∧ y0 = y1) := h2
        clear h1 h2
        apply wp_region_told (le := fun a b => a.grownBy b none) [isV _, isV _, isV _, isV _, isV _, isV _, isV _, isV _, isV _, isV _, isV _, isV _, isV _, isV _, isV _, isV _, isV _, isV _, isV _, isV _, isV _, isV _, isV _, isV _, isV _, isV _, isV _, isV _, isV _, isV _, isV _, isV _, isV _, isV _, isV _, isV _, isV _, isV _, isV _, isV _, isV _]
        case hn => rfl
        case hm => kernel_rfl
        case hB => kernel_rfl
        case ht => exact fun _ _ _ h k => gb_none h k
        case hw => exact gb_drew (gb_refl _ _)
        -- 0: law.go:96 load
        apply told_is
        · intro W f hW hE h0 K hK
          have e8 := h0 8 (by kernel_rfl)
          conv at e8 => rhs; whnf
          clear hE h0
          refine yes_of (want_free rfl) ?_
          obtain ⟨b0, b1, b2, b3, b4, b5⟩ := HK.out W hW
          go_simp; exact hK _ _ (gb_refl _ _) rfl
        -- 1: law.go:96 load
        apply told_is
        · intro W f hW hE h0 K hK
          have e9 := h0 9 (by kernel_rfl)
          conv at e9 => rhs; whnf
          clear hE h0
          refine yes_of (want_free rfl) ?_
          obtain ⟨b0, b1, b2, b3, b4, b5⟩ := HK.out W hW
          go_simp; exact hK _ _ (gb_refl _ _) rfl
        -- 2: law.go:96 call
        apply told_is
        · intro W f hW hE h0 K hK
          have e25 : f 25 = _ := hE 1 25 _ rfl (by kernel_rfl)
          have e26 : f 26 = _ := hE 0 26 _ rfl (by kernel_rfl)
          clear hE h0
          refine yes_of (want_free rfl) ?_
          go_simp
          refine (pCmp_any _ _ _ _ _).mono ?_
          rintro e w1' ⟨he, g⟩; rw [CXY.out] at he; subst he
          exact ⟨_, rfl, hK _ _ g.gb rfl⟩
        -- 3: law.go:96 load
        apply told_is
        · intro W f hW hE h0 K hK
          have e9 := h0 9 (by kernel_rfl)
          conv at e9 => rhs; whnf
          clear hE h0
          refine yes_of (want_free rfl) ?_
          obtain ⟨b0, b1, b2, b3, b4, b5⟩ := HK.out W hW
          go_simp; exact hK _ _ (gb_refl _ _) rfl
        -- 4: law.go:96 load
        apply told_is
        · intro W f hW hE h0 K hK
          have e8 := h0 8 (by kernel_rfl)
          conv at e8 => rhs; whnf
          clear hE h0
          refine yes_of (want_free rfl) ?_
          obtain ⟨b0, b1, b2, b3, b4, b5⟩ := HK.out W hW
          go_simp; exact hK _ _ (gb_refl _ _) rfl
        -- 5: law.go:96 call
        apply told_is
        · intro W f hW hE h0 K hK
          have e28 : f 28 = _ := hE 1 28 _ rfl (by kernel_rfl)
          have e29 : f 29 = _ := hE 0 29 _ rfl (by kernel_rfl)
          clear hE h0
          refine yes_of (want_free rfl) ?_
          go_simp
          refine (pCmp_any _ _ _ _ _).mono ?_
          rintro e w1' ⟨he, g⟩; rw [CYX.out] at he; subst he
          exact ⟨_, rfl, hK _ _ g.gb rfl⟩
        -- 6: law.go:96 unOp
        apply told_is
        · intro W f hW hE h0 K hK
          have e30 : f 30 = _ := hE 0 30 _ rfl (by kernel_rfl)
          clear hE h0
          refine yes_of (want_free rfl) ?_
          go_simp; exact hK _ _ (gb_refl _ _) rfl
        -- 7: law.go:96 binOp
        apply told_is
        · intro W f hW hE h0 K hK
          have e27 : f 27 = _ := hE 4 27 _ rfl (by kernel_rfl)
          have e31 : f 31 = _ := hE 0 31 _ rfl (by kernel_rfl)
          clear hE h0
          refine yes_of (want_free rfl) ?_
          go_simp; exact hK _ _ (gb_refl _ _) rfl
        -- 8: law.go:96 move
        apply told_is
        · intro W f hW hE h0 K hK
          have e32 : f 32 = _ := hE 0 32 _ rfl (by kernel_rfl)
          clear hE h0
          refine yes_of (want_free rfl) ?_
          go_simp; exact hK _ _ (gb_refl _ _) rfl
        -- 9: law.go:96 load
        apply told_is
        · intro W f hW hE h0 K hK
          have e8 := h0 8 (by kernel_rfl)
          conv at e8 => rhs; whnf
          have e33 : f 33 = _ := hE 0 33 _ rfl (by kernel_rfl)
          clear hE h0
          refine yes_of (want_yes rfl rfl e33) ?_
          obtain ⟨b0, b1, b2, b3, b4, b5⟩ := HK.out W hW
          go_simp; exact hK _ _ (gb_refl _ _) rfl
        -- 10: law.go:96 load
        apply told_is
        · intro W f hW hE h0 K hK
          have e9 := h0 9 (by kernel_rfl)
          conv at e9 => rhs; whnf
          have e33 : f 33 = _ := hE 1 33 _ rfl (by kernel_rfl)
          clear hE h0
          refine yes_of (want_yes rfl rfl e33) ?_
          obtain ⟨b0, b1, b2, b3, b4, b5⟩ := HK.out W hW
          go_simp; exact hK _ _ (gb_refl _ _) rfl
        -- 11: law.go:96 call
        apply told_is
        · intro W f hW hE h0 K hK
          have e34 : f 34 = _ := hE 1 34 _ rfl (by kernel_rfl)
          have e35 : f 35 = _ := hE 0 35 _ rfl (by kernel_rfl)
          have e33 : f 33 = _ := hE 2 33 _ rfl (by kernel_rfl)
          clear hE h0
          refine yes_of (want_yes rfl rfl e33) ?_
          go_simp
          refine (pCmp_any _ _ _ _ _).mono ?_
          rintro e w1' ⟨he, g⟩; rw [CXY.out] at he; subst he
          exact ⟨_, rfl, hK _ _ g.gb rfl⟩
        -- 12: law.go:96 binOp
        apply told_is
        · intro W f hW hE h0 K hK
          have e36 : f 36 = _ := hE 0 36 _ rfl (by kernel_rfl)
          have e33 : f 33 = _ := hE 3 33 _ rfl (by kernel_rfl)
          clear hE h0
          refine yes_of (want_yes rfl rfl e33) ?_
          go_simp; exact hK _ _ (gb_refl _ _) rfl
        -- 13: law.go:96 load
        apply told_is
        · intro W f hW hE h0 K hK
          have e8 := h0 8 (by kernel_rfl)
          conv at e8 => rhs; whnf
          have e33 : f 33 = _ := hE 4 33 _ rfl (by kernel_rfl)
          clear hE h0
          refine yes_of (want_yes rfl rfl e33) ?_
          obtain ⟨b0, b1, b2, b3, b4, b5⟩ := HK.out W hW
          go_simp; exact hK _ _ (gb_refl _ _) rfl
        -- 14: law.go:96 load
        apply told_is
        · intro W f hW hE h0 K hK
          have e9 := h0 9 (by kernel_rfl)
          conv at e9 => rhs; whnf
          have e33 : f 33 = _ := hE 5 33 _ rfl (by kernel_rfl)
          clear hE h0
          refine yes_of (want_yes rfl rfl e33) ?_
          obtain ⟨b0, b1, b2, b3, b4, b5⟩ := HK.out W hW
          go_simp; exact hK _ _ (gb_refl _ _) rfl
        -- 15: law.go:96 binOp
        apply told_is
        · intro W f hW hE h0 K hK
          have e38 : f 38 = _ := hE 1 38 _ rfl (by kernel_rfl)
          have e39 : f 39 = _ := hE 0 39 _ rfl (by kernel_rfl)
          have e33 : f 33 = _ := hE 6 33 _ rfl (by kernel_rfl)
          clear hE h0
          refine yes_of (want_yes rfl rfl e33) ?_
          obtain ⟨hx, hy⟩ := HQ.out
          go_simp; exact hK _ _ (gb_refl _ _) rfl
        -- 16: law.go:96 binOp
        apply told_is
        · intro W f hW hE h0 K hK
          have e37 : f 37 = _ := hE 3 37 _ rfl (by kernel_rfl)
          have e40 : f 40 = _ := hE 0 40 _ rfl (by kernel_rfl)
          have e33 : f 33 = _ := hE 7 33 _ rfl (by kernel_rfl)
          clear hE h0
          refine yes_of (want_yes rfl rfl e33) ?_
          go_simp; exact hK _ _ (gb_refl _ _) rfl
        -- 17: law.go:96 pick
        apply told_is
        · intro W f hW hE h0 K hK
          have e33 : f 33 = _ := hE 8 33 _ rfl (by kernel_rfl)
          have e41 : f 41 = _ := hE 0 41 _ rfl (by kernel_rfl)
          clear hE h0
          refine yes_of (want_free rfl) ?_
          go_simp; exact hK _ _ (gb_refl _ _) rfl
        -- 18: law.go:96 move
        apply told_is
        · intro W f hW hE h0 K hK
          have e42 : f 42 = _ := hE 0 42 _ rfl (by kernel_rfl)
          clear hE h0
          refine yes_of (want_free rfl) ?_
          go_simp; exact hK _ _ (gb_refl _ _) rfl
        -- 19: law.go:96 load
        apply told_is
        · intro W f hW hE h0 K hK
          have e8 := h0 8 (by kernel_rfl)
          conv at e8 => rhs; whnf
          have e43 : f 43 = _ := hE 0 43 _ rfl (by kernel_rfl)
          clear hE h0
          refine yes_of (want_yes rfl rfl e43) ?_
          obtain ⟨b0, b1, b2, b3, b4, b5⟩ := HK.out W hW
          go_simp; exact hK _ _ (gb_refl _ _) rfl
        -- 20: law.go:96 load
        apply told_is
        · intro W f hW hE h0 K hK
          have e9 := h0 9 (by kernel_rfl)
          conv at e9 => rhs; whnf
          have e43 : f 43 = _ := hE 1 43 _ rfl (by kernel_rfl)
          clear hE h0
          refine yes_of (want_yes rfl rfl e43) ?_
          obtain ⟨b0, b1, b2, b3, b4, b5⟩ := HK.out W hW
          go_simp; exact hK _ _ (gb_refl _ _) rfl
        -- 21: law.go:96 call
        apply told_is
        · intro W f hW hE h0 K hK
          have e44 : f 44 = _ := hE 1 44 _ rfl (by kernel_rfl)
          have e45 : f 45 = _ := hE 0 45 _ rfl (by kernel_rfl)
          have e43 : f 43 = _ := hE 2 43 _ rfl (by kernel_rfl)
          clear hE h0
          refine yes_of (want_yes rfl rfl e43) ?_
          go_simp
          refine (pCmp_any _ _ _ _ _).mono ?_
          rintro e w1' ⟨he, g⟩; rw [CXY.out] at he; subst he
          exact ⟨_, rfl, hK _ _ g.gb rfl⟩
        -- 22: law.go:96 binOp
        apply told_is
        · intro W f hW hE h0 K hK
          have e46 : f 46 = _ := hE 0 46 _ rfl (by kernel_rfl)
          have e43 : f 43 = _ := hE 3 43 _ rfl (by kernel_rfl)
          clear hE h0
          refine yes_of (want_yes rfl rfl e43) ?_
          go_simp; exact hK _ _ (gb_refl _ _) rfl
        -- 23: law.go:96 move
        apply told_is
        · intro W f hW hE h0 K hK
          have e47 : f 47 = _ := hE 0 47 _ rfl (by kernel_rfl)
          have e43 : f 43 = _ := hE 4 43 _ rfl (by kernel_rfl)
          clear hE h0
          refine yes_of (want_yes rfl rfl e43) ?_
          go_simp; exact hK _ _ (gb_refl _ _) rfl
        -- 24: law.go:96 load
        apply told_is
        · intro W f hW hE h0 K hK
          have e48 : f 48 = _ := hE 0 48 _ rfl (by kernel_rfl)
          clear hE h0
          refine no_of (want_no rfl rfl e48 rfl) ?_
          exact hK _ _ (gb_refl _ _) rfl
        -- 25: law.go:96 load
        apply told_is
        · intro W f hW hE h0 K hK
          have e48 : f 48 = _ := hE 1 48 _ rfl (by kernel_rfl)
          clear hE h0
          refine no_of (want_no rfl rfl e48 rfl) ?_
          exact hK _ _ (gb_refl _ _) rfl
        -- 26: law.go:96 call
        apply told_is
        · intro W f hW hE h0 K hK
          have e48 : f 48 = _ := hE 2 48 _ rfl (by kernel_rfl)
          clear hE h0
          refine no_of (want_no rfl rfl e48 rfl) ?_
          exact hK _ _ (gb_refl _ _) rfl
        -- 27: law.go:96 binOp
        apply told_is
        · intro W f hW hE h0 K hK
          have e48 : f 48 = _ := hE 3 48 _ rfl (by kernel_rfl)
          clear hE h0
          refine no_of (want_no rfl rfl e48 rfl) ?_
          exact hK _ _ (gb_refl _ _) rfl
        -- 28: law.go:96 pick
        apply told_is
        · intro W f hW hE h0 K hK
          have e48 : f 48 = _ := hE 4 48 _ rfl (by kernel_rfl)
          have e52 : f 52 = _ := hE 0 52 _ rfl (by kernel_rfl)
          have e43 : f 43 = _ := hE 9 43 _ rfl (by kernel_rfl)
          clear hE h0
          refine yes_of (want_yes rfl rfl e43) ?_
          go_simp; exact hK _ _ (gb_refl _ _) rfl
        -- 29: law.go:96 move
        apply told_is
        · intro W f hW hE h0 K hK
          have e53 : f 53 = _ := hE 0 53 _ rfl (by kernel_rfl)
          have e43 : f 43 = _ := hE 10 43 _ rfl (by kernel_rfl)
          clear hE h0
          refine yes_of (want_yes rfl rfl e43) ?_
          go_simp; exact hK _ _ (gb_refl _ _) rfl
        -- 30: law.go:96 load
        apply told_is
        · intro W f hW hE h0 K hK
          have e54 : f 54 = _ := hE 0 54 _ rfl (by kernel_rfl)
          clear hE h0
          refine no_of (want_no rfl rfl e54 rfl) ?_
          exact hK _ _ (gb_refl _ _) rfl
        -- 31: law.go:96 load
        apply told_is
        · intro W f hW hE h0 K hK
          have e54 : f 54 = _ := hE 1 54 _ rfl (by kernel_rfl)
          clear hE h0
          refine no_of (want_no rfl rfl e54 rfl) ?_
          exact hK _ _ (gb_refl _ _) rfl
        -- 32: law.go:96 call
        apply told_is
        · intro W f hW hE h0 K hK
          have e54 : f 54 = _ := hE 2 54 _ rfl (by kernel_rfl)
          clear hE h0
          refine no_of (want_no rfl rfl e54 rfl) ?_
          exact hK _ _ (gb_refl _ _) rfl
        -- 33: law.go:96 binOp
        apply told_is
        · intro W f hW hE h0 K hK
          have e54 : f 54 = _ := hE 3 54 _ rfl (by kernel_rfl)
          clear hE h0
          refine no_of (want_no rfl rfl e54 rfl) ?_
          exact hK _ _ (gb_refl _ _) rfl
        -- 34: law.go:96 pick
        apply told_is
        · intro W f hW hE h0 K hK
          have e54 : f 54 = _ := hE 4 54 _ rfl (by kernel_rfl)
          have e58 : f 58 = _ := hE 0 58 _ rfl (by kernel_rfl)
          have e43 : f 43 = _ := hE 15 43 _ rfl (by kernel_rfl)
          clear hE h0
          refine yes_of (want_yes rfl rfl e43) ?_
          go_simp; exact hK _ _ (gb_refl _ _) rfl
        -- 35: law.go:96 unOp
        apply told_is
        · intro W f hW hE h0 K hK
          have e59 : f 59 = _ := hE 0 59 _ rfl (by kernel_rfl)
          have e43 : f 43 = _ := hE 16 43 _ rfl (by kernel_rfl)
          clear hE h0
          refine yes_of (want_yes rfl rfl e43) ?_
          go_simp; exact hK _ _ (gb_refl _ _) rfl
        -- 36: law.go:96 pick
        apply told_is
        · intro W f hW hE h0 K hK
          have e43 : f 43 = _ := hE 17 43 _ rfl (by kernel_rfl)
          have e60 : f 60 = _ := hE 0 60 _ rfl (by kernel_rfl)
          clear hE h0
          refine yes_of (want_free rfl) ?_
          go_simp; exact hK _ _ (gb_refl _ _) rfl
        -- 37: law.go:96 move
        apply told_is
        · intro W f hW hE h0 K hK
          have e61 : f 61 = _ := hE 0 61 _ rfl (by kernel_rfl)
          clear hE h0
          refine yes_of (want_free rfl) ?_
          go_simp; exact hK _ _ (gb_refl _ _) rfl
        -- 38: law.go:96 call
        apply told_is
        · intro W f hW hE h0 K hK
          have e62 : f 62 = _ := hE 0 62 _ rfl (by kernel_rfl)
          clear hE h0
          refine yes_of (want_yes rfl rfl e62) ?_
          go_simp
          refine (awake8_any _).mono ?_
          rintro e w1' ⟨rfl, g⟩
          exact ⟨_, rfl, hK _ _ g rfl⟩
        -- 39: law.go:96 pick
        apply told_is
        · intro W f hW hE h0 K hK
          have e62 : f 62 = _ := hE 1 62 _ rfl (by kernel_rfl)
          have e63 : f 63 = _ := hE 0 63 _ rfl (by kernel_rfl)
          clear hE h0
          refine yes_of (want_free rfl) ?_
          go_simp; exact hK _ _ (gb_refl _ _) rfl
        -- 40: law.go:96 assign
        apply told_is
        · intro W f hW hE h0 K hK
          have e64 : f 64 = _ := hE 0 64 _ rfl (by kernel_rfl)
          clear hE h0
          refine yes_of (want_free rfl) ?_
          go_simp; exact hK _ _ (gb_refl _ _) rfl
        intro W f hW hA
        simp only [lexIn, Act.put, List.setIfInBounds_toArray, List.set_cons_zero, List.set_cons_succ]
        have e6 : f 6 = _ := hA 0 (some 6) _ rfl
        rw [e6]
        clear hA
        go_wp2_with fail
        go_ret
        exact ⟨rfl, gb_below (gb_none G hW) (Nat.le_refl _)⟩
      · skip
        have CXY : Hid (cmpD x0 y0 x1 y1 = 1) := cmp_gt h1 h2
        have CYX : Hid (cmpD x1 y1 x0 y0 = -1) := by have h := cmp_flip x0 y0 x1 y1; rw [CXY.out] at h; exact h
        have HQ : Hid (¬ (x0 = x1 ∧ y0 = y1)) := by show ¬ _; unfold Lt at h1; omega
        clear h1 h2
        apply wp_region_told (le := fun a b => a.grownBy b none) [isV _, isV _, isV _, isV _, isV _, isV _, isV _, isV _, isV _, isV _, isV _, isV _, isV _, isV _, isV _, isV _, isV _, isV _, isV _, isV _, isV _, isV _, isV _, isV _, isV _, isV _, isV _, isV _, isV _, isV _, isV _, isV _, isV _, isV _, isV _, isV _, isV _, isV _, isV _, isV _, isV _]
        case hn => rfl
        case hm => kernel_rfl
        case hB => kernel_rfl
        case ht => exact fun _ _ _ h k => gb_none h k
        case hw => exact gb_drew (gb_refl _ _)
        -- 0: law.go:96 load
        apply told_is
        · intro W f hW hE h0 K hK
          have e8 := h0 8 (by kernel_rfl)
          conv at e8 => rhs; whnf
          clear hE h0
          refine yes_of (want_free rfl) ?_
          obtain ⟨b0, b1, b2, b3, b4, b5⟩ := HK.out W hW
          go_simp; exact hK _ _ (gb_refl _ _) rfl
        -- 1: law.go:96 load
        apply told_is
        · intro W f hW hE h0 K hK
          have e9 := h0 9 (by kernel_rfl)
          conv at e9 => rhs; whnf
          clear hE h0
          refine yes_of (want_free rfl) ?_
          obtain ⟨b0, b1, b2, b3, b4, b5⟩ := HK.out W hW
          go_simp; exact hK _ _ (gb_refl _ _) rfl
        -- 2: law.go:96 call
        apply told_is
        · intro W f hW hE h0 K hK
          have e25 : f 25 = _ := hE 1 25 _ rfl (by kernel_rfl)
          have e26 : f 26 = _ := hE 0 26 _ rfl (by kernel_rfl)
          clear hE h0
          refine yes_of (want_free rfl) ?_
          go_simp
          refine (pCmp_any _ _ _ _ _).mono ?_
          rintro e w1' ⟨he, g⟩; rw [CXY.out] at he; subst he
          exact ⟨_, rfl, hK _ _ g.gb rfl⟩
        -- 3: law.go:96 load
        apply told_is
        · intro W f hW hE h0 K hK
          have e9 := h0 9 (by kernel_rfl)
          conv at e9 => rhs; whnf
          clear hE h0
          refine yes_of (want_free rfl) ?_
          obtain ⟨b0, b1, b2, b3, b4, b5⟩ := HK.out W hW
          go_simp; exact hK _ _ (gb_refl _ _) rfl
        -- 4: law.go:96 load
        apply told_is
        · intro W f hW hE h0 K hK
          have e8 := h0 8 (by kernel_rfl)
          conv at e8 => rhs; whnf
          clear hE h0
          refine yes_of (want_free rfl) ?_
          obtain ⟨b0, b1, b2, b3, b4, b5⟩ := HK.out W hW
          go_simp; exact hK _ _ (gb_refl _ _) rfl
        -- 5: law.go:96 call
        apply told_is
        · intro W f hW hE h0 K hK
          have e28 : f 28 = _ := hE 1 28 _ rfl (by kernel_rfl)
          have e29 : f 29 = _ := hE 0 29 _ rfl (by kernel_rfl)
          clear hE h0
          refine yes_of (want_free rfl) ?_
          go_simp
          refine (pCmp_any _ _ _ _ _).mono ?_
          rintro e w1' ⟨he, g⟩; rw [CYX.out] at he; subst he
          exact ⟨_, rfl, hK _ _ g.gb rfl⟩
        -- 6: law.go:96 unOp
        apply told_is
        · intro W f hW hE h0 K hK
          have e30 : f 30 = _ := hE 0 30 _ rfl (by kernel_rfl)
          clear hE h0
          refine yes_of (want_free rfl) ?_
          go_simp; exact hK _ _ (gb_refl _ _) rfl
        -- 7: law.go:96 binOp
        apply told_is
        · intro W f hW hE h0 K hK
          have e27 : f 27 = _ := hE 4 27 _ rfl (by kernel_rfl)
          have e31 : f 31 = _ := hE 0 31 _ rfl (by kernel_rfl)
          clear hE h0
          refine yes_of (want_free rfl) ?_
          go_simp; exact hK _ _ (gb_refl _ _) rfl
        -- 8: law.go:96 move
        apply told_is
        · intro W f hW hE h0 K hK
          have e32 : f 32 = _ := hE 0 32 _ rfl (by kernel_rfl)
          clear hE h0
          refine yes_of (want_free rfl) ?_
          go_simp; exact hK _ _ (gb_refl _ _) rfl
        -- 9: law.go:96 load
        apply told_is
        · intro W f hW hE h0 K hK
          have e8 := h0 8 (by kernel_rfl)
          conv at e8 => rhs; whnf
          have e33 : f 33 = _ := hE 0 33 _ rfl (by kernel_rfl)
          clear hE h0
          refine yes_of (want_yes rfl rfl e33) ?_
          obtain ⟨b0, b1, b2, b3, b4, b5⟩ := HK.out W hW
          go_simp; exact hK _ _ (gb_refl _ _) rfl
        -- 10: law.go:96 load
        apply told_is
        · intro W f hW hE h0 K hK
          have e9 := h0 9 (by kernel_rfl)
          conv at e9 => rhs; whnf
          have e33 : f 33 = _ := hE 1 33 _ rfl (by kernel_rfl)
          clear hE h0
          refine yes_of (want_yes rfl rfl e33) ?_
          obtain ⟨b0, b1, b2, b3, b4, b5⟩ := HK.out W hW
          go_simp; exact hK _ _ (gb_refl _ _) rfl
        -- 11: law.go:96 call
        apply told_is
        · intro W f hW hE h0 K hK
          have e34 : f 34 = _ := hE 1 34 _ rfl (by kernel_rfl)
          have e35 : f 35 = _ := hE 0 35 _ rfl (by kernel_rfl)
          have e33 : f 33 = _ := hE 2 33 _ rfl (by kernel_rfl)
          clear hE h0
          refine yes_of (want_yes rfl rfl e33) ?_
          go_simp
          refine (pCmp_any _ _ _ _ _).mono ?_
          rintro e w1' ⟨he, g⟩; rw [CXY.out] at he; subst he
          exact ⟨_, rfl, hK _ _ g.gb rfl⟩
        -- 12: law.go:96 binOp
        apply told_is
        · intro W f hW hE h0 K hK
          have e36 : f 36 = _ := hE 0 36 _ rfl (by kernel_rfl)
          have e33 : f 33 = _ := hE 3 33 _ rfl (by kernel_rfl)
          clear hE h0
          refine yes_of (want_yes rfl rfl e33) ?_
          go_simp; exact hK _ _ (gb_refl _ _) rfl
        -- 13: law.go:96 load
        apply told_is
        · intro W f hW hE h0 K hK
          have e8 := h0 8 (by kernel_rfl)
          conv at e8 => rhs; whnf
          have e33 : f 33 = _ := hE 4 33 _ rfl (by kernel_rfl)
          clear hE h0
          refine yes_of (want_yes rfl rfl e33) ?_
          obtain ⟨b0, b1, b2, b3, b4, b5⟩ := HK.out W hW
          go_simp; exact hK _ _ (gb_refl _ _) rfl
        -- 14: law.go:96 load
        apply told_is
        · intro W f hW hE h0 K hK
          have e9 := h0 9 (by kernel_rfl)
          conv at e9 => rhs; whnf
          have e33 : f 33 = _ := hE 5 33 _ rfl (by kernel_rfl)
          clear hE h0
          refine yes_of (want_yes rfl rfl e33) ?_
          obtain ⟨b0, b1, b2, b3, b4, b5⟩ := HK.out W hW
          go_simp; exact hK _ _ (gb_refl _ _) rfl
        -- 15: law.go:96 binOp
        apply told_is
        · intro W f hW hE h0 K hK
          have e38 : f 38 = _ := hE 1 38 _ rfl (by kernel_rfl)
          have e39 : f 39 = _ := hE 0 39 _ rfl (by kernel_rfl)
          have e33 : f 33 = _ := hE 6 33 _ rfl (by kernel_rfl)
          clear hE h0
          refine yes_of (want_yes rfl rfl e33) ?_
          have hne := HQ.out
          by_cases hx : x0 = x1
          · have hy : ¬ y0 = y1 := fun h => hne ⟨hx, h⟩
            clear hne
            go_simp; exact hK _ _ (gb_refl _ _) rfl
          clear hne
          go_simp; exact hK _ _ (gb_refl _ _) rfl
        -- 16: law.go:96 binOp
        apply told_is
        · intro W f hW hE h0 K hK
          have e37 : f 37 = _ := hE 3 37 _ rfl (by kernel_rfl)
          have e40 : f 40 = _ := hE 0 40 _ rfl (by kernel_rfl)
          have e33 : f 33 = _ := hE 7 33 _ rfl (by kernel_rfl)
          clear hE h0
          refine yes_of (want_yes rfl rfl e33) ?_
          go_simp; exact hK _ _ (gb_refl _ _) rfl
        -- 17: law.go:96 pick
        apply told_is
        · intro W f hW hE h0 K hK
          have e33 : f 33 = _ := hE 8 33 _ rfl (by kernel_rfl)
          have e41 : f 41 = _ := hE 0 41 _ rfl (by kernel_rfl)
          clear hE h0
          refine yes_of (want_free rfl) ?_
          go_simp; exact hK _ _ (gb_refl _ _) rfl
        -- 18: law.go:96 move
        apply told_is
        · intro W f hW hE h0 K hK
          have e42 : f 42 = _ := hE 0 42 _ rfl (by kernel_rfl)
          clear hE h0
          refine yes_of (want_free rfl) ?_
          go_simp; exact hK _ _ (gb_refl _ _) rfl
        -- 19: law.go:96 load
        apply told_is
        · intro W f hW hE h0 K hK
          have e8 := h0 8 (by kernel_rfl)
          conv at e8 => rhs; whnf
          have e43 : f 43 = _ := hE 0 43 _ rfl (by kernel_rfl)
          clear hE h0
          refine yes_of (want_yes rfl rfl e43) ?_
          obtain ⟨b0, b1, b2, b3, b4, b5⟩ := HK.out W hW
          go_simp; exact hK _ _ (gb_refl _ _) rfl
        -- 20: law.go:96 load
        apply told_is
        · intro W f hW hE h0 K hK
          have e9 := h0 9 (by kernel_rfl)
          conv at e9 => rhs; whnf
          have e43 : f 43 = _ := hE 1 43 _ rfl (by kernel_rfl)
          clear hE h0
          refine yes_of (want_yes rfl rfl e43) ?_
          obtain ⟨b0, b1, b2, b3, b4, b5⟩ := HK.out W hW
          go_simp; exact hK _ _ (gb_refl _ _) rfl
        -- 21: law.go:96 call
        apply told_is
        · intro W f hW hE h0 K hK
          have e44 : f 44 = _ := hE 1 44 _ rfl (by kernel_rfl)
          have e45 : f 45 = _ := hE 0 45 _ rfl (by kernel_rfl)
          have e43 : f 43 = _ := hE 2 43 _ rfl (by kernel_rfl)
          clear hE h0
          refine yes_of (want_yes rfl rfl e43) ?_
          go_simp
          refine (pCmp_any _ _ _ _ _).mono ?_
          rintro e w1' ⟨he, g⟩; rw [CXY.out] at he; subst he
          exact ⟨_, rfl, hK _ _ g.gb rfl⟩
        -- 22: law.go:96 binOp
        apply told_is
        · intro W f hW hE h0 K hK
          have e46 : f 46 = _ := hE 0 46 _ rfl (by kernel_rfl)
          have e43 : f 43 = _ := hE 3 43 _ rfl (by kernel_rfl)
          clear hE h0
          refine yes_of (want_yes rfl rfl e43) ?_
          go_simp; exact hK _ _ (gb_refl _ _) rfl
        -- 23: law.go:96 move
        apply told_is
        · intro W f hW hE h0 K hK
          have e47 : f 47 = _ := hE 0 47 _ rfl (by kernel_rfl)
          have e43 : f 43 = _ := hE 4 43 _ rfl (by kernel_rfl)
          clear hE h0
          refine yes_of (want_yes rfl rfl e43) ?_
          go_simp; exact hK _ _ (gb_refl _ _) rfl
        -- 24: law.go:96 load
        apply told_is
        · intro W f hW hE h0 K hK
          have e48 : f 48 = _ := hE 0 48 _ rfl (by kernel_rfl)
          clear hE h0
          refine no_of (want_no rfl rfl e48 rfl) ?_
          exact hK _ _ (gb_refl _ _) rfl
        -- 25: law.go:96 load
        apply told_is
        · intro W f hW hE h0 K hK
          have e48 : f 48 = _ := hE 1 48 _ rfl (by kernel_rfl)
          clear hE h0
          refine no_of (want_no rfl rfl e48 rfl) ?_
          exact hK _ _ (gb_refl _ _) rfl
        -- 26: law.go:96 call
        apply told_is
        · intro W f hW hE h0 K hK
          have e48 : f 48 = _ := hE 2 48 _ rfl (by kernel_rfl)
          clear hE h0
          refine no_of (want_no rfl rfl e48 rfl) ?_
          exact hK _ _ (gb_refl _ _) rfl
        -- 27: law.go:96 binOp
        apply told_is
        · intro W f hW hE h0 K hK
          have e48 : f 48 = _ := hE 3 48 _ rfl (by kernel_rfl)
          clear hE h0
          refine no_of (want_no rfl rfl e48 rfl) ?_
          exact hK _ _ (gb_refl _ _) rfl
        -- 28: law.go:96 pick
        apply told_is
        · intro W f hW hE h0 K hK
          have e48 : f 48 = _ := hE 4 48 _ rfl (by kernel_rfl)
          have e52 : f 52 = _ := hE 0 52 _ rfl (by kernel_rfl)
          have e43 : f 43 = _ := hE 9 43 _ rfl (by kernel_rfl)
          clear hE h0
          refine yes_of (want_yes rfl rfl e43) ?_
          go_simp; exact hK _ _ (gb_refl _ _) rfl
        -- 29: law.go:96 move
        apply told_is
        · intro W f hW hE h0 K hK
          have e53 : f 53 = _ := hE 0 53 _ rfl (by kernel_rfl)
          have e43 : f 43 = _ := hE 10 43 _ rfl (by kernel_rfl)
          clear hE h0
          refine yes_of (want_yes rfl rfl e43) ?_
          go_simp; exact hK _ _ (gb_refl _ _) rfl
        -- 30: law.go:96 load
        apply told_is
        · intro W f hW hE h0 K hK
          have e54 : f 54 = _ := hE 0 54 _ rfl (by kernel_rfl)
          clear hE h0
          refine no_of (want_no rfl rfl e54 rfl) ?_
          exact hK _ _ (gb_refl _ _) rfl
        -- 31: law.go:96 load
        apply told_is
        · intro W f hW hE h0 K hK
          have e54 : f 54 = _ := hE 1 54 _ rfl (by kernel_rfl)
          clear hE h0
          refine no_of (want_no rfl rfl e54 rfl) ?_
          exact hK _ _ (gb_refl _ _) rfl
        -- 32: law.go:96 call
        apply told_is
        · intro W f hW hE h0 K hK
          have e54 : f 54 = _ := hE 2 54 _ rfl (by kernel_rfl)
          clear hE h0
          refine no_of (want_no rfl rfl e54 rfl) ?_
          exact hK _ _ (gb_refl _ _) rfl
        -- 33: law.go:96 binOp
        apply told_is
        · intro W f hW hE h0 K hK
          have e54 : f 54 = _ := hE 3 54 _ rfl (by kernel_rfl)
          clear hE h0
          refine no_of (want_no rfl rfl e54 rfl) ?_
          exact hK _ _ (gb_refl _ _) rfl
        -- 34: law.go:96 pick
        apply told_is
        · intro W f hW hE h0 K hK
          have e54 : f 54 = _ := hE 4 54 _ rfl (by kernel_rfl)
          have e58 : f 58 = _ := hE 0 58 _ rfl (by kernel_rfl)
          have e43 : f 43 = _ := hE 15 43 _ rfl (by kernel_rfl)
          clear hE h0
          refine yes_of (want_yes rfl rfl e43) ?_
          go_simp; exact hK _ _ (gb_refl _ _) rfl
        -- 35: law.go:96 unOp
        apply told_is
        · intro W f hW hE h0 K hK
          have e59 : f 59 = _ := hE 0 59 _ rfl (by kernel_rfl)
          have e43 : f 43 = _ := hE 16 43 _ rfl (by kernel_rfl)
          clear hE h0
          refine yes_of (want_yes rfl rfl e43) ?_
          go_simp; exact hK _ _ (gb_refl _ _) rfl
        -- 36: law.go:96 pick
        apply told_is
        · intro W f hW hE h0 K hK
          have e43 : f 43 = _ := hE 17 43 _ rfl (by kernel_rfl)
          have e60 : f 60 = _ := hE 0 60 _ rfl (by kernel_rfl)
          clear hE h0
          refine yes_of (want_free rfl) ?_
          go_simp; exact hK _ _ (gb_refl _ _) rfl
        -- 37: law.go:96 move
        apply told_is
        · intro W f hW hE h0 K hK
          have e61 : f 61 = _ := hE 0 61 _ rfl (by kernel_rfl)
          clear hE h0
          refine yes_of (want_free rfl) ?_
          go_simp; exact hK _ _ (gb_refl _ _) rfl
        -- 38: law.go:96 call
        apply told_is
        · intro W f hW hE h0 K hK
          have e62 : f 62 = _ := hE 0 62 _ rfl (by kernel_rfl)
          clear hE h0
          refine yes_of (want_yes rfl rfl e62) ?_
          go_simp
          refine (awake8_any _).mono ?_
          rintro e w1' ⟨rfl, g⟩
          exact ⟨_, rfl, hK _ _ g rfl⟩
        -- 39: law.go:96 pick
        apply told_is
        · intro W f hW hE h0 K hK
          have e62 : f 62 = _ := hE 1 62 _ rfl (by kernel_rfl)
          have e63 : f 63 = _ := hE 0 63 _ rfl (by kernel_rfl)
          clear hE h0
          refine yes_of (want_free rfl) ?_
          go_simp; exact hK _ _ (gb_refl _ _) rfl
        -- 40: law.go:96 assign
        apply told_is
        · intro W f hW hE h0 K hK
          have e64 : f 64 = _ := hE 0 64 _ rfl (by kernel_rfl)
          clear hE h0
          refine yes_of (want_free rfl) ?_
          go_simp; exact hK _ _ (gb_refl _ _) rfl
        intro W f hW hA
        simp only [lexIn, Act.put, List.setIfInBounds_toArray, List.set_cons_zero, List.set_cons_succ]
        have e6 : f 6 = _ := hA 0 (some 6) _ rfl
        rw [e6]
        clear hA
        go_wp2_with fail
        go_ret
        exact ⟨rfl, gb_below (gb_none G hW) (Nat.le_refl _)⟩

set_option maxRecDepth 100000 in
theorem lifted (os : Os) (started : os.Started) (H : Type) (enc : TypeId × Value → H) :
    ReturnsInHanded {} Try.checked os 6 .any (Rows.factsOrderSpec.pre6 enc Try.prog Try.f6 Rows.factsOrderRow.domain false) (Rows.factsOrderSpec.post enc Try.prog Try.f6 false true false false) := by
  refine returnsInHanded_of_change (C := Try.checked) own started (by kernel_rfl) Try.func6
    (ChangeSpec.witness6 (enc := enc) (C := Try.checked) false ⟨#[], #[.int .u8 0, .int .u8 0, .int .u8 0], []⟩ 8 (by kernel_rfl) (by kernel_rfl) (by kernel_rfl) (by kernel_rfl)) ?_
  intro W base args ds gs before hval0 hW hcnd _
  have hval : ∀ (j : Nat) t v, Try.f6.params[j]? = some t → args[j]? = some v → Value.okWide Try.prog W .any base t v := hval0
  have hW' := hW
  obtain ⟨p, q, hA0, hV, rfl, hfz, hnd⟩ := hW
  have hA : DataW.TrodAll enc Try.prog W 0 (fun _ => true) true Try.f6.params.toList args.toList ds p := hA0
  rw [Try.params6] at hA hval
  obtain ⟨v0, vs0, d0, ds0, p0, q0, hargs, rfl, rfl, h0, r0⟩ := trodAll_cons hA
  obtain ⟨v1, vs1, d1, ds1, p1, q1, rfl, rfl, rfl, h1, r1⟩ := trodAll_cons r0
  obtain ⟨v2, vs2, d2, ds2, p2, q2, rfl, rfl, rfl, h2, r2⟩ := trodAll_cons r1
  obtain ⟨rfl, rfl, rfl⟩ := trodAll_nil r2
  obtain rfl : args = #[v0, v1, v2] := by cases args; simp_all
  obtain ⟨rfl, rfl⟩ := trodVars_none hV
  obtain ⟨a0, rfl, rfl, rfl, w0⟩ := open_int Try.underlying5 (hval 0 5 v0 rfl rfl) h0
  obtain ⟨a1, rfl, rfl, rfl, w1⟩ := open_int Try.underlying5 (hval 1 5 v1 rfl rfl) h1
  obtain ⟨a2, rfl, rfl, rfl, w2⟩ := open_int Try.underlying5 (hval 2 5 v2 rfl rfl) h2
  clear hA0 hval0
  refine (walk a0 a1 a2 W w0 w1 w2).mono fun e W' ⟨he, bel⟩ => ?_
  subst he
  exact ⟨_, rfl, _, _, _, [], _, [], hW', trodAll_mk1 (shut_bool Try.underlying4 _), (trodAll_cons_mk (shut_int Try.underlying5 w0) (trodAll_cons_mk (shut_int Try.underlying5 w1) (trodAll_cons_mk (shut_int Try.underlying5 w2) trodAll_mk0))), rfl, bel.frame _, fun h => by cases h⟩

theorem over : Rows.factsOrderRow.holds Try.pinned (OpenSpec.ofChange Rows.factsOrderSpec) :=
  OpenClaim.holds_of_wide 6 Try.f6 rfl rfl rfl rfl rfl rfl rfl ⟨rfl, rfl, rfl, rfl, rfl⟩ rfl rfl rfl rfl rfl (by kernel_rfl) Try.func6 (by kernel_rfl)
    (of_decide_eq_true (by kernel_rfl)) (by unfold Func.isWrapper; first | (rw [if_pos (by decide +kernel)]; kernel_rfl) | (rw [if_neg (by decide +kernel)]; exact ⟨rfl, rfl⟩))
    (fun os started H enc _ => lifted os started H enc)

theorem proved : Rows.FactsOrderSaid := over
#print axioms proved
end Go.Proofs.Ytgmgkcackkmgfaa.factsOrder
