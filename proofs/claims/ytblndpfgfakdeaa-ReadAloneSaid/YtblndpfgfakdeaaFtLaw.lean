/- What the laws of stage 8 call: awake. -/
import Derived.Test.YtblndpfgfakdeaaFtMay
import Derived.Test.YtblndpfgfakdeaaFtSame
import Derived.Test.YtblndpfgfakdeaaFtFindW
import Derived.Test.YtblndpfgfakdeaaDtRefs
import Derived.Test.YtblndpfgfakdeaaDtNl
namespace Go.Proofs.Ytblndpfgfakdeaa.Dt
open Go Go.RowKit Go.Proofs.Ytblndpfgfakdeaa.Mm Go.Proofs.Ytblndpfgfakdeaa.Td

theorem fl_new1 (w : World) (x : Fc) (t : TypeId) : FL (w.alloc (.cells #[.int .i64 x.d, .int .i64 x.n, .string x.key, .int .i64 x.kind, .string x.item, .int .i64 x.v] t)) (some ⟨w.heap.size, 0, none⟩) 1 [x] := by
  refine ⟨rfl, fun _ => ⟨w.heap.size, 0, rfl, by rw [World.size_alloc]; omega, fun i y hy => ?_⟩⟩
  have hi : i = 0 := by have := (List.getElem?_eq_some_iff.1 hy).1; simp at this; omega
  subst hi
  obtain rfl : x = y := by simpa using hy
  simpa using box6 w x t
theorem rl_one (w : World) (x : Rn) (t : TypeId) : RL (w.alloc (.cells #[.int .i64 x.d, .int .i64 x.f, .int .i64 x.t] t)) (some ⟨w.heap.size, 0, none⟩) 1 [x] := rl_new1 w x.d x.f x.t t
/-- The laws' example. -/
def wkF : Fc := ⟨0, 1, ⟨#[107]⟩, 1, ⟨#[118]⟩, 0⟩
def wkS : St := ⟨[⟨0, 1, 1⟩], [wkF]⟩
theorem wk_may : MayS wkS := by
  refine ⟨may_one ?_, by decide, fun f hf => ?_, List.pairwise_singleton _ _⟩
  · unfold Ok; decide
  · rw [List.mem_singleton.1 hf]
    refine ⟨by unfold RightF wkF; decide, ⟨0, 1, 1⟩, by simp [wkS], ?_⟩
    unfold In wkF; decide
theorem wk_find : findL wkS.facts ⟨#[107]⟩ 1 = [wkF] := by
  unfold findL wkS
  have h : Fits wkF ⟨#[107]⟩ 1 := ⟨rfl, .inr rfl⟩
  simp [h]
/-- Where the example lies. -/
def WkAt (h : Nat) (w W : World) : Prop := w.grownBy W none ∧ SL W (some ⟨h, 0, none⟩) 1 (some ⟨h + 1, 0, none⟩) 1 wkS ∧ W.cell? ⟨h + 2, 0, none⟩ = some (.slice (some ⟨h, 0, none⟩) 1 1) ∧ W.cell? ⟨h + 2, 1, none⟩ = some (.slice (some ⟨h + 1, 0, none⟩) 1 1) ∧ h + 2 < W.heap.size
theorem wk_at (w : World) : WkAt w.heap.size w (((w.alloc (.cells #[.int .i64 0, .int .i64 1, .int .i64 1] 56)).alloc (.cells #[.int .i64 0, .int .i64 1, .string ⟨#[107]⟩, .int .i64 1, .string ⟨#[118]⟩, .int .i64 0] 37)).alloc (.cells #[.slice (some ⟨w.heap.size, 0, none⟩) 1 1, .slice (some ⟨w.heap.size + 1, 0, none⟩) 1 1] 26)) := by
  have h1 := rl_one w ⟨0, 1, 1⟩ 56
  have h2 := fl_new1 (w.alloc (.cells #[.int .i64 0, .int .i64 1, .int .i64 1] 56)) wkF 37
  have h3 := Row.new ((w.alloc (.cells #[.int .i64 0, .int .i64 1, .int .i64 1] 56)).alloc (.cells #[.int .i64 0, .int .i64 1, .string ⟨#[107]⟩, .int .i64 1, .string ⟨#[118]⟩, .int .i64 0] 37)) 26 #[.slice (some ⟨w.heap.size, 0, none⟩) 1 1, .slice (some ⟨w.heap.size + 1, 0, none⟩) 1 1]
  rw [World.size_alloc] at h2
  rw [World.size_alloc, World.size_alloc] at h3
  refine ⟨gb_alloc (gb_alloc (gb_alloc (gb_refl _ _) _) _) _, ⟨(h1.keep (gb_alloc (gb_alloc (gb_refl _ _) _) _)), h2.keep (gb_alloc (gb_refl _ _) _)⟩, h3.at_ (i := 0) rfl, h3.at_ (i := 1) rfl, ?_⟩
  rw [World.size_alloc, World.size_alloc, World.size_alloc]; omega
theorem WkAt.next {h : Nat} {w W W' : World} (k : WkAt h w W) (g : W.grownBy W' none) : WkAt h w W' := by
  obtain ⟨k1, k2, k3, k4, k5⟩ := k
  exact ⟨gb_none k1 g, k2.keep g, (World.cell?_of_block (a := ⟨h + 2, 0, none⟩) (g.block _ k5 (by simp))).trans k3, (World.cell?_of_block (a := ⟨h + 2, 1, none⟩) (g.block _ k5 (by simp))).trans k4, Nat.lt_of_lt_of_le k5 g.size⟩
set_option maxHeartbeats 8000000 in
set_option maxRecDepth 100000 in
theorem awake8_any (w : World) : Calls Try.prog 22 #[] w fun e w' => e = .returned (.bool true) ∧ w.grownBy w' none := by
  have H0 := Lib.hid (wk_at w)
  go_enter Try.func22, Try.ntmps22
  go_upto_region 2 with fail
  refine Td.named (WkAt w.heap.size w) H0.out ?_
  intro W1 hW1
  clear H0
  generalize w.heap.size = h at *
  have HW1 := Lib.hid hW1
  obtain ⟨_, _, c0, c1, _⟩ := hW1
  have F1 : Hid (∀ e w', Facts (findL [] ⟨#[107]⟩ 0) W1 e w' → ∃ A c, e = .returned (.slice A 0 c) ∧ WkAt h w w') := fun e w' ⟨A, c, he, hf, hl, hg⟩ => ⟨A, c, he, HW1.out.next hg⟩
  have F2 : Hid (∀ W, WkAt h w W → ∀ e w', Facts (findL wkS.facts ⟨#[107]⟩ 1) W e w' → ∃ A c, e = .returned (.slice A 1 c) ∧ WkAt h w w') := fun W hW e w' ⟨A, c, he, hf, hl, hg⟩ => ⟨A, c, by rw [he, wk_find]; rfl, hW.next hg⟩
  go_wp2_with (go_at_call 18; refine (pFind_any none none 0 0 0 0 ⟨[], []⟩ ⟨#[107]⟩ 0 W1 ⟨RL.none _ _, FL.none _ _⟩ (by omega)).mono ?_; intro e w2 hh; obtain ⟨A2, k2, he, hW2⟩ := F1.out e w2 hh; clear hh; subst he; have HW2 := Lib.hid hW2; obtain ⟨_, _, d0, d1, _⟩ := hW2)
  go_wp2_with (go_at_call 16; refine (pMayS_any (some ⟨h, 0, none⟩) (some ⟨h + 1, 0, none⟩) 1 1 1 1 wkS w2 HW2.out.2.1 (by omega) (by omega)).mono ?_; intro e w3 hh; obtain ⟨he, g3⟩ := hh.yes wk_may; clear hh; subst he; have HW3 := Lib.hid (HW2.out.next g3); clear g3; obtain ⟨_, _, e0, e1, _⟩ := HW3.out)
  go_wp2_with (go_at_call 18; refine (pFind_any (some ⟨h, 0, none⟩) (some ⟨h + 1, 0, none⟩) 1 1 1 1 wkS ⟨#[107]⟩ 1 w3 HW3.out.2.1 (by omega)).mono ?_; intro e w4 hh; obtain ⟨A4, k4, he, hW4⟩ := F2.out w3 HW3.out e w4 hh; clear hh; subst he; have HW4 := Lib.hid hW4; obtain ⟨_, _, f0, f1, _⟩ := hW4)
  go_wp2_with (go_at_call 20; refine (pSame_any (some ⟨h, 0, none⟩) (some ⟨h + 1, 0, none⟩) (some ⟨h, 0, none⟩) (some ⟨h + 1, 0, none⟩) 1 1 1 1 1 1 1 1 wkS wkS w4 HW4.out.2.1 HW4.out.2.1 (by omega) (by omega) (by omega) (by omega)).mono ?_; intro e w5 hh; obtain ⟨he, g5⟩ := hh.yes rfl; clear hh; subst he)
  go_ret
  exact ⟨rfl, gb_none HW4.out.1 g5⟩
theorem cmp_flip (d n e m : Int) : cmpD e m d n = - cmpD d n e m := by
  by_cases h1 : Lt d n e m
  · have h2 : ¬ Lt e m d n := by unfold Lt at *; omega
    rw [cmp_lt h1, cmp_gt h2 (by unfold Lt at h1; omega)]; rfl
  · by_cases h2 : d = e ∧ n = m
    · rw [cmp_is h1 h2, cmp_is (by unfold Lt at *; omega) ⟨h2.1.symm, h2.2.symm⟩]; rfl
    · rw [cmp_gt h1 h2, cmp_lt (by unfold Lt at *; omega)]
theorem nl_three (w : World) (x y z : Int) (t : TypeId) (hx : 0 ≤ x ∧ x ≤ 255) (hy : 0 ≤ y ∧ y ≤ 255) (hz : 0 ≤ z ∧ z ≤ 255) : NL (w.alloc (.cells #[.int .u8 x, .int .u8 y, .int .u8 z] t)) (some ⟨w.heap.size, 0, none⟩) 3 [x, y, z] := by
  have hr := Row.new w t #[.int .u8 x, .int .u8 y, .int .u8 z]
  refine ⟨rfl, fun _ => ⟨w.heap.size, 0, rfl, hr.lt, fun i r h => ?_⟩, fun q hq => ?_⟩
  · have hi : i = 0 ∨ i = 1 ∨ i = 2 := by have := (List.getElem?_eq_some_iff.1 h).1; simp at this; omega
    rcases hi with rfl | rfl | rfl
    · obtain rfl : x = r := by simpa using h
      exact hr.at_ (i := 0) rfl
    · obtain rfl : y = r := by simpa using h
      exact hr.at_ (i := 1) rfl
    · obtain rfl : z = r := by simpa using h
      exact hr.at_ (i := 2) rfl
  · simp only [List.mem_cons, List.not_mem_nil, or_false] at hq
    rcases hq with rfl | rfl | rfl <;> assumption
end Go.Proofs.Ytblndpfgfakdeaa.Dt
