/- cmp.Compare, cmp.Or of two. -/
import Derived.Test.YtblndpfgfakdeaaDtLeaf
import Derived.Deep.DeepCutAuto
namespace Go.Proofs.Ytblndpfgfakdeaa.Dt
open Go Go.RowKit Go.Proofs.Ytblndpfgfakdeaa.Mm Go.Proofs.Ytblndpfgfakdeaa.Td

def cmpI (x y : Int) : Int := if x < y then -1 else if y < x then 1 else 0
set_option maxHeartbeats 4000000 in
theorem nan_any (x : Int) (w : World) : Calls Try.prog 73 #[.int .i64 x] w fun e w' => e = .returned (.bool false) ∧ w' = w := by
  have h : (x != x) = false := by simp
  go_enter Try.func73, Try.ntmps73
  go_wp2_with fail
  go_ret
  exact ⟨rfl, rfl⟩
set_option maxHeartbeats 4000000 in
set_option maxRecDepth 100000 in
theorem compare_any (x y : Int) (w : World) : Calls Try.prog 58 #[.int .i64 x, .int .i64 y] w fun e w' => e = .returned (.int .i64 (cmpI x y)) ∧ w' = w := by
  have hx := fun W => nan_any x W
  have hy := fun W => nan_any y W
  go_enter Try.func58, Try.ntmps58
  by_cases h1 : x < y
  · have d1 : decide (x < y) = true := decide_eq_true h1
    have hE : cmpI x y = -1 := if_pos h1
    rw [hE]
    clear hE h1
    go_wp2_with (first | (refine (hx _).mono ?_; rintro e w1 ⟨rfl, rfl⟩) | (refine (hy _).mono ?_; rintro e w1 ⟨rfl, rfl⟩))
    go_ret
    exact ⟨rfl, rfl⟩
  · have d1 : decide (x < y) = false := decide_eq_false h1
    by_cases h2 : y < x
    · have d2 : decide (y < x) = true := decide_eq_true h2
      have hE : cmpI x y = 1 := by unfold cmpI; rw [if_neg h1, if_pos h2]
      rw [hE]
      clear hE h1 h2
      go_wp2_with (first | (refine (hx _).mono ?_; rintro e w1 ⟨rfl, rfl⟩) | (refine (hy _).mono ?_; rintro e w1 ⟨rfl, rfl⟩))
      go_ret
      exact ⟨rfl, rfl⟩
    · have d2 : decide (y < x) = false := decide_eq_false h2
      have hE : cmpI x y = 0 := by unfold cmpI; rw [if_neg h1, if_neg h2]
      rw [hE]
      clear hE h1 h2
      go_wp2_with (first | (refine (hx _).mono ?_; rintro e w1 ⟨rfl, rfl⟩) | (refine (hy _).mono ?_; rintro e w1 ⟨rfl, rfl⟩))
      go_ret
      exact ⟨rfl, rfl⟩
def orI (x y : Int) : Int := if x = 0 then y else x
set_option maxHeartbeats 4000000 in
set_option maxRecDepth 100000 in
theorem or_any (g : Nat) (x y : Int) (w : World) (hr : Row w g 3 #[.int .i64 x, .int .i64 y]) : Calls Try.prog 57 #[.slice (some ⟨g, 0, none⟩) 2 2] w fun e w' => e = .returned (.int .i64 (orI x y)) ∧ w' = w := by
  have c0 := hr.at_ (i := 0) rfl
  have c1 := hr.at_ (i := 1) rfl
  clear hr
  go_enter Try.func57, Try.ntmps57
  go_wp2_with fail
  go_loopw [8] (fun i wr => ∃ k : Nat, k ≤ 2 ∧ i = .int .i64 k ∧ Hid (0 < k → x = 0) ∧ Hid (1 < k → y = 0) ∧ w = wr) (fun i _ => 2 - (intOf i).toNat)
  case atStart => exact ⟨0, by omega, rfl, fun h => absurd h (by omega), fun h => absurd h (by omega), rfl⟩
  case round =>
    obtain ⟨k, hk, rfl, H0, H1, rfl⟩ := hrel
    have hk3 : k = 0 ∨ k = 1 ∨ k = 2 := by omega
    rcases hk3 with rfl | rfl | rfl
    · by_cases hx : x = 0
      · have hn : (x != 0) = false := by rw [hx]; rfl
        have Hx := Lib.hid hx
        clear hx
        go_wp2_with fail
        go_roundw
        case rel => exact ⟨1, by omega, by go_num, fun _ => Hx.out, fun h => absurd h (by omega), (by first | rfl | trivial)⟩
        case measure => simp [intOf]
      · have hn : (x != 0) = true := by simp [hx]
        have hE : orI x y = x := if_neg hx
        have HE := Lib.hid hE
        clear hE hx
        go_wp2_with fail
        go_ret
        exact ⟨by rw [HE.out]; rfl, rfl⟩
    · have hx := H0.out (by omega)
      subst hx
      have hE : orI 0 y = y := if_pos rfl
      have HE := Lib.hid hE
      clear hE
      by_cases hy : y = 0
      · have hn : (y != 0) = false := by rw [hy]; rfl
        have Hy := Lib.hid hy
        clear hy
        go_wp2_with fail
        go_roundw
        case rel => exact ⟨2, by omega, by go_num, fun _ => (by first | rfl | trivial), fun _ => Hy.out, (by first | rfl | trivial)⟩
        case measure => simp [intOf]
      · have hn : (y != 0) = true := by simp [hy]
        clear hy
        go_wp2_with fail
        go_ret
        exact ⟨by rw [HE.out]; rfl, rfl⟩
    · have hx := H0.out (by omega)
      have hy := H1.out (by omega)
      subst hx
      subst hy
      go_wp2_with fail
      go_ret
      exact ⟨rfl, rfl⟩
def twoV (x y : Int) : Td.Spec := fun W v => ∃ g, v = .slice (some ⟨g, 0, none⟩) 2 2 ∧ Row W g 3 #[.int .i64 x, .int .i64 y]
theorem twoV_stays {x y : Int} : Stays Gr (twoV x y) := fun _ _ _ h ⟨g, e, hr⟩ => ⟨g, e, hr.kept h.gb (by simp)⟩
end Go.Proofs.Ytblndpfgfakdeaa.Dt
