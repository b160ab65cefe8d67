/- Has. -/
import Derived.Test.YtblndpfgfakdeaaDtCov
namespace Go.Proofs.Ytblndpfgfakdeaa.Dt
open Go Go.RowKit Go.Proofs.Ytblndpfgfakdeaa.Mm Go.Proofs.Ytblndpfgfakdeaa.Td

set_option maxHeartbeats 8000000 in
set_option maxRecDepth 100000 in
theorem pHas_any (A : Option Addr) (n c : Nat) (l : List Rn) (d m : Int) (w : World) (hl : RL w A n l) (ml : May l) (hn : n ≤ 100000) :
    Calls Try.prog 50 #[.slice A n c, .agg #[.int .i64 d, .int .i64 m]] w fun e w' => e = .returned (.bool (hasB l d m)) ∧ w.grownBy w' none := by
  have Hl := Lib.hid hl
  have Hml := Lib.hid ml
  clear hl ml
  rw [← cov_one]
  go_enter Try.func50, Try.ntmps50
  go_wp2_with (go_at_call 72; refine (single_any d m _).mono ?_; rintro e w1 ⟨rfl, g1⟩)
  have hg1 : w.grownBy w1 none := gb_none (gb_alloc (gb_refl w none) _) g1.gb
  have Hg1 := Lib.hid hg1
  have Hcov := Lib.hid (covers_any A n c l ⟨d, m, m⟩ w1 (Hl.out.keep hg1) Hml.out (Int.le_refl _) hn)
  clear hg1 g1
  go_wp2_with (go_at_call 71; refine Hcov.out.mono ?_; rintro e w2 ⟨rfl, g2⟩)
  go_ret
  exact ⟨rfl, gb_none Hg1.out g2⟩
end Go.Proofs.Ytblndpfgfakdeaa.Dt
