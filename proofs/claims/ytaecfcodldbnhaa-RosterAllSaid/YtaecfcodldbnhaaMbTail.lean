/- tail.check, tail.take: what goes on with a chain. Written by gen_mbchk.py. -/
import Derived.Test.YtaecfcodldbnhaaMbPut
import Derived.Test.YtaecfcodldbnhaaMbErr
import Derived.Test.YtaecfcodldbnhaaToldM
import Derived.Deep.DeepCutAuto
set_option linter.unusedVariables false
namespace Go.Proofs.Ytaecfcodldbnhaa.Mb
open Go Go.RowKit Go.Proofs.Ytaecfcodldbnhaa.Mm Go.Proofs.Ytaecfcodldbnhaa.Td Go.Proofs.Ytaecfcodldbnhaa.Vw Go.Proofs.Ytaecfcodldbnhaa.Dt

open Go.Proofs.Ytaecfcodldbnhaa.Me
attribute [local go_sem] Td.upon_value Td.upon_skip Td.upon_enter Td.upon_row Td.look_tmp Td.look_const Td.look_func Td.look_global
/-- What a tail holds behind these records. -/
noncomputable def tailCs (l : List Rc) : Array Value := #[.int .i64 ((l).length : Int), .string (lastH l), .bool (memL l 0), .bool (memL l 1), .bool (memL l 2), .bool (memL l 3), .bool (memL l 4), .bool (memL l 5), .bool (memL l 6), .bool (memL l 7)]
theorem tail_next {l : List Rc} {r : Rc} {d : Nat} (hd : d < 8) (hr : r.dev = (d : Int)) (hs : r.seq = (l.length : Int) + 1) : (((tailCs l).setIfInBounds 0 (.int .i64 r.seq)).setIfInBounds 1 (.string (hashB r))).setIfInBounds (2 + d) (.bool (decide (r.kind = 1))) = tailCs (l ++ [r]) := by
  have e0 : (((l ++ [r]).length : Nat) : Int) = r.seq := by rw [List.length_append, hs]; rfl
  have e1 : lastH (l ++ [r]) = hashB r := lastH_snoc l r
  unfold tailCs
  rw [e0, e1]
  match d, hd, hr with
  | 0, _, hr =>
    have hr : r.dev = 0 := hr
    rw [show memL (l ++ [r]) 0 = decide (r.kind = 1) from by rw [memL_snoc, hr]; rfl]
    rw [show memL (l ++ [r]) 1 = memL l 1 from by rw [memL_snoc, hr]; rfl]
    rw [show memL (l ++ [r]) 2 = memL l 2 from by rw [memL_snoc, hr]; rfl]
    rw [show memL (l ++ [r]) 3 = memL l 3 from by rw [memL_snoc, hr]; rfl]
    rw [show memL (l ++ [r]) 4 = memL l 4 from by rw [memL_snoc, hr]; rfl]
    rw [show memL (l ++ [r]) 5 = memL l 5 from by rw [memL_snoc, hr]; rfl]
    rw [show memL (l ++ [r]) 6 = memL l 6 from by rw [memL_snoc, hr]; rfl]
    rw [show memL (l ++ [r]) 7 = memL l 7 from by rw [memL_snoc, hr]; rfl]
    rfl
  | 1, _, hr =>
    have hr : r.dev = 1 := hr
    rw [show memL (l ++ [r]) 0 = memL l 0 from by rw [memL_snoc, hr]; rfl]
    rw [show memL (l ++ [r]) 1 = decide (r.kind = 1) from by rw [memL_snoc, hr]; rfl]
    rw [show memL (l ++ [r]) 2 = memL l 2 from by rw [memL_snoc, hr]; rfl]
    rw [show memL (l ++ [r]) 3 = memL l 3 from by rw [memL_snoc, hr]; rfl]
    rw [show memL (l ++ [r]) 4 = memL l 4 from by rw [memL_snoc, hr]; rfl]
    rw [show memL (l ++ [r]) 5 = memL l 5 from by rw [memL_snoc, hr]; rfl]
    rw [show memL (l ++ [r]) 6 = memL l 6 from by rw [memL_snoc, hr]; rfl]
    rw [show memL (l ++ [r]) 7 = memL l 7 from by rw [memL_snoc, hr]; rfl]
    rfl
  | 2, _, hr =>
    have hr : r.dev = 2 := hr
    rw [show memL (l ++ [r]) 0 = memL l 0 from by rw [memL_snoc, hr]; rfl]
    rw [show memL (l ++ [r]) 1 = memL l 1 from by rw [memL_snoc, hr]; rfl]
    rw [show memL (l ++ [r]) 2 = decide (r.kind = 1) from by rw [memL_snoc, hr]; rfl]
    rw [show memL (l ++ [r]) 3 = memL l 3 from by rw [memL_snoc, hr]; rfl]
    rw [show memL (l ++ [r]) 4 = memL l 4 from by rw [memL_snoc, hr]; rfl]
    rw [show memL (l ++ [r]) 5 = memL l 5 from by rw [memL_snoc, hr]; rfl]
    rw [show memL (l ++ [r]) 6 = memL l 6 from by rw [memL_snoc, hr]; rfl]
    rw [show memL (l ++ [r]) 7 = memL l 7 from by rw [memL_snoc, hr]; rfl]
    rfl
  | 3, _, hr =>
    have hr : r.dev = 3 := hr
    rw [show memL (l ++ [r]) 0 = memL l 0 from by rw [memL_snoc, hr]; rfl]
    rw [show memL (l ++ [r]) 1 = memL l 1 from by rw [memL_snoc, hr]; rfl]
    rw [show memL (l ++ [r]) 2 = memL l 2 from by rw [memL_snoc, hr]; rfl]
    rw [show memL (l ++ [r]) 3 = decide (r.kind = 1) from by rw [memL_snoc, hr]; rfl]
    rw [show memL (l ++ [r]) 4 = memL l 4 from by rw [memL_snoc, hr]; rfl]
    rw [show memL (l ++ [r]) 5 = memL l 5 from by rw [memL_snoc, hr]; rfl]
    rw [show memL (l ++ [r]) 6 = memL l 6 from by rw [memL_snoc, hr]; rfl]
    rw [show memL (l ++ [r]) 7 = memL l 7 from by rw [memL_snoc, hr]; rfl]
    rfl
  | 4, _, hr =>
    have hr : r.dev = 4 := hr
    rw [show memL (l ++ [r]) 0 = memL l 0 from by rw [memL_snoc, hr]; rfl]
    rw [show memL (l ++ [r]) 1 = memL l 1 from by rw [memL_snoc, hr]; rfl]
    rw [show memL (l ++ [r]) 2 = memL l 2 from by rw [memL_snoc, hr]; rfl]
    rw [show memL (l ++ [r]) 3 = memL l 3 from by rw [memL_snoc, hr]; rfl]
    rw [show memL (l ++ [r]) 4 = decide (r.kind = 1) from by rw [memL_snoc, hr]; rfl]
    rw [show memL (l ++ [r]) 5 = memL l 5 from by rw [memL_snoc, hr]; rfl]
    rw [show memL (l ++ [r]) 6 = memL l 6 from by rw [memL_snoc, hr]; rfl]
    rw [show memL (l ++ [r]) 7 = memL l 7 from by rw [memL_snoc, hr]; rfl]
    rfl
  | 5, _, hr =>
    have hr : r.dev = 5 := hr
    rw [show memL (l ++ [r]) 0 = memL l 0 from by rw [memL_snoc, hr]; rfl]
    rw [show memL (l ++ [r]) 1 = memL l 1 from by rw [memL_snoc, hr]; rfl]
    rw [show memL (l ++ [r]) 2 = memL l 2 from by rw [memL_snoc, hr]; rfl]
    rw [show memL (l ++ [r]) 3 = memL l 3 from by rw [memL_snoc, hr]; rfl]
    rw [show memL (l ++ [r]) 4 = memL l 4 from by rw [memL_snoc, hr]; rfl]
    rw [show memL (l ++ [r]) 5 = decide (r.kind = 1) from by rw [memL_snoc, hr]; rfl]
    rw [show memL (l ++ [r]) 6 = memL l 6 from by rw [memL_snoc, hr]; rfl]
    rw [show memL (l ++ [r]) 7 = memL l 7 from by rw [memL_snoc, hr]; rfl]
    rfl
  | 6, _, hr =>
    have hr : r.dev = 6 := hr
    rw [show memL (l ++ [r]) 0 = memL l 0 from by rw [memL_snoc, hr]; rfl]
    rw [show memL (l ++ [r]) 1 = memL l 1 from by rw [memL_snoc, hr]; rfl]
    rw [show memL (l ++ [r]) 2 = memL l 2 from by rw [memL_snoc, hr]; rfl]
    rw [show memL (l ++ [r]) 3 = memL l 3 from by rw [memL_snoc, hr]; rfl]
    rw [show memL (l ++ [r]) 4 = memL l 4 from by rw [memL_snoc, hr]; rfl]
    rw [show memL (l ++ [r]) 5 = memL l 5 from by rw [memL_snoc, hr]; rfl]
    rw [show memL (l ++ [r]) 6 = decide (r.kind = 1) from by rw [memL_snoc, hr]; rfl]
    rw [show memL (l ++ [r]) 7 = memL l 7 from by rw [memL_snoc, hr]; rfl]
    rfl
  | 7, _, hr =>
    have hr : r.dev = 7 := hr
    rw [show memL (l ++ [r]) 0 = memL l 0 from by rw [memL_snoc, hr]; rfl]
    rw [show memL (l ++ [r]) 1 = memL l 1 from by rw [memL_snoc, hr]; rfl]
    rw [show memL (l ++ [r]) 2 = memL l 2 from by rw [memL_snoc, hr]; rfl]
    rw [show memL (l ++ [r]) 3 = memL l 3 from by rw [memL_snoc, hr]; rfl]
    rw [show memL (l ++ [r]) 4 = memL l 4 from by rw [memL_snoc, hr]; rfl]
    rw [show memL (l ++ [r]) 5 = memL l 5 from by rw [memL_snoc, hr]; rfl]
    rw [show memL (l ++ [r]) 6 = memL l 6 from by rw [memL_snoc, hr]; rfl]
    rw [show memL (l ++ [r]) 7 = decide (r.kind = 1) from by rw [memL_snoc, hr]; rfl]
    rfl
/-- Who may come, or go, behind these. -/
def CheckT (l : List Rc) (kind dev : Int) : Prop := (l.length = 0 → kind = 1 ∧ dev = 0) ∧ (kind = 1 → memL l dev = false) ∧ (kind = 2 → memL l dev = true ∧ dev ≠ 0)
theorem tail_get (l : List Rc) (d : Nat) (hd : d < 8) : (tailCs l)[2 + d]? = some (.bool (memL l (d : Int))) := by
  match d, hd with
  | 0, _ => rfl
  | 1, _ => rfl
  | 2, _ => rfl
  | 3, _ => rfl
  | 4, _ => rfl
  | 5, _ => rfl
  | 6, _ => rfl
  | 7, _ => rfl
end Go.Proofs.Ytaecfcodldbnhaa.Mb
