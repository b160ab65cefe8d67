/- A deed, case by case; what a walk over it holds to. No program. -/
import Derived.Test.YtblndpfgfakdeaaFtMade
import Derived.Laws.Small
set_option linter.unusedVariables false
namespace Go.Proofs.Ytblndpfgfakdeaa.Dt
open Go

section
variable {s : St} {dev : Int} {o : Opn}
theorem do_bad (h : Bad dev o) : doS s dev o = (none_, 1) := if_pos h
theorem do_none (hb : ¬ Bad dev o) (h : gone s.facts dev o = [] ∧ Away o) : doS s dev o = (none_, 2) := by unfold doS; rw [if_neg hb, if_pos h]
theorem do_over (hb : ¬ Bad dev o) (hn : ¬ (gone s.facts dev o = [] ∧ Away o)) (h : Over s dev o) : doS s dev o = (none_, 4) := by unfold doS; rw [if_neg hb, if_neg hn, if_pos h]
theorem do_full (hb : ¬ Bad dev o) (hn : ¬ (gone s.facts dev o = [] ∧ Away o)) (ho : ¬ Over s dev o) (h : 400 < (joinS s (delta s dev o)).facts.length) : doS s dev o = (none_, 4) := by unfold doS; rw [if_neg hb, if_neg hn, if_neg ho, if_pos h]
theorem do_ok (hb : ¬ Bad dev o) (hn : ¬ (gone s.facts dev o = [] ∧ Away o)) (ho : ¬ Over s dev o) (h : ¬ 400 < (joinS s (delta s dev o)).facts.length) : doS s dev o = (delta s dev o, 0) := by unfold doS; rw [if_neg hb, if_neg hn, if_neg ho, if_neg h]
end
theorem gone_more {l : List Fc} {k : Nat} {x : Fc} (h : l[k]? = some x) (dev : Int) (o : Opn) : gone (l.take (k + 1)) dev o = if goesB x dev o = true then gone (l.take k) dev o ++ [x] else gone (l.take k) dev o := by
  unfold gone
  rw [List.take_add_one, h, List.filter_append]
  cases hg : goesB x dev o <;> simp [hg]
theorem gone_len (l : List Fc) (dev : Int) (o : Opn) : (gone l dev o).length ≤ l.length := List.length_filter_le _ _
theorem sumV_snoc (x : Fc) : ∀ l : List Fc, sumV (l ++ [x]) = sumV l + x.v
  | [] => by simp [sumV]
  | f :: l => by rw [List.cons_append, sumV, sumV, sumV_snoc x l]; omega
theorem dotsF_snoc (l : List Fc) (x : Fc) : dotsF (l ++ [x]) = dotsF l ++ [(x.d, x.n)] := by unfold dotsF; rw [List.map_append]; rfl
theorem dotsF_len (l : List Fc) : (dotsF l).length = l.length := by unfold dotsF; rw [List.length_map]
theorem wrap_add (a b : Int) : IntKind.i64.wrap (IntKind.i64.wrap a + b) = IntKind.i64.wrap (a + b) := by
  rw [IntKind.wrap_i64, IntKind.wrap_i64, IntKind.wrap_i64]; omega
theorem sum_bound : ∀ l : List Fc, (∀ f ∈ l, RightF f) → -(1099511627776 * (l.length : Int)) ≤ sumV l ∧ sumV l ≤ 1099511627776 * (l.length : Int)
  | [], _ => by simp [sumV]
  | f :: l, h => by
    have ih := sum_bound l fun x hx => h x (by simp [hx])
    have hf := h f (by simp)
    unfold RightF at hf
    rw [sumV, List.length_cons]
    push_cast
    omega
theorem last_bound {l : List Rn} (h : Dt.May l) (dev : Int) : lastR dev l 0 ≤ 4503599627370496 := by
  rcases (lastR_spec dev l 0).2.2 with e | ⟨r, hr, _, e⟩
  · omega
  · obtain ⟨_, _, _, _, k⟩ := h.1 r hr
    omega
/-- What a deed's sum comes to. -/
theorem sum_in {s : St} (h : MayS s) (dev : Int) (o : Opn) (h1 : -1099511627776 ≤ o.v) (h2 : o.v ≤ 1099511627776) : IntKind.i64.wrap (o.v + sumV (gone s.facts dev o)) = o.v + sumV (gone s.facts dev o) := by
  have hb := sum_bound (gone s.facts dev o) fun f hf => (h.2.2.1 f (List.mem_filter.1 hf).1).1
  have hl := Nat.le_trans (gone_len s.facts dev o) h.2.1
  rw [IntKind.wrap_i64]; omega
end Go.Proofs.Ytblndpfgfakdeaa.Dt
