/- Which next records there are, by cases; an append whose run is known as an equation, in a region that draws its order. -/
import Derived.Test.YtpcjbjpofcdjeaaGreatDoorWcS
import Derived.Test.YtpcjbjpofcdjeaaGreatDoorWcT
set_option linter.unusedVariables false
namespace Go.Proofs.YtpcjbjpofcdjeaaGreatDoor.Wc
open Go Go.RowKit Mm Td Dt
open Mb Ro
theorem upon_append {W : World} {K : Value → World → Prop} {f : Tmp → Value} {o : Oper} {x y : Operand} {t1 t2 : TypeId} {a b v' : Value} {w' : World} (ho : o.op = .call { callee := .builtin .append, args := #[x, y], argTypes := #[t1, t2] })
  (hx : Td.look f x = a) (hy : Td.look f y = b) (hr : (Builtin.append_ #[t1, t2] o.type #[a, b]).run Tryz.prog W = .ok v' w') (hK : K v' w') : Upon Tryz.prog K ((execOp (Td.look f) o).run Tryz.prog W) := by
 unfold execOp
 simp only [ho, resolve, invoke, builtin, Sem.run_bind, Sem.run_pure, Result.andThen_ok, List.map_toArray, List.map_cons, List.map_nil, hx, hy, hr, Upon]
 exact hK
def emptyV : Td.Spec := fun _ v => ∃ b, v = .slice (some ⟨b, 0, none⟩) 0 0
theorem emptyV_stays : Stays (fun a b => a.grownBy b none) emptyV := fun _ _ _ _ h => h
theorem next_in2 (s m : ByteArray) {l : List Rc} {k d : Int} (h : deedE l k d = 0) : inB (l ++ [nextR s m l k d]) ((l.length : Int) + 1) d = decide (k = 1) := by
 obtain ⟨h0, _⟩ := deed_yes h
 unfold DeedArg at h0
 rw [in_goes (by omega) (by omega)]
 exact goes_in ⟨Int.le_refl _, rfl, show k = 1 ∨ k = 2 by omega⟩ rfl
theorem next_count (s m : ByteArray) (l : List Rc) (k d : Int) : (memsB (l ++ [nextR s m l k d]) ((l.length : Int) + 1)).length = (nextR s m l k d).wraps.length := by
 rw [next_mems, next_wraps, hung_len]
 rfl
theorem deed_wrong {l : List Rc} {k d : Int} (h : d < 0 ∨ 7 < d ∨ d = 0 ∧ k = 2) : deedE l k d = 1 := deed_arg (by unfold DeedArg; omega)
theorem deed_right {l : List Rc} (hc : ChainR l) (h0 : l.length ≠ 0) {k d : Int} (hk : k = 1 ∨ k = 2) (h1 : ¬ d < 0) (h2 : ¬ 7 < d) (h3 : ¬ (d = 0 ∧ k = 2)) : ¬ DeedArg l k d := fun h => by
 rcases h with h | h | h | h | h
 ·exact h hk
 ·exact h (by omega)
 ·exact h hc
 ·exact h0 h.1
 ·omega
theorem next_cases {l : List Rc} (hc : ChainR l) (h0 : l.length ≠ 0) (h40 : l.length < 40) {k d : Int} (hk : k = 1 ∨ k = 2) {b : Bool} (hb : inB l l.length d = b) :
  ((deedE l k d = 1 ∧ decide (d < 0) = true) ∨
   (deedE l k d = 1 ∧ decide (d < 0) = false ∧ decide (7 < d) = true) ∨
   (deedE l k d = 1 ∧ decide (d < 0) = false ∧ decide (7 < d) = false ∧ (d == 0) = true ∧ (k == 2) = true) ∨
   (deedE l k d = 3 ∧ decide (d < 0) = false ∧ decide (7 < d) = false ∧ (d == 0) = true ∧ (k == 2) = false ∧ b = true ∧ (k == 1) = true) ∨
   (deedE l k d = 3 ∧ decide (d < 0) = false ∧ decide (7 < d) = false ∧ (d == 0) = false ∧ b = true ∧ (k == 1) = true) ∨
   (deedE l k d = 2 ∧ decide (d < 0) = false ∧ decide (7 < d) = false ∧ (d == 0) = false ∧ b = false ∧ (k == 2) = true)) ∨
  ((deedE l k d = 0 ∧ decide (d < 0) = false ∧ decide (7 < d) = false ∧ (d == 0) = true ∧ (k == 2) = false ∧ b = false ∧ (k == 1) = true) ∨
   (deedE l k d = 0 ∧ decide (d < 0) = false ∧ decide (7 < d) = false ∧ (d == 0) = false ∧ b = false ∧ (k == 2) = false ∧ (k == 1) = true) ∨
   (deedE l k d = 0 ∧ decide (d < 0) = false ∧ decide (7 < d) = false ∧ (d == 0) = false ∧ b = true ∧ (k == 1) = false)) := by
 by_cases h1 : d < 0
 ·exact .inl (.inl ⟨deed_wrong (.inl h1), decide_eq_true h1⟩)
 ·have e1 := decide_eq_false h1
  by_cases h2 : 7 < d
  ·exact .inl (.inr (.inl ⟨deed_wrong (.inr (.inl h2)), e1, decide_eq_true h2⟩))
  ·have e2 := decide_eq_false h2
   by_cases h3 : d = 0 ∧ k = 2
   ·exact .inl (.inr (.inr (.inl ⟨deed_wrong (.inr (.inr h3)), e1, e2, eq_yes h3.1, eq_yes h3.2⟩)))
   ·have ha := deed_right hc h0 hk h1 h2 h3
    rcases hk with hk | hk
    ·have k1 := eq_yes hk
     have k2 : (k == 2) = false := eq_no (by omega)
     cases b with
     | true =>
      have he := deed_have ha ⟨hk, hb⟩
      by_cases h4 : d = 0
      ·exact .inl (.inr (.inr (.inr (.inl ⟨he, e1, e2, eq_yes h4, k2, rfl, k1⟩))))
      ·exact .inl (.inr (.inr (.inr (.inr (.inl ⟨he, e1, e2, eq_no h4, rfl, k1⟩)))))
     | false =>
      have he := deed_ok ha (fun h => by rw [h.2] at hb; cases hb) (fun h => by omega) (by omega)
      by_cases h4 : d = 0
      ·exact .inr (.inl ⟨he, e1, e2, eq_yes h4, k2, rfl, k1⟩)
      ·exact .inr (.inr (.inl ⟨he, e1, e2, eq_no h4, rfl, k2, k1⟩))
    ·have k1 : (k == 1) = false := eq_no (by omega)
     have h4 : d ≠ 0 := fun h => h3 ⟨h, hk⟩
     cases b with
     | true => exact .inr (.inr (.inr ⟨deed_ok ha (fun h => by omega) (fun h => by rw [h.2] at hb; cases hb) (by omega), e1, e2, eq_no h4, rfl, k1⟩))
     | false => exact .inl (.inr (.inr (.inr (.inr (.inr ⟨deed_none ha ⟨hk, hb⟩, e1, e2, eq_no h4, rfl, eq_yes hk⟩)))))
end Go.Proofs.YtpcjbjpofcdjeaaGreatDoor.Wc
