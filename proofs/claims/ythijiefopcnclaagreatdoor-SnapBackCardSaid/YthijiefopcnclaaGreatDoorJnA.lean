/- Two states together, as the program goes through them: the merge's invariant with what has been passed by. No program. whose: who has the fact that comes next. left: the facts of two states that stay. The program's Join and Le. -/
import Derived.Test.YthijiefopcnclaaGreatDoorFtC
import Derived.Test.YthijiefopcnclaaGreatDoorFtB
import Derived.Test.YthijiefopcnclaaGreatDoorFtA
import Derived.Test.YthijiefopcnclaaGreatDoorTdA
import Derived.Test.YthijiefopcnclaaGreatDoorFtJoinW
import Derived.Test.YthijiefopcnclaaGreatDoorDtE
import Derived.Test.YthijiefopcnclaaGreatDoorDtF
import Derived.Deep.CutBlock
import Derived.Deep.RegionHeld3
import Derived.Test.YthijiefopcnclaaGreatDoorFtMake
import Derived.Test.YthijiefopcnclaaGreatDoorFtD
set_option linter.unusedVariables false
namespace Go.Proofs.YthijiefopcnclaaGreatDoor.Dt

/-- As far as i facts of one and k of the other have been looked at; what was passed of the other one is ahead of all that is left of the first. -/
structure JL (s t : St) (i k : Nat) (L : List Fc) : Prop where
  ji : JI s t i k L
  past : ∀ g ∈ t.facts.take k, ∀ f ∈ s.facts.drop i, FLt g f
theorem jl_nil (s t : St) : JL s t 0 0 [] := ⟨ji_nil s t, fun g h => by simp at h⟩
section
variable {s t : St} {i k : Nat} {L : List Fc} {x y : Fc}
theorem drop_head (hs : Sor s.facts) (hx : s.facts[i]? = some x) : ∀ f ∈ s.facts.drop (i + 1), FLt x f := by
  have h := hs.drop i
  rw [fdrop_eq hx] at h
  exact h.head
/-- No fact of the other one has the dot of a fact that stands ahead of all that is left of it. -/
theorem JL.alone (h : JL s t i k L) (hs : SS s) (ht : SS t) (hx : s.facts[i]? = some x) (hlt : ∀ y, t.facts[k]? = some y → FLt x y) : atB t.facts x.d x.n = false := by
  rw [Bool.eq_false_iff, ne_eq, atB_iff]
  rintro ⟨g, hg, e1, e2⟩
  rw [← List.take_append_drop k t.facts] at hg
  rcases List.mem_append.1 hg with h1 | h1
  · exact (h.past g h1 x (by rw [fdrop_eq hx]; simp)).irr ⟨e1, e2⟩
  · cases hy : t.facts[k]? with
    | none => rw [List.drop_eq_nil_of_le (List.getElem?_eq_none_iff.1 hy)] at h1; cases h1
    | some y =>
      rw [fdrop_eq hy] at h1
      rcases List.mem_cons.1 h1 with e | h2
      · subst e; exact (hlt _ hy).irr ⟨e1.symm, e2.symm⟩
      · exact ((hlt _ hy).trans (drop_head ht.2.2 hy g h2)).irr ⟨e1.symm, e2.symm⟩
theorem JL.stepA (h : JL s t i k L) (hs : SS s) (ht : SS t) (hx : s.facts[i]? = some x) (hlt : ∀ y, t.facts[k]? = some y → FLt x y) : JL s t (i + 1) k (if hasB t.seen x.d x.n then L else L ++ [x]) := by
  have ha := h.alone hs ht hx hlt
  have hp : ∀ g ∈ t.facts.take k, ∀ f ∈ s.facts.drop (i + 1), FLt g f := fun g hg f hf => h.past g hg f (by rw [fdrop_eq hx]; simp [hf])
  cases hb : hasB t.seen x.d x.n with
  | true => exact ⟨h.ji.skipA hx (by unfold stayA; rw [hb, ha]; rfl), hp⟩
  | false => exact ⟨h.ji.a_ hs ht hx (fun y hy hl => (hlt y hy).asym hl) (by unfold stayA; rw [hb]; rfl), hp⟩
theorem JL.stepB (h : JL s t i k L) (hs : SS s) (ht : SS t) (hy : t.facts[k]? = some y) (hlt : ∀ x, s.facts[i]? = some x → FLt y x) : JL s t i (k + 1) (if hasB s.seen y.d y.n then L else L ++ [y]) := by
  have hp : ∀ g ∈ t.facts.take (k + 1), ∀ f ∈ s.facts.drop i, FLt g f := fun g hg f hf => by
    rw [ftake_more hy] at hg
    rcases List.mem_append.1 hg with h1 | h1
    · exact h.past g h1 f hf
    · rw [List.mem_singleton.1 h1]
      cases hx : s.facts[i]? with
      | none => rw [List.drop_eq_nil_of_le (List.getElem?_eq_none_iff.1 hx)] at hf; cases hf
      | some x =>
        rw [fdrop_eq hx] at hf
        rcases List.mem_cons.1 hf with e | h2
        · subst e; exact hlt _ hx
        · exact (hlt _ hx).trans (drop_head hs.2.2 hx f h2)
  cases hb : hasB s.seen y.d y.n with
  | true => exact ⟨h.ji.skipB hy (by unfold stayB; rw [hb]; rfl), hp⟩
  | false => exact ⟨h.ji.b_ hs ht hy hlt (by unfold stayB; rw [hb]; rfl), hp⟩
theorem JL.both (h : JL s t i k L) (hs : SS s) (ht : SS t) (hx : s.facts[i]? = some x) (hy : t.facts[k]? = some y) (hd : x.d = y.d ∧ x.n = y.n) : JL s t (i + 1) (k + 1) (L ++ [x]) := by
  have hat : atB t.facts x.d x.n = true := (atB_iff _ _ _).2 ⟨y, List.mem_of_getElem? hy, hd.1.symm, hd.2.symm⟩
  have hse : hasB s.seen y.d y.n = true := (hasB_iff _ _ _).2 (by rw [← hd.1, ← hd.2]; exact hs.2.1 x (List.mem_of_getElem? hx))
  refine ⟨(h.ji.a_ hs ht hx (fun y2 hy2 hl => ?_) (by unfold stayA; rw [hat, Bool.or_true])).skipB hy (by unfold stayB; rw [hse]; rfl), fun g hg f hf => ?_⟩
  · rw [hy] at hy2; cases hy2
    exact hl.irr ⟨hd.1.symm, hd.2.symm⟩
  · have hxf := drop_head hs.2.2 hx f hf
    rw [ftake_more hy] at hg
    rcases List.mem_append.1 hg with h1 | h1
    · exact h.past g h1 f (by rw [fdrop_eq hx]; simp [hf])
    · rw [List.mem_singleton.1 h1]
      unfold FLt at *
      rw [← hd.1, ← hd.2]; exact hxf
end
/-- Whose fact comes next. -/
def whoI (x y : List Fc) : Int := match x, y with
  | [], _ => 1
  | _ :: _, [] => -1
  | x :: _, y :: _ => cmpD x.d x.n y.d y.n
end Go.Proofs.YthijiefopcnclaaGreatDoor.Dt

namespace Go.Proofs.YthijiefopcnclaaGreatDoor.Dt
open Go Go.RowKit Go.Proofs.YthijiefopcnclaaGreatDoor.Mm Go.Proofs.YthijiefopcnclaaGreatDoor.Td

theorem fl_head {w : World} {A : Option Addr} {L : Nat} {x : Fc} {l : List Fc} (h : FL w A (L + 1) (x :: l)) : ∃ g o, A = some ⟨g, o, none⟩ ∧ g < w.heap.size ∧ ∀ W, w.grownBy W none → At6 W g o x := by
  obtain ⟨g, o, e, hg, hc⟩ := h.2 (Nat.succ_pos _)
  have h0 := hc 0 x rfl
  rw [Nat.zero_mul, Nat.add_zero] at h0
  exact ⟨g, o, e, hg, fun W hW => h0.keep hg hW⟩
theorem fl_tail {w : World} {g o L : Nat} {x : Fc} {l : List Fc} (h : FL w (some ⟨g, o, none⟩) (L + 1) (x :: l)) : FL w (some ⟨g, o + 6, none⟩) L l := by
  refine ⟨by have := h.1; simp at this; exact this, fun _ => ?_⟩
  obtain ⟨g', o', e, hg, hc⟩ := h.2 (Nat.succ_pos _)
  cases e
  refine ⟨_, _, rfl, hg, fun i y hy => ?_⟩
  have := hc (i + 1) y (by simpa using hy)
  rwa [show o + (i + 1) * 6 = o + 6 + i * 6 by omega] at this
theorem fl_zero {w : World} {A : Option Addr} {x : Fc} {l : List Fc} (h : FL w A (0 + 1) (x :: l)) (A' : Option Addr) : FL w A' 0 l := by
  obtain rfl : l = [] := by have := h.1; simpa using this
  exact FL.none _ _
attribute [local go_sem] Td.upon_value Td.upon_skip Td.upon_enter Td.upon_row Td.look_tmp Td.look_const Td.look_func Td.look_global
end Go.Proofs.YthijiefopcnclaaGreatDoor.Dt

namespace Go.Proofs.YthijiefopcnclaaGreatDoor.Dt
open Go Go.RowKit Go.Proofs.YthijiefopcnclaaGreatDoor.Mm Go.Proofs.YthijiefopcnclaaGreatDoor.Td

/-- A block of the call's own is written all over. -/
theorem gb_six {a W : World} {D : Nat} {x : Fc} (h : a.grownBy W none) (hD : a.heap.size ≤ D) : a.grownBy ((((((W.setCell ⟨D, 0, none⟩ (.int .i64 x.d)).setCell ⟨D, 1, none⟩ (.int .i64 x.n)).setCell ⟨D, 2, none⟩ (.string x.key)).setCell ⟨D, 3, none⟩ (.int .i64 x.kind)).setCell ⟨D, 4, none⟩ (.string x.item)).setCell ⟨D, 5, none⟩ (.int .i64 x.v)) none :=
  gb_new (gb_new (gb_new (gb_new (gb_new (gb_new h (gb_set1 _ _ _ _) hD) (gb_set1 _ _ _ _) hD) (gb_set1 _ _ _ _) hD) (gb_set1 _ _ _ _) hD) (gb_set1 _ _ _ _) hD) (gb_set1 _ _ _ _) hD
theorem gb_sixD {W : World} {D : Nat} {x : Fc} : W.grownBy ((((((W.setCell ⟨D, 0, none⟩ (.int .i64 x.d)).setCell ⟨D, 1, none⟩ (.int .i64 x.n)).setCell ⟨D, 2, none⟩ (.string x.key)).setCell ⟨D, 3, none⟩ (.int .i64 x.kind)).setCell ⟨D, 4, none⟩ (.string x.item)).setCell ⟨D, 5, none⟩ (.int .i64 x.v)) (some D) :=
  gb_then (gb_then (gb_then (gb_then (gb_then (gb_set1 _ _ _ _) (gb_set1 _ _ _ _)) (gb_set1 _ _ _ _)) (gb_set1 _ _ _ _)) (gb_set1 _ _ _ _)) (gb_set1 _ _ _ _)
theorem row_six {W : World} {D : Nat} {t : TypeId} {x : Fc} {a b c d e f : Value} (h : Row W D t #[a, b, c, d, e, f]) : Row ((((((W.setCell ⟨D, 0, none⟩ (.int .i64 x.d)).setCell ⟨D, 1, none⟩ (.int .i64 x.n)).setCell ⟨D, 2, none⟩ (.string x.key)).setCell ⟨D, 3, none⟩ (.int .i64 x.kind)).setCell ⟨D, 4, none⟩ (.string x.item)).setCell ⟨D, 5, none⟩ (.int .i64 x.v)) D t #[.int .i64 x.d, .int .i64 x.n, .string x.key, .int .i64 x.kind, .string x.item, .int .i64 x.v] :=
  (((((h.set_ 0 (.int .i64 x.d)).set_ 1 (.int .i64 x.n)).set_ 2 (.string x.key)).set_ 3 (.int .i64 x.kind)).set_ 4 (.string x.item)).set_ 5 (.int .i64 x.v)
attribute [local go_sem] Td.upon_value Td.upon_skip Td.upon_enter Td.upon_row Td.look_tmp Td.look_const Td.look_func Td.look_global
end Go.Proofs.YthijiefopcnclaaGreatDoor.Dt

namespace Go.Proofs.YthijiefopcnclaaGreatDoor.Dt
open Go Go.RowKit Go.Proofs.YthijiefopcnclaaGreatDoor.Mm Go.Proofs.YthijiefopcnclaaGreatDoor.Td

def unV (L : Nat) (l : List Rn) : Td.Spec := fun W v => ∃ A c, v = .slice A L c ∧ RL W A L l ∧ L ≤ c
theorem unV_stays {L : Nat} {l : List Rn} : Stays (fun a b => a.grownBy b none) (unV L l) := fun _ _ _ h ⟨A, c, e, hr, hc⟩ => ⟨A, c, e, hr.keep h, hc⟩
def factsV (L : Nat) (l : List Fc) : Td.Spec := fun W v => ∃ A c, v = .slice A L c ∧ FL W A L l ∧ L ≤ c
theorem factsV_stays {L : Nat} {l : List Fc} : Stays (fun a b => a.grownBy b none) (factsV L l) := fun _ _ _ h ⟨A, c, e, hr, hc⟩ => ⟨A, c, e, hr.keep h, hc⟩
def joinV (L : Nat) (l : List Rn) (M : Nat) (k : List Fc) : Td.Spec := fun W v => ∃ A c B d, v = .agg #[.slice A L c, .slice B M d] ∧ RL W A L l ∧ L ≤ c ∧ FL W B M k ∧ M ≤ d
theorem joinV_stays {L M : Nat} {l : List Rn} {k : List Fc} : Stays (fun a b => a.grownBy b none) (joinV L l M k) := fun _ _ _ h ⟨A, c, B, d, e, hr, hc, hf, hd⟩ => ⟨A, c, B, d, e, hr.keep h, hc, hf.keep h, hd⟩
/-- A state as a value. -/
def stateV (s : St) : Td.Spec := fun W v => ∃ A n c B m d, v = .agg #[.slice A n c, .slice B m d] ∧ SL W A n B m s ∧ n ≤ c ∧ m ≤ d
theorem stateV_stays {s : St} : Stays (fun a b => a.grownBy b none) (stateV s) := fun _ _ _ h ⟨A, n, c, B, m, d, e, hr, hc, hd⟩ => ⟨A, n, c, B, m, d, e, hr.keep h, hc, hd⟩
attribute [local go_sem] Td.upon_value Td.upon_skip Td.upon_enter Td.upon_row Td.look_tmp Td.look_const Td.look_func Td.look_global
end Go.Proofs.YthijiefopcnclaaGreatDoor.Dt
