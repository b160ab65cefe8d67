/- Two runs held against one another. -/
import Derived.Test.YtblndpfgfakdeaaDtMem
import Derived.Laws.StructEq
import Derived.ChangeKeysEq
namespace Go.Proofs.Ytblndpfgfakdeaa.Dt
open Go Go.RowKit Go.Proofs.Ytblndpfgfakdeaa.Mm

theorem runT_fields : Try.prog.underlying 56 = some (.struct (Try.prog.fieldsOf 56)) := by kernel_rfl
theorem runT_stood : Try.prog.stoodInHeld 56 = false := by kernel_rfl
theorem runT_guard : Try.prog.eqGuardType Try.prog.depth 56 = false := by kernel_rfl
def eqR (x y : Rn) : Bool := x.d == y.d && (x.f == y.f && x.t == y.t)
theorem eqR_iff (x y : Rn) : eqR x y = true ↔ x = y := by
  unfold eqR
  rw [Bool.and_eq_true, Bool.and_eq_true, beq_iff_eq, beq_iff_eq, beq_iff_eq]
  exact ⟨fun ⟨h1, h2, h3⟩ => ext h1 h2 h3, fun h => by subst h; exact ⟨rfl, rfl, rfl⟩⟩
theorem runT_eq (x y : Rn) (W : World) : (Op.equalIn 10000 56 (.agg #[.int .i64 x.d, .int .i64 x.f, .int .i64 x.t]) (.agg #[.int .i64 y.d, .int .i64 y.f, .int .i64 y.t])).run Try.prog W = .ok (eqR x y) W := by
  rw [run_equalIn_struct W 9999 _ _ _ runT_fields runT_stood]
  have hf : (Try.prog.fieldsOf 56).toList.map (fun f => (f.name == "_", f.type, f.offset)) = [(false, 3, 0), (false, 3, 1), (false, 3, 2)] := by kernel_rfl
  generalize (Try.prog.fieldsOf 56).toList = fs at hf
  obtain ⟨f0, f1, f2, rfl⟩ : ∃ f0 f1 f2, fs = [f0, f1, f2] := by
    rcases fs with _ | ⟨f0, _ | ⟨f1, _ | ⟨f2, _ | ⟨f3, r⟩⟩⟩⟩
    · simp at hf
    · simp at hf
    · simp at hf
    · exact ⟨f0, f1, f2, rfl⟩
    · simp at hf
  simp only [List.map_cons, List.map_nil, List.cons.injEq, Prod.mk.injEq, and_true, beq_eq_false_iff_ne] at hf
  obtain ⟨⟨n0, t0, o0⟩, ⟨n1, t1, o1⟩, n2, t2, o2⟩ := hf
  have hp : Try.prog.plainKey 3 = true := by kernel_rfl
  have p0 : ∀ (a b c : Value), (part 3 #[a, b, c] 0).run Try.prog W = .ok a W := fun a b c => run_part_plain W hp rfl
  have p1 : ∀ (a b c : Value), (part 3 #[a, b, c] 1).run Try.prog W = .ok b W := fun a b c => run_part_plain W hp rfl
  have p2 : ∀ (a b c : Value), (part 3 #[a, b, c] 2).run Try.prog W = .ok c W := fun a b c => run_part_plain W hp rfl
  have q : ∀ a b : Int, (Op.equalIn 9999 3 (.int .i64 a) (.int .i64 b)).run Try.prog W = .ok (a == b) W := fun a b => run_equalIn_int W 9998 3 .i64 .i64 a b Try.underlying3
  unfold eqR
  cases hd : (x.d == y.d) <;> cases hf2 : (x.f == y.f) <;> cases ht : (x.t == y.t) <;>
    simp [Op.eqFields, n0, t0, o0, n1, t1, o1, n2, t2, o2, p0, p1, p2, q, hd, hf2, ht]
theorem runT_neq (x y : Rn) (W : World) : (binOp .neq 56 (.agg #[.int .i64 x.d, .int .i64 x.f, .int .i64 x.t]) (.agg #[.int .i64 y.d, .int .i64 y.f, .int .i64 y.t])).run Try.prog W = .ok (.bool (!eqR x y)) W := by
  rw [run_neq_struct, runT_eq]; rfl
end Go.Proofs.Ytblndpfgfakdeaa.Dt
