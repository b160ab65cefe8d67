/- Records held against one another, the program's way and the document's. Written by gen_mbsame.py. -/
import Derived.Test.YtaecfcodldbnhaaMbMay
import Derived.Deep.QuietTactic
set_option linter.unusedVariables false
namespace Go.Proofs.Ytaecfcodldbnhaa.Mb
open Go Go.RowKit Go.Proofs.Ytaecfcodldbnhaa.Mm Go.Proofs.Ytaecfcodldbnhaa.Td Go.Proofs.Ytaecfcodldbnhaa.Vw Go.Proofs.Ytaecfcodldbnhaa.Dt

attribute [local go_sem] Td.upon_value Td.upon_skip Td.upon_enter Td.upon_row Td.look_tmp Td.look_const Td.look_func Td.look_global
theorem wrapT_fields : Try.prog.underlying 58 = some (.struct (Try.prog.fieldsOf 58)) := by kernel_rfl
theorem wrapT_stood : Try.prog.stoodInHeld 58 = false := by kernel_rfl
theorem wrapT_guard : Try.prog.eqGuardType Try.prog.depth 58 = false := by kernel_rfl
theorem bytes_iff (a b : ByteArray) : (a.toList == b.toList) = true ↔ a = b := by
  rw [ByteArray.toList_eq, ByteArray.toList_eq, beq_iff_eq]
  exact ⟨fun h => ByteArray.ext (Array.ext' h), fun h => by rw [h]⟩
def eqW (x y : Wp) : Bool := x.d == y.d && x.box.toList == y.box.toList
theorem eqW_iff (x y : Wp) : eqW x y = true ↔ x = y := by
  unfold eqW
  rw [Bool.and_eq_true, bytes_iff, beq_iff_eq]
  obtain ⟨a, b⟩ := x
  obtain ⟨c, d⟩ := y
  exact ⟨fun h => by dsimp only at h; rw [h.1, h.2], fun h => by injection h with h1 h2; exact ⟨h1, h2⟩⟩
theorem wrapT_eq (x y : Wp) (W : World) : (Op.equalIn 10000 58 (.agg #[.int .i64 x.d, .string x.box]) (.agg #[.int .i64 y.d, .string y.box])).run Try.prog W = .ok (eqW x y) W := by
  rw [run_equalIn_struct W 9999 _ _ _ wrapT_fields wrapT_stood]
  have hf : (Try.prog.fieldsOf 58).toList.map (fun f => (f.name == "_", f.type, f.offset)) = [(false, 3, 0), (false, 9, 1)] := by kernel_rfl
  generalize (Try.prog.fieldsOf 58).toList = fs at hf
  obtain ⟨f0, f1, rfl⟩ : ∃ f0 f1, fs = [f0, f1] := by
    rcases fs with _ | ⟨f0, _ | ⟨f1, _ | ⟨f2, r⟩⟩⟩
    · simp at hf
    · simp at hf
    · exact ⟨f0, f1, rfl⟩
    · simp at hf
  simp only [List.map_cons, List.map_nil, List.cons.injEq, Prod.mk.injEq, and_true, beq_eq_false_iff_ne] at hf
  obtain ⟨⟨n0, t0, o0⟩, n1, t1, o1⟩ := hf
  have hp : Try.prog.plainKey 3 = true := by kernel_rfl
  have hs : Try.prog.plainKey 9 = true := by kernel_rfl
  have p0 : ∀ (a b : Value), (part 3 #[a, b] 0).run Try.prog W = .ok a W := fun a b => run_part_plain W hp rfl
  have p1 : ∀ (a b : Value), (part 9 #[a, b] 1).run Try.prog W = .ok b W := fun a b => run_part_plain W hs rfl
  have q : ∀ a b : Int, (Op.equalIn 9999 3 (.int .i64 a) (.int .i64 b)).run Try.prog W = .ok (a == b) W := fun a b => run_equalIn_int W 9998 3 .i64 .i64 a b Try.underlying3
  have qs : ∀ a b : ByteArray, (Op.equalIn 9999 9 (.string a) (.string b)).run Try.prog W = .ok (a.toList == b.toList) W := fun a b => run_equalIn_string W 9998 9 a b Try.underlying9
  unfold eqW
  cases h1 : (x.d == y.d) <;> cases h2 : (x.box.toList == y.box.toList) <;>
    simp only [Op.eqFields, n0, t0, o0, n1, t1, o1, p0, p1, q, qs, h1, h2, Sem.run_bind, Sem.run_pure, Result.andThen_ok, ne_eq, not_false_eq_true, if_true, if_false, Bool.not_true, Bool.not_false, Bool.false_eq_true, Bool.true_and, Bool.false_and, Bool.and_self]
theorem wrapT_neq (x y : Wp) (W : World) : (binOp .neq 58 (.agg #[.int .i64 x.d, .string x.box]) (.agg #[.int .i64 y.d, .string y.box])).run Try.prog W = .ok (.bool (!eqW x y)) W := by
  rw [run_neq_struct, wrapT_eq x y W]; rfl
theorem rec_ext {a b : Rc} (h1 : a.seq = b.seq) (h2 : a.prev = b.prev) (h3 : a.kind = b.kind) (h4 : a.dev = b.dev) (h5 : a.wraps = b.wraps) (h6 : a.tag = b.tag) : a = b := by
  obtain ⟨a1, a2, a3, a4, a5, a6⟩ := a
  obtain ⟨b1, b2, b3, b4, b5, b6⟩ := b
  dsimp only at h1 h2 h3 h4 h5 h6
  rw [h1, h2, h3, h4, h5, h6]
end Go.Proofs.Ytaecfcodldbnhaa.Mb
