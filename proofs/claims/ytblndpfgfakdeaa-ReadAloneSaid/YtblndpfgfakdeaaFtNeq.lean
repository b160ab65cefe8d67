/- Two dots, two facts held against one another. -/
import Derived.Test.YtblndpfgfakdeaaFtMem
import Derived.Test.YtblndpfgfakdeaaDtNeq
namespace Go.Proofs.Ytblndpfgfakdeaa.Dt
open Go Go.RowKit Go.Proofs.Ytblndpfgfakdeaa.Mm

theorem dotT_fields : Try.prog.underlying 35 = some (.struct (Try.prog.fieldsOf 35)) := by kernel_rfl
theorem dotT_stood : Try.prog.stoodInHeld 35 = false := by kernel_rfl
theorem dotT_guard : Try.prog.eqGuardType Try.prog.depth 35 = false := by kernel_rfl
def eqD (d n e m : Int) : Bool := d == e && n == m
theorem eqD_iff (d n e m : Int) : eqD d n e m = true ↔ d = e ∧ n = m := by unfold eqD; rw [Bool.and_eq_true, beq_iff_eq, beq_iff_eq]
theorem dotT_eq (k : Nat) (d n e m : Int) (W : World) : (Op.equalIn (k + 2) 35 (.agg #[.int .i64 d, .int .i64 n]) (.agg #[.int .i64 e, .int .i64 m])).run Try.prog W = .ok (eqD d n e m) W := by
  rw [run_equalIn_struct W (k + 1) _ _ _ dotT_fields dotT_stood]
  have hf : (Try.prog.fieldsOf 35).toList.map (fun f => (f.name == "_", f.type, f.offset)) = [(false, 3, 0), (false, 3, 1)] := by kernel_rfl
  generalize (Try.prog.fieldsOf 35).toList = fs at hf
  obtain ⟨f0, f1, rfl⟩ : ∃ f0 f1, fs = [f0, f1] := by
    rcases fs with _ | ⟨f0, _ | ⟨f1, _ | ⟨f2, r⟩⟩⟩
    · simp at hf
    · simp at hf
    · exact ⟨f0, f1, rfl⟩
    · simp at hf
  simp only [List.map_cons, List.map_nil, List.cons.injEq, Prod.mk.injEq, and_true, beq_eq_false_iff_ne] at hf
  obtain ⟨⟨n0, t0, o0⟩, n1, t1, o1⟩ := hf
  have hp : Try.prog.plainKey 3 = true := by kernel_rfl
  have p0 : ∀ (a b : Value), (part 3 #[a, b] 0).run Try.prog W = .ok a W := fun a b => run_part_plain W hp rfl
  have p1 : ∀ (a b : Value), (part 3 #[a, b] 1).run Try.prog W = .ok b W := fun a b => run_part_plain W hp rfl
  have q : ∀ a b : Int, (Op.equalIn (k + 1) 3 (.int .i64 a) (.int .i64 b)).run Try.prog W = .ok (a == b) W := fun a b => run_equalIn_int W k 3 .i64 .i64 a b Try.underlying3
  unfold eqD
  cases h1 : (d == e) <;> cases h2 : (n == m) <;>
    simp [Op.eqFields, n0, t0, o0, n1, t1, o1, p0, p1, q, h1, h2]
theorem dotT_eql (d n e m : Int) (W : World) : (binOp .eql 35 (.agg #[.int .i64 d, .int .i64 n]) (.agg #[.int .i64 e, .int .i64 m])).run Try.prog W = .ok (.bool (eqD d n e m)) W := by
  rw [run_eql_struct, dotT_eq]; rfl

theorem factT_fields : Try.prog.underlying 37 = some (.struct (Try.prog.fieldsOf 37)) := by kernel_rfl
theorem factT_stood : Try.prog.stoodInHeld 37 = false := by kernel_rfl
theorem factT_guard : Try.prog.eqGuardType Try.prog.depth 37 = false := by kernel_rfl
def eqF (x y : Fc) : Bool := eqD x.d x.n y.d y.n && (x.key.toList == y.key.toList && (x.kind == y.kind && (x.item.toList == y.item.toList && x.v == y.v)))
theorem toList_iff (a b : ByteArray) : (a.toList == b.toList) = true ↔ a = b := by
  rw [ByteArray.toList_eq, ByteArray.toList_eq, beq_iff_eq]
  exact ⟨fun h => ByteArray.ext (Array.ext' h), fun h => by rw [h]⟩
theorem eqF_iff (x y : Fc) : eqF x y = true ↔ x = y := by
  unfold eqF
  rw [Bool.and_eq_true, Bool.and_eq_true, Bool.and_eq_true, Bool.and_eq_true, eqD_iff, toList_iff, toList_iff, beq_iff_eq, beq_iff_eq]
  exact ⟨fun ⟨⟨h1, h2⟩, h3, h4, h5, h6⟩ => Fc.same h1 h2 h3 h4 h5 h6, fun h => by subst h; exact ⟨⟨rfl, rfl⟩, rfl, rfl, rfl, rfl⟩⟩
theorem factT_eq (x y : Fc) (W : World) : (Op.equalIn 10000 37 (fV x) (fV y)).run Try.prog W = .ok (eqF x y) W := by
  unfold fV
  rw [run_equalIn_struct W 9999 _ _ _ factT_fields factT_stood]
  have hf : (Try.prog.fieldsOf 37).toList.map (fun f => (f.name == "_", f.type, f.offset)) = [(false, 35, 0), (false, 9, 2), (false, 3, 3), (false, 9, 4), (false, 3, 5)] := by kernel_rfl
  generalize (Try.prog.fieldsOf 37).toList = fs at hf
  obtain ⟨f0, f1, f2, f3, f4, rfl⟩ : ∃ f0 f1 f2 f3 f4, fs = [f0, f1, f2, f3, f4] := by
    rcases fs with _ | ⟨f0, _ | ⟨f1, _ | ⟨f2, _ | ⟨f3, _ | ⟨f4, _ | ⟨f5, r⟩⟩⟩⟩⟩⟩
    · simp at hf
    · simp at hf
    · simp at hf
    · simp at hf
    · simp at hf
    · exact ⟨f0, f1, f2, f3, f4, rfl⟩
    · simp at hf
  simp only [List.map_cons, List.map_nil, List.cons.injEq, Prod.mk.injEq, and_true, beq_eq_false_iff_ne] at hf
  obtain ⟨⟨n0, t0, o0⟩, ⟨n1, t1, o1⟩, ⟨n2, t2, o2⟩, ⟨n3, t3, o3⟩, n4, t4, o4⟩ := hf
  have hp : Try.prog.plainKey 3 = true := by kernel_rfl
  have hs : Try.prog.plainKey 9 = true := by kernel_rfl
  have p0 : ∀ (z : Fc), (part 35 #[.int .i64 z.d, .int .i64 z.n, .string z.key, .int .i64 z.kind, .string z.item, .int .i64 z.v] 0).run Try.prog W = .ok (.agg #[.int .i64 z.d, .int .i64 z.n]) W := fun z => by
    simp [part, Try.isAgg35, Try.sizeOf35]
  have p1 : ∀ (a b c d e f : Value), (part 9 #[a, b, c, d, e, f] 2).run Try.prog W = .ok c W := fun a b c d e f => run_part_plain W hs rfl
  have p2 : ∀ (a b c d e f : Value), (part 3 #[a, b, c, d, e, f] 3).run Try.prog W = .ok d W := fun a b c d e f => run_part_plain W hp rfl
  have p3 : ∀ (a b c d e f : Value), (part 9 #[a, b, c, d, e, f] 4).run Try.prog W = .ok e W := fun a b c d e f => run_part_plain W hs rfl
  have p4 : ∀ (a b c d e f : Value), (part 3 #[a, b, c, d, e, f] 5).run Try.prog W = .ok f W := fun a b c d e f => run_part_plain W hp rfl
  have q0 : ∀ d n e m : Int, (Op.equalIn 9999 35 (.agg #[.int .i64 d, .int .i64 n]) (.agg #[.int .i64 e, .int .i64 m])).run Try.prog W = .ok (eqD d n e m) W := fun d n e m => dotT_eq 9997 d n e m W
  have q : ∀ a b : Int, (Op.equalIn 9999 3 (.int .i64 a) (.int .i64 b)).run Try.prog W = .ok (a == b) W := fun a b => run_equalIn_int W 9998 3 .i64 .i64 a b Try.underlying3
  have qs : ∀ a b : ByteArray, (Op.equalIn 9999 9 (.string a) (.string b)).run Try.prog W = .ok (a.toList == b.toList) W := fun a b => run_equalIn_string W 9998 9 a b Try.underlying9
  unfold eqF
  cases h1 : eqD x.d x.n y.d y.n <;> cases h2 : (x.key.toList == y.key.toList) <;> cases h3 : (x.kind == y.kind) <;> cases h4 : (x.item.toList == y.item.toList) <;> cases h5 : (x.v == y.v) <;>
    simp only [Op.eqFields, n0, t0, o0, n1, t1, o1, n2, t2, o2, n3, t3, o3, n4, t4, o4, p0, p1, p2, p3, p4, q0, q, qs, h1, h2, h3, h4, h5, Sem.run_bind, Sem.run_pure, Result.andThen_ok, ne_eq, not_false_eq_true, if_true, if_false, Bool.not_true, Bool.not_false, Bool.false_eq_true, Bool.true_and, Bool.false_and, Bool.and_self]
theorem factT_eql (x y : Fc) (W : World) : (binOp .eql 37 (.agg #[.int .i64 x.d, .int .i64 x.n, .string x.key, .int .i64 x.kind, .string x.item, .int .i64 x.v]) (.agg #[.int .i64 y.d, .int .i64 y.n, .string y.key, .int .i64 y.kind, .string y.item, .int .i64 y.v])).run Try.prog W = .ok (.bool (eqF x y)) W := by
  have h := factT_eq x y W
  unfold fV at h
  rw [run_eql_struct, h]; rfl
theorem factT_neq (x y : Fc) (W : World) : (binOp .neq 37 (.agg #[.int .i64 x.d, .int .i64 x.n, .string x.key, .int .i64 x.kind, .string x.item, .int .i64 x.v]) (.agg #[.int .i64 y.d, .int .i64 y.n, .string y.key, .int .i64 y.kind, .string y.item, .int .i64 y.v])).run Try.prog W = .ok (.bool (!eqF x y)) W := by
  have h := factT_eq x y W
  unfold fV at h
  rw [run_neq_struct, h]; rfl
end Go.Proofs.Ytblndpfgfakdeaa.Dt
