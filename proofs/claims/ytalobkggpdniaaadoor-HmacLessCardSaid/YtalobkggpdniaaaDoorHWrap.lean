/- errors.Is at a length's error. -/
import Derived.Test.YtalobkggpdniaaaDoorHIs
namespace Go.Proofs.YtalobkggpdniaaaDoor
open Go.RowKit Wd Mm

theorem typeOf_err (v : Value) (w : World) : (Extern.ReflectliteType.typeOf #[.iface 101 v]).run Tryd.prog w = .ok (.iface 86 (.agg #[.pointer (some ⟨5, 101, none⟩)])) w := by kernel_rfl
/-- What the model answers for Comparable. -/
def compX : Array Value → Sem Value := Extern.ReflectliteType.method fun t => do Extern.Rtype.noPackHeld "Comparable" t; pure (.bool (← typeInfo t).comparable)
theorem comparable_err (w : World) : (compX #[.agg #[.pointer (some ⟨5, 101, none⟩)]]).run Tryd.prog w = .ok (.bool true) w := by kernel_rfl
theorem method_comp (v : Value) (w : World) : (Go.method 233 86 v "Comparable").run Tryd.prog w = .ok (78, v) w := by kernel_rfl
theorem method_unwrap (v : Value) (w : World) : (Go.method 233 70 v "Unwrap").run Tryd.prog w = .ok (73, v) w := by kernel_rfl
theorem comp_err : (Tryd.prog.info? 101).map (·.comparable) = some true := by kernel_rfl
theorem size_err : (Tryd.prog.info? 123).map (·.size) = some 1 := by kernel_rfl
theorem noIs_err (v : Value) (xT : TypeId) (w : World) : (Instr.typeAssert (.iface 101 v) xT 88 true).run Tryd.prog w = .ok (.tuple #[.nilIface, .bool false]) w := run_typeAssert_lacksB Tryd.underlying88 (by kernel_rfl) (by kernel_rfl) v xT w
theorem noUnwrap_err (v : Value) (xT : TypeId) (w : World) : (Instr.typeAssert (.iface 101 v) xT 91 true).run Tryd.prog w = .ok (.tuple #[.nilIface, .bool false]) w := run_typeAssert_lacksB Tryd.underlying91 (by kernel_rfl) (by kernel_rfl) v xT w
theorem noUnwraps_err (v : Value) (xT : TypeId) (w : World) : (Instr.typeAssert (.iface 101 v) xT 93 true).run Tryd.prog w = .ok (.tuple #[.nilIface, .bool false]) w := run_typeAssert_lacksB Tryd.underlying93 (by kernel_rfl) (by kernel_rfl) v xT w
theorem noIs_len (v : Value) (xT : TypeId) (w : World) : (Instr.typeAssert (.iface 70 v) xT 88 true).run Tryd.prog w = .ok (.tuple #[.nilIface, .bool false]) w := run_typeAssert_lacksB Tryd.underlying88 (by kernel_rfl) (by kernel_rfl) v xT w
theorem hasUnwrap_len (v : Value) (xT : TypeId) (w : World) : (Instr.typeAssert (.iface 70 v) xT 91 true).run Tryd.prog w = .ok (.tuple #[.iface 70 v, .bool true]) w := run_typeAssert_hasB Tryd.underlying91 (by kernel_rfl) v xT w
theorem unwrap_any (n : Int) (E : Value) (w : World) (hE : ∃ t p, E = .iface t (.pointer (some p))) : Calls Tryd.prog 73 #[.agg #[.int .i64 n, E]] w fun e w' => e = .returned E ∧ w.grownBy w' none := by
  obtain ⟨t, p, rfl⟩ := hE
  go_enter Tryd.func73, Tryd.ntmps73
  go_wp2_with fail
  go_ret
  exact ⟨rfl, gb_alloc (gb_refl _ _) _⟩

set_option maxHeartbeats 1000000 in
set_option maxRecDepth 100000 in
theorem loop_same (n : Int) (b : Addr) (w : World) :
    Calls Tryd.prog 41 #[.iface 70 (.agg #[.int .i64 n, .iface 101 (.pointer (some b))]), .iface 101 (.pointer (some b)), .bool true] w fun e w' => e = .returned (.bool true) ∧ w.grownBy w' none := by
  obtain ⟨i, hi, hcmp⟩ := Option.map_eq_some_iff.1 comp_err
  obtain ⟨j, hj, hjs⟩ := Option.map_eq_some_iff.1 size_err
  have nW := noIs_len
  have uW := hasUnwrap_len
  have mU := method_unwrap
  have hty := run_eql_iface_types (P := Tryd.prog) 70 101 (.agg #[.int .i64 n, .iface 101 (.pointer (some b))]) (.pointer (some b)) Tryd.underlying59 (by decide) w
  go_enter Tryd.func41, Tryd.ntmps41
  go_wp2_with fail
  refine wp_loop_rounds 2 ?_
  rw [rounds_succ]
  go_wp2_with fail
  refine (unwrap_any n _ _ ⟨_, _, rfl⟩).mono ?_
  rintro e w1 ⟨rfl, g1⟩
  have heq := run_eql_iface_ptr_same (P := Tryd.prog) w1 b Tryd.underlying59 Tryd.underlying101 hi hcmp hj
  go_wp2_with fail
  rw [rounds_succ]
  go_wp2_with fail
  go_ret
  exact ⟨rfl, g1⟩
set_option maxHeartbeats 1000000 in
set_option maxRecDepth 100000 in
theorem loop_other (n : Int) (a b : Addr) (ca cb : Array Value) (ta tb : TypeId) (w : World) (hne : a ≠ b) (ha : w.heap[a.block]? = some (.cells ca ta (0, 0))) (hb : w.heap[b.block]? = some (.cells cb tb (0, 0))) :
    Calls Tryd.prog 41 #[.iface 70 (.agg #[.int .i64 n, .iface 101 (.pointer (some a))]), .iface 101 (.pointer (some b)), .bool true] w fun e w' => e = .returned (.bool false) ∧ w.grownBy w' none := by
  obtain ⟨i, hi, hcmp⟩ := Option.map_eq_some_iff.1 comp_err
  obtain ⟨j, hj, hjs⟩ := Option.map_eq_some_iff.1 size_err
  have nE := noIs_err
  have uE := noUnwrap_err
  have vE := noUnwraps_err
  have nW := noIs_len
  have uW := hasUnwrap_len
  have mU := method_unwrap
  have hty := run_eql_iface_types (P := Tryd.prog) 70 101 (.agg #[.int .i64 n, .iface 101 (.pointer (some a))]) (.pointer (some b)) Tryd.underlying59 (by decide) w
  have Ha := Lib.hid ha
  have Hb := Lib.hid hb
  have Hne := Lib.hid hne
  clear ha hb hne
  go_enter Tryd.func41, Tryd.ntmps41
  go_wp2_with fail
  refine wp_loop_rounds 2 ?_
  rw [rounds_succ]
  go_wp2_with fail
  refine (unwrap_any n _ _ ⟨_, _, rfl⟩).mono ?_
  rintro e w1 ⟨rfl, g1⟩
  have heq := run_eql_iface_ptr_other (P := Tryd.prog) w1 Tryd.underlying59 Tryd.underlying101 hi hcmp hj (by rw [hjs]; decide) Hne.out ((g1.block _ (Array.getElem?_eq_some_iff.1 Ha.out).1 (by simp)).trans Ha.out) ((g1.block _ (Array.getElem?_eq_some_iff.1 Hb.out).1 (by simp)).trans Hb.out)
  go_wp2_with fail
  rw [rounds_succ]
  go_wp2_with fail
  go_ret
  exact ⟨rfl, g1⟩

set_option maxHeartbeats 1000000 in
set_option maxRecDepth 100000 in
theorem is_len (n : Int) (a b : Addr) (ca cb : Array Value) (ta tb : TypeId) (w : World) (ha : w.heap[a.block]? = some (.cells ca ta (0, 0))) (hb : w.heap[b.block]? = some (.cells cb tb (0, 0))) (p : Bool) (hp : p = true ∧ a = b ∨ p = false ∧ a ≠ b) :
    Calls Tryd.prog 34 #[.iface 70 (.agg #[.int .i64 n, .iface 101 (.pointer (some a))]), .iface 101 (.pointer (some b))] w fun e w' => e = .returned (.bool p) ∧ w.grownBy w' none := by
  have h8 := @run_callFunc_extern Tryd.prog 40 _ Extern.ReflectliteType.typeOf Tryd.func40 (by kernel_rfl) (by kernel_rfl) (by kernel_rfl) (by kernel_rfl)
  have h32 := @run_callFunc_extern Tryd.prog 78 _ compX Tryd.func78 (by kernel_rfl) (by kernel_rfl) (by kernel_rfl) (by kernel_rfl)
  have tT := typeOf_err
  have cT := comparable_err
  have mC := method_comp
  have hl : Calls Tryd.prog 41 #[.iface 70 (.agg #[.int .i64 n, .iface 101 (.pointer (some a))]), .iface 101 (.pointer (some b)), .bool true] w fun e w' => e = .returned (.bool p) ∧ w.grownBy w' none := by
    rcases hp with ⟨rfl, rfl⟩ | ⟨rfl, hne⟩
    · exact loop_same n a w
    · exact loop_other n a b ca cb ta tb w hne ha hb
  have Hl := Lib.hid hl
  clear ha hb hp hl
  go_enter Tryd.func34, Tryd.ntmps34
  go_wp2_with fail
  refine Hl.out.mono ?_
  rintro e w1 ⟨rfl, g1⟩
  go_wp2_with fail
  go_ret
  exact ⟨rfl, g1⟩
end Go.Proofs.YtalobkggpdniaaaDoor
