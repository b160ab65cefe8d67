/- An error of one's own that wraps another one: what errors.Is says of it. Written by gen_err.py. -/
import Derived.Test.YtbdpckphlagijaaDoorSn
import Derived.Deep.OwnRows
import Derived.LaidEql
import Derived.Stop.Asserts
import Derived.RowKitTokens
import Derived.Lib.Hide
namespace Go.Proofs.YtbdpckphlagijaaDoor.Er
open Go Go.RowKit Go.Proofs.YtbdpckphlagijaaDoor.Wd Go.Proofs.YtbdpckphlagijaaDoor.Mm Go.Proofs.YtbdpckphlagijaaDoor.Sn

/-- Such an error, for whatever it says. -/
def refV (x : ByteArray) (y : Int) (a : Addr) : Value := .iface 74 (.agg #[.string x, .int .i64 y, .iface 109 (.pointer (some a))])
set_option maxHeartbeats 1000000 in
theorem is_nil (b : Addr) (w : World) : Calls Tryd.prog 20 #[.nilIface, .iface 109 (.pointer (some b))] w fun e w' => e = .returned (.bool false) ∧ w = w' := by
  have hn := run_eql_iface_nil_left (P := Tryd.prog) w 109 (.pointer (some b)) Tryd.underlying52
  go_enter Tryd.func20, Tryd.ntmps20
  go_wp2_with fail
  go_ret
  exact ⟨rfl, rfl⟩

theorem typeOf_err (v : Value) (w : World) : (Extern.ReflectliteType.typeOf #[.iface 109 v]).run Tryd.prog w = .ok (.iface 86 (.agg #[.pointer (some ⟨3, 109, none⟩)])) w := by kernel_rfl
/-- What the model answers for Comparable. -/
def compX : Array Value → Sem Value := Extern.ReflectliteType.method fun t => do Extern.Rtype.noPackHeld "Comparable" t; pure (.bool (← typeInfo t).comparable)
theorem comparable_err (w : World) : (compX #[.agg #[.pointer (some ⟨3, 109, none⟩)]]).run Tryd.prog w = .ok (.bool true) w := by kernel_rfl
theorem method_comp (v : Value) (w : World) : (Go.method 246 86 v "Comparable").run Tryd.prog w = .ok (72, v) w := by kernel_rfl
theorem method_unwrap (v : Value) (w : World) : (Go.method 246 74 v "Unwrap").run Tryd.prog w = .ok (68, v) w := by kernel_rfl
theorem comp_err : (Tryd.prog.info? 109).map (·.comparable) = some true := by kernel_rfl
theorem size_err : (Tryd.prog.info? 135).map (·.size) = some 1 := by kernel_rfl
theorem noIs_err (v : Value) (xT : TypeId) (w : World) : (Instr.typeAssert (.iface 109 v) xT 88 true).run Tryd.prog w = .ok (.tuple #[.nilIface, .bool false]) w := run_typeAssert_lacksB Tryd.underlying88 (by kernel_rfl) (by kernel_rfl) v xT w
theorem noUnwrap_err (v : Value) (xT : TypeId) (w : World) : (Instr.typeAssert (.iface 109 v) xT 91 true).run Tryd.prog w = .ok (.tuple #[.nilIface, .bool false]) w := run_typeAssert_lacksB Tryd.underlying91 (by kernel_rfl) (by kernel_rfl) v xT w
theorem noUnwraps_err (v : Value) (xT : TypeId) (w : World) : (Instr.typeAssert (.iface 109 v) xT 93 true).run Tryd.prog w = .ok (.tuple #[.nilIface, .bool false]) w := run_typeAssert_lacksB Tryd.underlying93 (by kernel_rfl) (by kernel_rfl) v xT w
theorem noIs_ref (v : Value) (xT : TypeId) (w : World) : (Instr.typeAssert (.iface 74 v) xT 88 true).run Tryd.prog w = .ok (.tuple #[.nilIface, .bool false]) w := run_typeAssert_lacksB Tryd.underlying88 (by kernel_rfl) (by kernel_rfl) v xT w
theorem hasUnwrap_ref (v : Value) (xT : TypeId) (w : World) : (Instr.typeAssert (.iface 74 v) xT 91 true).run Tryd.prog w = .ok (.tuple #[.iface 74 v, .bool true]) w := run_typeAssert_hasB Tryd.underlying91 (by kernel_rfl) v xT w
theorem unwrap_any (x : ByteArray) (y : Int) (E : Value) (w : World) (hE : ∃ t a, E = .iface t (.pointer (some a))) : Calls Tryd.prog 68 #[.agg #[.string x, .int .i64 y, E]] w fun e w' => e = .returned E ∧ w.grownBy w' none := by
  obtain ⟨t, a, rfl⟩ := hE
  go_enter Tryd.func68, Tryd.ntmps68
  go_wp2_with fail
  go_ret
  exact ⟨rfl, gb_alloc (gb_refl _ _) _⟩

set_option maxHeartbeats 1000000 in
set_option maxRecDepth 100000 in
theorem loop_same (x : ByteArray) (y : Int) (b : Addr) (w : World) :
    Calls Tryd.prog 32 #[.iface 74 (.agg #[.string x, .int .i64 y, .iface 109 (.pointer (some b))]), .iface 109 (.pointer (some b)), .bool true] w fun e w' => e = .returned (.bool true) ∧ w.grownBy w' none := by
  obtain ⟨i, hi, hcmp⟩ := Option.map_eq_some_iff.1 comp_err
  obtain ⟨j, hj, hjs⟩ := Option.map_eq_some_iff.1 size_err
  have nW := noIs_ref
  have uW := hasUnwrap_ref
  have mU := method_unwrap
  have hty := run_eql_iface_types (P := Tryd.prog) 74 109 (.agg #[.string x, .int .i64 y, .iface 109 (.pointer (some b))]) (.pointer (some b)) Tryd.underlying52 (by decide) w
  go_enter Tryd.func32, Tryd.ntmps32
  go_wp2_with fail
  refine wp_loop_rounds 2 ?_
  rw [rounds_succ]
  go_wp2_with fail
  refine (unwrap_any x y _ _ ⟨_, _, rfl⟩).mono ?_
  rintro e w1 ⟨rfl, g1⟩
  have heq := run_eql_iface_ptr_same (P := Tryd.prog) w1 b Tryd.underlying52 Tryd.underlying109 hi hcmp hj
  go_wp2_with fail
  rw [rounds_succ]
  go_wp2_with fail
  go_ret
  exact ⟨rfl, g1⟩
set_option maxHeartbeats 1000000 in
set_option maxRecDepth 100000 in
theorem loop_other (x : ByteArray) (y : Int) (a b : Addr) (ca cb : Array Value) (ta tb : TypeId) (w : World) (hne : a ≠ b) (ha : w.heap[a.block]? = some (.cells ca ta (0, 0))) (hb : w.heap[b.block]? = some (.cells cb tb (0, 0))) :
    Calls Tryd.prog 32 #[.iface 74 (.agg #[.string x, .int .i64 y, .iface 109 (.pointer (some a))]), .iface 109 (.pointer (some b)), .bool true] w fun e w' => e = .returned (.bool false) ∧ w.grownBy w' none := by
  obtain ⟨i, hi, hcmp⟩ := Option.map_eq_some_iff.1 comp_err
  obtain ⟨j, hj, hjs⟩ := Option.map_eq_some_iff.1 size_err
  have nE := noIs_err
  have uE := noUnwrap_err
  have vE := noUnwraps_err
  have nW := noIs_ref
  have uW := hasUnwrap_ref
  have mU := method_unwrap
  have hty := run_eql_iface_types (P := Tryd.prog) 74 109 (.agg #[.string x, .int .i64 y, .iface 109 (.pointer (some a))]) (.pointer (some b)) Tryd.underlying52 (by decide) w
  have Ha := Lib.hid ha
  have Hb := Lib.hid hb
  have Hne := Lib.hid hne
  clear ha hb hne
  go_enter Tryd.func32, Tryd.ntmps32
  go_wp2_with fail
  refine wp_loop_rounds 2 ?_
  rw [rounds_succ]
  go_wp2_with fail
  refine (unwrap_any x y _ _ ⟨_, _, rfl⟩).mono ?_
  rintro e w1 ⟨rfl, g1⟩
  have heq := run_eql_iface_ptr_other (P := Tryd.prog) w1 Tryd.underlying52 Tryd.underlying109 hi hcmp hj (by rw [hjs]; decide) Hne.out ((g1.block _ (Array.getElem?_eq_some_iff.1 Ha.out).1 (by simp)).trans Ha.out) ((g1.block _ (Array.getElem?_eq_some_iff.1 Hb.out).1 (by simp)).trans Hb.out)
  go_wp2_with fail
  rw [rounds_succ]
  go_wp2_with fail
  go_ret
  exact ⟨rfl, g1⟩

set_option maxHeartbeats 1000000 in
set_option maxRecDepth 100000 in
theorem is_ref (x : ByteArray) (y : Int) (a b : Addr) (ca cb : Array Value) (ta tb : TypeId) (w : World) (ha : w.heap[a.block]? = some (.cells ca ta (0, 0))) (hb : w.heap[b.block]? = some (.cells cb tb (0, 0))) (q : Bool) (hp : q = true ∧ a = b ∨ q = false ∧ a ≠ b) :
    Calls Tryd.prog 20 #[.iface 74 (.agg #[.string x, .int .i64 y, .iface 109 (.pointer (some a))]), .iface 109 (.pointer (some b))] w fun e w' => e = .returned (.bool q) ∧ w.grownBy w' none := by
  have h8 := @run_callFunc_extern Tryd.prog 31 _ Extern.ReflectliteType.typeOf Tryd.func31 (by kernel_rfl) (by kernel_rfl) (by kernel_rfl) (by kernel_rfl)
  have h32 := @run_callFunc_extern Tryd.prog 72 _ compX Tryd.func72 (by kernel_rfl) (by kernel_rfl) (by kernel_rfl) (by kernel_rfl)
  have tT := typeOf_err
  have cT := comparable_err
  have mC := method_comp
  have hl : Calls Tryd.prog 32 #[.iface 74 (.agg #[.string x, .int .i64 y, .iface 109 (.pointer (some a))]), .iface 109 (.pointer (some b)), .bool true] w fun e w' => e = .returned (.bool q) ∧ w.grownBy w' none := by
    rcases hp with ⟨rfl, rfl⟩ | ⟨rfl, hne⟩
    · exact loop_same x y a w
    · exact loop_other x y a b ca cb ta tb w hne ha hb
  have Hl := Lib.hid hl
  clear ha hb hp hl
  go_enter Tryd.func20, Tryd.ntmps20
  go_wp2_with fail
  refine Hl.out.mono ?_
  rintro e w1 ⟨rfl, g1⟩
  go_wp2_with fail
  go_ret
  exact ⟨rfl, g1⟩
end Go.Proofs.YtbdpckphlagijaaDoor.Er
