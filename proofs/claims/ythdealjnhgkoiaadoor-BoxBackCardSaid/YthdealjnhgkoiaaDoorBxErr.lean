/- box's errors within: what they are, what errors.Is says of a refusal. -/
import Derived.Test.YthdealjnhgkoiaaDoorSh
import Derived.Deep.OwnRows
import Derived.LaidEql
import Derived.Stop.Asserts
import Derived.RowKitTokens
namespace Go.Proofs.YthdealjnhgkoiaaDoor.Bx
open Go.RowKit Wd Mm

/-- What an error's variable holds: a pointer to something. -/
def BE (w : World) (g : Nat) : Prop := ∃ (a : Addr) (c : Array Value) (t : TypeId), w.cell? ⟨g, 0, none⟩ = some (.iface 113 (.pointer (some a))) ∧ w.heap[a.block]? = some (.cells c t (0, 0))
theorem BE.keep {w w' : World} {g : Nat} (h : BE w g) (hg : w.grownBy w' none) : BE w' g := by
  obtain ⟨a, c, t, h0, hb⟩ := h
  exact ⟨a, c, t, (World.cell?_of_block (hg.block _ (block_lt_of_cell h0) (by simp))).trans h0, (hg.block _ (Array.getElem?_eq_some_iff.1 hb).1 (by simp)).trans hb⟩
def BErrs (w : World) : Prop := BE w 3 ∧ BE w 4 ∧ BE w 0 ∧ BE w 1 ∧ BE w 2
theorem BErrs.keep {w w' : World} (h : BErrs w) (hg : w.grownBy w' none) : BErrs w' := ⟨h.1.keep hg, h.2.1.keep hg, h.2.2.1.keep hg, h.2.2.2.1.keep hg, h.2.2.2.2.keep hg⟩

set_option maxHeartbeats 1000000 in
theorem is_nil (b : Addr) (w : World) : Calls Tryd.prog 24 #[.nilIface, .iface 113 (.pointer (some b))] w fun e w' => e = .returned (.bool false) ∧ w = w' := by
  have hn := run_eql_iface_nil_left (P := Tryd.prog) w 113 (.pointer (some b)) Tryd.underlying41
  go_enter Tryd.func24, Tryd.ntmps24
  go_wp2_with fail
  go_ret
  exact ⟨rfl, rfl⟩

theorem typeOf_err (v : Value) (w : World) : (Extern.ReflectliteType.typeOf #[.iface 113 v]).run Tryd.prog w = .ok (.iface 82 (.agg #[.pointer (some ⟨7, 113, none⟩)])) w := by kernel_rfl
/-- What the model answers for Comparable. -/
def compX : Array Value → Sem Value := Extern.ReflectliteType.method fun t => do Extern.Rtype.noPackHeld "Comparable" t; pure (.bool (← typeInfo t).comparable)
theorem comparable_err (w : World) : (compX #[.agg #[.pointer (some ⟨7, 113, none⟩)]]).run Tryd.prog w = .ok (.bool true) w := by kernel_rfl
theorem method_comp (v : Value) (w : World) : (Go.method 248 82 v "Comparable").run Tryd.prog w = .ok (83, v) w := by kernel_rfl
theorem method_unwrap (v : Value) (w : World) : (Go.method 248 49 v "Unwrap").run Tryd.prog w = .ok (79, v) w := by kernel_rfl
theorem comp_err : (Tryd.prog.info? 113).map (·.comparable) = some true := by kernel_rfl
theorem size_err : (Tryd.prog.info? 137).map (·.size) = some 1 := by kernel_rfl
theorem noIs_err (v : Value) (xT : TypeId) (w : World) : (Instr.typeAssert (.iface 113 v) xT 84 true).run Tryd.prog w = .ok (.tuple #[.nilIface, .bool false]) w := run_typeAssert_lacksB Tryd.underlying84 (by kernel_rfl) (by kernel_rfl) v xT w
theorem noUnwrap_err (v : Value) (xT : TypeId) (w : World) : (Instr.typeAssert (.iface 113 v) xT 87 true).run Tryd.prog w = .ok (.tuple #[.nilIface, .bool false]) w := run_typeAssert_lacksB Tryd.underlying87 (by kernel_rfl) (by kernel_rfl) v xT w
theorem noUnwraps_err (v : Value) (xT : TypeId) (w : World) : (Instr.typeAssert (.iface 113 v) xT 89 true).run Tryd.prog w = .ok (.tuple #[.nilIface, .bool false]) w := run_typeAssert_lacksB Tryd.underlying89 (by kernel_rfl) (by kernel_rfl) v xT w
theorem noIs_ref (v : Value) (xT : TypeId) (w : World) : (Instr.typeAssert (.iface 49 v) xT 84 true).run Tryd.prog w = .ok (.tuple #[.nilIface, .bool false]) w := run_typeAssert_lacksB Tryd.underlying84 (by kernel_rfl) (by kernel_rfl) v xT w
theorem hasUnwrap_ref (v : Value) (xT : TypeId) (w : World) : (Instr.typeAssert (.iface 49 v) xT 87 true).run Tryd.prog w = .ok (.tuple #[.iface 49 v, .bool true]) w := run_typeAssert_hasB Tryd.underlying87 (by kernel_rfl) v xT w
theorem unwrap_any (p : ByteArray) (n : Int) (E : Value) (w : World) (hE : ∃ t a, E = .iface t (.pointer (some a))) : Calls Tryd.prog 79 #[.agg #[.string p, .int .i64 n, E]] w fun e w' => e = .returned E ∧ w.grownBy w' none := by
  obtain ⟨t, a, rfl⟩ := hE
  go_enter Tryd.func79, Tryd.ntmps79
  go_wp2_with fail
  go_ret
  exact ⟨rfl, gb_alloc (gb_refl _ _) _⟩

set_option maxHeartbeats 1000000 in
set_option maxRecDepth 100000 in
theorem loop_same (p : ByteArray) (n : Int) (b : Addr) (w : World) :
    Calls Tryd.prog 34 #[.iface 49 (.agg #[.string p, .int .i64 n, .iface 113 (.pointer (some b))]), .iface 113 (.pointer (some b)), .bool true] w fun e w' => e = .returned (.bool true) ∧ w.grownBy w' none := by
  obtain ⟨i, hi, hcmp⟩ := Option.map_eq_some_iff.1 comp_err
  obtain ⟨j, hj, hjs⟩ := Option.map_eq_some_iff.1 size_err
  have nW := noIs_ref
  have uW := hasUnwrap_ref
  have mU := method_unwrap
  have hty := run_eql_iface_types (P := Tryd.prog) 49 113 (.agg #[.string p, .int .i64 n, .iface 113 (.pointer (some b))]) (.pointer (some b)) Tryd.underlying41 (by decide) w
  go_enter Tryd.func34, Tryd.ntmps34
  go_wp2_with fail
  refine wp_loop_rounds 2 ?_
  rw [rounds_succ]
  go_wp2_with fail
  refine (unwrap_any p n _ _ ⟨_, _, rfl⟩).mono ?_
  rintro e w1 ⟨rfl, g1⟩
  have heq := run_eql_iface_ptr_same (P := Tryd.prog) w1 b Tryd.underlying41 Tryd.underlying113 hi hcmp hj
  go_wp2_with fail
  rw [rounds_succ]
  go_wp2_with fail
  go_ret
  exact ⟨rfl, g1⟩
set_option maxHeartbeats 1000000 in
set_option maxRecDepth 100000 in
theorem loop_other (p : ByteArray) (n : Int) (a b : Addr) (ca cb : Array Value) (ta tb : TypeId) (w : World) (hne : a ≠ b) (ha : w.heap[a.block]? = some (.cells ca ta (0, 0))) (hb : w.heap[b.block]? = some (.cells cb tb (0, 0))) :
    Calls Tryd.prog 34 #[.iface 49 (.agg #[.string p, .int .i64 n, .iface 113 (.pointer (some a))]), .iface 113 (.pointer (some b)), .bool true] w fun e w' => e = .returned (.bool false) ∧ w.grownBy w' none := by
  obtain ⟨i, hi, hcmp⟩ := Option.map_eq_some_iff.1 comp_err
  obtain ⟨j, hj, hjs⟩ := Option.map_eq_some_iff.1 size_err
  have nE := noIs_err
  have uE := noUnwrap_err
  have vE := noUnwraps_err
  have nW := noIs_ref
  have uW := hasUnwrap_ref
  have mU := method_unwrap
  have hty := run_eql_iface_types (P := Tryd.prog) 49 113 (.agg #[.string p, .int .i64 n, .iface 113 (.pointer (some a))]) (.pointer (some b)) Tryd.underlying41 (by decide) w
  have Ha := Lib.hid ha
  have Hb := Lib.hid hb
  have Hne := Lib.hid hne
  clear ha hb hne
  go_enter Tryd.func34, Tryd.ntmps34
  go_wp2_with fail
  refine wp_loop_rounds 2 ?_
  rw [rounds_succ]
  go_wp2_with fail
  refine (unwrap_any p n _ _ ⟨_, _, rfl⟩).mono ?_
  rintro e w1 ⟨rfl, g1⟩
  have heq := run_eql_iface_ptr_other (P := Tryd.prog) w1 Tryd.underlying41 Tryd.underlying113 hi hcmp hj (by rw [hjs]; decide) Hne.out ((g1.block _ (Array.getElem?_eq_some_iff.1 Ha.out).1 (by simp)).trans Ha.out) ((g1.block _ (Array.getElem?_eq_some_iff.1 Hb.out).1 (by simp)).trans Hb.out)
  go_wp2_with fail
  rw [rounds_succ]
  go_wp2_with fail
  go_ret
  exact ⟨rfl, g1⟩

set_option maxHeartbeats 1000000 in
set_option maxRecDepth 100000 in
theorem is_ref (p : ByteArray) (n : Int) (a b : Addr) (ca cb : Array Value) (ta tb : TypeId) (w : World) (ha : w.heap[a.block]? = some (.cells ca ta (0, 0))) (hb : w.heap[b.block]? = some (.cells cb tb (0, 0))) (q : Bool) (hp : q = true ∧ a = b ∨ q = false ∧ a ≠ b) :
    Calls Tryd.prog 24 #[.iface 49 (.agg #[.string p, .int .i64 n, .iface 113 (.pointer (some a))]), .iface 113 (.pointer (some b))] w fun e w' => e = .returned (.bool q) ∧ w.grownBy w' none := by
  have h8 := @run_callFunc_extern Tryd.prog 33 _ Extern.ReflectliteType.typeOf Tryd.func33 (by kernel_rfl) (by kernel_rfl) (by kernel_rfl) (by kernel_rfl)
  have h32 := @run_callFunc_extern Tryd.prog 83 _ compX Tryd.func83 (by kernel_rfl) (by kernel_rfl) (by kernel_rfl) (by kernel_rfl)
  have tT := typeOf_err
  have cT := comparable_err
  have mC := method_comp
  have hl : Calls Tryd.prog 34 #[.iface 49 (.agg #[.string p, .int .i64 n, .iface 113 (.pointer (some a))]), .iface 113 (.pointer (some b)), .bool true] w fun e w' => e = .returned (.bool q) ∧ w.grownBy w' none := by
    rcases hp with ⟨rfl, rfl⟩ | ⟨rfl, hne⟩
    · exact loop_same p n a w
    · exact loop_other p n a b ca cb ta tb w hne ha hb
  have Hl := Lib.hid hl
  clear ha hb hp hl
  go_enter Tryd.func24, Tryd.ntmps24
  go_wp2_with fail
  refine Hl.out.mono ?_
  rintro e w1 ⟨rfl, g1⟩
  go_wp2_with fail
  go_ret
  exact ⟨rfl, g1⟩
end Go.Proofs.YthdealjnhgkoiaaDoor.Bx
