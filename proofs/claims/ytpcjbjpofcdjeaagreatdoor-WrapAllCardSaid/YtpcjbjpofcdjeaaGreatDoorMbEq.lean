/- Errors made by errors.New: two of them are different pointers. An error of one's own that wraps another one: what errors.Is says of it. Written by gen_err.py. -/
import Derived.Test.YtpcjbjpofcdjeaaGreatDoorBaseq
import Derived.LaidEql
import Derived.Deep.OwnRows
import Derived.Stop.Asserts
import Derived.RowKitTokens
import Derived.Lib.Hide
set_option maxHeartbeats 8000000
set_option maxRecDepth 100000
namespace Go.Proofs.YtpcjbjpofcdjeaaGreatDoor.Sn
open Go Go.RowKit Wd Mm
def Two (w : World) (g h : Nat) : Prop := ∃ (a b : Addr) (c d : Array Value) (t u : TypeId), w.cell? ⟨g, 0, none⟩ = some (.iface 251 (.pointer (some a))) ∧ w.cell? ⟨h, 0, none⟩ = some (.iface 251 (.pointer (some b))) ∧ a ≠ b ∧
 w.heap[a.block]? = some (.cells c t (0, 0)) ∧ w.heap[b.block]? = some (.cells d u (0, 0))
theorem Two.keep {w w' : World} {g h : Nat} (x : Two w g h) (k : Gn w w') : Two w' g h := by
 obtain ⟨a, b, c, d, t, u, h1, h2, h3, h4, h5⟩ := x
 exact ⟨a, b, c, d, t, u, (World.cell?_of_block (k.block _ (block_lt_of_cell h1) (by simp))).trans h1, (World.cell?_of_block (k.block _ (block_lt_of_cell h2) (by simp))).trans h2, h3,
  (k.block _ (Array.getElem?_eq_some_iff.1 h4).1 (by simp)).trans h4, (k.block _ (Array.getElem?_eq_some_iff.1 h5).1 (by simp)).trans h5⟩
theorem same {w : World} {g : Nat} {a b : Addr} {t : TypeId} (h1 : w.cell? ⟨g, 0, none⟩ = some (.iface t (.pointer (some a)))) (h2 : w.cell? ⟨g, 0, none⟩ = some (.iface t (.pointer (some b)))) : a = b := by
 have := h1.symm.trans h2
 simpa using this
end Go.Proofs.YtpcjbjpofcdjeaaGreatDoor.Sn
namespace Go.Proofs.YtpcjbjpofcdjeaaGreatDoor.Me
open Go Go.RowKit Wd Mm Sn
def refV (x : ByteArray) (y : Int) (a : Addr) : Value := .iface 175 (.agg #[.string x, .int .i64 y, .iface 251 (.pointer (some a))])
theorem is_nil (b : Addr) (w : World) : Calls Tryz.prog 136 #[.nilIface, .iface 251 (.pointer (some b))] w fun e w' => e = .returned (.bool false) ∧ w = w' := by
 have hn := run_eql_iface_nil_left (P := Tryz.prog) w 251 (.pointer (some b)) Tryz.underlying72
 go_enter Tryz.func136, Tryz.ntmps136
 go_wp2_with fail
 go_ret
 exact ⟨rfl, rfl⟩
theorem typeOf_err (v : Value) (w : World) : (Extern.ReflectliteType.typeOf #[.iface 251 v]).run Tryz.prog w = .ok (.iface 180 (.agg #[.pointer (some ⟨22, 251, none⟩)])) w := by kernel_rfl
def compX : Array Value → Sem Value := Extern.ReflectliteType.method fun t => do Extern.Rtype.noPackHeld "Comparable" t; pure (.bool (← typeInfo t).comparable)
theorem comparable_err (w : World) : (compX #[.agg #[.pointer (some ⟨22, 251, none⟩)]]).run Tryz.prog w = .ok (.bool true) w := by kernel_rfl
theorem method_comp (v : Value) (w : World) : (Go.method 381 180 v "Comparable").run Tryz.prog w = .ok (222, v) w := by kernel_rfl
theorem method_unwrap (v : Value) (w : World) : (Go.method 381 175 v "Unwrap").run Tryz.prog w = .ok (219, v) w := by kernel_rfl
theorem comp_err : (Tryz.prog.info? 251).map (·.comparable) = some true := by kernel_rfl
theorem size_err : (Tryz.prog.info? 269).map (·.size) = some 1 := by kernel_rfl
theorem noIs_err (v : Value) (xT : TypeId) (w : World) : (Instr.typeAssert (.iface 251 v) xT 234 true).run Tryz.prog w = .ok (.tuple #[.nilIface, .bool false]) w := run_typeAssert_lacksB Tryz.underlying234 (by kernel_rfl) (by kernel_rfl) v xT w
theorem noUnwrap_err (v : Value) (xT : TypeId) (w : World) : (Instr.typeAssert (.iface 251 v) xT 188 true).run Tryz.prog w = .ok (.tuple #[.nilIface, .bool false]) w := run_typeAssert_lacksB Tryz.underlying188 (by kernel_rfl) (by kernel_rfl) v xT w
theorem noUnwraps_err (v : Value) (xT : TypeId) (w : World) : (Instr.typeAssert (.iface 251 v) xT 190 true).run Tryz.prog w = .ok (.tuple #[.nilIface, .bool false]) w := run_typeAssert_lacksB Tryz.underlying190 (by kernel_rfl) (by kernel_rfl) v xT w
theorem noIs_ref (v : Value) (xT : TypeId) (w : World) : (Instr.typeAssert (.iface 175 v) xT 234 true).run Tryz.prog w = .ok (.tuple #[.nilIface, .bool false]) w := run_typeAssert_lacksB Tryz.underlying234 (by kernel_rfl) (by kernel_rfl) v xT w
theorem hasUnwrap_ref (v : Value) (xT : TypeId) (w : World) : (Instr.typeAssert (.iface 175 v) xT 188 true).run Tryz.prog w = .ok (.tuple #[.iface 175 v, .bool true]) w := run_typeAssert_hasB Tryz.underlying188 (by kernel_rfl) v xT w
theorem unwrap_any (x : ByteArray) (y : Int) (E : Value) (w : World) (hE : ∃ t v, E = .iface t v) : Calls Tryz.prog 219 #[.agg #[.string x, .int .i64 y, E]] w fun e w' => e = .returned E ∧ Gn w w' := by
 obtain ⟨t, a, rfl⟩ := hE
 go_enter Tryz.func219, Tryz.ntmps219
 go_wp2_with fail
 go_ret
 exact ⟨rfl, gb_alloc (gb_refl _ _) _⟩
theorem loop_same (x : ByteArray) (y : Int) (b : Addr) (w : World) :
  Calls Tryz.prog 162 #[.iface 175 (.agg #[.string x, .int .i64 y, .iface 251 (.pointer (some b))]), .iface 251 (.pointer (some b)), .bool true] w fun e w' => e = .returned (.bool true) ∧ Gn w w' := by
 obtain ⟨i, hi, hcmp⟩ := Option.map_eq_some_iff.1 comp_err
 obtain ⟨j, hj, hjs⟩ := Option.map_eq_some_iff.1 size_err
 have nW := noIs_ref
 have uW := hasUnwrap_ref
 have mU := method_unwrap
 have hty := run_eql_iface_types (P := Tryz.prog) 175 251 (.agg #[.string x, .int .i64 y, .iface 251 (.pointer (some b))]) (.pointer (some b)) Tryz.underlying72 (by decide) w
 go_enter Tryz.func162, Tryz.ntmps162
 go_wp2_with fail
 refine wp_loop_rounds 2 ?_
 rw [rounds_succ]
 go_wp2_with fail
 refine (unwrap_any x y _ _ ⟨_, _, rfl⟩).mono ?_
 rintro e w1 ⟨rfl, g1⟩
 have heq := run_eql_iface_ptr_same (P := Tryz.prog) w1 b Tryz.underlying72 Tryz.underlying251 hi hcmp hj
 go_wp2_with fail
 rw [rounds_succ]
 go_wp2_with fail
 go_ret
 exact ⟨rfl, g1⟩
theorem loop_other (x : ByteArray) (y : Int) (a b : Addr) (ca cb : Array Value) (ta tb : TypeId) (w : World) (hne : a ≠ b) (ha : w.heap[a.block]? = some (.cells ca ta (0, 0))) (hb : w.heap[b.block]? = some (.cells cb tb (0, 0))) :
  Calls Tryz.prog 162 #[.iface 175 (.agg #[.string x, .int .i64 y, .iface 251 (.pointer (some a))]), .iface 251 (.pointer (some b)), .bool true] w fun e w' => e = .returned (.bool false) ∧ Gn w w' := by
 obtain ⟨i, hi, hcmp⟩ := Option.map_eq_some_iff.1 comp_err
 obtain ⟨j, hj, hjs⟩ := Option.map_eq_some_iff.1 size_err
 have nE := noIs_err
 have uE := noUnwrap_err
 have vE := noUnwraps_err
 have nW := noIs_ref
 have uW := hasUnwrap_ref
 have mU := method_unwrap
 have hty := run_eql_iface_types (P := Tryz.prog) 175 251 (.agg #[.string x, .int .i64 y, .iface 251 (.pointer (some a))]) (.pointer (some b)) Tryz.underlying72 (by decide) w
 have Ha := qj ha
 have Hb := qj hb
 have Hne := qj hne
 clear ha hb hne
 go_enter Tryz.func162, Tryz.ntmps162
 go_wp2_with fail
 refine wp_loop_rounds 2 ?_
 rw [rounds_succ]
 go_wp2_with fail
 refine (unwrap_any x y _ _ ⟨_, _, rfl⟩).mono ?_
 rintro e w1 ⟨rfl, g1⟩
 have heq := run_eql_iface_ptr_other (P := Tryz.prog) w1 Tryz.underlying72 Tryz.underlying251 hi hcmp hj (by rw [hjs]; decide) Hne.out ((g1.block _ (Array.getElem?_eq_some_iff.1 Ha.out).1 (by simp)).trans Ha.out) ((g1.block _ (Array.getElem?_eq_some_iff.1 Hb.out).1 (by simp)).trans Hb.out)
 go_wp2_with fail
 rw [rounds_succ]
 go_wp2_with fail
 go_ret
 exact ⟨rfl, g1⟩
theorem is_ref (x : ByteArray) (y : Int) (a b : Addr) (ca cb : Array Value) (ta tb : TypeId) (w : World) (ha : w.heap[a.block]? = some (.cells ca ta (0, 0))) (hb : w.heap[b.block]? = some (.cells cb tb (0, 0))) (q : Bool) (hp : q = true ∧ a = b ∨ q = false ∧ a ≠ b) :
  Calls Tryz.prog 136 #[.iface 175 (.agg #[.string x, .int .i64 y, .iface 251 (.pointer (some a))]), .iface 251 (.pointer (some b))] w fun e w' => e = .returned (.bool q) ∧ Gn w w' := by
 have h8 := @run_callFunc_extern Tryz.prog 138 _ Extern.ReflectliteType.typeOf Tryz.func138 (by kernel_rfl) (by kernel_rfl) (by kernel_rfl) (by kernel_rfl)
 have h32 := @run_callFunc_extern Tryz.prog 222 _ compX Tryz.func222 (by kernel_rfl) (by kernel_rfl) (by kernel_rfl) (by kernel_rfl)
 have tT := typeOf_err
 have cT := comparable_err
 have mC := method_comp
 have hl : Calls Tryz.prog 162 #[.iface 175 (.agg #[.string x, .int .i64 y, .iface 251 (.pointer (some a))]), .iface 251 (.pointer (some b)), .bool true] w fun e w' => e = .returned (.bool q) ∧ Gn w w' := by
  rcases hp with ⟨rfl, rfl⟩ | ⟨rfl, hne⟩
  ·exact loop_same x y a w
  ·exact loop_other x y a b ca cb ta tb w hne ha hb
 have Hl := qj hl
 clear ha hb hp hl
 go_enter Tryz.func136, Tryz.ntmps136
 go_wp2_with fail
 refine Hl.out.mono ?_
 rintro e w1 ⟨rfl, g1⟩
 go_wp2_with fail
 go_ret
 exact ⟨rfl, g1⟩
theorem loop2_same (x0 x : ByteArray) (y0 y : Int) (b : Addr) (w : World)  :
  Calls Tryz.prog 162 #[.iface 175 (.agg #[.string x0, .int .i64 y0, .iface 175 (.agg #[.string x, .int .i64 y, .iface 251 (.pointer (some b))])]), .iface 251 (.pointer (some b)), .bool true] w fun e w' => e = .returned (.bool true) ∧ Gn w w' := by
 obtain ⟨i, hi, hcmp⟩ := Option.map_eq_some_iff.1 comp_err
 obtain ⟨j, hj, hjs⟩ := Option.map_eq_some_iff.1 size_err
 have nW := noIs_ref
 have uW := hasUnwrap_ref
 have mU := method_unwrap
 have hty := run_eql_iface_types (P := Tryz.prog) 175 251 (.agg #[.string x0, .int .i64 y0, .iface 175 (.agg #[.string x, .int .i64 y, .iface 251 (.pointer (some b))])]) (.pointer (some b)) Tryz.underlying72 (by decide) w
 go_enter Tryz.func162, Tryz.ntmps162
 go_wp2_with fail
 refine wp_loop_rounds 3 ?_
 rw [rounds_succ]
 go_wp2_with fail
 refine (unwrap_any x0 y0 _ _ ⟨_, _, rfl⟩).mono ?_
 rintro e w1 ⟨rfl, g1⟩
 have hty2 := run_eql_iface_types (P := Tryz.prog) 175 251 (.agg #[.string x, .int .i64 y, .iface 251 (.pointer (some b))]) (.pointer (some b)) Tryz.underlying72 (by decide) w1
 go_wp2_with fail
 rw [rounds_succ]
 go_wp2_with fail
 refine (unwrap_any x y _ _ ⟨_, _, rfl⟩).mono ?_
 rintro e w2 ⟨rfl, g2⟩
 replace g2 := gb_none g1 g2
 have heq := run_eql_iface_ptr_same (P := Tryz.prog) w2 b Tryz.underlying72 Tryz.underlying251 hi hcmp hj
 go_wp2_with fail
 rw [rounds_succ]
 go_wp2_with fail
 go_ret
 exact ⟨rfl, g2⟩
theorem loop2_other (x0 x : ByteArray) (y0 y : Int) (a b : Addr) (ca cb : Array Value) (ta tb : TypeId) (w : World) (hne : a ≠ b) (ha : w.heap[a.block]? = some (.cells ca ta (0, 0))) (hb : w.heap[b.block]? = some (.cells cb tb (0, 0))) :
  Calls Tryz.prog 162 #[.iface 175 (.agg #[.string x0, .int .i64 y0, .iface 175 (.agg #[.string x, .int .i64 y, .iface 251 (.pointer (some a))])]), .iface 251 (.pointer (some b)), .bool true] w fun e w' => e = .returned (.bool false) ∧ Gn w w' := by
 obtain ⟨i, hi, hcmp⟩ := Option.map_eq_some_iff.1 comp_err
 obtain ⟨j, hj, hjs⟩ := Option.map_eq_some_iff.1 size_err
 have nE := noIs_err
 have uE := noUnwrap_err
 have vE := noUnwraps_err
 have nW := noIs_ref
 have uW := hasUnwrap_ref
 have mU := method_unwrap
 have hty := run_eql_iface_types (P := Tryz.prog) 175 251 (.agg #[.string x0, .int .i64 y0, .iface 175 (.agg #[.string x, .int .i64 y, .iface 251 (.pointer (some a))])]) (.pointer (some b)) Tryz.underlying72 (by decide) w
 have Ha := qj ha
 have Hb := qj hb
 have Hne := qj hne
 clear ha hb hne
 go_enter Tryz.func162, Tryz.ntmps162
 go_wp2_with fail
 refine wp_loop_rounds 3 ?_
 rw [rounds_succ]
 go_wp2_with fail
 refine (unwrap_any x0 y0 _ _ ⟨_, _, rfl⟩).mono ?_
 rintro e w1 ⟨rfl, g1⟩
 have hty2 := run_eql_iface_types (P := Tryz.prog) 175 251 (.agg #[.string x, .int .i64 y, .iface 251 (.pointer (some a))]) (.pointer (some b)) Tryz.underlying72 (by decide) w1
 go_wp2_with fail
 rw [rounds_succ]
 go_wp2_with fail
 refine (unwrap_any x y _ _ ⟨_, _, rfl⟩).mono ?_
 rintro e w2 ⟨rfl, g2⟩
 replace g2 := gb_none g1 g2
 have heq := run_eql_iface_ptr_other (P := Tryz.prog) w2 Tryz.underlying72 Tryz.underlying251 hi hcmp hj (by rw [hjs]; decide) Hne.out ((g2.block _ (Array.getElem?_eq_some_iff.1 Ha.out).1 (by simp)).trans Ha.out) ((g2.block _ (Array.getElem?_eq_some_iff.1 Hb.out).1 (by simp)).trans Hb.out)
 go_wp2_with fail
 rw [rounds_succ]
 go_wp2_with fail
 go_ret
 exact ⟨rfl, g2⟩
theorem is_ref2 (x0 x : ByteArray) (y0 y : Int) (a b : Addr) (ca cb : Array Value) (ta tb : TypeId) (w : World) (ha : w.heap[a.block]? = some (.cells ca ta (0, 0))) (hb : w.heap[b.block]? = some (.cells cb tb (0, 0))) (q : Bool) (hp : q = true ∧ a = b ∨ q = false ∧ a ≠ b) :
  Calls Tryz.prog 136 #[.iface 175 (.agg #[.string x0, .int .i64 y0, .iface 175 (.agg #[.string x, .int .i64 y, .iface 251 (.pointer (some a))])]), .iface 251 (.pointer (some b))] w fun e w' => e = .returned (.bool q) ∧ Gn w w' := by
 have h8 := @run_callFunc_extern Tryz.prog 138 _ Extern.ReflectliteType.typeOf Tryz.func138 (by kernel_rfl) (by kernel_rfl) (by kernel_rfl) (by kernel_rfl)
 have h32 := @run_callFunc_extern Tryz.prog 222 _ compX Tryz.func222 (by kernel_rfl) (by kernel_rfl) (by kernel_rfl) (by kernel_rfl)
 have tT := typeOf_err
 have cT := comparable_err
 have mC := method_comp
 have hl : Calls Tryz.prog 162 #[.iface 175 (.agg #[.string x0, .int .i64 y0, .iface 175 (.agg #[.string x, .int .i64 y, .iface 251 (.pointer (some a))])]), .iface 251 (.pointer (some b)), .bool true] w fun e w' => e = .returned (.bool q) ∧ Gn w w' := by
  rcases hp with ⟨rfl, rfl⟩ | ⟨rfl, hne⟩
  ·exact loop2_same x0 x y0 y a w
  ·exact loop2_other x0 x y0 y a b ca cb ta tb w hne ha hb
 have Hl := qj hl
 clear ha hb hp hl
 go_enter Tryz.func136, Tryz.ntmps136
 go_wp2_with fail
 refine Hl.out.mono ?_
 rintro e w1 ⟨rfl, g1⟩
 go_wp2_with fail
 go_ret
 exact ⟨rfl, g1⟩
def refV2 (x0 : ByteArray) (y0 : Int) (x : ByteArray) (y : Int) (a : Addr) : Value := .iface 175 (.agg #[.string x0, .int .i64 y0, .iface 175 (.agg #[.string x, .int .i64 y, .iface 251 (.pointer (some a))])])
def ErrN (w : World) (v : Value) : Prop := ∃ (a : Addr) (c : Array Value) (t : TypeId), w.heap[a.block]? = some (.cells c t (0, 0)) ∧ ((∃ x y, v = refV x y a) ∨ ∃ x0 y0 x y, v = refV2 x0 y0 x y a)
theorem ErrN.keep {w w' : World} {v : Value} (h : ErrN w v) (k : Gn w w') : ErrN w' v := by
 obtain ⟨a, c, t, h1, h2⟩ := h
 exact ⟨a, c, t, (k.block _ (Array.getElem?_eq_some_iff.1 h1).1 (by simp)).trans h1, h2⟩
theorem ErrN.iface {w : World} {v : Value} (h : ErrN w v) : ∃ p, v = .iface 175 p := by
 obtain ⟨a, c, t, _, ⟨x, y, rfl⟩ | ⟨x0, y0, x, y, rfl⟩⟩ := h
 ·exact ⟨_, rfl⟩
 ·exact ⟨_, rfl⟩
theorem is_err {w : World} {v : Value} (h : ErrN w v) (b : Addr) (cb : Array Value) (tb : TypeId) (hb : w.heap[b.block]? = some (.cells cb tb (0, 0))) : Calls Tryz.prog 136 #[v, .iface 251 (.pointer (some b))] w fun e w' => (∃ q, e = .returned (.bool q)) ∧ Gn w w' := by
 obtain ⟨a, c, t, ha, ⟨x, y, rfl⟩ | ⟨x0, y0, x, y, rfl⟩⟩ := h
 ·by_cases e : a = b
  ·exact (is_ref x y a b c cb t tb w ha hb true (.inl ⟨rfl, e⟩)).mono (fun e w' h => ⟨⟨_, h.1⟩, h.2⟩)
  ·exact (is_ref x y a b c cb t tb w ha hb false (.inr ⟨rfl, e⟩)).mono (fun e w' h => ⟨⟨_, h.1⟩, h.2⟩)
 ·by_cases e : a = b
  ·exact (is_ref2 x0 x y0 y a b c cb t tb w ha hb true (.inl ⟨rfl, e⟩)).mono (fun e w' h => ⟨⟨_, h.1⟩, h.2⟩)
  ·exact (is_ref2 x0 x y0 y a b c cb t tb w ha hb false (.inr ⟨rfl, e⟩)).mono (fun e w' h => ⟨⟨_, h.1⟩, h.2⟩)
def BE (w : World) (g : Nat) : Prop := ∃ (a : Addr) (c : Array Value) (t : TypeId), w.cell? ⟨g, 0, none⟩ = some (.iface 251 (.pointer (some a))) ∧ w.heap[a.block]? = some (.cells c t (0, 0))
theorem BE.keep {w w' : World} {g : Nat} (h : BE w g) (hg : Gn w w') : BE w' g := by
 obtain ⟨a, c, t, h0, hb⟩ := h
 exact ⟨a, c, t, (World.cell?_of_block (hg.block _ (block_lt_of_cell h0) (by simp))).trans h0, (hg.block _ (Array.getElem?_eq_some_iff.1 hb).1 (by simp)).trans hb⟩
theorem BE.two {w : World} {g h : Nat} (x : Sn.Two w g h) : BE w g ∧ BE w h := by
 obtain ⟨a, b, c, d, t, u, h1, h2, _, h4, h5⟩ := x
 exact ⟨⟨a, c, t, h1, h4⟩, ⟨b, d, u, h2, h5⟩⟩
def MErrs (w : World) : Prop := BE w 2 ∧ BE w 3 ∧ BE w 4 ∧ BE w 5 ∧ BE w 6 ∧ BE w 7 ∧ BE w 8 ∧ BE w 9
theorem MErrs.keep {w w' : World} (h : MErrs w) (hg : Gn w w') : MErrs w' := ⟨h.1.keep hg, h.2.1.keep hg, h.2.2.1.keep hg, h.2.2.2.1.keep hg, h.2.2.2.2.1.keep hg, h.2.2.2.2.2.1.keep hg, h.2.2.2.2.2.2.1.keep hg, h.2.2.2.2.2.2.2.keep hg⟩
theorem MErrs.of {w : World} (h : Sn.Two w 2 3 ∧ Sn.Two w 4 5 ∧ Sn.Two w 6 7 ∧ Sn.Two w 8 9) : MErrs w :=
 have h0 := BE.two h.1
 have h1 := BE.two h.2.1
 have h2 := BE.two h.2.2.1
 have h3 := BE.two h.2.2.2
 ⟨h0.1, h0.2, h1.1, h1.2, h2.1, h2.2, h3.1, h3.2⟩
theorem reason_nil (w : World) (hE : MErrs w) : Calls Tryz.prog 102 #[.nilIface] w fun e w' => e = .returned .nilIface ∧ w = w' := by
 obtain ⟨⟨a0, _, _, k0, _⟩, ⟨a1, _, _, k1, _⟩, ⟨a2, _, _, k2, _⟩, ⟨a3, _, _, k3, _⟩, ⟨a4, _, _, k4, _⟩, ⟨a5, _, _, k5, _⟩, ⟨a6, _, _, k6, _⟩, ⟨a7, _, _, k7, _⟩⟩ := hE
 go_enter Tryz.func102, Tryz.ntmps102
 go_wp2_with fail
 refine (is_nil a0 _).mono ?_
 rintro e w1 ⟨rfl, rfl⟩
 go_wp2_with fail
 refine (is_nil a1 _).mono ?_
 rintro e w1 ⟨rfl, rfl⟩
 go_wp2_with fail
 refine (is_nil a2 _).mono ?_
 rintro e w1 ⟨rfl, rfl⟩
 go_wp2_with fail
 refine (is_nil a3 _).mono ?_
 rintro e w1 ⟨rfl, rfl⟩
 go_wp2_with fail
 refine (is_nil a4 _).mono ?_
 rintro e w1 ⟨rfl, rfl⟩
 go_wp2_with fail
 refine (is_nil a5 _).mono ?_
 rintro e w1 ⟨rfl, rfl⟩
 go_wp2_with fail
 refine (is_nil a6 _).mono ?_
 rintro e w1 ⟨rfl, rfl⟩
 go_wp2_with fail
 refine (is_nil a7 _).mono ?_
 rintro e w1 ⟨rfl, rfl⟩
 go_wp2_with fail
 go_ret
 exact ⟨rfl, rfl⟩
theorem reason_some (v : Value) (w : World) (hv : ErrN w v) (hE : MErrs w) :
  Calls Tryz.prog 102 #[v] w fun e w' => ∃ t v, e = .returned (.iface t v) ∧ Gn w w' := by
 have step : ∀ (W : World) (b : Addr) (cb : Array Value) (tb : TypeId), Gn w W → W.heap[b.block]? = some (.cells cb tb (0, 0)) → Hid (Calls Tryz.prog 136 #[v, .iface 251 (.pointer (some b))] W fun e w' => (∃ q, e = .returned (.bool q)) ∧ Gn w w') := fun W b cb tb hg hb =>
  (is_err (hv.keep hg) b cb tb hb).mono (fun e w' h => ⟨h.1, gb_none hg h.2⟩)
 have HE := qj hE
 obtain ⟨V, rfl⟩ := hv.iface
 clear hE hv
 obtain ⟨a0, c0, t0, k0, h0⟩ := HE.out.1
 have S0 := step w a0 c0 t0 (gb_refl _ _) h0
 clear h0
 go_enter Tryz.func102, Tryz.ntmps102
 go_wp2_with fail
 refine S0.out.mono ?_
 rintro e w1 ⟨⟨q, rfl⟩, g1⟩
 clear S0 k0
 obtain ⟨b0, _, _, k0b, _⟩ := (HE.out.keep g1).1
 obtain ⟨a1, c1, t1, k1, h1⟩ := (HE.out.keep g1).2.1
 have S1 := step w1 a1 c1 t1 g1 h1
 clear h1
 cases q with
 | true =>
  go_wp2_with fail
  go_ret
  exact ⟨_, _, rfl, g1⟩
 | false =>
  go_wp2_with fail
  refine S1.out.mono ?_
  rintro e w2 ⟨⟨q, rfl⟩, g2⟩
  clear S1 k1 k0b
  obtain ⟨b1, _, _, k1b, _⟩ := (HE.out.keep g2).2.1
  obtain ⟨a2, c2, t2, k2, h2⟩ := (HE.out.keep g2).2.2.1
  have S2 := step w2 a2 c2 t2 g2 h2
  clear h2
  cases q with
  | true =>
   go_wp2_with fail
   go_ret
   exact ⟨_, _, rfl, g2⟩
  | false =>
   go_wp2_with fail
   refine S2.out.mono ?_
   rintro e w3 ⟨⟨q, rfl⟩, g3⟩
   clear S2 k2 k1b
   obtain ⟨b2, _, _, k2b, _⟩ := (HE.out.keep g3).2.2.1
   obtain ⟨a3, c3, t3, k3, h3⟩ := (HE.out.keep g3).2.2.2.1
   have S3 := step w3 a3 c3 t3 g3 h3
   clear h3
   cases q with
   | true =>
    go_wp2_with fail
    go_ret
    exact ⟨_, _, rfl, g3⟩
   | false =>
    go_wp2_with fail
    refine S3.out.mono ?_
    rintro e w4 ⟨⟨q, rfl⟩, g4⟩
    clear S3 k3 k2b
    obtain ⟨b3, _, _, k3b, _⟩ := (HE.out.keep g4).2.2.2.1
    obtain ⟨a4, c4, t4, k4, h4⟩ := (HE.out.keep g4).2.2.2.2.1
    have S4 := step w4 a4 c4 t4 g4 h4
    clear h4
    cases q with
    | true =>
     go_wp2_with fail
     go_ret
     exact ⟨_, _, rfl, g4⟩
    | false =>
     go_wp2_with fail
     refine S4.out.mono ?_
     rintro e w5 ⟨⟨q, rfl⟩, g5⟩
     clear S4 k4 k3b
     obtain ⟨b4, _, _, k4b, _⟩ := (HE.out.keep g5).2.2.2.2.1
     obtain ⟨a5, c5, t5, k5, h5⟩ := (HE.out.keep g5).2.2.2.2.2.1
     have S5 := step w5 a5 c5 t5 g5 h5
     clear h5
     cases q with
     | true =>
      go_wp2_with fail
      go_ret
      exact ⟨_, _, rfl, g5⟩
     | false =>
      go_wp2_with fail
      refine S5.out.mono ?_
      rintro e w6 ⟨⟨q, rfl⟩, g6⟩
      clear S5 k5 k4b
      obtain ⟨b5, _, _, k5b, _⟩ := (HE.out.keep g6).2.2.2.2.2.1
      obtain ⟨a6, c6, t6, k6, h6⟩ := (HE.out.keep g6).2.2.2.2.2.2.1
      have S6 := step w6 a6 c6 t6 g6 h6
      clear h6
      cases q with
      | true =>
       go_wp2_with fail
       go_ret
       exact ⟨_, _, rfl, g6⟩
      | false =>
       go_wp2_with fail
       refine S6.out.mono ?_
       rintro e w7 ⟨⟨q, rfl⟩, g7⟩
       clear S6 k6 k5b
       obtain ⟨b6, _, _, k6b, _⟩ := (HE.out.keep g7).2.2.2.2.2.2.1
       obtain ⟨a7, c7, t7, k7, h7⟩ := (HE.out.keep g7).2.2.2.2.2.2.2
       have S7 := step w7 a7 c7 t7 g7 h7
       clear h7
       cases q with
       | true =>
        go_wp2_with fail
        go_ret
        exact ⟨_, _, rfl, g7⟩
       | false =>
        go_wp2_with fail
        refine S7.out.mono ?_
        rintro e w8 ⟨⟨q, rfl⟩, g8⟩
        clear S7 k7 k6b
        obtain ⟨b7, _, _, k7b, _⟩ := (HE.out.keep g8).2.2.2.2.2.2.2
        cases q with
        | true =>
         go_wp2_with fail
         go_ret
         exact ⟨_, _, rfl, g8⟩
        | false =>
         go_wp2_with fail
         go_ret
         exact ⟨_, _, rfl, g8⟩
end Go.Proofs.YtpcjbjpofcdjeaaGreatDoor.Me
