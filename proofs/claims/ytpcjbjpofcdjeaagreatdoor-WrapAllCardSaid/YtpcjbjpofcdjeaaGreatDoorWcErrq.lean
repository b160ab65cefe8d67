/- errors.As at a fault, wrapped in however many items: closed facts, the loop, faultOf. -/
import Derived.Test.YtpcjbjpofcdjeaaGreatDoorVBq
set_option maxHeartbeats 4000000
set_option maxRecDepth 100000
namespace Go.Proofs.YtpcjbjpofcdjeaaGreatDoor.We
open Go Go.Proofs.YtpcjbjpofcdjeaaGreatDoor Go.RowKit Wd Mm Vw Go.Extern.Stop Go.Stop Go.Extern
inductive ErrV : Nat → Value → Int → Prop
 | bot (k : Int) : ErrV 0 (.iface 94 (.int .i64 k)) k
 | item (d : Nat) (pt : ByteArray) (i : Int) (e : Value) (k : Int) (h : ErrV d e k) : ErrV (d + 1) (.iface 117 (.agg #[.string pt, .int .i64 i, e])) k
def inner : Value → Option Value
 | .iface _ (.agg cs) => cs[2]?
 | _ => none
def deepE : Nat → Value → Nat
 | 0, _ => 0
 | f + 1, v => match inner v with
  | some e => deepE f e + 1
  | none => 0
theorem deepE_is {d : Nat} {e : Value} {k : Int} (h : ErrV d e k) : ∀ f, d ≤ f → deepE f e = d := by
 induction h with
 | bot k => intro f _; cases f <;> rfl
 | item d pt i e k h ih =>
  intro f hf
  obtain ⟨f, rfl⟩ : ∃ g, f = g + 1 := ⟨f - 1, by omega⟩
  show deepE f e + 1 = d + 1
  rw [ih f (by omega)]
theorem ErrV.iface {d : Nat} {e : Value} {k : Int} (h : ErrV d e k) : ∃ t v, e = .iface t v := by
 cases h with
 | bot k => exact ⟨_, _, rfl⟩
 | item d pt i e k h => exact ⟨_, _, rfl⟩
theorem valueOfP (t : Addr) (w : World) : (ReflectliteValue.unpack (.iface 96 (.pointer (some t)))).run Tryz.prog w
  = .ok (.agg #[.pointer (some ⟨22, 96, none⟩), .pointer (some ⟨w.heap.size, 0, none⟩), .int .u64 150]) (w.alloc (.cells #[.pointer (some t)] 96)) := by kernel_rfl
theorem typeP (a : Addr) (w : World) : (ReflectliteValue.methodAny (ReflectliteValue.valueError "reflectlite.Value.Type" 0) (fun t _ _ _ => ReflectliteType.toType t) #[.agg #[.pointer (some ⟨22, 96, none⟩), .pointer (some a), .int .u64 150]]).run Tryz.prog w
  = .ok (.iface 180 (.agg #[.pointer (some ⟨22, 96, none⟩)])) w := by kernel_rfl
theorem methodKind (h : Value) (w : World) : (Go.method 381 180 (.agg #[h]) "Kind").run Tryz.prog w = .ok (208, h) w := by kernel_rfl
theorem kindP (w : World) : ((ReflectliteType.abiMethod fun t => (fun a : Nat => Value.int IntKind.u8 (a : Int)) <$> Rtype.kind t) #[.pointer (some ⟨22, 96, none⟩)]).run Tryz.prog w = .ok (.int .u8 22) w := by kernel_rfl
theorem kindF (w : World) : ((ReflectliteType.abiMethod fun t => (fun a : Nat => Value.int IntKind.u8 (a : Int)) <$> Rtype.kind t) #[.pointer (some ⟨22, 94, none⟩)]).run Tryz.prog w = .ok (.int .u8 2) w := by kernel_rfl
theorem one_method (z : Sem Value) (f : TypeId → Addr → Nat → Nat → Sem Value) (v : Value) :
  ReflectliteValue.method z f #[v] = (do match ← ReflectliteValue.parts v with | none => z | some (t, a, fl) => f t a fl (fl % 32)) := rfl
theorem partsP (a : Addr) (w : World) : (ReflectliteValue.parts (.agg #[.pointer (some ⟨22, 96, none⟩), .pointer (some a), .int .u64 150])).run Tryz.prog w = .ok (some (96, a, 150)) w := by kernel_rfl
theorem isNilP (a p : Addr) (W : World) (ha : W.cell? a = some (.pointer (some p))) :
  (ReflectliteValue.method (ReflectliteValue.valueError "reflectlite.Value.IsNil" 0) ReflectliteValue.isNil #[.agg #[.pointer (some ⟨22, 96, none⟩), .pointer (some a), .int .u64 150]]).run Tryz.prog W = .ok (.bool false) W := by
 rw [one_method]
 simp only [Sem.run_bind, partsP, Result.andThen]
 simp [ReflectliteValue.isNil, loadVar, isAgg, underlying, Tryz.underlying96, ha, Result.andThen]
theorem methodElem (h : Value) (w : World) : (Go.method 381 180 (.agg #[h]) "Elem").run Tryz.prog w = .ok (223, .agg #[h]) w := by kernel_rfl
theorem methodImplements (h : Value) (w : World) : (Go.method 381 180 (.agg #[h]) "Implements").run Tryz.prog w = .ok (224, .agg #[h]) w := by kernel_rfl
theorem methodAssignableTo (h : Value) (w : World) : (Go.method 381 180 (.agg #[h]) "AssignableTo").run Tryz.prog w = .ok (221, .agg #[h]) w := by kernel_rfl
theorem methodUnwrap (v : Value) (w : World) : (Go.method 381 117 v "Unwrap").run Tryz.prog w = .ok (213, v) w := by kernel_rfl
theorem elemP (w : World) : (ReflectliteType.method ReflectliteType.elem #[.agg #[.pointer (some ⟨22, 96, none⟩)]]).run Tryz.prog w = .ok (.iface 180 (.agg #[.pointer (some ⟨22, 94, none⟩)])) w := by kernel_rfl
theorem implementsF (w : World) : (ReflectliteType.relation "Implements" ReflectliteType.implements_ #[.agg #[.pointer (some ⟨22, 94, none⟩)], .iface 180 (.agg #[.pointer (some ⟨22, 72, none⟩)])]).run Tryz.prog w = .ok (.bool true) w := by kernel_rfl
theorem typeOfF (v : Value) (w : World) : (ReflectliteType.typeOf #[.iface 94 v]).run Tryz.prog w = .ok (.iface 180 (.agg #[.pointer (some ⟨22, 94, none⟩)])) w := by kernel_rfl
theorem typeOfI (v : Value) (w : World) : (ReflectliteType.typeOf #[.iface 117 v]).run Tryz.prog w = .ok (.iface 180 (.agg #[.pointer (some ⟨22, 117, none⟩)])) w := by kernel_rfl
theorem assignF (w : World) : (ReflectliteType.relation "AssignableTo" ReflectliteType.assignableTo #[.agg #[.pointer (some ⟨22, 94, none⟩)], .iface 180 (.agg #[.pointer (some ⟨22, 94, none⟩)])]).run Tryz.prog w = .ok (.bool true) w := by kernel_rfl
theorem assignI (w : World) : (ReflectliteType.relation "AssignableTo" ReflectliteType.assignableTo #[.agg #[.pointer (some ⟨22, 117, none⟩)], .iface 180 (.agg #[.pointer (some ⟨22, 94, none⟩)])]).run Tryz.prog w = .ok (.bool false) w := by kernel_rfl
theorem valueOfF (k : Int) (w : World) : (ReflectliteValue.unpack (.iface 94 (.int .i64 k))).run Tryz.prog w
  = .ok (.agg #[.pointer (some ⟨22, 94, none⟩), .pointer (some ⟨w.heap.size, 0, none⟩), .int .u64 130]) (w.alloc (.cells #[.int .i64 k] 94)) := by kernel_rfl
theorem elemOfP (w : World) : (Rtype.elem? 96).run Tryz.prog w = .ok (some 94) w := by kernel_rfl
theorem mkF (p : Addr) (w : World) : (ReflectliteValue.mk 94 p ReflectliteValue.flagAddr).run Tryz.prog w = .ok (.agg #[.pointer (some ⟨22, 94, none⟩), .pointer (some p), .int .u64 386]) w := by kernel_rfl
theorem elemVP (a p : Addr) (W : World) (ha : W.cell? a = some (.pointer (some p))) :
  (ReflectliteValue.method (ReflectliteValue.valueError "reflectlite.Value.Elem" 0) ReflectliteValue.elem #[.agg #[.pointer (some ⟨22, 96, none⟩), .pointer (some a), .int .u64 150]]).run Tryz.prog W
   = .ok (.agg #[.pointer (some ⟨22, 94, none⟩), .pointer (some p), .int .u64 386]) W := by
 rw [one_method]
 simp only [Sem.run_bind, partsP, Result.andThen]
 simp [ReflectliteValue.elem, loadVar, isAgg, underlying, Tryz.underlying96, ha, Result.andThen, elemOfP, mkF]
theorem partsFa (a : Addr) (w : World) : (ReflectliteValue.parts (.agg #[.pointer (some ⟨22, 94, none⟩), .pointer (some a), .int .u64 386])).run Tryz.prog w = .ok (some (94, a, 386)) w := by kernel_rfl
theorem partsF (a : Addr) (w : World) : (ReflectliteValue.parts (.agg #[.pointer (some ⟨22, 94, none⟩), .pointer (some a), .int .u64 130])).run Tryz.prog w = .ok (some (94, a, 130)) w := by kernel_rfl
theorem directF (w : World) : (Rtype.directlyAssignable 94 94).run Tryz.prog w = .ok true w := by kernel_rfl
theorem set_of (v x : Value) : ReflectliteValue.set #[v, x] = (do
  let (some (dst, a, fl), some (src, b, _)) := (← ReflectliteValue.parts v, ← ReflectliteValue.parts x)
   | unsupported (.noEntry "extern/(internal/reflectlite.Value).Set.zeroValue")
  if fl / ReflectliteValue.flagAddr % 2 == 0 then unsupported (.noEntry "extern/(internal/reflectlite.Value).Set.unaddressable")
  let val ← loadVar src b
  if ← Rtype.directlyAssignable dst src then storeVar dst a val
  else if ← Rtype.implements dst src then
   if (← Rtype.kind src) == 20 then
    match val with
    | .nilIface => unsupported (.noEntry "extern/reflectlite: a nil value of one interface type handed on as a value of another")
    | _ => storeVar dst a val
   else storeVar dst a (.iface src val)
  else panicString ("reflectlite.Set: value of type " ++ (← Rtype.spelt src) ++ " is not assignable to type " ++ (← Rtype.spelt dst))
  pure (.tuple #[])) := rfl
theorem setF (ta b : Addr) (k : Int) (old : Value) (W : World) (hb : W.cell? b = some (.int .i64 k)) (ht : W.cell? ta = some old) (hf : W.frozen? ta = false) :
  (ReflectliteValue.set #[.agg #[.pointer (some ⟨22, 94, none⟩), .pointer (some ta), .int .u64 386], .agg #[.pointer (some ⟨22, 94, none⟩), .pointer (some b), .int .u64 130]]).run Tryz.prog W
   = .ok (.tuple #[]) (W.setCell ta (.int .i64 k)) := by
 rw [set_of]
 simp only [Sem.run_bind, partsFa, partsF, Result.andThen]
 simp [ReflectliteValue.flagAddr, loadVar, isAgg, underlying, Tryz.underlying94, hb, Result.andThen, directF, storeVar, Value.cells, storeCells, Addr.add]
 rw [run_store Tryz.prog W ta _ _ (by rfl)]
 simp [ht, hf]
theorem noAs_I (v : Value) (xT : TypeId) (w : World) : (Instr.typeAssert (.iface 117 v) xT 185 true).run Tryz.prog w = .ok (.tuple #[.nilIface, .bool false]) w := run_typeAssert_lacksB Tryz.underlying185 (by kernel_rfl) (by kernel_rfl) v xT w
theorem hasUnwrap_I (v : Value) (xT : TypeId) (w : World) : (Instr.typeAssert (.iface 117 v) xT 188 true).run Tryz.prog w = .ok (.tuple #[.iface 117 v, .bool true]) w := run_typeAssert_hasB Tryz.underlying188 (by kernel_rfl) v xT w
theorem unwrap_any (pt : ByteArray) (i : Int) (e : Value) (w : World) (hE : ∃ t p, e = .iface t p) : Calls Tryz.prog 213 #[.agg #[.string pt, .int .i64 i, e]] w fun ev w' => ev = .returned e ∧ Gn w w' := by
 obtain ⟨t, p, rfl⟩ := hE
 go_enter Tryz.func213, Tryz.ntmps213
 go_wp2_with fail
 go_ret
 exact ⟨rfl, gb_alloc (gb_refl _ _) _⟩
def Found (tb : Nat) (k : Int) (w : World) (e : Ending) (w' : World) : Prop := e = .returned (.bool true) ∧ w.grownBy w' (some tb) ∧ w'.cell? ⟨tb, 0, none⟩ = some (.int .i64 k)
theorem as_loop (d : Nat) (ev : Value) (k : Int) (h : ErrV d ev k) (hd : d ≤ 8) (tb ab : Nat) (old : Int) (w : World) (ht : w.heap[tb]? = some (.cells #[.int .i64 old] 94 (0, 0))) (ha : w.heap[ab]? = some (.cells #[.pointer (some ⟨tb, 0, none⟩)] 96 (0, 0))) :
  Calls Tryz.prog 107 #[ev, .iface 96 (.pointer (some ⟨tb, 0, none⟩)), .agg #[.pointer (some ⟨22, 96, none⟩), .pointer (some ⟨ab, 0, none⟩), .int .u64 150], .iface 180 (.agg #[.pointer (some ⟨22, 94, none⟩)])] w (Found tb k w) := by
 have h54 := @run_callFunc_extern Tryz.prog 104 _ (fun args => ReflectliteValue.unpack (args.getD 0 (.tuple #[]))) Tryz.func104 (by kernel_rfl) (by kernel_rfl) (by kernel_rfl) (by kernel_rfl)
 have h61 := @run_callFunc_extern Tryz.prog 138 _ ReflectliteType.typeOf Tryz.func138 (by kernel_rfl) (by kernel_rfl) (by kernel_rfl) (by kernel_rfl)
 have h90 := @run_callFunc_extern Tryz.prog 221 _ (ReflectliteType.relation "AssignableTo" ReflectliteType.assignableTo) Tryz.func221 (by kernel_rfl) (by kernel_rfl) (by kernel_rfl) (by kernel_rfl)
 have h62 := @run_callFunc_extern Tryz.prog 139 _ (ReflectliteValue.method (ReflectliteValue.valueError "reflectlite.Value.Elem" 0) ReflectliteValue.elem) Tryz.func139 (by kernel_rfl) (by kernel_rfl) (by kernel_rfl) (by kernel_rfl)
 have h63 := @run_callFunc_extern Tryz.prog 140 _ ReflectliteValue.set Tryz.func140 (by kernel_rfl) (by kernel_rfl) (by kernel_rfl) (by kernel_rfl)
 have tF := typeOfF
 have tI := typeOfI
 have mA := methodAssignableTo
 have mU := methodUnwrap
 have aF := assignF
 have aI := assignI
 have vF := valueOfF
 have nI := noAs_I
 have uI := hasUnwrap_I
 have Hh := qj h
 have Hta := qj ht
 have Haa := qj ha
 clear h ht ha
 go_enter Tryz.func107, Tryz.ntmps107
 go_wp2_with fail
 go_loopw [0] (fun e wr => ∃ d', Hid (ErrV d' e k) ∧ d' ≤ 8 ∧ (w.alloc (.cells #[.pointer (some ⟨22, 96, none⟩), .pointer (some ⟨ab, 0, none⟩), .int .u64 150] 138)).grownBy wr none) (fun e _ => deepE 10 e)
 case atStart => exact ⟨d, Hh, hd, gb_refl _ _⟩
 case round =>
  obtain ⟨d', He, hd', hg⟩ := hrel
  have hbx : wr.heap[w.heap.size]? = some (.cells #[.pointer (some ⟨22, 96, none⟩), .pointer (some ⟨ab, 0, none⟩), .int .u64 150] 138 (0, 0)) := (hg.block _ (by simp) (by simp)).trans (heap_alloc_new _ _)
  have b0 := cell_of_row wr w.heap.size 0 _ _ _ hbx
  have b1 := cell_of_row wr w.heap.size 1 _ _ _ hbx
  have b2 := cell_of_row wr w.heap.size 2 _ _ _ hbx
  rcases He.out with ⟨_⟩ | ⟨d2, pt, i, e2, _, h2⟩
  ·clear He hbx
   have hgw := gb_none (gb_alloc (gb_refl w none) _) hg
   have hta := (hgw.block tb (Array.getElem?_eq_some_iff.1 Hta.out).1 (by simp)).trans Hta.out
   have haa := (hgw.block ab (Array.getElem?_eq_some_iff.1 Haa.out).1 (by simp)).trans Haa.out
   have htl := (Array.getElem?_eq_some_iff.1 hta).1
   have hta2 := (Below.heap_alloc wr (.cells #[.int .i64 k] 94) tb htl).trans hta
   have el := elemVP ⟨ab, 0, none⟩ ⟨tb, 0, none⟩ wr (cell_of_row wr ab 0 _ _ _ haa)
   have st := setF ⟨tb, 0, none⟩ ⟨wr.heap.size, 0, none⟩ k (.int .i64 old) (wr.alloc (.cells #[.int .i64 k] 94)) (cell_of_row _ wr.heap.size 0 _ _ _ (heap_alloc_new _ _)) (cell_of_row _ tb 0 _ _ _ hta2) (frozen_of_row _ tb 0 _ _ hta2)
   have Hset := qj ((Below.heap_alloc (wr.setCell ⟨tb, 0, none⟩ (.int .i64 k)) (.cells #[.int .i64 k] 94) tb (by simp [World.setCell]; omega)).trans (heap_setCell_same wr tb 0 _ _ (.int .i64 k) hta))
   clear hta haa hta2
   go_wp2_with fail
   go_ret
   refine ⟨rfl, ?_, cell_of_row _ tb 0 _ _ _ Hset.out⟩
   exact gb_alloc (gb_then (gb_none' hgw) (gb_set1 _ _ _ _)) _
  ·obtain ⟨t2, p2, rfl⟩ := h2.iface
   have Hm : Hid (deepE 10 (.iface t2 p2) < deepE 10 (.iface 117 (.agg #[.string pt, .int .i64 i, .iface t2 p2]))) := by
    show _ < _
    rw [deepE_is h2 10 (by omega), deepE_is (ErrV.item d2 pt i _ k h2) 10 (by omega)]
    omega
   have H2 := qj h2
   have Hg := qj hg
   clear He hbx h2 hg
   go_wp2_with fail
   refine (unwrap_any pt i _ _ ⟨_, _, rfl⟩).mono ?_
   rintro e w2 ⟨rfl, g2⟩
   clear b0 b1 b2
   go_wp2_with fail
   go_roundw
   case rel => exact ⟨d2, H2, by omega, gb_none Hg.out g2⟩
   case measure => exact Hm.out
theorem asNil (t : Value) (w : World) : Calls Tryz.prog 63 #[.nilIface, t] w fun e w' => e = .returned (.bool false) ∧ w = w' := by
 go_enter Tryz.func63, Tryz.ntmps63
 go_wp2_with fail
 go_ret
 exact ⟨rfl, rfl⟩
theorem asFault (d : Nat) (ev : Value) (k : Int) (h : ErrV d ev k) (hd : d ≤ 8) (tb : Nat) (old : Int) (w : World) (ht : w.heap[tb]? = some (.cells #[.int .i64 old] 94 (0, 0))) (hT : ErrT w) :
  Calls Tryz.prog 63 #[ev, .iface 96 (.pointer (some ⟨tb, 0, none⟩))] w (Found tb k w) := by
 have h54 := @run_callFunc_extern Tryz.prog 104 _ (fun args => ReflectliteValue.unpack (args.getD 0 (.tuple #[]))) Tryz.func104 (by kernel_rfl) (by kernel_rfl) (by kernel_rfl) (by kernel_rfl)
 have h55 := @run_callFunc_extern Tryz.prog 105 _ (ReflectliteValue.methodAny (ReflectliteValue.valueError "reflectlite.Value.Type" 0) (fun t _ _ _ => ReflectliteType.toType t)) Tryz.func105 (by kernel_rfl) (by kernel_rfl) (by kernel_rfl) (by kernel_rfl)
 have h56 := @run_callFunc_extern Tryz.prog 106 _ (ReflectliteValue.method (ReflectliteValue.valueError "reflectlite.Value.IsNil" 0) ReflectliteValue.isNil) Tryz.func106 (by kernel_rfl) (by kernel_rfl) (by kernel_rfl) (by kernel_rfl)
 have h79 := @run_callFunc_extern Tryz.prog 208 _ (ReflectliteType.abiMethod fun t => do pure (.int .u8 (← Rtype.kind t))) Tryz.func208 (by kernel_rfl) (by kernel_rfl) (by kernel_rfl) (by kernel_rfl)
 have h92 := @run_callFunc_extern Tryz.prog 223 _ (ReflectliteType.method ReflectliteType.elem) Tryz.func223 (by kernel_rfl) (by kernel_rfl) (by kernel_rfl) (by kernel_rfl)
 have h93 := @run_callFunc_extern Tryz.prog 224 _ (ReflectliteType.relation "Implements" ReflectliteType.implements_) Tryz.func224 (by kernel_rfl) (by kernel_rfl) (by kernel_rfl) (by kernel_rfl)
 have f6 := valueOfP
 have f7 := typeP
 have mK := methodKind
 have mE := methodElem
 have mI := methodImplements
 have k1 := kindP
 have k2 := kindF
 have e1 := elemP
 have i1 := implementsF
 obtain ⟨t0, p0, rfl⟩ := h.iface
 have Hh := qj h
 have Hta := qj ht
 have hg : w.cell? ⟨0, 0, none⟩ = some (.iface 180 (.agg #[.pointer (some ⟨22, 72, none⟩)])) := hT
 have hlt : 0 < w.heap.size := block_lt_of_cell hg
 have n8 := isNilP ⟨w.heap.size, 0, none⟩ ⟨tb, 0, none⟩ ((w.alloc (.cells #[.pointer (some ⟨tb, 0, none⟩)] 96)).alloc (.cells #[.pointer (some ⟨22, 96, none⟩), .pointer (some ⟨w.heap.size, 0, none⟩), .int .u64 150] 138)) (by simp)
 have hg2 : ((w.alloc (.cells #[.pointer (some ⟨tb, 0, none⟩)] 96)).alloc (.cells #[.pointer (some ⟨22, 96, none⟩), .pointer (some ⟨w.heap.size, 0, none⟩), .int .u64 150] 138)).cell? ⟨0, 0, none⟩ = some (.iface 180 (.agg #[.pointer (some ⟨22, 72, none⟩)])) :=
  ErrT.keep hT (gb_alloc (gb_alloc (gb_refl w none) _) _) (by simp)
 have Hal : Hid (((w.alloc (.cells #[.pointer (some ⟨tb, 0, none⟩)] 96)).alloc (.cells #[.pointer (some ⟨22, 96, none⟩), .pointer (some ⟨w.heap.size, 0, none⟩), .int .u64 150] 138)).heap[tb]? = some (.cells #[.int .i64 old] 94 (0, 0)) ∧ ((w.alloc (.cells #[.pointer (some ⟨tb, 0, none⟩)] 96)).alloc (.cells #[.pointer (some ⟨22, 96, none⟩), .pointer (some ⟨w.heap.size, 0, none⟩), .int .u64 150] 138)).heap[w.heap.size]? = some (.cells #[.pointer (some ⟨tb, 0, none⟩)] 96 (0, 0))) := by
  have hl := (Array.getElem?_eq_some_iff.1 ht).1
  have hg3 : w.grownBy ((w.alloc (.cells #[.pointer (some ⟨tb, 0, none⟩)] 96)).alloc (.cells #[.pointer (some ⟨22, 96, none⟩), .pointer (some ⟨w.heap.size, 0, none⟩), .int .u64 150] 138)) none := gb_alloc (gb_alloc (gb_refl w none) _) _
  exact ⟨(hg3.block tb hl (by simp)).trans ht, (Below.heap_alloc _ _ w.heap.size (by simp)).trans (heap_alloc_new _ _)⟩
 clear h ht hT
 go_enter Tryz.func63, Tryz.ntmps63
 go_wp2_with fail
 refine (as_loop d _ k Hh.out hd tb w.heap.size old _ Hal.out.1 Hal.out.2).mono ?_
 rintro e w2 ⟨rfl, g2, hc⟩
 go_wp2_with fail
 go_ret
 exact ⟨rfl, gb_step (gb_none' (gb_alloc (gb_alloc (gb_refl w none) _) _)) g2 (fun i e => .inl e), hc⟩
def errW (p : ByteArray) (n k : Int) : Value := .iface 117 (.agg #[.string p, .int .i64 n, .iface 94 (.int .i64 k)])
theorem errW_is (p : ByteArray) (n k : Int) : ErrV 1 (errW p n k) k := .item 0 p n _ k (.bot k)
def Tells (m : Nat) (v : Value) (k : Int) : Prop := (k = 0 ∧ v = .nilIface) ∨ (k ≠ 0 ∧ ∃ d, d ≤ m ∧ ErrV d v k)
theorem Tells.none (m : Nat) : Tells m .nilIface 0 := .inl ⟨rfl, rfl⟩
theorem Tells.new {m : Nat} (hm : 1 ≤ m) (p : ByteArray) (n : Int) {k : Int} (h : k ≠ 0) : Tells m (errW p n k) k := .inr ⟨h, 1, hm, errW_is p n k⟩
theorem Tells.part {m : Nat} {v : Value} {k : Int} (h : Tells m v k) (hk : k ≠ 0) (p : ByteArray) (n : Int) : Tells (m + 1) (.iface 117 (.agg #[.string p, .int .i64 n, v])) k := by
 rcases h with ⟨h, _⟩ | ⟨_, d, hd, h⟩
 ·exact absurd h hk
 ·exact .inr ⟨hk, d + 1, by omega, .item d p n v k h⟩
theorem Tells.iface {m : Nat} {v : Value} {k : Int} (h : Tells m v k) (hk : k ≠ 0) : ∃ t p, v = .iface t p := by
 rcases h with ⟨h, _⟩ | ⟨_, d, hd, h⟩
 ·exact absurd h hk
 ·exact h.iface
theorem Tells.nil {m : Nat} {v : Value} {k : Int} (h : Tells m v k) (hk : k = 0) : v = .nilIface := by
 rcases h with ⟨_, h⟩ | ⟨h, _⟩
 ·exact h
 ·exact absurd hk h
theorem Tells.more {m n : Nat} {v : Value} {k : Int} (h : Tells m v k) (hn : m ≤ n) : Tells n v k := h.imp id fun ⟨a, d, b, c⟩ => ⟨a, d, by omega, c⟩
theorem refuse_any (p : ByteArray) (n k : Int) (w : World) : Calls Tryz.prog 61 #[.string p, .int .i64 n, .int .i64 k] w fun e w' => e = .returned (errW p n k) ∧ w = w' := by
 go_enter Tryz.func61, Tryz.ntmps61
 go_wp2_with fail
 go_ret
 exact ⟨rfl, rfl⟩
theorem number_nil (w : World) : Calls Tryz.prog 35 #[.nilIface] w fun e w' => e = .returned (.int .i64 0) ∧ Gn w w' := by
 go_enter Tryz.func35, Tryz.ntmps35
 go_wp2_with fail
 go_ret
 exact ⟨rfl, gb_alloc (gb_refl _ _) _⟩
theorem number_some (d : Nat) (ev : Value) (k : Int) (h : ErrV d ev k) (hd : d ≤ 8) (w : World) (hT : ErrT w) : Calls Tryz.prog 35 #[ev] w fun e w' => e = .returned (.int .i64 k) ∧ Gn w w' := by
 have Ha := qj (asFault d ev k h hd w.heap.size 0 (w.alloc (.cells #[.int .i64 0] 94)) (heap_alloc_new _ _) (hT.keep (gb_alloc (gb_refl w none) _) (by simp)))
 obtain ⟨t0, p0, rfl⟩ := h.iface
 clear h hT
 go_enter Tryz.func35, Tryz.ntmps35
 go_wp2_with fail
 refine Ha.out.mono ?_
 rintro e w2 ⟨rfl, g2, hc⟩
 go_wp2_with fail
 go_ret
 exact ⟨rfl, gb_new (gb_alloc (gb_refl w none) _) g2 (Nat.le_refl _)⟩
theorem number_any {m : Nat} {v : Value} {k : Int} (h : Tells m v k) (hm : m ≤ 8) (w : World) (hT : ErrT w) : Calls Tryz.prog 35 #[v] w fun e w' => e = .returned (.int .i64 k) ∧ Gn w w' := by
 rcases h with ⟨rfl, rfl⟩ | ⟨_, d, hd, h⟩
 ·exact number_nil w
 ·exact number_some d v k h (by omega) w hT
end Go.Proofs.YtpcjbjpofcdjeaaGreatDoor.We
