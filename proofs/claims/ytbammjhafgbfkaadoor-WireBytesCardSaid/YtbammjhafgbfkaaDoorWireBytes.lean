/-
  Proved: whatever values of its parameters' types it is called with, deaddroplaw4.WireBytes returns true, and each argument reads behind the call as it read before; the library's variable errors.errorType being what the program's own text lays (the card ties it).
  Conditions: none but those of the card itself.
-/
import Derived.Test.YtbammjhafgbfkaaDoorCards
import Derived.Test.YtbammjhafgbfkaaDoorTie
import Derived.WalkKit
import Derived.ProofKit
import Derived.OpenShut
import Derived.ShutString
import Derived.Below
import Derived.Deep.DeepHandedRow
import Derived.LaidSub
import Derived.LaidHandle
import Derived.LaidLaws
import Derived.RowKitTokens
import Derived.Test.YtbammjhafgbfkaaDoorVRefG
import Derived.IntWalk
import Derived.Outline
namespace Go.Proofs.YtbammjhafgbfkaaDoor.wireBytes
open Go.ChangeShapes Go.WideShapes Go.ChangeAt Go.RowKit
open Go.ChangeMaps (open_string shut_string)
open Go.Proofs.YtbammjhafgbfkaaDoor.Wd Go.Proofs.YtbammjhafgbfkaaDoor.Mm Go.Proofs.YtbammjhafgbfkaaDoor.Vw
set_option linter.unusedVariables false

theorem own : ownKnob Tryd.prog.godebug = none := by kernel_rfl




set_option maxHeartbeats 40000000 in
set_option maxRecDepth 100000 in
theorem walk (a0 : ByteArray) (w0 : a0.size ≤ maxLen) (w : World) (hT : ErrT w) :
    Calls Tryd.prog 4 #[.string a0] w fun e w' => e = .returned (.bool true) ∧ Below w.heap.size w w' := by
  have HT := Lib.hid hT
  clear hT w0
  by_cases hA : 800 < a0.size
  · have d1 : decide ((800 : Int) < (a0.size : Int)) = true := decide_eq_true (by omega)
    have d2 : decide (800 < a0.size) = true := decide_eq_true hA
    go_enter Tryd.func4, Tryd.ntmps4
    go_wp2_with fail
    refine (awake_any _ HT.out).mono ?_
    rintro e w1 ⟨rfl, g1⟩
    go_wp2_with fail
    go_ret
    exact ⟨rfl, below_of g1⟩
  have d1 : decide ((800 : Int) < (a0.size : Int)) = false := decide_eq_false (by omega)
  have d2 : decide (800 < a0.size) = false := decide_eq_false hA
  have hs : a0.size ≤ 1099511627776 := by omega
  have Hl : Hid (a0.data.toList.length ≤ 1099511627776) := by show _ ≤ _; rw [data_len]; omega
  have key : get a0.data.toList = none ∨ ∃ x, get a0.data.toList = some x := by
    cases get a0.data.toList with
    | none => exact .inl rfl
    | some x => exact .inr ⟨x, rfl⟩
  rcases key with h0 | ⟨x, h1⟩
  · have H0 := Lib.hid h0
    clear h0
    go_enter Tryd.func4, Tryd.ntmps4
    go_wp2_with fail
    refine (get_none a0 _ Hl.out H0.out HT.out).mono ?_
    rintro e w2 ⟨rfl, g2⟩
    have Hb2 := Lib.hid (heap_alloc_new w2 (.cells #[.int .i64 0, .int .i64 0, .string ⟨#[]⟩, .slice none 0 0] 24))
    go_wp2_with fail
    refine (refGet_none a0 _ hs H0.out).mono ?_
    rintro e w3 ⟨rfl, g3⟩
    have Hg3 := Lib.hid (gb_none (gb_alloc g2 _) g3)
    obtain ⟨⟨b0, b1, b2, b3⟩, _, hbl⟩ := box4 (row_kept Hb2.out g3)
    clear g2 g3
    go_wp2_with fail
    have hsm := same_any (.mk 0 0 ⟨#[]⟩ []) (.mk 0 0 ⟨#[]⟩ []) (.slice none 0 0) (.slice none 0 0) (w3.alloc (.cells #[.int .i64 0, .int .i64 0, .string ⟨#[]⟩, .slice none 0 0, .bool false] 32)) (.nil _ _) (.nil _ _)
    rw [same_self] at hsm
    refine hsm.mono ?_
    rintro e w4 ⟨rfl, g4⟩
    have Hg4 := Lib.hid (gb_none (gb_alloc Hg3.out _) g4)
    clear g4 hsm b0 b1 b2 b3 hbl
    go_wp2_with fail
    refine (awake_any w4 (HT.out.grown Hg4.out)).mono ?_
    rintro e w5 ⟨rfl, g5⟩
    go_wp2_with fail
    go_ret
    exact ⟨rfl, below_of (gb_none Hg4.out g5)⟩
  · have H1 := Lib.hid h1
    clear h1
    go_enter Tryd.func4, Tryd.ntmps4
    go_wp2_with fail
    refine (get_some a0 _ Hl.out x H1.out).mono ?_
    rintro e w2 ⟨A, c, rfl, hx, g2⟩
    have Hb2 := Lib.hid (heap_alloc_new w2 (.cells #[.int .i64 x.k, .int .i64 x.n, .string x.s, .slice A x.l.length c] 24))
    have Hx2 := Lib.hid ((hx.low (Nat.zero_le _)).kept (gb_alloc (gb_refl _ _) (.cells #[.int .i64 x.k, .int .i64 x.n, .string x.s, .slice A x.l.length c] 24)))
    clear hx
    go_wp2_with fail
    refine (refGet_some a0 _ hs x H1.out).mono ?_
    rintro e w3 ⟨A3, c3, rfl, hx3, g3⟩
    have Hg3 := Lib.hid (gb_none (gb_alloc g2 _) g3)
    obtain ⟨⟨b0, b1, b2, b3⟩, _, hbl⟩ := box4 (row_kept Hb2.out g3)
    have Hx4 := Lib.hid ((Hx2.out.kept g3).kept (gb_alloc (gb_refl _ _) (.cells #[.int .i64 x.k, .int .i64 x.n, .string x.s, .slice A3 x.l.length c3, .bool true] 32)))
    have Hx5 := Lib.hid ((hx3.low (Nat.zero_le _)).kept (gb_alloc (gb_refl _ _) (.cells #[.int .i64 x.k, .int .i64 x.n, .string x.s, .slice A3 x.l.length c3, .bool true] 32)))
    clear g2 g3 hx3
    go_wp2_with fail
    have hsm := same_any x x _ _ _ Hx4.out Hx5.out
    rw [same_self] at hsm
    refine hsm.mono ?_
    rintro e w4 ⟨rfl, g4⟩
    have Hg4 := Lib.hid (gb_none (gb_alloc Hg3.out _) g4)
    clear g4 hsm b0 b1 b2 b3 hbl
    go_wp2_with fail
    refine (awake_any w4 (HT.out.grown Hg4.out)).mono ?_
    rintro e w5 ⟨rfl, g5⟩
    go_wp2_with fail
    go_ret
    exact ⟨rfl, below_of (gb_none Hg4.out g5)⟩

theorem et : Tryd.prog.globalNamed "errors.errorType" = some 0 := by kernel_rfl
theorem rt : (Tryd.prog.cutTypes.find? (·.1 == "internal/reflectlite.rtype")).map (·.2) = some 108 := by kernel_rfl
theorem one_error : ((List.range 148).filter fun t => Tryd.prog.rowNamed t [101, 114, 114, 111, 114]) = [59] := by kernel_rfl
theorem how_many : Tryd.prog.types.size = 148 := by kernel_rfl
theorem handle : typeHandle Tryd.prog 59 = .pointer (some ⟨2, 59, none⟩) := by kernel_rfl
theorem errT {W : World} (h : laidMetH Tryd.prog Rows.wireBytesRow.laid W) : ErrT W := by
  obtain ⟨n, u, t, hn, hu, ht, hr, hc⟩ := (laidMetH_iff.1 h).2 _ (List.mem_singleton.2 rfl)
  obtain rfl := Option.some.inj hn
  obtain rfl := Option.some.inj (rt.symm.trans hu)
  have hin : t ∈ [59] := by
    rw [← one_error]
    exact List.mem_filter.2 ⟨List.mem_range.2 (how_many ▸ ht), hr⟩
  obtain rfl := List.mem_singleton.1 hin
  rw [handle] at hc
  have := World.var?_cell et hc 0
  unfold ErrT
  simpa using this
set_option maxRecDepth 100000 in
theorem contract (H : Type) (enc : TypeId × Value → H) (W : World) (base : Nat) (args : Array Value) (ds gs : List (DataW H)) (before : List MemPlace)
    (hval0 : ∀ (j : Nat) t v, Tryd.f4.params[j]? = some t → args[j]? = some v → Value.okWide Tryd.prog W .any base t v)
    (hW : DataW.Whole enc Tryd.prog Tryd.f4.params.toList Rows.wireBytesSpec.vars false W args.toList ds gs before) (hL : laidMetH Tryd.prog Rows.wireBytesRow.laid W) :
    Calls Tryd.prog 4 args W fun e W' => ∃ v, e = .returned v ∧ Rows.wireBytesSpec.post enc Tryd.prog Tryd.f4 false true false false W args v W' := by
  have hval : ∀ (j : Nat) t v, Tryd.f4.params[j]? = some t → args[j]? = some v → Value.okWide Tryd.prog W .any base t v := hval0
  have hW' := hW
  obtain ⟨p, q, hA0, hV, rfl, hfz, hnd⟩ := hW
  have hA : DataW.TrodAll enc Tryd.prog W 0 (fun _ => true) true Tryd.f4.params.toList args.toList ds p := hA0
  rw [Tryd.params4] at hA hval
  obtain ⟨v0, vs0, d0, ds0, p0, q0, hargs, rfl, rfl, h0, r0⟩ := trodAll_cons hA
  obtain ⟨rfl, rfl, rfl⟩ := trodAll_nil r0
  obtain rfl : args = #[v0] := by cases args; simp_all
  obtain ⟨rfl, rfl⟩ := trodVars_none hV
  obtain ⟨a0, rfl, rfl, rfl, w0⟩ := open_string Tryd.underlying9 (hval 0 9 v0 rfl rfl) h0
  clear hA0 hval0
  simp only [List.append_nil] at hW'
  refine (walk a0 w0 W (errT hL)).mono fun e W' ⟨he, hg⟩ => ?_
  subst he
  exact ⟨_, rfl, _, _, _, [], [], [], hW', (trodAll_cons_mk (shut_bool Tryd.underlying4 _) trodAll_mk0), (trodAll_cons_mk (shut_string Tryd.underlying9 w0) trodAll_mk0), rfl, hg.frame _, fun h => by cases h⟩

def lay (cs : Array Value) : Obj → Obj
  | .cells _ t frozen => .cells cs t frozen
  | o => o
noncomputable def laidWorld (os : Os) : World :=
  { World.holding Tryd.prog os ⟨#[], #[], []⟩ with heap := (World.holding Tryd.prog os ⟨#[], #[], []⟩).heap.modify 0 (lay #[.iface 108 (.agg #[.pointer (some ⟨2, 59, none⟩)])]) }
theorem laid_met (os : Os) : laidMetH Tryd.prog Rows.wireBytesRow.laid ((laidWorld os).forCall (fun _ _ => 0) ⟨#[], #[.string ByteArray.empty], []⟩).memory :=
  laidMetH_of_parts (laidMet_nil _ _) (by kernel_rfl)
theorem reads (os : Os) {H : Type} (enc : TypeId × Value → H) : ∃ places, DataW.whole enc Tryd.prog ((laidWorld os).forCall (fun _ _ => 0) ⟨#[], #[.string ByteArray.empty], []⟩).memory Tryd.f4.params.toList Rows.wireBytesSpec.vars false (show Array Value from #[.string ByteArray.empty]).toList 8 = some ([.lit (.string [])], [], places) :=
  ⟨[], by kernel_rfl⟩

set_option maxRecDepth 100000 in
theorem lifted (os : Os) (started : os.Started) (H : Type) (enc : TypeId × Value → H) (F : Stop.Interp) :
    ReturnsInHanded {} Tryd.checked os 4 .any ((OpenSpec.ofChange Rows.wireBytesSpec).preRow enc Tryd.prog Tryd.f4 Rows.wireBytesRow.domain false Rows.wireBytesRow.laid) (((OpenSpec.ofChange Rows.wireBytesSpec).at F).post enc Tryd.prog Tryd.f4 false true false false) := by
  obtain ⟨places, hx⟩ := reads os enc
  refine returnsInHanded_of_row (C := Tryd.checked) (s := OpenSpec.ofChange Rows.wireBytesSpec) own started (by kernel_rfl) Tryd.func4
    (witness_row_at (enc := enc) (C := Tryd.checked) false (laidWorld os) #[.string ByteArray.empty] rfl (by kernel_rfl) (by kernel_rfl) (by kernel_rfl)
      (OpenSpec.preRow_of_cond 8 hx (by kernel_rfl) (fun k hk => by cases hk) (by kernel_rfl) (laid_met os))) ?_
  intro W base args ds gs before hval hW _ _ _ hL _ _
  exact contract H enc W base args ds gs before hval hW hL

theorem said : Rows.WireBytesSaid :=
  OpenClaim.holds_of_cond 4 Tryd.f4 rfl rfl rfl rfl rfl rfl rfl ⟨rfl, rfl, rfl, rfl, rfl⟩ rfl rfl rfl rfl rfl (by kernel_rfl) Tryd.func4 (by kernel_rfl)
    (of_decide_eq_true (by kernel_rfl)) (by unfold Func.isWrapper; first | (rw [if_pos (by decide +kernel)]; kernel_rfl) | (rw [if_neg (by decide +kernel)]; exact ⟨rfl, rfl⟩))
    (fun os started H enc _ F => by rw [OpenClaim.pre_eq_preRow]; exact lifted os started H enc F)

theorem plain (f : FuncId) (fn : Func) (hf : Tryd.pinned.checked.prog.funcNamed "deaddrop/deaddroplaw4.WireBytes" = some f) (hfn : Tryd.pinned.checked.prog.funcs[f]? = some fn) :
    true = Tryd.pinned.checked.prog.looks [] ∧ ∀ (j : Nat) t, fn.params[j]? = some t → Tryd.pinned.checked.prog.wantsStandIn t = false := by
  obtain rfl : f = 4 := Option.some.inj ((show Tryd.prog.funcNamed "deaddrop/deaddroplaw4.WireBytes" = some 4 by kernel_rfl).symm.trans hf) |>.symm
  obtain rfl : fn = Tryd.f4 := (Option.some.inj (Tryd.func4.symm.trans hfn)).symm
  refine ⟨by kernel_rfl, fun j t ht => ?_⟩
  have hall : (Tryd.f4.params.toList.all fun u => !Tryd.prog.wantsStandIn u) = true := by kernel_rfl
  have hm : t ∈ Tryd.f4.params.toList := by simpa using Array.mem_of_getElem? ht
  exact (show Tryd.prog.wantsStandIn t = false by simpa using List.all_eq_true.1 hall t hm)

theorem card : Rows.WireBytesCardSaid :=
  Claim7.holds_tied_plain_at .later [] _ _ _ _ said (fun _ h => by cases h) (by kernel_rfl) (fun _ h => by cases h) wireBytes_row_tie rfl ⟨rfl, rfl⟩ (by kernel_rfl) rfl plain (by kernel_rfl)
#print axioms card
end Go.Proofs.YtbammjhafgbfkaaDoor.wireBytes
