/-
  Proved: whatever values of its parameters' types it is called with, deaddroplaw4.WireNumbers returns true, and each argument reads behind the call as it read before; the library's variable errors.errorType being what the program's own text lays (the card ties it).
  Conditions: none but those of the card itself.
-/
import Derived.Test.YtbammjhafgbfkaaDoorCards
import Derived.Test.YtbammjhafgbfkaaDoorTie
import Derived.WalkKit
import Derived.ProofKit
import Derived.OpenShut
import Derived.ShutString
import Derived.Below
import Derived.Deep.DeepHandedRow
import Derived.LaidSub
import Derived.LaidHandle
import Derived.LaidLaws
import Derived.RowKitTokens
import Derived.Test.YtbammjhafgbfkaaDoorVLaw
import Derived.IntWalk
import Derived.Outline
namespace Go.Proofs.YtbammjhafgbfkaaDoor.wireNumbers
open Go.ChangeShapes Go.WideShapes Go.ChangeAt Go.RowKit
open Go.ChangeMaps (open_string shut_string)
open Go.Proofs.YtbammjhafgbfkaaDoor.Wd Go.Proofs.YtbammjhafgbfkaaDoor.Mm Go.Proofs.YtbammjhafgbfkaaDoor.Vw
set_option linter.unusedVariables false

theorem own : ownKnob Tryd.prog.godebug = none := by kernel_rfl


theorem eq_self (s : ByteArray) : (s.toList == s.toList) = true := by simp

set_option maxHeartbeats 40000000 in
set_option maxRecDepth 100000 in
theorem walk (a0 : Int) (a1 : ByteArray) (a2 : Int) (w0 : (Lit.int .i64 a0).wf = true) (w1 : a1.size ≤ maxLen) (w2 : (Lit.int .u8 a2).wf = true) (w : World) (hT : ErrT w) :
    Calls Tryd.prog 7 #[.int .i64 a0, .string a1, .int .u8 a2] w fun e w' => e = .returned (.bool true) ∧ Below w.heap.size w w' := by
  obtain ⟨hc1, hc2⟩ := u8_of w2
  have hn := i64_of w0
  have HT := Lib.hid hT
  clear hT w0 w1 w2
  by_cases h6 : 600 < a1.size
  · have d1 : decide ((600 : Int) < (a1.size : Int)) = true := decide_eq_true (by omega)
    have d2 : decide (600 < a1.size) = true := decide_eq_true h6
    clear hn
    go_enter Tryd.func7, Tryd.ntmps7
    go_wp2_with fail
    refine (awake_any _ HT.out).mono ?_
    rintro e w1 ⟨rfl, g1⟩
    go_wp2_with fail
    go_ret
    exact ⟨rfl, below_of g1⟩
  have d1 : decide ((600 : Int) < (a1.size : Int)) = false := decide_eq_false (by omega)
  have d2 : decide (600 < a1.size) = false := decide_eq_false h6
  have hs6 : a1.size ≤ 600 := by omega
  obtain ⟨Bn, HBn⟩ : ∃ B, Hid ((num a0).bytes = B) := ⟨_, rfl⟩
  have HgN : Hid (get Bn.data.toList = some (num a0)) := by show _ = _; rw [← HBn.out]; exact get_bytes _ (num_may a0) (num_in a0 hn)
  have hBn : Bn.size = 9 := by rw [← HBn.out, size_of_bytes (num_may a0), num_len]
  have HlN : Hid (Bn.data.toList.length ≤ 1099511627776) := by show _ ≤ _; simp; omega
  have t9 : ((Bn.size : Int) == 9) = true := by rw [hBn]; rfl
  clear hBn
  have htm := txt_may a1 (by omega)
  obtain ⟨Bs, HBs⟩ : ∃ B, Hid ((txt a1).bytes = B) := ⟨_, rfl⟩
  have HgS : Hid (get Bs.data.toList = some (txt a1)) := by show _ = _; rw [← HBs.out]; exact get_bytes _ htm (txt_in a1)
  have hBs : Bs.size = a1.size + 5 := by rw [← HBs.out, size_of_bytes htm, txt_len]
  have HlS : Hid (Bs.data.toList.length ≤ 1099511627776) := by show _ ≤ _; simp; omega
  have t5 : ((Bs.size : Int) == (a1.size : Int) + 5) = true := by rw [hBs]; simp
  have hmx : max 1 (Bs.size : Int) = (Bs.size : Int) := by omega
  obtain ⟨q, hq, hq2⟩ : ∃ q : Nat, a2 % (Bs.size : Int) = (q : Int) ∧ q < Bs.size := by
    have h1 := Int.emod_nonneg a2 (show (Bs.size : Int) ≠ 0 by omega)
    have h2 := Int.emod_lt_of_pos a2 (show (0 : Int) < (Bs.size : Int) by omega)
    exact ⟨(a2 % (Bs.size : Int)).toNat, by omega, by omega⟩
  have hb5 : 5 ≤ Bs.size := by omega
  have hb6 : Bs.size ≤ 605 := by omega
  have HgC : Hid (get (Bs.extract 0 q).data.toList = none) := by
    show _ = _
    rw [ByteArray.data_extract, Array.toList_extract, List.extract_eq_take_drop, List.drop_zero, ← HBs.out, bytes_len _ htm]
    exact get_cut _ htm (txt_in a1) _ (by rw [← size_of_bytes htm, HBs.out]; omega)
  have HlC : Hid ((Bs.extract 0 q).data.toList.length ≤ 1099511627776) := by show _ ≤ _; simp; omega
  have es := eq_self a1
  clear hBs hn htm
  go_enter Tryd.func7, Tryd.ntmps7
  go_wp2_with fail
  refine (num_any a0 _).mono ?_
  rintro e w1 ⟨rfl, g1⟩
  go_wp2_with fail
  refine (put_all (num a0) (.slice none 0 0) w1 (.nil _ _) (by rw [num_len]; decide)).mono ?_
  rintro e w2 ⟨rfl, g2⟩
  rw [HBn.out]
  have Hg2 := Lib.hid (gb_none g1 g2)
  clear g1 g2
  go_wp2_with fail
  refine (get_some Bn w2 HlN.out (num a0) HgN.out).mono ?_
  rintro e w3 ⟨A3, c3, rfl, hl3, g3⟩
  have Hg3 := Lib.hid (gb_none Hg2.out g3)
  clear g3 hl3
  go_wp2_with fail
  refine (text_any a1 _).mono ?_
  rintro e w4 ⟨rfl, g4⟩
  have Ha4 := Lib.hid (row_kept (heap_alloc_new w3 _) g4)
  have Hg4 := Lib.hid (gb_none (gb_alloc Hg3.out _) g4)
  clear g4
  go_wp2_with fail
  refine (put_all (txt a1) (.slice none 0 0) w4 (.nil _ _) (by rw [txt_len]; omega)).mono ?_
  rintro e w5 ⟨rfl, g5⟩
  rw [HBs.out]
  have Hg5 := Lib.hid (gb_none Hg4.out g5)
  have Ha5 := Lib.hid (row_kept Ha4.out g5)
  clear g5
  go_wp2_with fail
  refine (get_some Bs w5 HlS.out (txt a1) HgS.out).mono ?_
  rintro e w6 ⟨A6, c6, rfl, hl6, g6⟩
  have Hg6 := Lib.hid (gb_none Hg5.out g6)
  have Ha6 := Lib.hid (row_kept Ha5.out g6)
  clear g6 hl6
  go_wp2_with fail
  refine (text_any a1 _).mono ?_
  rintro e w7 ⟨rfl, g7⟩
  have Hb7 := Lib.hid (row_kept (heap_alloc_new w6 _) g7)
  have Hg7 := Lib.hid (gb_none (gb_alloc Hg6.out _) g7)
  have Ha7 := Lib.hid (row_kept Ha6.out (gb_none (gb_alloc (gb_refl _ _) _) g7))
  clear g7
  go_wp2_with fail
  refine (put_all (txt a1) (.slice none 0 0) w7 (.nil _ _) (by rw [txt_len]; omega)).mono ?_
  rintro e w8 ⟨rfl, g8⟩
  rw [HBs.out]
  have Hg8 := Lib.hid (gb_none Hg7.out g8)
  have Ha8 := Lib.hid (row_kept Ha7.out g8)
  have Hb8 := Lib.hid (row_kept Hb7.out g8)
  clear g8
  go_wp2_with fail
  refine (get_none (Bs.extract 0 q) w8 HlC.out HgC.out (HT.out.grown Hg8.out)).mono ?_
  rintro e w9 ⟨rfl, g9⟩
  have Hg9 := Lib.hid (gb_none Hg8.out g9)
  have Ha9 := Lib.hid (row_kept Ha8.out g9)
  have Hb9 := Lib.hid (row_kept Hb8.out g9)
  clear g9
  go_wp2_with fail
  refine (num_any a0 _).mono ?_
  rintro e w10 ⟨rfl, g10⟩
  have Hg10 := Lib.hid (gb_none (gb_alloc Hg9.out _) g10)
  have Ha10 := Lib.hid (row_kept Ha9.out (gb_none (gb_alloc (gb_refl _ _) _) g10))
  have Hb10 := Lib.hid (row_kept Hb9.out (gb_none (gb_alloc (gb_refl _ _) _) g10))
  clear g10
  go_wp2_with fail
  refine (put_all (num a0) (.slice none 0 0) w10 (.nil _ _) (by rw [num_len]; decide)).mono ?_
  rintro e w11 ⟨rfl, g11⟩
  rw [HBn.out]
  have Hg11 := Lib.hid (gb_none Hg10.out g11)
  obtain ⟨⟨b0, b1, b2, b3⟩, _, _⟩ := box4 (row_kept Ha10.out g11)
  obtain ⟨⟨e0, e1, e2, e3⟩, _, _⟩ := box4 (row_kept Hb10.out g11)
  clear g11
  simp only [num, txt, Wr.k_mk, Wr.n_mk, Wr.s_mk] at b0 b1 b2 e0 e1 e2
  clear b2 b3 e1 e3
  go_wp2_with fail
  refine (awake_any w11 (HT.out.grown Hg11.out)).mono ?_
  rintro e w12 ⟨rfl, g12⟩
  go_wp2_with fail
  go_ret
  exact ⟨rfl, below_of (gb_none Hg11.out g12)⟩

theorem et : Tryd.prog.globalNamed "errors.errorType" = some 0 := by kernel_rfl
theorem rt : (Tryd.prog.cutTypes.find? (·.1 == "internal/reflectlite.rtype")).map (·.2) = some 108 := by kernel_rfl
theorem one_error : ((List.range 148).filter fun t => Tryd.prog.rowNamed t [101, 114, 114, 111, 114]) = [59] := by kernel_rfl
theorem how_many : Tryd.prog.types.size = 148 := by kernel_rfl
theorem handle : typeHandle Tryd.prog 59 = .pointer (some ⟨2, 59, none⟩) := by kernel_rfl
theorem errT {W : World} (h : laidMetH Tryd.prog Rows.wireNumbersRow.laid W) : ErrT W := by
  obtain ⟨n, u, t, hn, hu, ht, hr, hc⟩ := (laidMetH_iff.1 h).2 _ (List.mem_singleton.2 rfl)
  obtain rfl := Option.some.inj hn
  obtain rfl := Option.some.inj (rt.symm.trans hu)
  have hin : t ∈ [59] := by
    rw [← one_error]
    exact List.mem_filter.2 ⟨List.mem_range.2 (how_many ▸ ht), hr⟩
  obtain rfl := List.mem_singleton.1 hin
  rw [handle] at hc
  have := World.var?_cell et hc 0
  unfold ErrT
  simpa using this
set_option maxRecDepth 100000 in
theorem contract (H : Type) (enc : TypeId × Value → H) (W : World) (base : Nat) (args : Array Value) (ds gs : List (DataW H)) (before : List MemPlace)
    (hval0 : ∀ (j : Nat) t v, Tryd.f7.params[j]? = some t → args[j]? = some v → Value.okWide Tryd.prog W .any base t v)
    (hW : DataW.Whole enc Tryd.prog Tryd.f7.params.toList Rows.wireNumbersSpec.vars false W args.toList ds gs before) (hL : laidMetH Tryd.prog Rows.wireNumbersRow.laid W) :
    Calls Tryd.prog 7 args W fun e W' => ∃ v, e = .returned v ∧ Rows.wireNumbersSpec.post enc Tryd.prog Tryd.f7 false true false false W args v W' := by
  have hval : ∀ (j : Nat) t v, Tryd.f7.params[j]? = some t → args[j]? = some v → Value.okWide Tryd.prog W .any base t v := hval0
  have hW' := hW
  obtain ⟨p, q, hA0, hV, rfl, hfz, hnd⟩ := hW
  have hA : DataW.TrodAll enc Tryd.prog W 0 (fun _ => true) true Tryd.f7.params.toList args.toList ds p := hA0
  rw [Tryd.params7] at hA hval
  obtain ⟨v0, vs0, d0, ds0, p0, q0, hargs, rfl, rfl, h0, r0⟩ := trodAll_cons hA
  obtain ⟨v1, vs1, d1, ds1, p1, q1, rfl, rfl, rfl, h1, r1⟩ := trodAll_cons r0
  obtain ⟨v2, vs2, d2, ds2, p2, q2, rfl, rfl, rfl, h2, r2⟩ := trodAll_cons r1
  obtain ⟨rfl, rfl, rfl⟩ := trodAll_nil r2
  obtain rfl : args = #[v0, v1, v2] := by cases args; simp_all
  obtain ⟨rfl, rfl⟩ := trodVars_none hV
  obtain ⟨a0, rfl, rfl, rfl, w0⟩ := open_int Tryd.underlying3 (hval 0 3 v0 rfl rfl) h0
  obtain ⟨a1, rfl, rfl, rfl, w1⟩ := open_string Tryd.underlying9 (hval 1 9 v1 rfl rfl) h1
  obtain ⟨a2, rfl, rfl, rfl, w2⟩ := open_int Tryd.underlying5 (hval 2 5 v2 rfl rfl) h2
  clear hA0 hval0
  simp only [List.append_nil] at hW'
  refine (walk a0 a1 a2 w0 w1 w2 W (errT hL)).mono fun e W' ⟨he, hg⟩ => ?_
  subst he
  exact ⟨_, rfl, _, _, _, [], [], [], hW', (trodAll_cons_mk (shut_bool Tryd.underlying4 _) trodAll_mk0), (trodAll_cons_mk (shut_int Tryd.underlying3 w0) (trodAll_cons_mk (shut_string Tryd.underlying9 w1) (trodAll_cons_mk (shut_int Tryd.underlying5 w2) trodAll_mk0))), rfl, hg.frame _, fun h => by cases h⟩

def lay (cs : Array Value) : Obj → Obj
  | .cells _ t frozen => .cells cs t frozen
  | o => o
noncomputable def laidWorld (os : Os) : World :=
  { World.holding Tryd.prog os ⟨#[], #[], []⟩ with heap := (World.holding Tryd.prog os ⟨#[], #[], []⟩).heap.modify 0 (lay #[.iface 108 (.agg #[.pointer (some ⟨2, 59, none⟩)])]) }
theorem laid_met (os : Os) : laidMetH Tryd.prog Rows.wireNumbersRow.laid ((laidWorld os).forCall (fun _ _ => 0) ⟨#[], #[.int .i64 0, .string ByteArray.empty, .int .u8 0], []⟩).memory :=
  laidMetH_of_parts (laidMet_nil _ _) (by kernel_rfl)
theorem reads (os : Os) {H : Type} (enc : TypeId × Value → H) : ∃ places, DataW.whole enc Tryd.prog ((laidWorld os).forCall (fun _ _ => 0) ⟨#[], #[.int .i64 0, .string ByteArray.empty, .int .u8 0], []⟩).memory Tryd.f7.params.toList Rows.wireNumbersSpec.vars false (show Array Value from #[.int .i64 0, .string ByteArray.empty, .int .u8 0]).toList 8 = some ([.lit (.int .i64 0), .lit (.string []), .lit (.int .u8 0)], [], places) :=
  ⟨[], by kernel_rfl⟩

set_option maxRecDepth 100000 in
theorem lifted (os : Os) (started : os.Started) (H : Type) (enc : TypeId × Value → H) (F : Stop.Interp) :
    ReturnsInHanded {} Tryd.checked os 7 .any ((OpenSpec.ofChange Rows.wireNumbersSpec).preRow enc Tryd.prog Tryd.f7 Rows.wireNumbersRow.domain false Rows.wireNumbersRow.laid) (((OpenSpec.ofChange Rows.wireNumbersSpec).at F).post enc Tryd.prog Tryd.f7 false true false false) := by
  obtain ⟨places, hx⟩ := reads os enc
  refine returnsInHanded_of_row (C := Tryd.checked) (s := OpenSpec.ofChange Rows.wireNumbersSpec) own started (by kernel_rfl) Tryd.func7
    (witness_row_at (enc := enc) (C := Tryd.checked) false (laidWorld os) #[.int .i64 0, .string ByteArray.empty, .int .u8 0] rfl (by kernel_rfl) (by kernel_rfl) (by kernel_rfl)
      (OpenSpec.preRow_of_cond 8 hx (by kernel_rfl) (fun k hk => by cases hk) (by kernel_rfl) (laid_met os))) ?_
  intro W base args ds gs before hval hW _ _ _ hL _ _
  exact contract H enc W base args ds gs before hval hW hL

theorem said : Rows.WireNumbersSaid :=
  OpenClaim.holds_of_cond 7 Tryd.f7 rfl rfl rfl rfl rfl rfl rfl ⟨rfl, rfl, rfl, rfl, rfl⟩ rfl rfl rfl rfl rfl (by kernel_rfl) Tryd.func7 (by kernel_rfl)
    (of_decide_eq_true (by kernel_rfl)) (by unfold Func.isWrapper; first | (rw [if_pos (by decide +kernel)]; kernel_rfl) | (rw [if_neg (by decide +kernel)]; exact ⟨rfl, rfl⟩))
    (fun os started H enc _ F => by rw [OpenClaim.pre_eq_preRow]; exact lifted os started H enc F)

theorem plain (f : FuncId) (fn : Func) (hf : Tryd.pinned.checked.prog.funcNamed "deaddrop/deaddroplaw4.WireNumbers" = some f) (hfn : Tryd.pinned.checked.prog.funcs[f]? = some fn) :
    true = Tryd.pinned.checked.prog.looks [] ∧ ∀ (j : Nat) t, fn.params[j]? = some t → Tryd.pinned.checked.prog.wantsStandIn t = false := by
  obtain rfl : f = 7 := Option.some.inj ((show Tryd.prog.funcNamed "deaddrop/deaddroplaw4.WireNumbers" = some 7 by kernel_rfl).symm.trans hf) |>.symm
  obtain rfl : fn = Tryd.f7 := (Option.some.inj (Tryd.func7.symm.trans hfn)).symm
  refine ⟨by kernel_rfl, fun j t ht => ?_⟩
  have hall : (Tryd.f7.params.toList.all fun u => !Tryd.prog.wantsStandIn u) = true := by kernel_rfl
  have hm : t ∈ Tryd.f7.params.toList := by simpa using Array.mem_of_getElem? ht
  exact (show Tryd.prog.wantsStandIn t = false by simpa using List.all_eq_true.1 hall t hm)

theorem card : Rows.WireNumbersCardSaid :=
  Claim7.holds_tied_plain_at .later [] _ _ _ _ said (fun _ h => by cases h) (by kernel_rfl) (fun _ h => by cases h) wireNumbers_row_tie rfl ⟨rfl, rfl⟩ (by kernel_rfl) rfl plain (by kernel_rfl)
#print axioms card
end Go.Proofs.YtbammjhafgbfkaaDoor.wireNumbers
