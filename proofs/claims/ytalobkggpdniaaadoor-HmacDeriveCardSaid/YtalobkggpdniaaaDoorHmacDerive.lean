/-
  Proved: whatever values of its parameters' types it is called with, deaddroplaw3.HmacDerive returns true, and each argument reads behind the call as it read before; the two tables of package sha being what the program's own text lays (the card ties them).
  Conditions: none but those of the card itself.
-/
import Derived.Test.YtalobkggpdniaaaDoorCards
import Derived.Test.YtalobkggpdniaaaDoorTie
import Derived.WalkKit
import Derived.ProofKit
import Derived.OpenShut
import Derived.ShutString
import Derived.Below
import Derived.Deep.DeepHandedRow
import Derived.Lib.LaidTab
import Derived.LaidSub
import Derived.Stop.LaidTwo
import Derived.Test.YtalobkggpdniaaaDoorHNone
import Derived.IntWalk
import Derived.Outline
namespace Go.Proofs.YtalobkggpdniaaaDoor.hmacDerive
open Go.ChangeShapes Go.WideShapes Go.ChangeAt Go.RowKit
open Go.ChangeMaps (open_string shut_string)
open Go.Proofs.YtalobkggpdniaaaDoor.Wd Go.Proofs.YtalobkggpdniaaaDoor.Mm
set_option linter.unusedVariables false

theorem own : ownKnob Tryd.prog.godebug = none := by kernel_rfl


theorem eq_self (s : ByteArray) : (s.toList == s.toList) = true := by simp

set_option maxHeartbeats 40000000 in
set_option maxRecDepth 100000 in
theorem walk (a0 : ByteArray) (a1 : ByteArray) (a2 : ByteArray) (a3 : Int) (w0 : a0.size ≤ maxLen) (w1 : a1.size ≤ maxLen) (w2 : a2.size ≤ maxLen) (w3 : (Lit.int .i64 a3).wf = true) (w : World) (hT : Tabs w) (hE : Errs w) :
    Calls Tryd.prog 10 #[.string a0, .string a1, .string a2, .int .i64 a3] w fun e w' => e = .returned (.bool true) ∧ Below w.heap.size w w' := by
  clear w0 w1 w2
  by_cases hA : 200 < a0.size ∨ 200 < a1.size ∨ 200 < a2.size ∨ (400 < a3 ∧ a3 ≤ 8160)
  · have hcond : Hid (Calls Tryd.prog 17 #[] w fun e w' => e = .returned (.bool true) ∧ w.grownBy w' none) := awake3_any w hT
    by_cases h1 : 200 < a0.size
    · have t1 : decide ((200 : Int) < (a0.size : Int)) = true := decide_eq_true (by omega)
      clear hA h1
      go_enter Tryd.func10, Tryd.ntmps10
      go_wp2_with fail
      refine hcond.out.mono ?_
      rintro e x1 ⟨rfl, g1⟩
      go_wp2_with fail
      go_ret
      exact ⟨rfl, below_of g1⟩
    · have t1 : decide ((200 : Int) < (a0.size : Int)) = false := decide_eq_false (by omega)
      by_cases h2 : 200 < a1.size
      · have t2 : decide ((200 : Int) < (a1.size : Int)) = true := decide_eq_true (by omega)
        clear hA h1 h2
        go_enter Tryd.func10, Tryd.ntmps10
        go_wp2_with fail
        refine hcond.out.mono ?_
        rintro e x1 ⟨rfl, g1⟩
        go_wp2_with fail
        go_ret
        exact ⟨rfl, below_of g1⟩
      · have t2 : decide ((200 : Int) < (a1.size : Int)) = false := decide_eq_false (by omega)
        by_cases h3 : 200 < a2.size
        · have t3 : decide ((200 : Int) < (a2.size : Int)) = true := decide_eq_true (by omega)
          clear hA h1 h2 h3
          go_enter Tryd.func10, Tryd.ntmps10
          go_wp2_with fail
          refine hcond.out.mono ?_
          rintro e x1 ⟨rfl, g1⟩
          go_wp2_with fail
          go_ret
          exact ⟨rfl, below_of g1⟩
        · have t3 : decide ((200 : Int) < (a2.size : Int)) = false := decide_eq_false (by omega)
          have t4 : decide ((400 : Int) < a3) = true := decide_eq_true (by omega)
          have t5 : decide (a3 ≤ (8160 : Int)) = true := decide_eq_true (by omega)
          clear hA h1 h2 h3
          go_enter Tryd.func10, Tryd.ntmps10
          go_wp2_with fail
          refine hcond.out.mono ?_
          rintro e x1 ⟨rfl, g1⟩
          go_wp2_with fail
          go_ret
          exact ⟨rfl, below_of g1⟩
  · have h1 : a0.size ≤ 200 := by omega
    have h2 : a1.size ≤ 200 := by omega
    have h3 : a2.size ≤ 200 := by omega
    have t1 : decide ((200 : Int) < (a0.size : Int)) = false := decide_eq_false (by omega)
    have t2 : decide ((200 : Int) < (a1.size : Int)) = false := decide_eq_false (by omega)
    have t3 : decide ((200 : Int) < (a2.size : Int)) = false := decide_eq_false (by omega)
    have both : ∃ S : ByteArray, Hid ((∀ W, w.grownBy W none → Calls Tryd.prog 20 #[.string a0, .string a1, .string a2, .int .i64 a3] W fun e w' => e = .returned (.string S) ∧ W.grownBy w' none) ∧ (∀ W, w.grownBy W none → Calls Tryd.prog 21 #[.string a0, .string a1, .string a2, .int .i64 a3] W fun e w' => e = .returned (.string S) ∧ W.grownBy w' none)) := by
      by_cases hn : a3 < 0 ∨ 8160 < a3
      · exact ⟨⟨#[]⟩, fun W hW => derive_no a0 a1 a2 a3 W hn (hE.keep hW), fun W hW => (refDerive_no a0 a1 a2 a3 W hn).mono fun e w' ⟨he, hw⟩ => ⟨he, by rw [hw]; exact gb_refl _ _⟩⟩
      · obtain ⟨n, rfl⟩ : ∃ n : Nat, a3 = (n : Int) := ⟨a3.toNat, by omega⟩
        exact ⟨deriveB a0 a1 a2 n, fun W hW => derive_any a0 a1 a2 n W (by omega) (by omega) (by omega) (by omega) (hT.keep hW (by simp)) (hE.keep hW), fun W hW => refDerive_any a0 a1 a2 n W (by omega) (by omega) (by omega) (by omega)⟩
    obtain ⟨S, HS⟩ := both
    by_cases h4 : 400 < a3
    · have t4 : decide ((400 : Int) < a3) = true := decide_eq_true (by omega)
      have t5 : decide (a3 ≤ (8160 : Int)) = false := decide_eq_false (by omega)
      clear hA h4
      go_enter Tryd.func10, Tryd.ntmps10
      go_wp2_with fail
      refine (HS.out.1 _ (gb_refl _ _)).mono ?_
      rintro e x1 ⟨rfl, g1⟩
      go_wp2_with fail
      refine (HS.out.2 _ g1).mono ?_
      rintro e x2 ⟨rfl, g2⟩
      have g3 := gb_none g1 g2
      go_wp2_with fail
      refine (awake3_any _ (by exact hT.keep g3 (by simp))).mono ?_
      rintro e x3 ⟨rfl, g4⟩
      go_wp2_with fail
      go_ret
      exact ⟨rfl, below_of (gb_none g3 g4)⟩
    · have t4 : decide ((400 : Int) < a3) = false := decide_eq_false (by omega)
      clear hA h4
      go_enter Tryd.func10, Tryd.ntmps10
      go_wp2_with fail
      refine (HS.out.1 _ (gb_refl _ _)).mono ?_
      rintro e x1 ⟨rfl, g1⟩
      go_wp2_with fail
      refine (HS.out.2 _ g1).mono ?_
      rintro e x2 ⟨rfl, g2⟩
      have g3 := gb_none g1 g2
      go_wp2_with fail
      refine (awake3_any _ (by exact hT.keep g3 (by simp))).mono ?_
      rintro e x3 ⟨rfl, g4⟩
      go_wp2_with fail
      go_ret
      exact ⟨rfl, below_of (gb_none g3 g4)⟩

def zs1 : List Int := [1779033703, 3144134277, 1013904242, 2773480762, 1359893119, 2600822924, 528734635, 1541459225]
def zs2 : List Int := [1116352408, 1899447441, 3049323471, 3921009573, 961987163, 1508970993, 2453635748, 2870763221, 3624381080, 310598401, 607225278, 1426881987, 1925078388, 2162078206, 2614888103, 3248222580, 3835390401, 4022224774, 264347078, 604807628, 770255983, 1249150122, 1555081692, 1996064986, 2554220882, 2821834349, 2952996808, 3210313671, 3336571891, 3584528711, 113926993, 338241895, 666307205, 773529912, 1294757372, 1396182291, 1695183700, 1986661051, 2177026350, 2456956037, 2730485921, 2820302411, 3259730800, 3345764771, 3516065817, 3600352804, 4094571909, 275423344, 430227734, 506948616, 659060556, 883997877, 958139571, 1322822218, 1537002063, 1747873779, 1955562222, 2024104815, 2227730452, 2361852424, 2428436474, 2756734187, 3204031479, 3329325298]
theorem tabs {W : World} (h : laidMetH Tryd.prog Rows.hmacDeriveRow.laid W) : Tabs W := by
  have h1 : Lib.TabIs Tryd.prog W "deaddrop/sha.opening" .u32 zs1 := Lib.tabIs_of_head (rest := [("deaddrop/sha.roundNumbers", Rows.laid_deaddrop_sha_roundNumbers), ("deaddrop/hmac.errBelow", Rows.laid_deaddrop_hmac_errBelow), ("deaddrop/hmac.errBeyond", Rows.laid_deaddrop_hmac_errBeyond)]) (g := 0) (t := 43) (e := 42) (n := 8) (by kernel_rfl) (by kernel_rfl) Tryd.underlying43 Tryd.underlying42 (by kernel_rfl) (by kernel_rfl) h
  have h2 : Lib.TabIs Tryd.prog W "deaddrop/sha.roundNumbers" .u32 zs2 := Lib.tabIs_of_head (rest := []) (g := 3) (t := 82) (e := 42) (n := 64) (by kernel_rfl) (by kernel_rfl) Tryd.underlying82 Tryd.underlying42 (by kernel_rfl) (by kernel_rfl) (laidMetH.filter (fun x => x.1 == "deaddrop/sha.roundNumbers") h)
  have e1 : ∀ i, i < 8 → zs1.getD i 0 = ((firstH.getD i 0).toNat : Int) := by decide
  have e2 : ∀ i, i < 64 → zs2.getD i 0 = ((konst.getD i 0).toNat : Int) := by decide +kernel
  have c1 : ∀ i, i < 8 → W.cell? ⟨0, i, none⟩ = some (w32 (firstH.getD i 0)) := fun i hi => by
    have := h1.cell (g := 0) (by kernel_rfl) i (by rw [show zs1.length = 8 from rfl]; exact hi)
    rw [e1 i hi] at this; exact this
  have c2 : ∀ i, i < 64 → W.cell? ⟨3, i, none⟩ = some (w32 (konst.getD i 0)) := fun i hi => by
    have := h2.cell (g := 3) (by kernel_rfl) i (by rw [show zs2.length = 64 from rfl]; exact hi)
    rw [e2 i hi] at this; exact this
  exact ⟨block_lt_of_cell (c2 0 (by decide)), c1, c2⟩

theorem star : "*" ++ "errors.errorString" = "*errors.errorString" := by decide
theorem row_err (u : TypeId) (h : Tryd.prog.typeName? 3 u = some "*errors.errorString") : u = 101 :=
  typeName_ptr_named (nm := "errors.errorString") (by rw [star]; kernel_rfl) (by kernel_rfl) (by decide) u (by rw [star]; exact h)
theorem errs {W : World} (h : laidMetH Tryd.prog Rows.hmacDeriveRow.laid W) : Errs W := by
  have h4 : laidMet Tryd.prog [("deaddrop/hmac.errBelow", Rows.laid_deaddrop_hmac_errBelow), ("deaddrop/hmac.errBeyond", Rows.laid_deaddrop_hmac_errBeyond)] W := (laidMetH_iff.1 (laidMetH.filter (fun x => x.1 == "deaddrop/hmac.errBelow" || x.1 == "deaddrop/hmac.errBeyond") h)).1
  obtain ⟨a0, a1, s0, s1, c0, c1, t0, t1, hv0, hv1, hc0, hs0, hz0, hc1, hs1, hz1, hne, hb0, hb1⟩ := laid_sentinels2 h4 (g0 := 1) (g1 := 2) (ti := 59) (by kernel_rfl) (by kernel_rfl) (by kernel_rfl) (by kernel_rfl) Tryd.underlying59 row_err Tryd.underlying101 Tryd.underlying123 rfl rfl Tryd.underlying9 (by kernel_rfl) (by kernel_rfl)
  refine ⟨a0, a1, c0, c1, t0, t1, ?_, ?_, hne, hb0, hb1⟩
  · simpa using World.var?_cell (g := 1) (by kernel_rfl) hv0 0
  · simpa using World.var?_cell (g := 2) (by kernel_rfl) hv1 0

set_option maxRecDepth 100000 in
theorem contract (H : Type) (enc : TypeId × Value → H) (W : World) (base : Nat) (args : Array Value) (ds gs : List (DataW H)) (before : List MemPlace)
    (hval0 : ∀ (j : Nat) t v, Tryd.f10.params[j]? = some t → args[j]? = some v → Value.okWide Tryd.prog W .any base t v)
    (hW : DataW.Whole enc Tryd.prog Tryd.f10.params.toList Rows.hmacDeriveSpec.vars false W args.toList ds gs before) (hL : laidMetH Tryd.prog Rows.hmacDeriveRow.laid W) :
    Calls Tryd.prog 10 args W fun e W' => ∃ v, e = .returned v ∧ Rows.hmacDeriveSpec.post enc Tryd.prog Tryd.f10 false true false false W args v W' := by
  have hval : ∀ (j : Nat) t v, Tryd.f10.params[j]? = some t → args[j]? = some v → Value.okWide Tryd.prog W .any base t v := hval0
  have hW' := hW
  obtain ⟨p, q, hA0, hV, rfl, hfz, hnd⟩ := hW
  have hA : DataW.TrodAll enc Tryd.prog W 0 (fun _ => true) true Tryd.f10.params.toList args.toList ds p := hA0
  rw [Tryd.params10] at hA hval
  obtain ⟨v0, vs0, d0, ds0, p0, q0, hargs, rfl, rfl, h0, r0⟩ := trodAll_cons hA
  obtain ⟨v1, vs1, d1, ds1, p1, q1, rfl, rfl, rfl, h1, r1⟩ := trodAll_cons r0
  obtain ⟨v2, vs2, d2, ds2, p2, q2, rfl, rfl, rfl, h2, r2⟩ := trodAll_cons r1
  obtain ⟨v3, vs3, d3, ds3, p3, q3, rfl, rfl, rfl, h3, r3⟩ := trodAll_cons r2
  obtain ⟨rfl, rfl, rfl⟩ := trodAll_nil r3
  obtain rfl : args = #[v0, v1, v2, v3] := by cases args; simp_all
  obtain ⟨rfl, rfl⟩ := trodVars_none hV
  obtain ⟨a0, rfl, rfl, rfl, w0⟩ := open_string Tryd.underlying9 (hval 0 9 v0 rfl rfl) h0
  obtain ⟨a1, rfl, rfl, rfl, w1⟩ := open_string Tryd.underlying9 (hval 1 9 v1 rfl rfl) h1
  obtain ⟨a2, rfl, rfl, rfl, w2⟩ := open_string Tryd.underlying9 (hval 2 9 v2 rfl rfl) h2
  obtain ⟨a3, rfl, rfl, rfl, w3⟩ := open_int Tryd.underlying3 (hval 3 3 v3 rfl rfl) h3
  clear hA0 hval0
  simp only [List.append_nil] at hW'
  refine (walk a0 a1 a2 a3 w0 w1 w2 w3 W (tabs hL) (errs hL)).mono fun e W' ⟨he, hg⟩ => ?_
  subst he
  exact ⟨_, rfl, _, _, _, [], [], [], hW', (trodAll_cons_mk (shut_bool Tryd.underlying4 _) trodAll_mk0), (trodAll_cons_mk (shut_string Tryd.underlying9 w0) (trodAll_cons_mk (shut_string Tryd.underlying9 w1) (trodAll_cons_mk (shut_string Tryd.underlying9 w2) (trodAll_cons_mk (shut_int Tryd.underlying3 w3) trodAll_mk0)))), rfl, hg.frame _, fun h => by cases h⟩

def lay (cs : Array Value) : Obj → Obj
  | .cells _ t frozen => .cells cs t frozen
  | o => o
noncomputable def low : Nat := (World.holding Tryd.prog default ⟨#[], #[], []⟩).heap.size
noncomputable def laidWorld (os : Os) : World :=
  { World.holding Tryd.prog os ⟨#[.cells #[.string ⟨#[98, 101, 108, 111, 119, 32, 110, 111, 116, 104, 105, 110, 103]⟩] 123, .cells #[.string ⟨#[98, 101, 121, 111, 110, 100, 32, 116, 104, 101, 32, 108, 97, 115, 116, 32, 115, 117, 109]⟩] 123], #[], []⟩ with heap := ((((World.holding Tryd.prog os ⟨#[.cells #[.string ⟨#[98, 101, 108, 111, 119, 32, 110, 111, 116, 104, 105, 110, 103]⟩] 123, .cells #[.string ⟨#[98, 101, 121, 111, 110, 100, 32, 116, 104, 101, 32, 108, 97, 115, 116, 32, 115, 117, 109]⟩] 123], #[], []⟩).heap.modify 0 (lay #[.int .u32 1779033703, .int .u32 3144134277, .int .u32 1013904242, .int .u32 2773480762, .int .u32 1359893119, .int .u32 2600822924, .int .u32 528734635, .int .u32 1541459225])).modify 3 (lay #[.int .u32 1116352408, .int .u32 1899447441, .int .u32 3049323471, .int .u32 3921009573, .int .u32 961987163, .int .u32 1508970993, .int .u32 2453635748, .int .u32 2870763221, .int .u32 3624381080, .int .u32 310598401, .int .u32 607225278, .int .u32 1426881987, .int .u32 1925078388, .int .u32 2162078206, .int .u32 2614888103, .int .u32 3248222580, .int .u32 3835390401, .int .u32 4022224774, .int .u32 264347078, .int .u32 604807628, .int .u32 770255983, .int .u32 1249150122, .int .u32 1555081692, .int .u32 1996064986, .int .u32 2554220882, .int .u32 2821834349, .int .u32 2952996808, .int .u32 3210313671, .int .u32 3336571891, .int .u32 3584528711, .int .u32 113926993, .int .u32 338241895, .int .u32 666307205, .int .u32 773529912, .int .u32 1294757372, .int .u32 1396182291, .int .u32 1695183700, .int .u32 1986661051, .int .u32 2177026350, .int .u32 2456956037, .int .u32 2730485921, .int .u32 2820302411, .int .u32 3259730800, .int .u32 3345764771, .int .u32 3516065817, .int .u32 3600352804, .int .u32 4094571909, .int .u32 275423344, .int .u32 430227734, .int .u32 506948616, .int .u32 659060556, .int .u32 883997877, .int .u32 958139571, .int .u32 1322822218, .int .u32 1537002063, .int .u32 1747873779, .int .u32 1955562222, .int .u32 2024104815, .int .u32 2227730452, .int .u32 2361852424, .int .u32 2428436474, .int .u32 2756734187, .int .u32 3204031479, .int .u32 3329325298])).modify 1 (lay #[.iface 101 (.pointer (some ⟨low, 0, none⟩))])).modify 2 (lay #[.iface 101 (.pointer (some ⟨low + 1, 0, none⟩))]) }
theorem laid_met (os : Os) : laidMet Tryd.prog Rows.hmacDeriveRow.laid ((laidWorld os).forCall (fun _ _ => 0) ⟨#[], #[.string ByteArray.empty, .string ByteArray.empty, .string ByteArray.empty, .int .i64 0], []⟩).memory :=
  laidMet_of_run' 8 (by kernel_rfl) (by kernel_rfl)
theorem reads (os : Os) {H : Type} (enc : TypeId × Value → H) : ∃ places, DataW.whole enc Tryd.prog ((laidWorld os).forCall (fun _ _ => 0) ⟨#[], #[.string ByteArray.empty, .string ByteArray.empty, .string ByteArray.empty, .int .i64 0], []⟩).memory Tryd.f10.params.toList Rows.hmacDeriveSpec.vars false (show Array Value from #[.string ByteArray.empty, .string ByteArray.empty, .string ByteArray.empty, .int .i64 0]).toList 8 = some ([.lit (.string []), .lit (.string []), .lit (.string []), .lit (.int .i64 0)], [], places) :=
  ⟨[], by kernel_rfl⟩

set_option maxRecDepth 100000 in
theorem lifted (os : Os) (started : os.Started) (H : Type) (enc : TypeId × Value → H) (F : Stop.Interp) :
    ReturnsInHanded {} Tryd.checked os 10 .any ((OpenSpec.ofChange Rows.hmacDeriveSpec).preRow enc Tryd.prog Tryd.f10 Rows.hmacDeriveRow.domain false Rows.hmacDeriveRow.laid) (((OpenSpec.ofChange Rows.hmacDeriveSpec).at F).post enc Tryd.prog Tryd.f10 false true false false) := by
  obtain ⟨places, hx⟩ := reads os enc
  refine returnsInHanded_of_row (C := Tryd.checked) (s := OpenSpec.ofChange Rows.hmacDeriveSpec) own started (by kernel_rfl) Tryd.func10
    (witness_row_at (enc := enc) (C := Tryd.checked) false (laidWorld os) #[.string ByteArray.empty, .string ByteArray.empty, .string ByteArray.empty, .int .i64 0] rfl (by kernel_rfl) (by kernel_rfl) (by kernel_rfl)
      (OpenSpec.preRow_of_cond 8 hx (by kernel_rfl) (fun k hk => by cases hk) (by kernel_rfl) (laid_met os))) ?_
  intro W base args ds gs before hval hW _ _ _ hL _ _
  exact contract H enc W base args ds gs before hval hW hL

theorem said : Rows.HmacDeriveSaid :=
  OpenClaim.holds_of_cond 10 Tryd.f10 rfl rfl rfl rfl rfl rfl rfl ⟨rfl, rfl, rfl, rfl, rfl⟩ rfl rfl rfl rfl rfl (by kernel_rfl) Tryd.func10 (by kernel_rfl)
    (of_decide_eq_true (by kernel_rfl)) (by unfold Func.isWrapper; first | (rw [if_pos (by decide +kernel)]; kernel_rfl) | (rw [if_neg (by decide +kernel)]; exact ⟨rfl, rfl⟩))
    (fun os started H enc _ F => by rw [OpenClaim.pre_eq_preRow]; exact lifted os started H enc F)

theorem plain (f : FuncId) (fn : Func) (hf : Tryd.pinned.checked.prog.funcNamed "deaddrop/deaddroplaw3.HmacDerive" = some f) (hfn : Tryd.pinned.checked.prog.funcs[f]? = some fn) :
    true = Tryd.pinned.checked.prog.looks [] ∧ ∀ (j : Nat) t, fn.params[j]? = some t → Tryd.pinned.checked.prog.wantsStandIn t = false := by
  obtain rfl : f = 10 := Option.some.inj ((show Tryd.prog.funcNamed "deaddrop/deaddroplaw3.HmacDerive" = some 10 by kernel_rfl).symm.trans hf) |>.symm
  obtain rfl : fn = Tryd.f10 := (Option.some.inj (Tryd.func10.symm.trans hfn)).symm
  refine ⟨by kernel_rfl, fun j t ht => ?_⟩
  have hall : (Tryd.f10.params.toList.all fun u => !Tryd.prog.wantsStandIn u) = true := by kernel_rfl
  have hm : t ∈ Tryd.f10.params.toList := by simpa using Array.mem_of_getElem? ht
  exact (show Tryd.prog.wantsStandIn t = false by simpa using List.all_eq_true.1 hall t hm)

theorem card : Rows.HmacDeriveCardSaid :=
  Claim7.holds_tied_plain_at .later [] _ _ _ _ said (fun _ h => by cases h) (by kernel_rfl) (fun _ h => by cases h) hmacDerive_row_tie rfl ⟨rfl, rfl⟩ (by kernel_rfl) rfl plain (by kernel_rfl)
#print axioms card
end Go.Proofs.YtalobkggpdniaaaDoor.hmacDerive
