/-
  Proved: whatever values of its parameters' types it is called with, deaddroplaw6.BoxAll returns true, and each argument reads behind the call as it read before; the two tables of package sha being what the program's own text lays (the card ties them).
  Conditions: none but those of the card itself.
-/
import Derived.Test.YthdealjnhgkoiaaDoorCards
import Derived.Test.YthdealjnhgkoiaaDoorTie
import Derived.WalkKit
import Derived.ProofKit
import Derived.OpenShut
import Derived.ShutString
import Derived.Below
import Derived.Deep.DeepHandedRow
import Derived.Lib.LaidTab
import Derived.LaidSub
import Derived.Stop.LaidTwo
import Derived.Test.YthdealjnhgkoiaaDoorBxAwake
import Derived.IntWalk
import Derived.Outline
import Derived.BigQuiet
namespace Go.Proofs.YthdealjnhgkoiaaDoor.boxAll
open Go.ChangeShapes Go.WideShapes Go.ChangeAt Go.RowKit
open Go.ChangeMaps (open_string shut_string)
open Go.Proofs.YthdealjnhgkoiaaDoor.Wd Go.Proofs.YthdealjnhgkoiaaDoor.Mm
set_option linter.unusedVariables false

theorem own : ownKnob Tryd.prog.godebug = none := by kernel_rfl


open Bx

set_option maxHeartbeats 40000000 in
set_option maxRecDepth 100000 in
theorem walk (a0 : ByteArray) (a1 : ByteArray) (a2 : ByteArray) (a3 : ByteArray) (a4 : ByteArray) (w0 : a0.size ≤ maxLen) (w1 : a1.size ≤ maxLen) (w2 : a2.size ≤ maxLen) (w3 : a3.size ≤ maxLen) (w4 : a4.size ≤ maxLen) (w : World) (hT : Tabs w) (hB : Bx.BErrs w) :
    Calls Tryd.prog 3 #[.string a0, .string a1, .string a2, .string a3, .string a4] w fun e w' => e = .returned (.bool true) ∧ Below w.heap.size w w' := by
  clear w0 w1 w2 w3 w4
  by_cases c1 : 100 < a0.size
  · have t1 : decide ((100 : Int) < (a0.size : Int)) = true := decide_eq_true (by omega)
    clear c1
    go_enter Tryd.func3, Tryd.ntmps3
    go_wp2_with fail
    refine (awake6_any _ hT hB).mono ?_
    rintro e x1 ⟨rfl, g1⟩
    go_wp2_with fail
    go_ret
    exact ⟨rfl, below_of g1⟩
  · have t1 : decide ((100 : Int) < (a0.size : Int)) = false := decide_eq_false (by omega)
    by_cases c2 : 100 < a1.size
    · have t2 : decide ((100 : Int) < (a1.size : Int)) = true := decide_eq_true (by omega)
      clear c2
      go_enter Tryd.func3, Tryd.ntmps3
      go_wp2_with fail
      refine (awake6_any _ hT hB).mono ?_
      rintro e x1 ⟨rfl, g1⟩
      go_wp2_with fail
      go_ret
      exact ⟨rfl, below_of g1⟩
    · have t2 : decide ((100 : Int) < (a1.size : Int)) = false := decide_eq_false (by omega)
      by_cases c3 : 200 < a2.size
      · have t3 : decide ((200 : Int) < (a2.size : Int)) = true := decide_eq_true (by omega)
        clear c3
        go_enter Tryd.func3, Tryd.ntmps3
        go_wp2_with fail
        refine (awake6_any _ hT hB).mono ?_
        rintro e x1 ⟨rfl, g1⟩
        go_wp2_with fail
        go_ret
        exact ⟨rfl, below_of g1⟩
      · have t3 : decide ((200 : Int) < (a2.size : Int)) = false := decide_eq_false (by omega)
        by_cases c4 : 300 < a3.size
        · have t4 : decide ((300 : Int) < (a3.size : Int)) = true := decide_eq_true (by omega)
          clear c4
          go_enter Tryd.func3, Tryd.ntmps3
          go_wp2_with fail
          refine (awake6_any _ hT hB).mono ?_
          rintro e x1 ⟨rfl, g1⟩
          go_wp2_with fail
          go_ret
          exact ⟨rfl, below_of g1⟩
        · have t4 : decide ((300 : Int) < (a3.size : Int)) = false := decide_eq_false (by omega)
          by_cases c5 : 300 < a4.size
          · have t5 : decide ((300 : Int) < (a4.size : Int)) = true := decide_eq_true (by omega)
            clear c5
            go_enter Tryd.func3, Tryd.ntmps3
            go_wp2_with fail
            refine (awake6_any _ hT hB).mono ?_
            rintro e x1 ⟨rfl, g1⟩
            go_wp2_with fail
            go_ret
            exact ⟨rfl, below_of g1⟩
          · have t5 : decide ((300 : Int) < (a4.size : Int)) = false := decide_eq_false (by omega)
            have h2 : a2.size ≤ 200 := by omega
            have h4 : a4.size ≤ 300 := by omega
            clear c1 c2 c3 c4 c5
            have e0 := said_text
            have e1 := said_ok
            obtain ⟨X, HX⟩ : ∃ X : ByteArray, Hid (openS a0 a1 a2 a4 = X) := ⟨_, rfl⟩
            obtain ⟨Y, HY⟩ : ∃ Y : Bool, Hid ((openB a0 a1 a2 a4).isSome = Y) := ⟨_, rfl⟩
            obtain ⟨Z, HZ⟩ : ∃ Z : ByteArray, Hid (sealB a0 a1 a2 a3 = Z) := ⟨_, rfl⟩
            go_enter Tryd.func3, Tryd.ntmps3
            go_wp2_with fail
            refine (open_any a0 a1 a2 a4 _ (by omega) (by omega) hT hB).mono ?_
            rintro e x1 ⟨rfl, g1⟩
            rw [HX.out, HY.out]
            go_wp2_with fail
            refine (refOpen_any a0 a1 a2 a4 _ (by omega) (by omega)).mono ?_
            rintro e x2 ⟨rfl, g2⟩
            rw [HX.out, HY.out]
            replace g2 := gb_none g1 g2
            clear g1
            have g2a := gb_alloc g2 (.cells #[.string X, .bool Y] 26)
            have hr2 := Row.new x2 26 #[.string X, .bool Y]
            clear g2
            go_wp2_with fail
            refine (seal_any a0 a1 a2 a3 _ (by omega) (by exact hT.keep g2a (by simp)) (by exact hB.keep g2a)).mono ?_
            rintro e x3 ⟨rfl, g3⟩
            rw [HZ.out]
            have hr3 := hr2.kept g3 (by simp)
            replace g3 := gb_none g2a g3
            clear g2a hr2
            go_wp2_with fail
            refine (refSeal_any a0 a1 a2 a3 _ (by omega)).mono ?_
            rintro e x4 ⟨rfl, g4⟩
            rw [HZ.out]
            have hr4 := hr3.kept g4 (by simp)
            replace g4 := gb_none g3 g4
            clear g3 hr3
            have q0 := hr4.at_ (i := 0) rfl
            have q1 := hr4.at_ (i := 1) rfl
            cases Y <;>
              (go_wp2_with fail
               refine (awake6_any _ (hT.keep g4 (by simp)) (hB.keep g4)).mono ?_
               rintro e x5 ⟨rfl, g5⟩
               go_wp2_with fail
               go_ret
               exact ⟨rfl, below_of (gb_none g4 g5)⟩)

def zs1 : List Int := [1779033703, 3144134277, 1013904242, 2773480762, 1359893119, 2600822924, 528734635, 1541459225]
def zs2 : List Int := [1116352408, 1899447441, 3049323471, 3921009573, 961987163, 1508970993, 2453635748, 2870763221, 3624381080, 310598401, 607225278, 1426881987, 1925078388, 2162078206, 2614888103, 3248222580, 3835390401, 4022224774, 264347078, 604807628, 770255983, 1249150122, 1555081692, 1996064986, 2554220882, 2821834349, 2952996808, 3210313671, 3336571891, 3584528711, 113926993, 338241895, 666307205, 773529912, 1294757372, 1396182291, 1695183700, 1986661051, 2177026350, 2456956037, 2730485921, 2820302411, 3259730800, 3345764771, 3516065817, 3600352804, 4094571909, 275423344, 430227734, 506948616, 659060556, 883997877, 958139571, 1322822218, 1537002063, 1747873779, 1955562222, 2024104815, 2227730452, 2361852424, 2428436474, 2756734187, 3204031479, 3329325298]
theorem tabs {W : World} (h : laidMetH Tryd.prog Rows.boxAllRow.laid W) : Tabs W := by
  have h1 : Lib.TabIs Tryd.prog W "deaddrop/sha.opening" .u32 zs1 := Lib.tabIs_of_head (rest := [("deaddrop/sha.roundNumbers", Rows.laid_deaddrop_sha_roundNumbers), ("deaddrop/box.errKey", Rows.laid_deaddrop_box_errKey), ("deaddrop/box.errNonce", Rows.laid_deaddrop_box_errNonce), ("deaddrop/box.errShort", Rows.laid_deaddrop_box_errShort), ("deaddrop/box.errLong", Rows.laid_deaddrop_box_errLong), ("deaddrop/box.errTag", Rows.laid_deaddrop_box_errTag)]) (g := 5) (t := 98) (e := 56) (n := 8) (by kernel_rfl) (by kernel_rfl) Tryd.underlying98 Tryd.underlying56 (by kernel_rfl) (by kernel_rfl) h
  have h2 : Lib.TabIs Tryd.prog W "deaddrop/sha.roundNumbers" .u32 zs2 := Lib.tabIs_of_head (rest := []) (g := 6) (t := 110) (e := 56) (n := 64) (by kernel_rfl) (by kernel_rfl) Tryd.underlying110 Tryd.underlying56 (by kernel_rfl) (by kernel_rfl) (laidMetH.filter (fun x => x.1 == "deaddrop/sha.roundNumbers") h)
  have e1 : ∀ i, i < 8 → zs1.getD i 0 = ((firstH.getD i 0).toNat : Int) := by decide
  have e2 : ∀ i, i < 64 → zs2.getD i 0 = ((konst.getD i 0).toNat : Int) := by decide +kernel
  have c1 : ∀ i, i < 8 → W.cell? ⟨5, i, none⟩ = some (w32 (firstH.getD i 0)) := fun i hi => by
    have := h1.cell (g := 5) (by kernel_rfl) i (by rw [show zs1.length = 8 from rfl]; exact hi)
    rw [e1 i hi] at this; exact this
  have c2 : ∀ i, i < 64 → W.cell? ⟨6, i, none⟩ = some (w32 (konst.getD i 0)) := fun i hi => by
    have := h2.cell (g := 6) (by kernel_rfl) i (by rw [show zs2.length = 64 from rfl]; exact hi)
    rw [e2 i hi] at this; exact this
  exact ⟨block_lt_of_cell (c2 0 (by decide)), c1, c2⟩

theorem star : "*" ++ "errors.errorString" = "*errors.errorString" := by decide
theorem row_err (u : TypeId) (h : Tryd.prog.typeName? 3 u = some "*errors.errorString") : u = 113 :=
  typeName_ptr_named (nm := "errors.errorString") (by rw [star]; kernel_rfl) (by kernel_rfl) (by decide) u (by rw [star]; exact h)
theorem pair0 {W : World} (h : laidMetH Tryd.prog Rows.boxAllRow.laid W) : Bx.BE W 3 ∧ Bx.BE W 4 := by
  have h4 : laidMet Tryd.prog [("deaddrop/box.errKey", Rows.laid_deaddrop_box_errKey), ("deaddrop/box.errNonce", Rows.laid_deaddrop_box_errNonce)] W := (laidMetH_iff.1 (laidMetH.filter (fun x => x.1 == "deaddrop/box.errKey" || x.1 == "deaddrop/box.errNonce") h)).1
  obtain ⟨a0, a1, s0, s1, c0, c1, t0, t1, hv0, hv1, hc0, hs0, hz0, hc1, hs1, hz1, hne, hb0, hb1⟩ := laid_sentinels2 h4 (g0 := 3) (g1 := 4) (ti := 41) (by kernel_rfl) (by kernel_rfl) (by kernel_rfl) (by kernel_rfl) Tryd.underlying41 row_err Tryd.underlying113 Tryd.underlying137 rfl rfl Tryd.underlying9 (by kernel_rfl) (by kernel_rfl)
  exact ⟨⟨a0, c0, t0, by simpa using World.var?_cell (g := 3) (by kernel_rfl) hv0 0, hb0⟩, ⟨a1, c1, t1, by simpa using World.var?_cell (g := 4) (by kernel_rfl) hv1 0, hb1⟩⟩
theorem pair1 {W : World} (h : laidMetH Tryd.prog Rows.boxAllRow.laid W) : Bx.BE W 0 ∧ Bx.BE W 1 := by
  have h4 : laidMet Tryd.prog [("deaddrop/box.errShort", Rows.laid_deaddrop_box_errShort), ("deaddrop/box.errLong", Rows.laid_deaddrop_box_errLong)] W := (laidMetH_iff.1 (laidMetH.filter (fun x => x.1 == "deaddrop/box.errShort" || x.1 == "deaddrop/box.errLong") h)).1
  obtain ⟨a0, a1, s0, s1, c0, c1, t0, t1, hv0, hv1, hc0, hs0, hz0, hc1, hs1, hz1, hne, hb0, hb1⟩ := laid_sentinels2 h4 (g0 := 0) (g1 := 1) (ti := 41) (by kernel_rfl) (by kernel_rfl) (by kernel_rfl) (by kernel_rfl) Tryd.underlying41 row_err Tryd.underlying113 Tryd.underlying137 rfl rfl Tryd.underlying9 (by kernel_rfl) (by kernel_rfl)
  exact ⟨⟨a0, c0, t0, by simpa using World.var?_cell (g := 0) (by kernel_rfl) hv0 0, hb0⟩, ⟨a1, c1, t1, by simpa using World.var?_cell (g := 1) (by kernel_rfl) hv1 0, hb1⟩⟩
theorem pair2 {W : World} (h : laidMetH Tryd.prog Rows.boxAllRow.laid W) : Bx.BE W 1 ∧ Bx.BE W 2 := by
  have h4 : laidMet Tryd.prog [("deaddrop/box.errLong", Rows.laid_deaddrop_box_errLong), ("deaddrop/box.errTag", Rows.laid_deaddrop_box_errTag)] W := (laidMetH_iff.1 (laidMetH.filter (fun x => x.1 == "deaddrop/box.errLong" || x.1 == "deaddrop/box.errTag") h)).1
  obtain ⟨a0, a1, s0, s1, c0, c1, t0, t1, hv0, hv1, hc0, hs0, hz0, hc1, hs1, hz1, hne, hb0, hb1⟩ := laid_sentinels2 h4 (g0 := 1) (g1 := 2) (ti := 41) (by kernel_rfl) (by kernel_rfl) (by kernel_rfl) (by kernel_rfl) Tryd.underlying41 row_err Tryd.underlying113 Tryd.underlying137 rfl rfl Tryd.underlying9 (by kernel_rfl) (by kernel_rfl)
  exact ⟨⟨a0, c0, t0, by simpa using World.var?_cell (g := 1) (by kernel_rfl) hv0 0, hb0⟩, ⟨a1, c1, t1, by simpa using World.var?_cell (g := 2) (by kernel_rfl) hv1 0, hb1⟩⟩
theorem berrs {W : World} (h : laidMetH Tryd.prog Rows.boxAllRow.laid W) : Bx.BErrs W := ⟨(pair0 h).1, (pair0 h).2, (pair1 h).1, (pair1 h).2, (pair2 h).2⟩

set_option maxRecDepth 100000 in
theorem contract (H : Type) (enc : TypeId × Value → H) (W : World) (base : Nat) (args : Array Value) (ds gs : List (DataW H)) (before : List MemPlace)
    (hval0 : ∀ (j : Nat) t v, Tryd.f3.params[j]? = some t → args[j]? = some v → Value.okWide Tryd.prog W .any base t v)
    (hW : DataW.Whole enc Tryd.prog Tryd.f3.params.toList Rows.boxAllSpec.vars false W args.toList ds gs before) (hL : laidMetH Tryd.prog Rows.boxAllRow.laid W) :
    Calls Tryd.prog 3 args W fun e W' => ∃ v, e = .returned v ∧ Rows.boxAllSpec.post enc Tryd.prog Tryd.f3 false true false false W args v W' := by
  have hval : ∀ (j : Nat) t v, Tryd.f3.params[j]? = some t → args[j]? = some v → Value.okWide Tryd.prog W .any base t v := hval0
  have hW' := hW
  obtain ⟨p, q, hA0, hV, rfl, hfz, hnd⟩ := hW
  have hA : DataW.TrodAll enc Tryd.prog W 0 (fun _ => true) true Tryd.f3.params.toList args.toList ds p := hA0
  rw [Tryd.params3] at hA hval
  obtain ⟨v0, vs0, d0, ds0, p0, q0, hargs, rfl, rfl, h0, r0⟩ := trodAll_cons hA
  obtain ⟨v1, vs1, d1, ds1, p1, q1, rfl, rfl, rfl, h1, r1⟩ := trodAll_cons r0
  obtain ⟨v2, vs2, d2, ds2, p2, q2, rfl, rfl, rfl, h2, r2⟩ := trodAll_cons r1
  obtain ⟨v3, vs3, d3, ds3, p3, q3, rfl, rfl, rfl, h3, r3⟩ := trodAll_cons r2
  obtain ⟨v4, vs4, d4, ds4, p4, q4, rfl, rfl, rfl, h4, r4⟩ := trodAll_cons r3
  obtain ⟨rfl, rfl, rfl⟩ := trodAll_nil r4
  obtain rfl : args = #[v0, v1, v2, v3, v4] := by cases args; simp_all
  obtain ⟨rfl, rfl⟩ := trodVars_none hV
  obtain ⟨a0, rfl, rfl, rfl, w0⟩ := open_string Tryd.underlying9 (hval 0 9 v0 rfl rfl) h0
  obtain ⟨a1, rfl, rfl, rfl, w1⟩ := open_string Tryd.underlying9 (hval 1 9 v1 rfl rfl) h1
  obtain ⟨a2, rfl, rfl, rfl, w2⟩ := open_string Tryd.underlying9 (hval 2 9 v2 rfl rfl) h2
  obtain ⟨a3, rfl, rfl, rfl, w3⟩ := open_string Tryd.underlying9 (hval 3 9 v3 rfl rfl) h3
  obtain ⟨a4, rfl, rfl, rfl, w4⟩ := open_string Tryd.underlying9 (hval 4 9 v4 rfl rfl) h4
  clear hA0 hval0
  simp only [List.append_nil] at hW'
  refine (walk a0 a1 a2 a3 a4 w0 w1 w2 w3 w4 W (tabs hL) (berrs hL)).mono fun e W' ⟨he, hg⟩ => ?_
  subst he
  exact ⟨_, rfl, _, _, _, [], [], [], hW', (trodAll_cons_mk (shut_bool Tryd.underlying4 _) trodAll_mk0), (trodAll_cons_mk (shut_string Tryd.underlying9 w0) (trodAll_cons_mk (shut_string Tryd.underlying9 w1) (trodAll_cons_mk (shut_string Tryd.underlying9 w2) (trodAll_cons_mk (shut_string Tryd.underlying9 w3) (trodAll_cons_mk (shut_string Tryd.underlying9 w4) trodAll_mk0))))), rfl, hg.frame _, fun h => by cases h⟩

def lay (cs : Array Value) : Obj → Obj
  | .cells _ t frozen => .cells cs t frozen
  | o => o
noncomputable def low : Nat := (World.holding Tryd.prog default ⟨#[], #[], []⟩).heap.size
noncomputable def laidWorld (os : Os) : World :=
  { World.holding Tryd.prog os ⟨#[.cells #[.string ⟨#[110, 111, 116, 32, 97, 115, 32, 108, 111, 110, 103, 32, 97, 115, 32, 97, 32, 112, 97, 105, 114, 32, 111, 102, 32, 107, 101, 121, 115]⟩] 137, .cells #[.string ⟨#[110, 111, 116, 32, 97, 115, 32, 108, 111, 110, 103, 32, 97, 115, 32, 97, 32, 110, 111, 110, 99, 101]⟩] 137, .cells #[.string ⟨#[115, 104, 111, 114, 116, 101, 114, 32, 116, 104, 97, 110, 32, 97, 32, 116, 97, 103]⟩] 137, .cells #[.string ⟨#[108, 111, 110, 103, 101, 114, 32, 116, 104, 97, 110, 32, 119, 104, 97, 116, 32, 105, 115, 32, 101, 118, 101, 114, 32, 115, 101, 97, 108, 101, 100]⟩] 137, .cells #[.string ⟨#[116, 104, 101, 32, 116, 97, 103, 32, 100, 111, 101, 115, 32, 110, 111, 116, 32, 102, 105, 116]⟩] 137], #[], []⟩ with heap := (((((((World.holding Tryd.prog os ⟨#[.cells #[.string ⟨#[110, 111, 116, 32, 97, 115, 32, 108, 111, 110, 103, 32, 97, 115, 32, 97, 32, 112, 97, 105, 114, 32, 111, 102, 32, 107, 101, 121, 115]⟩] 137, .cells #[.string ⟨#[110, 111, 116, 32, 97, 115, 32, 108, 111, 110, 103, 32, 97, 115, 32, 97, 32, 110, 111, 110, 99, 101]⟩] 137, .cells #[.string ⟨#[115, 104, 111, 114, 116, 101, 114, 32, 116, 104, 97, 110, 32, 97, 32, 116, 97, 103]⟩] 137, .cells #[.string ⟨#[108, 111, 110, 103, 101, 114, 32, 116, 104, 97, 110, 32, 119, 104, 97, 116, 32, 105, 115, 32, 101, 118, 101, 114, 32, 115, 101, 97, 108, 101, 100]⟩] 137, .cells #[.string ⟨#[116, 104, 101, 32, 116, 97, 103, 32, 100, 111, 101, 115, 32, 110, 111, 116, 32, 102, 105, 116]⟩] 137], #[], []⟩).heap.modify 5 (lay #[.int .u32 1779033703, .int .u32 3144134277, .int .u32 1013904242, .int .u32 2773480762, .int .u32 1359893119, .int .u32 2600822924, .int .u32 528734635, .int .u32 1541459225])).modify 6 (lay #[.int .u32 1116352408, .int .u32 1899447441, .int .u32 3049323471, .int .u32 3921009573, .int .u32 961987163, .int .u32 1508970993, .int .u32 2453635748, .int .u32 2870763221, .int .u32 3624381080, .int .u32 310598401, .int .u32 607225278, .int .u32 1426881987, .int .u32 1925078388, .int .u32 2162078206, .int .u32 2614888103, .int .u32 3248222580, .int .u32 3835390401, .int .u32 4022224774, .int .u32 264347078, .int .u32 604807628, .int .u32 770255983, .int .u32 1249150122, .int .u32 1555081692, .int .u32 1996064986, .int .u32 2554220882, .int .u32 2821834349, .int .u32 2952996808, .int .u32 3210313671, .int .u32 3336571891, .int .u32 3584528711, .int .u32 113926993, .int .u32 338241895, .int .u32 666307205, .int .u32 773529912, .int .u32 1294757372, .int .u32 1396182291, .int .u32 1695183700, .int .u32 1986661051, .int .u32 2177026350, .int .u32 2456956037, .int .u32 2730485921, .int .u32 2820302411, .int .u32 3259730800, .int .u32 3345764771, .int .u32 3516065817, .int .u32 3600352804, .int .u32 4094571909, .int .u32 275423344, .int .u32 430227734, .int .u32 506948616, .int .u32 659060556, .int .u32 883997877, .int .u32 958139571, .int .u32 1322822218, .int .u32 1537002063, .int .u32 1747873779, .int .u32 1955562222, .int .u32 2024104815, .int .u32 2227730452, .int .u32 2361852424, .int .u32 2428436474, .int .u32 2756734187, .int .u32 3204031479, .int .u32 3329325298])).modify 3 (lay #[.iface 113 (.pointer (some ⟨low, 0, none⟩))])).modify 4 (lay #[.iface 113 (.pointer (some ⟨low + 1, 0, none⟩))])).modify 0 (lay #[.iface 113 (.pointer (some ⟨low + 2, 0, none⟩))])).modify 1 (lay #[.iface 113 (.pointer (some ⟨low + 3, 0, none⟩))])).modify 2 (lay #[.iface 113 (.pointer (some ⟨low + 4, 0, none⟩))]) }
theorem laid_met (os : Os) : laidMet Tryd.prog Rows.boxAllRow.laid ((laidWorld os).forCall (fun _ _ => 0) ⟨#[], #[.string ByteArray.empty, .string ByteArray.empty, .string ByteArray.empty, .string ByteArray.empty, .string ByteArray.empty], []⟩).memory :=
  laidMet_of_run' 8 (by kernel_rfl) (by kernel_rfl)
theorem reads (os : Os) {H : Type} (enc : TypeId × Value → H) : ∃ places, DataW.whole enc Tryd.prog ((laidWorld os).forCall (fun _ _ => 0) ⟨#[], #[.string ByteArray.empty, .string ByteArray.empty, .string ByteArray.empty, .string ByteArray.empty, .string ByteArray.empty], []⟩).memory Tryd.f3.params.toList Rows.boxAllSpec.vars false (show Array Value from #[.string ByteArray.empty, .string ByteArray.empty, .string ByteArray.empty, .string ByteArray.empty, .string ByteArray.empty]).toList 8 = some ([.lit (.string []), .lit (.string []), .lit (.string []), .lit (.string []), .lit (.string [])], [], places) :=
  ⟨[], by kernel_rfl⟩

set_option maxRecDepth 100000 in
theorem lifted (os : Os) (started : os.Started) (H : Type) (enc : TypeId × Value → H) (F : Stop.Interp) :
    ReturnsInHanded {} Tryd.checked os 3 .any ((OpenSpec.ofChange Rows.boxAllSpec).preRow enc Tryd.prog Tryd.f3 Rows.boxAllRow.domain false Rows.boxAllRow.laid) (((OpenSpec.ofChange Rows.boxAllSpec).at F).post enc Tryd.prog Tryd.f3 false true false false) := by
  obtain ⟨places, hx⟩ := reads os enc
  refine returnsInHanded_of_row (C := Tryd.checked) (s := OpenSpec.ofChange Rows.boxAllSpec) own started (by kernel_rfl) Tryd.func3
    (witness_row_at (enc := enc) (C := Tryd.checked) false (laidWorld os) #[.string ByteArray.empty, .string ByteArray.empty, .string ByteArray.empty, .string ByteArray.empty, .string ByteArray.empty] rfl (by kernel_rfl) (by kernel_rfl) (by kernel_rfl)
      (OpenSpec.preRow_of_cond 8 hx (by kernel_rfl) (fun k hk => by cases hk) (by kernel_rfl) (laid_met os))) ?_
  intro W base args ds gs before hval hW _ _ _ hL _ _
  exact contract H enc W base args ds gs before hval hW hL

theorem said : Rows.BoxAllSaid :=
  OpenClaim.holds_of_cond 3 Tryd.f3 rfl rfl rfl rfl rfl rfl rfl ⟨rfl, rfl, rfl, rfl, rfl⟩ rfl rfl rfl rfl rfl (by kernel_rfl) Tryd.func3 (by kernel_rfl)
    (of_decide_eq_true (by kernel_rfl)) (by unfold Func.isWrapper; first | (rw [if_pos (by decide +kernel)]; kernel_rfl) | (rw [if_neg (by decide +kernel)]; exact ⟨rfl, rfl⟩))
    (fun os started H enc _ F => by rw [OpenClaim.pre_eq_preRow]; exact lifted os started H enc F)

theorem plain (f : FuncId) (fn : Func) (hf : Tryd.pinned.checked.prog.funcNamed "deaddrop/deaddroplaw6.BoxAll" = some f) (hfn : Tryd.pinned.checked.prog.funcs[f]? = some fn) :
    true = Tryd.pinned.checked.prog.looks [] ∧ ∀ (j : Nat) t, fn.params[j]? = some t → Tryd.pinned.checked.prog.wantsStandIn t = false := by
  obtain rfl : f = 3 := Option.some.inj ((show Tryd.prog.funcNamed "deaddrop/deaddroplaw6.BoxAll" = some 3 by kernel_rfl).symm.trans hf) |>.symm
  obtain rfl : fn = Tryd.f3 := (Option.some.inj (Tryd.func3.symm.trans hfn)).symm
  refine ⟨by kernel_rfl, fun j t ht => ?_⟩
  have hall : (Tryd.f3.params.toList.all fun u => !Tryd.prog.wantsStandIn u) = true := by kernel_rfl
  have hm : t ∈ Tryd.f3.params.toList := by simpa using Array.mem_of_getElem? ht
  exact (show Tryd.prog.wantsStandIn t = false by simpa using List.all_eq_true.1 hall t hm)

theorem card : Rows.BoxAllCardSaid :=
  Claim7.holds_tied_plain_at .later [] _ _ _ _ said (fun _ h => by cases h) (by kernel_rfl) (fun _ h => by cases h) boxAll_row_tie rfl ⟨rfl, rfl⟩ (by kernel_rfl) rfl plain (by kernel_rfl)
#print axioms card
end Go.Proofs.YthdealjnhgkoiaaDoor.boxAll
