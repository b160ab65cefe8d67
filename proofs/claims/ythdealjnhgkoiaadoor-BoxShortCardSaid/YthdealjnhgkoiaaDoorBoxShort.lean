/-
  Proved: whatever values of its parameters' types it is called with, deaddroplaw6.BoxShort returns true, and each argument reads behind the call as it read before; the two tables of package sha being what the program's own text lays (the card ties them).
  Conditions: none but those of the card itself.
-/
import Derived.Test.YthdealjnhgkoiaaDoorCards
import Derived.Test.YthdealjnhgkoiaaDoorTie
import Derived.WalkKit
import Derived.ProofKit
import Derived.OpenShut
import Derived.ShutString
import Derived.Below
import Derived.Deep.DeepHandedRow
import Derived.Lib.LaidTab
import Derived.LaidSub
import Derived.Stop.LaidTwo
import Derived.Test.YthdealjnhgkoiaaDoorBxAwake
import Derived.IntWalk
import Derived.Outline
import Derived.BigQuiet
namespace Go.Proofs.YthdealjnhgkoiaaDoor.boxShort
open Go.ChangeShapes Go.WideShapes Go.ChangeAt Go.RowKit
open Go.ChangeMaps (open_string shut_string)
open Go.Proofs.YthdealjnhgkoiaaDoor.Wd Go.Proofs.YthdealjnhgkoiaaDoor.Mm
set_option linter.unusedVariables false

theorem own : ownKnob Tryd.prog.godebug = none := by kernel_rfl
theorem laidOut : laidOutB Tryd.prog = true := by kernel_rfl

/-- WHAT THE WALK IS TOLD OF A SLICE OF INTEGERS THAT CAME IN: it is nil; or it leads to a row of 'cap' cells, the numbers 'zs' (the first 'len' are its elements, the rest its spare room), each fitting its kind. -/
def IsRow (k : IntKind) (w : World) (a : Option Addr) (len cap : Nat) (zs : List Int) : Prop :=
  (a = none ∧ len = 0 ∧ cap = 0 ∧ zs = []) ∨
  ∃ x, a = some x ∧ len ≤ cap ∧ cap ≤ maxLen ∧ zs.length = cap ∧ (∀ i, i < zs.length → w.cell? (x.add i) = some (.int k (zs.getD i 0))) ∧ ∀ n ∈ zs, (Lit.int k n).wf = true


open Bx

set_option maxHeartbeats 40000000 in
set_option maxRecDepth 100000 in
theorem walk (a0 : Option Addr) (len0 cap0 : Nat) (z0 : List Int) (a1 : ByteArray) (w : World) (w0 : IsRow .u8 w a0 len0 cap0 z0) (w1 : a1.size ≤ maxLen) (hT : Tabs w) (hB : Bx.BErrs w) :
    Calls Tryd.prog 8 #[.slice a0 len0 cap0, .string a1] w fun e w' => e = .returned (.bool true) ∧ Below w.heap.size w w' := by
  obtain ⟨hb0, hl0, _⟩ := Cc.holds_of_row w0
  clear w0
  generalize Cc.bytesOf z0 len0 = b0 at *
  have hk := bytesB_size b0 64
  have ho := bytesB_size [] 12
  obtain ⟨k, HK⟩ : ∃ k : ByteArray, Hid ((⟨(Cc.bytesS b0 64).toArray⟩ : ByteArray) = k) := ⟨_, rfl⟩
  obtain ⟨o, HO⟩ : ∃ o : ByteArray, Hid ((⟨(Cc.bytesS [] 12).toArray⟩ : ByteArray) = o) := ⟨_, rfl⟩
  rw [HK.out] at hk
  rw [HO.out] at ho
  have hop := open_seal k o ⟨#[]⟩ ⟨#[]⟩ hk ho (by decide)
  have hsz := sealB_size k o ⟨#[]⟩ ⟨#[]⟩ hk ho (by decide)
  obtain ⟨S, HS⟩ : ∃ S : ByteArray, Hid (sealB k o ⟨#[]⟩ ⟨#[]⟩ = S) := ⟨_, rfl⟩
  rw [HS.out] at hop hsz
  have hy1 : openS k o ⟨#[]⟩ S = ⟨#[]⟩ := by rw [openS, hop]; rfl
  have hy2 : (openB k o ⟨#[]⟩ S).isSome = true := by rw [hop]; rfl
  have hs9 : S.size ≤ 9223372036854775807 := by rw [hsz]; decide
  have Hy1 := Lib.hid hy1
  have Hy2 := Lib.hid hy2
  have HS9 := Lib.hid hs9
  have Hb0 := Lib.hid hb0
  have Hl0 := Lib.hid hl0
  clear hk ho hop hsz hy1 hy2 hs9 hb0 hl0
  by_cases hlong : 15 < a1.size
  · have hes : (a1.extract 0 15).size = 15 := by rw [ByteArray.size_extract]; omega
    have hn1 : openS k o ⟨#[]⟩ (a1.extract 0 15) = ⟨#[]⟩ := by rw [openS, openB_short (by omega)]; rfl
    have hn2 : (openB k o ⟨#[]⟩ (a1.extract 0 15)).isSome = false := by rw [openB_short (by omega)]; rfl
    have Hn1 := Lib.hid hn1
    have Hn2 := Lib.hid hn2
    have hs9 : ByteArray.size (a1.extract 0 15) ≤ 9223372036854775807 := by omega
    have Hs9 := Lib.hid hs9
    clear hn1 hn2 hs9
    have t1 : decide ((15 : Int) < (a1.size : Int)) = true := decide_eq_true (by omega)
    have k1 : (15 : Int) ≤ (a1.size : Int) := by omega
    have k2 : 15 ≤ a1.size := by omega
    clear hes hlong w1
    go_enter Tryd.func8, Tryd.ntmps8
    go_wp2_with fail
    refine (Cc.bytes_any a0 len0 cap0 64 b0 _ Hb0.out Hl0.out (by decide)).mono ?_
    rintro e x1 ⟨rfl, g1⟩
    rw [HK.out]
    go_wp2_with fail
    refine (Cc.bytes_any none 0 0 12 [] _ (nil_holds _) (by decide) (by decide)).mono ?_
    rintro e x2 ⟨rfl, g2⟩
    rw [HO.out]
    replace g2 := gb_none g1 g2
    clear g1
    go_wp2_with fail
    refine (open_any k o ⟨#[]⟩ (a1.extract 0 15) _ (by decide) Hs9.out (hT.keep g2 (by simp)) (hB.keep g2)).mono ?_
    rintro e x3 ⟨rfl, g3⟩
    rw [Hn1.out, Hn2.out]
    replace g3 := gb_none g2 g3
    clear g2
    go_wp2_with fail
    refine (seal_any k o ⟨#[]⟩ ⟨#[]⟩ _ (by decide) (hT.keep g3 (by simp)) (hB.keep g3)).mono ?_
    rintro e x4 ⟨rfl, g4⟩
    rw [HS.out]
    replace g4 := gb_none g3 g4
    clear g3
    go_wp2_with fail
    refine (open_any k o ⟨#[]⟩ S _ (by decide) HS9.out (hT.keep g4 (by simp)) (hB.keep g4)).mono ?_
    rintro e x5 ⟨rfl, g5⟩
    rw [Hy1.out, Hy2.out]
    replace g5 := gb_none g4 g5
    clear g4
    go_wp2_with fail
    refine (awake6_any _ (hT.keep g5 (by simp)) (hB.keep g5)).mono ?_
    rintro e x6 ⟨rfl, g6⟩
    go_wp2_with fail
    go_ret
    exact ⟨rfl, below_of (gb_none g5 g6)⟩
  · have t1 : decide ((15 : Int) < (a1.size : Int)) = false := decide_eq_false (by omega)
    have hn1 : openS k o ⟨#[]⟩ a1 = ⟨#[]⟩ := by rw [openS, openB_short (by omega)]; rfl
    have hn2 : (openB k o ⟨#[]⟩ a1).isSome = false := by rw [openB_short (by omega)]; rfl
    have Hn1 := Lib.hid hn1
    have Hn2 := Lib.hid hn2
    have hs9 : ByteArray.size a1 ≤ 9223372036854775807 := by omega
    have Hs9 := Lib.hid hs9
    clear hn1 hn2 hs9
    clear hlong w1
    go_enter Tryd.func8, Tryd.ntmps8
    go_wp2_with fail
    refine (Cc.bytes_any a0 len0 cap0 64 b0 _ Hb0.out Hl0.out (by decide)).mono ?_
    rintro e x1 ⟨rfl, g1⟩
    rw [HK.out]
    go_wp2_with fail
    refine (Cc.bytes_any none 0 0 12 [] _ (nil_holds _) (by decide) (by decide)).mono ?_
    rintro e x2 ⟨rfl, g2⟩
    rw [HO.out]
    replace g2 := gb_none g1 g2
    clear g1
    go_wp2_with fail
    refine (open_any k o ⟨#[]⟩ a1 _ (by decide) Hs9.out (hT.keep g2 (by simp)) (hB.keep g2)).mono ?_
    rintro e x3 ⟨rfl, g3⟩
    rw [Hn1.out, Hn2.out]
    replace g3 := gb_none g2 g3
    clear g2
    go_wp2_with fail
    refine (seal_any k o ⟨#[]⟩ ⟨#[]⟩ _ (by decide) (hT.keep g3 (by simp)) (hB.keep g3)).mono ?_
    rintro e x4 ⟨rfl, g4⟩
    rw [HS.out]
    replace g4 := gb_none g3 g4
    clear g3
    go_wp2_with fail
    refine (open_any k o ⟨#[]⟩ S _ (by decide) HS9.out (hT.keep g4 (by simp)) (hB.keep g4)).mono ?_
    rintro e x5 ⟨rfl, g5⟩
    rw [Hy1.out, Hy2.out]
    replace g5 := gb_none g4 g5
    clear g4
    go_wp2_with fail
    refine (awake6_any _ (hT.keep g5 (by simp)) (hB.keep g5)).mono ?_
    rintro e x6 ⟨rfl, g6⟩
    go_wp2_with fail
    go_ret
    exact ⟨rfl, below_of (gb_none g5 g6)⟩

def zs1 : List Int := [1779033703, 3144134277, 1013904242, 2773480762, 1359893119, 2600822924, 528734635, 1541459225]
def zs2 : List Int := [1116352408, 1899447441, 3049323471, 3921009573, 961987163, 1508970993, 2453635748, 2870763221, 3624381080, 310598401, 607225278, 1426881987, 1925078388, 2162078206, 2614888103, 3248222580, 3835390401, 4022224774, 264347078, 604807628, 770255983, 1249150122, 1555081692, 1996064986, 2554220882, 2821834349, 2952996808, 3210313671, 3336571891, 3584528711, 113926993, 338241895, 666307205, 773529912, 1294757372, 1396182291, 1695183700, 1986661051, 2177026350, 2456956037, 2730485921, 2820302411, 3259730800, 3345764771, 3516065817, 3600352804, 4094571909, 275423344, 430227734, 506948616, 659060556, 883997877, 958139571, 1322822218, 1537002063, 1747873779, 1955562222, 2024104815, 2227730452, 2361852424, 2428436474, 2756734187, 3204031479, 3329325298]
theorem tabs {W : World} (h : laidMetH Tryd.prog Rows.boxShortRow.laid W) : Tabs W := by
  have h1 : Lib.TabIs Tryd.prog W "deaddrop/sha.opening" .u32 zs1 := Lib.tabIs_of_head (rest := [("deaddrop/sha.roundNumbers", Rows.laid_deaddrop_sha_roundNumbers), ("deaddrop/box.errKey", Rows.laid_deaddrop_box_errKey), ("deaddrop/box.errNonce", Rows.laid_deaddrop_box_errNonce), ("deaddrop/box.errShort", Rows.laid_deaddrop_box_errShort), ("deaddrop/box.errLong", Rows.laid_deaddrop_box_errLong), ("deaddrop/box.errTag", Rows.laid_deaddrop_box_errTag)]) (g := 5) (t := 98) (e := 56) (n := 8) (by kernel_rfl) (by kernel_rfl) Tryd.underlying98 Tryd.underlying56 (by kernel_rfl) (by kernel_rfl) h
  have h2 : Lib.TabIs Tryd.prog W "deaddrop/sha.roundNumbers" .u32 zs2 := Lib.tabIs_of_head (rest := []) (g := 6) (t := 110) (e := 56) (n := 64) (by kernel_rfl) (by kernel_rfl) Tryd.underlying110 Tryd.underlying56 (by kernel_rfl) (by kernel_rfl) (laidMetH.filter (fun x => x.1 == "deaddrop/sha.roundNumbers") h)
  have e1 : ∀ i, i < 8 → zs1.getD i 0 = ((firstH.getD i 0).toNat : Int) := by decide
  have e2 : ∀ i, i < 64 → zs2.getD i 0 = ((konst.getD i 0).toNat : Int) := by decide +kernel
  have c1 : ∀ i, i < 8 → W.cell? ⟨5, i, none⟩ = some (w32 (firstH.getD i 0)) := fun i hi => by
    have := h1.cell (g := 5) (by kernel_rfl) i (by rw [show zs1.length = 8 from rfl]; exact hi)
    rw [e1 i hi] at this; exact this
  have c2 : ∀ i, i < 64 → W.cell? ⟨6, i, none⟩ = some (w32 (konst.getD i 0)) := fun i hi => by
    have := h2.cell (g := 6) (by kernel_rfl) i (by rw [show zs2.length = 64 from rfl]; exact hi)
    rw [e2 i hi] at this; exact this
  exact ⟨block_lt_of_cell (c2 0 (by decide)), c1, c2⟩

theorem star : "*" ++ "errors.errorString" = "*errors.errorString" := by decide
theorem row_err (u : TypeId) (h : Tryd.prog.typeName? 3 u = some "*errors.errorString") : u = 113 :=
  typeName_ptr_named (nm := "errors.errorString") (by rw [star]; kernel_rfl) (by kernel_rfl) (by decide) u (by rw [star]; exact h)
theorem pair0 {W : World} (h : laidMetH Tryd.prog Rows.boxShortRow.laid W) : Bx.BE W 3 ∧ Bx.BE W 4 := by
  have h4 : laidMet Tryd.prog [("deaddrop/box.errKey", Rows.laid_deaddrop_box_errKey), ("deaddrop/box.errNonce", Rows.laid_deaddrop_box_errNonce)] W := (laidMetH_iff.1 (laidMetH.filter (fun x => x.1 == "deaddrop/box.errKey" || x.1 == "deaddrop/box.errNonce") h)).1
  obtain ⟨a0, a1, s0, s1, c0, c1, t0, t1, hv0, hv1, hc0, hs0, hz0, hc1, hs1, hz1, hne, hb0, hb1⟩ := laid_sentinels2 h4 (g0 := 3) (g1 := 4) (ti := 41) (by kernel_rfl) (by kernel_rfl) (by kernel_rfl) (by kernel_rfl) Tryd.underlying41 row_err Tryd.underlying113 Tryd.underlying137 rfl rfl Tryd.underlying9 (by kernel_rfl) (by kernel_rfl)
  exact ⟨⟨a0, c0, t0, by simpa using World.var?_cell (g := 3) (by kernel_rfl) hv0 0, hb0⟩, ⟨a1, c1, t1, by simpa using World.var?_cell (g := 4) (by kernel_rfl) hv1 0, hb1⟩⟩
theorem pair1 {W : World} (h : laidMetH Tryd.prog Rows.boxShortRow.laid W) : Bx.BE W 0 ∧ Bx.BE W 1 := by
  have h4 : laidMet Tryd.prog [("deaddrop/box.errShort", Rows.laid_deaddrop_box_errShort), ("deaddrop/box.errLong", Rows.laid_deaddrop_box_errLong)] W := (laidMetH_iff.1 (laidMetH.filter (fun x => x.1 == "deaddrop/box.errShort" || x.1 == "deaddrop/box.errLong") h)).1
  obtain ⟨a0, a1, s0, s1, c0, c1, t0, t1, hv0, hv1, hc0, hs0, hz0, hc1, hs1, hz1, hne, hb0, hb1⟩ := laid_sentinels2 h4 (g0 := 0) (g1 := 1) (ti := 41) (by kernel_rfl) (by kernel_rfl) (by kernel_rfl) (by kernel_rfl) Tryd.underlying41 row_err Tryd.underlying113 Tryd.underlying137 rfl rfl Tryd.underlying9 (by kernel_rfl) (by kernel_rfl)
  exact ⟨⟨a0, c0, t0, by simpa using World.var?_cell (g := 0) (by kernel_rfl) hv0 0, hb0⟩, ⟨a1, c1, t1, by simpa using World.var?_cell (g := 1) (by kernel_rfl) hv1 0, hb1⟩⟩
theorem pair2 {W : World} (h : laidMetH Tryd.prog Rows.boxShortRow.laid W) : Bx.BE W 1 ∧ Bx.BE W 2 := by
  have h4 : laidMet Tryd.prog [("deaddrop/box.errLong", Rows.laid_deaddrop_box_errLong), ("deaddrop/box.errTag", Rows.laid_deaddrop_box_errTag)] W := (laidMetH_iff.1 (laidMetH.filter (fun x => x.1 == "deaddrop/box.errLong" || x.1 == "deaddrop/box.errTag") h)).1
  obtain ⟨a0, a1, s0, s1, c0, c1, t0, t1, hv0, hv1, hc0, hs0, hz0, hc1, hs1, hz1, hne, hb0, hb1⟩ := laid_sentinels2 h4 (g0 := 1) (g1 := 2) (ti := 41) (by kernel_rfl) (by kernel_rfl) (by kernel_rfl) (by kernel_rfl) Tryd.underlying41 row_err Tryd.underlying113 Tryd.underlying137 rfl rfl Tryd.underlying9 (by kernel_rfl) (by kernel_rfl)
  exact ⟨⟨a0, c0, t0, by simpa using World.var?_cell (g := 1) (by kernel_rfl) hv0 0, hb0⟩, ⟨a1, c1, t1, by simpa using World.var?_cell (g := 2) (by kernel_rfl) hv1 0, hb1⟩⟩
theorem berrs {W : World} (h : laidMetH Tryd.prog Rows.boxShortRow.laid W) : Bx.BErrs W := ⟨(pair0 h).1, (pair0 h).2, (pair1 h).1, (pair1 h).2, (pair2 h).2⟩

set_option maxRecDepth 100000 in
theorem contract (H : Type) (enc : TypeId × Value → H) (W : World) (base : Nat) (args : Array Value) (ds gs : List (DataW H)) (before : List MemPlace)
    (hval0 : ∀ (j : Nat) t v, Tryd.f8.params[j]? = some t → args[j]? = some v → Value.okWide Tryd.prog W .any base t v)
    (hW : DataW.Whole enc Tryd.prog Tryd.f8.params.toList Rows.boxShortSpec.vars false W args.toList ds gs before) (hL : laidMetH Tryd.prog Rows.boxShortRow.laid W) :
    Calls Tryd.prog 8 args W fun e W' => ∃ v, e = .returned v ∧ Rows.boxShortSpec.post enc Tryd.prog Tryd.f8 false true false false W args v W' := by
  have hval : ∀ (j : Nat) t v, Tryd.f8.params[j]? = some t → args[j]? = some v → Value.okWide Tryd.prog W .any base t v := hval0
  have hW' := hW
  obtain ⟨p, q, hA0, hV, rfl, hfz, hnd⟩ := hW
  have hA : DataW.TrodAll enc Tryd.prog W 0 (fun _ => true) true Tryd.f8.params.toList args.toList ds p := hA0
  rw [Tryd.params8] at hA hval
  obtain ⟨v0, vs0, d0, ds0, p0, q0, hargs, rfl, rfl, h0, r0⟩ := trodAll_cons hA
  obtain ⟨v1, vs1, d1, ds1, p1, q1, rfl, rfl, rfl, h1, r1⟩ := trodAll_cons r0
  obtain ⟨rfl, rfl, rfl⟩ := trodAll_nil r1
  obtain rfl : args = #[v0, v1] := by cases args; simp_all
  obtain ⟨rfl, rfl⟩ := trodVars_none hV
  obtain ⟨a0, len0, cap0, rfl⟩ := okWide_slice Tryd.underlying30 (hval 0 30 v0 rfl rfl)
  have k0 := h0
  have lt0 : ∀ x ∈ p0, x.block < W.heap.size := by obtain ⟨m, hm⟩ := k0; exact DataW.trod_lt m _ _ _ hm
  obtain ⟨z0, w0⟩ : ∃ zs, IsRow .u8 W a0 len0 cap0 zs := by
    obtain ⟨fuel, hf⟩ := h0
    rcases open_ints Tryd.underlying30 Tryd.underlying5 (by kernel_rfl) hf with ⟨hcs, _⟩ | ⟨x, l, c, zs, hcs, _, hl, hm, hz, _, hcell, hwz⟩
    · simp [Value.cells] at hcs
      obtain ⟨rfl, rfl, rfl⟩ := hcs
      exact ⟨[], .inl ⟨rfl, rfl, rfl, rfl⟩⟩
    · simp [Value.cells] at hcs
      obtain ⟨rfl, rfl, rfl⟩ := hcs
      exact ⟨zs, .inr ⟨_, rfl, hl, hm, by simpa using hz, hcell, hwz⟩⟩
  obtain ⟨a1, rfl, rfl, rfl, w1⟩ := open_string Tryd.underlying9 (hval 1 9 v1 rfl rfl) h1
  clear hA0 hval0
  refine (walk a0 len0 cap0 z0 a1 W w0 w1 (tabs hL) (berrs hL)).mono fun e W' ⟨he, bel⟩ => ?_
  subst he
  exact ⟨_, rfl, _, _, _, [], _, [], hW', trodAll_mk1 (shut_bool Tryd.underlying4 _), (trodAll_cons_mk (Below.trod laidOut (by kernel_rfl) (of_decide_eq_true (by kernel_rfl)) k0 bel lt0) (trodAll_cons_mk (shut_string Tryd.underlying9 w1) trodAll_mk0)), rfl, bel.frame _, fun h => by cases h⟩

def lay (cs : Array Value) : Obj → Obj
  | .cells _ t frozen => .cells cs t frozen
  | o => o
noncomputable def low : Nat := (World.holding Tryd.prog default ⟨#[], #[], []⟩).heap.size
noncomputable def laidWorld (os : Os) : World :=
  { World.holding Tryd.prog os ⟨#[.cells #[.string ⟨#[110, 111, 116, 32, 97, 115, 32, 108, 111, 110, 103, 32, 97, 115, 32, 97, 32, 112, 97, 105, 114, 32, 111, 102, 32, 107, 101, 121, 115]⟩] 137, .cells #[.string ⟨#[110, 111, 116, 32, 97, 115, 32, 108, 111, 110, 103, 32, 97, 115, 32, 97, 32, 110, 111, 110, 99, 101]⟩] 137, .cells #[.string ⟨#[115, 104, 111, 114, 116, 101, 114, 32, 116, 104, 97, 110, 32, 97, 32, 116, 97, 103]⟩] 137, .cells #[.string ⟨#[108, 111, 110, 103, 101, 114, 32, 116, 104, 97, 110, 32, 119, 104, 97, 116, 32, 105, 115, 32, 101, 118, 101, 114, 32, 115, 101, 97, 108, 101, 100]⟩] 137, .cells #[.string ⟨#[116, 104, 101, 32, 116, 97, 103, 32, 100, 111, 101, 115, 32, 110, 111, 116, 32, 102, 105, 116]⟩] 137], #[], []⟩ with heap := (((((((World.holding Tryd.prog os ⟨#[.cells #[.string ⟨#[110, 111, 116, 32, 97, 115, 32, 108, 111, 110, 103, 32, 97, 115, 32, 97, 32, 112, 97, 105, 114, 32, 111, 102, 32, 107, 101, 121, 115]⟩] 137, .cells #[.string ⟨#[110, 111, 116, 32, 97, 115, 32, 108, 111, 110, 103, 32, 97, 115, 32, 97, 32, 110, 111, 110, 99, 101]⟩] 137, .cells #[.string ⟨#[115, 104, 111, 114, 116, 101, 114, 32, 116, 104, 97, 110, 32, 97, 32, 116, 97, 103]⟩] 137, .cells #[.string ⟨#[108, 111, 110, 103, 101, 114, 32, 116, 104, 97, 110, 32, 119, 104, 97, 116, 32, 105, 115, 32, 101, 118, 101, 114, 32, 115, 101, 97, 108, 101, 100]⟩] 137, .cells #[.string ⟨#[116, 104, 101, 32, 116, 97, 103, 32, 100, 111, 101, 115, 32, 110, 111, 116, 32, 102, 105, 116]⟩] 137], #[], []⟩).heap.modify 5 (lay #[.int .u32 1779033703, .int .u32 3144134277, .int .u32 1013904242, .int .u32 2773480762, .int .u32 1359893119, .int .u32 2600822924, .int .u32 528734635, .int .u32 1541459225])).modify 6 (lay #[.int .u32 1116352408, .int .u32 1899447441, .int .u32 3049323471, .int .u32 3921009573, .int .u32 961987163, .int .u32 1508970993, .int .u32 2453635748, .int .u32 2870763221, .int .u32 3624381080, .int .u32 310598401, .int .u32 607225278, .int .u32 1426881987, .int .u32 1925078388, .int .u32 2162078206, .int .u32 2614888103, .int .u32 3248222580, .int .u32 3835390401, .int .u32 4022224774, .int .u32 264347078, .int .u32 604807628, .int .u32 770255983, .int .u32 1249150122, .int .u32 1555081692, .int .u32 1996064986, .int .u32 2554220882, .int .u32 2821834349, .int .u32 2952996808, .int .u32 3210313671, .int .u32 3336571891, .int .u32 3584528711, .int .u32 113926993, .int .u32 338241895, .int .u32 666307205, .int .u32 773529912, .int .u32 1294757372, .int .u32 1396182291, .int .u32 1695183700, .int .u32 1986661051, .int .u32 2177026350, .int .u32 2456956037, .int .u32 2730485921, .int .u32 2820302411, .int .u32 3259730800, .int .u32 3345764771, .int .u32 3516065817, .int .u32 3600352804, .int .u32 4094571909, .int .u32 275423344, .int .u32 430227734, .int .u32 506948616, .int .u32 659060556, .int .u32 883997877, .int .u32 958139571, .int .u32 1322822218, .int .u32 1537002063, .int .u32 1747873779, .int .u32 1955562222, .int .u32 2024104815, .int .u32 2227730452, .int .u32 2361852424, .int .u32 2428436474, .int .u32 2756734187, .int .u32 3204031479, .int .u32 3329325298])).modify 3 (lay #[.iface 113 (.pointer (some ⟨low, 0, none⟩))])).modify 4 (lay #[.iface 113 (.pointer (some ⟨low + 1, 0, none⟩))])).modify 0 (lay #[.iface 113 (.pointer (some ⟨low + 2, 0, none⟩))])).modify 1 (lay #[.iface 113 (.pointer (some ⟨low + 3, 0, none⟩))])).modify 2 (lay #[.iface 113 (.pointer (some ⟨low + 4, 0, none⟩))]) }
theorem laid_met (os : Os) : laidMet Tryd.prog Rows.boxShortRow.laid ((laidWorld os).forCall (fun _ _ => 0) ⟨#[], #[.slice none 0 0, .string ByteArray.empty], []⟩).memory :=
  laidMet_of_run' 8 (by kernel_rfl) (by kernel_rfl)
theorem reads (os : Os) {H : Type} (enc : TypeId × Value → H) : ∃ places, DataW.whole enc Tryd.prog ((laidWorld os).forCall (fun _ _ => 0) ⟨#[], #[.slice none 0 0, .string ByteArray.empty], []⟩).memory Tryd.f8.params.toList Rows.boxShortSpec.vars false (show Array Value from #[.slice none 0 0, .string ByteArray.empty]).toList 8 = some ([.nil, .lit (.string [])], [], places) :=
  ⟨[], by kernel_rfl⟩

set_option maxRecDepth 100000 in
theorem lifted (os : Os) (started : os.Started) (H : Type) (enc : TypeId × Value → H) (F : Stop.Interp) :
    ReturnsInHanded {} Tryd.checked os 8 .any ((OpenSpec.ofChange Rows.boxShortSpec).preRow enc Tryd.prog Tryd.f8 Rows.boxShortRow.domain false Rows.boxShortRow.laid) (((OpenSpec.ofChange Rows.boxShortSpec).at F).post enc Tryd.prog Tryd.f8 false true false false) := by
  obtain ⟨places, hx⟩ := reads os enc
  refine returnsInHanded_of_row (C := Tryd.checked) (s := OpenSpec.ofChange Rows.boxShortSpec) own started (by kernel_rfl) Tryd.func8
    (witness_row_at (enc := enc) (C := Tryd.checked) false (laidWorld os) #[.slice none 0 0, .string ByteArray.empty] rfl (by kernel_rfl) (by kernel_rfl) (by kernel_rfl)
      (OpenSpec.preRow_of_cond 8 hx (by kernel_rfl) (fun k hk => by cases hk) (by kernel_rfl) (laid_met os))) ?_
  intro W base args ds gs before hval hW _ _ _ hL _ _
  exact contract H enc W base args ds gs before hval hW hL

theorem said : Rows.BoxShortSaid :=
  OpenClaim.holds_of_cond 8 Tryd.f8 rfl rfl rfl rfl rfl rfl rfl ⟨rfl, rfl, rfl, rfl, rfl⟩ rfl rfl rfl rfl rfl (by kernel_rfl) Tryd.func8 (by kernel_rfl)
    (of_decide_eq_true (by kernel_rfl)) (by unfold Func.isWrapper; first | (rw [if_pos (by decide +kernel)]; kernel_rfl) | (rw [if_neg (by decide +kernel)]; exact ⟨rfl, rfl⟩))
    (fun os started H enc _ F => by rw [OpenClaim.pre_eq_preRow]; exact lifted os started H enc F)

theorem plain (f : FuncId) (fn : Func) (hf : Tryd.pinned.checked.prog.funcNamed "deaddrop/deaddroplaw6.BoxShort" = some f) (hfn : Tryd.pinned.checked.prog.funcs[f]? = some fn) :
    true = Tryd.pinned.checked.prog.looks [] ∧ ∀ (j : Nat) t, fn.params[j]? = some t → Tryd.pinned.checked.prog.wantsStandIn t = false := by
  obtain rfl : f = 8 := Option.some.inj ((show Tryd.prog.funcNamed "deaddrop/deaddroplaw6.BoxShort" = some 8 by kernel_rfl).symm.trans hf) |>.symm
  obtain rfl : fn = Tryd.f8 := (Option.some.inj (Tryd.func8.symm.trans hfn)).symm
  refine ⟨by kernel_rfl, fun j t ht => ?_⟩
  have hall : (Tryd.f8.params.toList.all fun u => !Tryd.prog.wantsStandIn u) = true := by kernel_rfl
  have hm : t ∈ Tryd.f8.params.toList := by simpa using Array.mem_of_getElem? ht
  exact (show Tryd.prog.wantsStandIn t = false by simpa using List.all_eq_true.1 hall t hm)

theorem card : Rows.BoxShortCardSaid :=
  Claim7.holds_tied_plain_at .later [] _ _ _ _ said (fun _ h => by cases h) (by kernel_rfl) (fun _ h => by cases h) boxShort_row_tie rfl ⟨rfl, rfl⟩ (by kernel_rfl) rfl plain (by kernel_rfl)
#print axioms card
end Go.Proofs.YthdealjnhgkoiaaDoor.boxShort
