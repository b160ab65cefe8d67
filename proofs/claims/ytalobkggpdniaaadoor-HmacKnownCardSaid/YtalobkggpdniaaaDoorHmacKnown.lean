/-
  Proved: whatever values of its parameters' types it is called with, deaddroplaw3.HmacKnown returns true, and each argument reads behind the call as it read before; the two tables of package sha being what the program's own text lays (the card ties them).
  Conditions: none but those of the card itself.
-/
import Derived.Test.YtalobkggpdniaaaDoorCards
import Derived.Test.YtalobkggpdniaaaDoorTie
import Derived.WalkKit
import Derived.ProofKit
import Derived.OpenShut
import Derived.ShutString
import Derived.Below
import Derived.Deep.DeepHandedRow
import Derived.Lib.LaidTab
import Derived.LaidSub
import Derived.Stop.LaidTwo
import Derived.Test.YtalobkggpdniaaaDoorHNone
import Derived.IntWalk
import Derived.Outline
namespace Go.Proofs.YtalobkggpdniaaaDoor.hmacKnown
open Go.ChangeShapes Go.WideShapes Go.ChangeAt Go.RowKit
open Go.ChangeMaps (open_string shut_string)
open Go.Proofs.YtalobkggpdniaaaDoor.Wd Go.Proofs.YtalobkggpdniaaaDoor.Mm
set_option linter.unusedVariables false

theorem own : ownKnob Tryd.prog.godebug = none := by kernel_rfl


def repB (c : UInt8) (j : Nat) : ByteArray := ⟨(List.replicate j c).toArray⟩
theorem repB_more (c : UInt8) (j : Nat) : repB c (j + 1) = repB c j ++ ⟨#[c]⟩ := by
  refine ext_bytes2 _ _ ?_
  rw [ByteArray.data_append, Array.toList_append]
  simp [repB, List.replicate_succ']
theorem repB_size (c : UInt8) (j : Nat) : (repB c j).size = j := by
  rw [← len_data]; simp [repB]
def hiT : ByteArray := ⟨#[72, 105, 32, 84, 104, 101, 114, 101]⟩
def bigT : ByteArray := ⟨#[84, 101, 115, 116, 32, 85, 115, 105, 110, 103, 32, 76, 97, 114, 103, 101, 114, 32, 84, 104, 97, 110, 32, 66, 108, 111, 99, 107, 45, 83, 105, 122, 101, 32, 75, 101, 121, 32, 45, 32, 72, 97, 115, 104, 32, 75, 101, 121, 32, 70, 105, 114, 115, 116]⟩
def saltT : ByteArray := ⟨#[0, 1, 2, 3, 4, 5, 6, 7, 8, 9, 10, 11, 12]⟩
def infoT : ByteArray := ⟨#[240, 241, 242, 243, 244, 245, 246, 247, 248, 249]⟩
theorem derive_list (salt key info : ByteArray) (n : Nat) : (deriveB salt key info n).data.toList = (outN (macB salt key) info ((n + 31) / 32)).data.toList.take n := by
  rw [deriveB, ByteArray.data_extract, Array.toList_extract]
  simp [List.extract_eq_take_drop]
theorem derive_size (salt key info : ByteArray) (n : Nat) : (deriveB salt key info n).size = n := by
  rw [← len_data, derive_list, List.length_take, len_data, outN_size]; omega
abbrev KN0 : ByteArray := ⟨#[176, 52, 76, 97, 216, 219, 56, 83]⟩
abbrev KN1 : ByteArray := ⟨#[96, 228, 49, 89, 30, 224, 182, 127]⟩
abbrev KN2 : ByteArray := ⟨#[60, 178, 95, 37, 250, 172, 213, 122]⟩
theorem known_0 : (macB (repB 11 20) hiT).extract 0 8 = KN0 := by decide +kernel
theorem known_1 : (macB (repB 170 131) bigT).extract 0 8 = KN1 := by decide +kernel
theorem known_2 : (deriveB saltT (repB 11 20 ++ ⟨#[11, 11]⟩) infoT 42).extract 0 8 = KN2 := by decide +kernel

set_option maxHeartbeats 40000000 in
set_option maxRecDepth 100000 in
theorem walk (a0 : Int) (w0 : (Lit.int .u8 a0).wf = true) (w : World) (hT : Tabs w) (hE : Errs w) :
    Calls Tryd.prog 13 #[.int .u8 a0] w fun e w' => e = .returned (.bool true) ∧ Below w.heap.size w w' := by
  obtain ⟨hx0, hx1⟩ := u8_bound w0
  clear w0
  have h3 : a0 % 3 = 0 ∨ a0 % 3 = 1 ∨ a0 % 3 = 2 := by omega
  have H3 := Lib.hid h3
  clear h3
  go_enter Tryd.func13, Tryd.ntmps13
  go_wp2_with fail
  go_loopw [4, 3] (fun i v wr => ∃ j : Nat, j ≤ 20 ∧ i = .int .i64 j ∧ v = .string (repB 11 j) ∧ w = wr) (fun i _ _ => 20 - (intOf i).toNat)
  case atStart => exact ⟨0, by omega, rfl, rfl, rfl⟩
  case round =>
    obtain ⟨j, hj, rfl, rfl, rfl⟩ := hrel
    obtain ⟨s, Hs⟩ : ∃ s, Hid (s = repB 11 j) := ⟨_, rfl⟩
    have hss : s.size ≤ 20 := by rw [Hs.out, repB_size]; exact hj
    rw [← Hs.out]
    by_cases hlt : j < 20
    · have d1 : decide ((j : Int) < 20) = true := decide_eq_true (by omega)
      go_wp2_with fail
      go_roundw
      case rel => exact ⟨j + 1, by omega, by go_num, by rw [repB_more, ← Hs.out], by first | exact trivial | rfl⟩
      case measure => simp [intOf]; omega
    · have hj20 : j = 20 := by omega
      subst hj20
      have d1 : decide (((20 : Nat) : Int) < 20) = false := by decide
      clear hlt hj
      go_wp2_with fail
      go_loopw [6, 5] (fun i v wr => ∃ j : Nat, j ≤ 131 ∧ i = .int .i64 j ∧ v = .string (repB 170 j) ∧ w = wr) (fun i _ _ => 131 - (intOf i).toNat)
      case atStart => exact ⟨0, by omega, rfl, rfl, rfl⟩
      case round =>
        obtain ⟨j, hj, rfl, rfl, rfl⟩ := hrel
        obtain ⟨s2, Hs2⟩ : ∃ s, Hid (s = repB 170 j) := ⟨_, rfl⟩
        have hss2 : s2.size ≤ 131 := by rw [Hs2.out, repB_size]; exact hj
        rw [← Hs2.out]
        by_cases hlt : j < 131
        · have d2 : decide ((j : Int) < 131) = true := decide_eq_true (by omega)
          go_wp2_with fail
          go_roundw
          case rel => exact ⟨j + 1, by omega, by go_num, by rw [repB_more, ← Hs2.out], by first | exact trivial | rfl⟩
          case measure => simp [intOf]; omega
        · have hj1 : j = 131 := by omega
          subst hj1
          have d2 : decide (((131 : Nat) : Int) < 131) = false := by decide
          clear hlt hj
          rcases H3.out with h3 | h3 | h3
          · obtain ⟨S, HS⟩ : ∃ S : ByteArray, Hid (macB s hiT = S) := ⟨_, rfl⟩
            have hs : S.size = 32 := by rw [← HS.out]; exact macB_size _ _
            have u1 : ((S.size : Int) == 32) = true := by rw [hs]; rfl
            have h5 : 8 ≤ S.size := by omega
            have h6 : (8 : Int) ≤ (S.size : Int) := by omega
            have hpre : S.extract 0 8 = KN0 := by rw [← HS.out, Hs.out]; exact known_0
            clear hs
            go_wp2_with fail
            refine (mac_any s hiT _ 1 1 [hiT] _ (by omega) (by exact strs_one _ _) (catB_one _) (by decide) (fun h => by cases h) (fun x hx => by rw [List.mem_singleton.1 hx]; decide) (by exact hT.keep (gb_alloc (gb_refl w none) _) (by simp))).mono ?_
            rintro e x1 ⟨rfl, g1⟩
            rw [HS.out]
            have g2 := gb_none (gb_alloc (gb_refl w none) _) g1
            clear g1
            go_wp2_with fail
            refine (awake3_any _ (by exact hT.keep g2 (by simp))).mono ?_
            rintro e x3 ⟨rfl, g3⟩
            go_wp2_with fail
            go_ret
            exact ⟨rfl, below_of (gb_none g2 g3)⟩
          · obtain ⟨S, HS⟩ : ∃ S : ByteArray, Hid (macB s2 bigT = S) := ⟨_, rfl⟩
            have hs : S.size = 32 := by rw [← HS.out]; exact macB_size _ _
            have u1 : ((S.size : Int) == 32) = true := by rw [hs]; rfl
            have h5 : 8 ≤ S.size := by omega
            have h6 : (8 : Int) ≤ (S.size : Int) := by omega
            have hpre : S.extract 0 8 = KN1 := by rw [← HS.out, Hs2.out]; exact known_1
            clear hs
            go_wp2_with fail
            refine (mac_any s2 bigT _ 1 1 [bigT] _ (by omega) (by exact strs_one _ _) (catB_one _) (by decide) (fun h => by cases h) (fun x hx => by rw [List.mem_singleton.1 hx]; decide) (by exact hT.keep (gb_alloc (gb_refl w none) _) (by simp))).mono ?_
            rintro e x1 ⟨rfl, g1⟩
            rw [HS.out]
            have g2 := gb_none (gb_alloc (gb_refl w none) _) g1
            clear g1
            go_wp2_with fail
            refine (awake3_any _ (by exact hT.keep g2 (by simp))).mono ?_
            rintro e x3 ⟨rfl, g3⟩
            go_wp2_with fail
            go_ret
            exact ⟨rfl, below_of (gb_none g2 g3)⟩
          · obtain ⟨S, HS⟩ : ∃ S : ByteArray, Hid (deriveB saltT (s ++ ⟨#[11, 11]⟩) infoT 42 = S) := ⟨_, rfl⟩
            have hs : S.size = 42 := by rw [← HS.out]; exact derive_size _ _ _ _
            have u1 : ((S.size : Int) == 42) = true := by rw [hs]; rfl
            have h5 : 8 ≤ S.size := by omega
            have h6 : (8 : Int) ≤ (S.size : Int) := by omega
            have hpre : S.extract 0 8 = KN2 := by rw [← HS.out, Hs.out]; exact known_2
            clear hs
            go_wp2_with fail
            refine (derive_any saltT _ infoT 42 _ (by decide) (by decide) (by rw [ByteArray.size_append, show (⟨#[11, 11]⟩ : ByteArray).size = 2 from rfl]; omega) (by decide) hT hE).mono ?_
            rintro e x1 ⟨rfl, g2⟩
            rw [HS.out]
            go_wp2_with fail
            refine (awake3_any _ (by exact hT.keep g2 (by simp))).mono ?_
            rintro e x3 ⟨rfl, g3⟩
            go_wp2_with fail
            go_ret
            exact ⟨rfl, below_of (gb_none g2 g3)⟩

def zs1 : List Int := [1779033703, 3144134277, 1013904242, 2773480762, 1359893119, 2600822924, 528734635, 1541459225]
def zs2 : List Int := [1116352408, 1899447441, 3049323471, 3921009573, 961987163, 1508970993, 2453635748, 2870763221, 3624381080, 310598401, 607225278, 1426881987, 1925078388, 2162078206, 2614888103, 3248222580, 3835390401, 4022224774, 264347078, 604807628, 770255983, 1249150122, 1555081692, 1996064986, 2554220882, 2821834349, 2952996808, 3210313671, 3336571891, 3584528711, 113926993, 338241895, 666307205, 773529912, 1294757372, 1396182291, 1695183700, 1986661051, 2177026350, 2456956037, 2730485921, 2820302411, 3259730800, 3345764771, 3516065817, 3600352804, 4094571909, 275423344, 430227734, 506948616, 659060556, 883997877, 958139571, 1322822218, 1537002063, 1747873779, 1955562222, 2024104815, 2227730452, 2361852424, 2428436474, 2756734187, 3204031479, 3329325298]
theorem tabs {W : World} (h : laidMetH Tryd.prog Rows.hmacKnownRow.laid W) : Tabs W := by
  have h1 : Lib.TabIs Tryd.prog W "deaddrop/sha.opening" .u32 zs1 := Lib.tabIs_of_head (rest := [("deaddrop/sha.roundNumbers", Rows.laid_deaddrop_sha_roundNumbers), ("deaddrop/hmac.errBelow", Rows.laid_deaddrop_hmac_errBelow), ("deaddrop/hmac.errBeyond", Rows.laid_deaddrop_hmac_errBeyond)]) (g := 0) (t := 43) (e := 42) (n := 8) (by kernel_rfl) (by kernel_rfl) Tryd.underlying43 Tryd.underlying42 (by kernel_rfl) (by kernel_rfl) h
  have h2 : Lib.TabIs Tryd.prog W "deaddrop/sha.roundNumbers" .u32 zs2 := Lib.tabIs_of_head (rest := []) (g := 3) (t := 82) (e := 42) (n := 64) (by kernel_rfl) (by kernel_rfl) Tryd.underlying82 Tryd.underlying42 (by kernel_rfl) (by kernel_rfl) (laidMetH.filter (fun x => x.1 == "deaddrop/sha.roundNumbers") h)
  have e1 : ∀ i, i < 8 → zs1.getD i 0 = ((firstH.getD i 0).toNat : Int) := by decide
  have e2 : ∀ i, i < 64 → zs2.getD i 0 = ((konst.getD i 0).toNat : Int) := by decide +kernel
  have c1 : ∀ i, i < 8 → W.cell? ⟨0, i, none⟩ = some (w32 (firstH.getD i 0)) := fun i hi => by
    have := h1.cell (g := 0) (by kernel_rfl) i (by rw [show zs1.length = 8 from rfl]; exact hi)
    rw [e1 i hi] at this; exact this
  have c2 : ∀ i, i < 64 → W.cell? ⟨3, i, none⟩ = some (w32 (konst.getD i 0)) := fun i hi => by
    have := h2.cell (g := 3) (by kernel_rfl) i (by rw [show zs2.length = 64 from rfl]; exact hi)
    rw [e2 i hi] at this; exact this
  exact ⟨block_lt_of_cell (c2 0 (by decide)), c1, c2⟩

theorem star : "*" ++ "errors.errorString" = "*errors.errorString" := by decide
theorem row_err (u : TypeId) (h : Tryd.prog.typeName? 3 u = some "*errors.errorString") : u = 101 :=
  typeName_ptr_named (nm := "errors.errorString") (by rw [star]; kernel_rfl) (by kernel_rfl) (by decide) u (by rw [star]; exact h)
theorem errs {W : World} (h : laidMetH Tryd.prog Rows.hmacKnownRow.laid W) : Errs W := by
  have h4 : laidMet Tryd.prog [("deaddrop/hmac.errBelow", Rows.laid_deaddrop_hmac_errBelow), ("deaddrop/hmac.errBeyond", Rows.laid_deaddrop_hmac_errBeyond)] W := (laidMetH_iff.1 (laidMetH.filter (fun x => x.1 == "deaddrop/hmac.errBelow" || x.1 == "deaddrop/hmac.errBeyond") h)).1
  obtain ⟨a0, a1, s0, s1, c0, c1, t0, t1, hv0, hv1, hc0, hs0, hz0, hc1, hs1, hz1, hne, hb0, hb1⟩ := laid_sentinels2 h4 (g0 := 1) (g1 := 2) (ti := 59) (by kernel_rfl) (by kernel_rfl) (by kernel_rfl) (by kernel_rfl) Tryd.underlying59 row_err Tryd.underlying101 Tryd.underlying123 rfl rfl Tryd.underlying9 (by kernel_rfl) (by kernel_rfl)
  refine ⟨a0, a1, c0, c1, t0, t1, ?_, ?_, hne, hb0, hb1⟩
  · simpa using World.var?_cell (g := 1) (by kernel_rfl) hv0 0
  · simpa using World.var?_cell (g := 2) (by kernel_rfl) hv1 0

set_option maxRecDepth 100000 in
theorem contract (H : Type) (enc : TypeId × Value → H) (W : World) (base : Nat) (args : Array Value) (ds gs : List (DataW H)) (before : List MemPlace)
    (hval0 : ∀ (j : Nat) t v, Tryd.f13.params[j]? = some t → args[j]? = some v → Value.okWide Tryd.prog W .any base t v)
    (hW : DataW.Whole enc Tryd.prog Tryd.f13.params.toList Rows.hmacKnownSpec.vars false W args.toList ds gs before) (hL : laidMetH Tryd.prog Rows.hmacKnownRow.laid W) :
    Calls Tryd.prog 13 args W fun e W' => ∃ v, e = .returned v ∧ Rows.hmacKnownSpec.post enc Tryd.prog Tryd.f13 false true false false W args v W' := by
  have hval : ∀ (j : Nat) t v, Tryd.f13.params[j]? = some t → args[j]? = some v → Value.okWide Tryd.prog W .any base t v := hval0
  have hW' := hW
  obtain ⟨p, q, hA0, hV, rfl, hfz, hnd⟩ := hW
  have hA : DataW.TrodAll enc Tryd.prog W 0 (fun _ => true) true Tryd.f13.params.toList args.toList ds p := hA0
  rw [Tryd.params13] at hA hval
  obtain ⟨v0, vs0, d0, ds0, p0, q0, hargs, rfl, rfl, h0, r0⟩ := trodAll_cons hA
  obtain ⟨rfl, rfl, rfl⟩ := trodAll_nil r0
  obtain rfl : args = #[v0] := by cases args; simp_all
  obtain ⟨rfl, rfl⟩ := trodVars_none hV
  obtain ⟨a0, rfl, rfl, rfl, w0⟩ := open_int Tryd.underlying5 (hval 0 5 v0 rfl rfl) h0
  clear hA0 hval0
  simp only [List.append_nil] at hW'
  refine (walk a0 w0 W (tabs hL) (errs hL)).mono fun e W' ⟨he, hg⟩ => ?_
  subst he
  exact ⟨_, rfl, _, _, _, [], [], [], hW', (trodAll_cons_mk (shut_bool Tryd.underlying4 _) trodAll_mk0), (trodAll_cons_mk (shut_int Tryd.underlying5 w0) trodAll_mk0), rfl, hg.frame _, fun h => by cases h⟩

def lay (cs : Array Value) : Obj → Obj
  | .cells _ t frozen => .cells cs t frozen
  | o => o
noncomputable def low : Nat := (World.holding Tryd.prog default ⟨#[], #[], []⟩).heap.size
noncomputable def laidWorld (os : Os) : World :=
  { World.holding Tryd.prog os ⟨#[.cells #[.string ⟨#[98, 101, 108, 111, 119, 32, 110, 111, 116, 104, 105, 110, 103]⟩] 123, .cells #[.string ⟨#[98, 101, 121, 111, 110, 100, 32, 116, 104, 101, 32, 108, 97, 115, 116, 32, 115, 117, 109]⟩] 123], #[], []⟩ with heap := ((((World.holding Tryd.prog os ⟨#[.cells #[.string ⟨#[98, 101, 108, 111, 119, 32, 110, 111, 116, 104, 105, 110, 103]⟩] 123, .cells #[.string ⟨#[98, 101, 121, 111, 110, 100, 32, 116, 104, 101, 32, 108, 97, 115, 116, 32, 115, 117, 109]⟩] 123], #[], []⟩).heap.modify 0 (lay #[.int .u32 1779033703, .int .u32 3144134277, .int .u32 1013904242, .int .u32 2773480762, .int .u32 1359893119, .int .u32 2600822924, .int .u32 528734635, .int .u32 1541459225])).modify 3 (lay #[.int .u32 1116352408, .int .u32 1899447441, .int .u32 3049323471, .int .u32 3921009573, .int .u32 961987163, .int .u32 1508970993, .int .u32 2453635748, .int .u32 2870763221, .int .u32 3624381080, .int .u32 310598401, .int .u32 607225278, .int .u32 1426881987, .int .u32 1925078388, .int .u32 2162078206, .int .u32 2614888103, .int .u32 3248222580, .int .u32 3835390401, .int .u32 4022224774, .int .u32 264347078, .int .u32 604807628, .int .u32 770255983, .int .u32 1249150122, .int .u32 1555081692, .int .u32 1996064986, .int .u32 2554220882, .int .u32 2821834349, .int .u32 2952996808, .int .u32 3210313671, .int .u32 3336571891, .int .u32 3584528711, .int .u32 113926993, .int .u32 338241895, .int .u32 666307205, .int .u32 773529912, .int .u32 1294757372, .int .u32 1396182291, .int .u32 1695183700, .int .u32 1986661051, .int .u32 2177026350, .int .u32 2456956037, .int .u32 2730485921, .int .u32 2820302411, .int .u32 3259730800, .int .u32 3345764771, .int .u32 3516065817, .int .u32 3600352804, .int .u32 4094571909, .int .u32 275423344, .int .u32 430227734, .int .u32 506948616, .int .u32 659060556, .int .u32 883997877, .int .u32 958139571, .int .u32 1322822218, .int .u32 1537002063, .int .u32 1747873779, .int .u32 1955562222, .int .u32 2024104815, .int .u32 2227730452, .int .u32 2361852424, .int .u32 2428436474, .int .u32 2756734187, .int .u32 3204031479, .int .u32 3329325298])).modify 1 (lay #[.iface 101 (.pointer (some ⟨low, 0, none⟩))])).modify 2 (lay #[.iface 101 (.pointer (some ⟨low + 1, 0, none⟩))]) }
theorem laid_met (os : Os) : laidMet Tryd.prog Rows.hmacKnownRow.laid ((laidWorld os).forCall (fun _ _ => 0) ⟨#[], #[.int .u8 0], []⟩).memory :=
  laidMet_of_run' 8 (by kernel_rfl) (by kernel_rfl)
theorem reads (os : Os) {H : Type} (enc : TypeId × Value → H) : ∃ places, DataW.whole enc Tryd.prog ((laidWorld os).forCall (fun _ _ => 0) ⟨#[], #[.int .u8 0], []⟩).memory Tryd.f13.params.toList Rows.hmacKnownSpec.vars false (show Array Value from #[.int .u8 0]).toList 8 = some ([.lit (.int .u8 0)], [], places) :=
  ⟨[], by kernel_rfl⟩

set_option maxRecDepth 100000 in
theorem lifted (os : Os) (started : os.Started) (H : Type) (enc : TypeId × Value → H) (F : Stop.Interp) :
    ReturnsInHanded {} Tryd.checked os 13 .any ((OpenSpec.ofChange Rows.hmacKnownSpec).preRow enc Tryd.prog Tryd.f13 Rows.hmacKnownRow.domain false Rows.hmacKnownRow.laid) (((OpenSpec.ofChange Rows.hmacKnownSpec).at F).post enc Tryd.prog Tryd.f13 false true false false) := by
  obtain ⟨places, hx⟩ := reads os enc
  refine returnsInHanded_of_row (C := Tryd.checked) (s := OpenSpec.ofChange Rows.hmacKnownSpec) own started (by kernel_rfl) Tryd.func13
    (witness_row_at (enc := enc) (C := Tryd.checked) false (laidWorld os) #[.int .u8 0] rfl (by kernel_rfl) (by kernel_rfl) (by kernel_rfl)
      (OpenSpec.preRow_of_cond 8 hx (by kernel_rfl) (fun k hk => by cases hk) (by kernel_rfl) (laid_met os))) ?_
  intro W base args ds gs before hval hW _ _ _ hL _ _
  exact contract H enc W base args ds gs before hval hW hL

theorem said : Rows.HmacKnownSaid :=
  OpenClaim.holds_of_cond 13 Tryd.f13 rfl rfl rfl rfl rfl rfl rfl ⟨rfl, rfl, rfl, rfl, rfl⟩ rfl rfl rfl rfl rfl (by kernel_rfl) Tryd.func13 (by kernel_rfl)
    (of_decide_eq_true (by kernel_rfl)) (by unfold Func.isWrapper; first | (rw [if_pos (by decide +kernel)]; kernel_rfl) | (rw [if_neg (by decide +kernel)]; exact ⟨rfl, rfl⟩))
    (fun os started H enc _ F => by rw [OpenClaim.pre_eq_preRow]; exact lifted os started H enc F)

theorem plain (f : FuncId) (fn : Func) (hf : Tryd.pinned.checked.prog.funcNamed "deaddrop/deaddroplaw3.HmacKnown" = some f) (hfn : Tryd.pinned.checked.prog.funcs[f]? = some fn) :
    true = Tryd.pinned.checked.prog.looks [] ∧ ∀ (j : Nat) t, fn.params[j]? = some t → Tryd.pinned.checked.prog.wantsStandIn t = false := by
  obtain rfl : f = 13 := Option.some.inj ((show Tryd.prog.funcNamed "deaddrop/deaddroplaw3.HmacKnown" = some 13 by kernel_rfl).symm.trans hf) |>.symm
  obtain rfl : fn = Tryd.f13 := (Option.some.inj (Tryd.func13.symm.trans hfn)).symm
  refine ⟨by kernel_rfl, fun j t ht => ?_⟩
  have hall : (Tryd.f13.params.toList.all fun u => !Tryd.prog.wantsStandIn u) = true := by kernel_rfl
  have hm : t ∈ Tryd.f13.params.toList := by simpa using Array.mem_of_getElem? ht
  exact (show Tryd.prog.wantsStandIn t = false by simpa using List.all_eq_true.1 hall t hm)

theorem card : Rows.HmacKnownCardSaid :=
  Claim7.holds_tied_plain_at .later [] _ _ _ _ said (fun _ h => by cases h) (by kernel_rfl) (fun _ h => by cases h) hmacKnown_row_tie rfl ⟨rfl, rfl⟩ (by kernel_rfl) rfl plain (by kernel_rfl)
#print axioms card
end Go.Proofs.YtalobkggpdniaaaDoor.hmacKnown
