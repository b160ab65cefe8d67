/-
  Proved: whatever values of its parameters' types it is called with, deaddroplaw5.PadAll returns true, and each argument reads behind the call as it read before; the listed tables of the library being what its text lays (the card ties them).
  Conditions: none but those of the card itself.
-/
import Derived.Test.YtlpanplebagmbaaDoorCards
import Derived.Test.YtlpanplebagmbaaDoorTie
import Derived.WalkKit
import Derived.ProofKit
import Derived.OpenShut
import Derived.ShutString
import Derived.Below
import Derived.Deep.DeepHandedRow
import Derived.Lib.LaidTab
import Derived.LaidSub
import Derived.Stop.LaidTwo
import Derived.Test.YtlpanplebagmbaaDoorPRefU
import Derived.IntWalk
namespace Go.Proofs.YtlpanplebagmbaaDoor.padAll
open Go.ChangeShapes Go.WideShapes Go.ChangeAt Go.RowKit
open Go.ChangeMaps (open_string shut_string)
open Go.Proofs.YtlpanplebagmbaaDoor.Wd Go.Proofs.YtlpanplebagmbaaDoor.Mm
set_option linter.unusedVariables false

theorem own : ownKnob Tryd.prog.godebug = none := by kernel_rfl


theorem below_of {w w' : World} (h : w.grownBy w' none) : Below w.heap.size w w' := gb_below h (Nat.le_refl _)
theorem i64_of {a : Int} (h : (Lit.int .i64 a).wf = true) : -9223372036854775808 ≤ a ∧ a ≤ 9223372036854775807 := by
  have h1 : IntKind.i64.min = -9223372036854775808 := by decide
  have h2 : IntKind.i64.max = 9223372036854775807 := by decide
  simp only [Lit.wf, h1, h2, Bool.and_eq_true, decide_eq_true_eq] at h
  exact h

set_option maxHeartbeats 40000000 in
set_option maxRecDepth 100000 in
theorem walk (a0 : Int) (a1 : ByteArray) (w0 : (Lit.int .i64 a0).wf = true) (w1 : a1.size ≤ maxLen) (w : World) :
    Calls Tryd.prog 3 #[.int .i64 a0, .string a1] w fun e w' => e = .returned (.bool true) ∧ Below w.heap.size w w' := by
  have hn := i64_of w0
  by_cases h2 : 20000 < a1.size
  · have d1 : decide ((20000 : Int) < (a1.size : Int)) = true := decide_eq_true (by omega)
    have d2 : decide (20000 < a1.size) = true := decide_eq_true h2
    go_enter Tryd.func3, Tryd.ntmps3
    go_wp2_with fail
    refine (awake_any _).mono ?_
    rintro e w1 ⟨rfl, rfl⟩
    go_wp2_with fail
    go_ret
    exact ⟨rfl, Below.refl _ _⟩
  have d1 : decide ((20000 : Int) < (a1.size : Int)) = false := decide_eq_false (by omega)
  have d2 : decide (20000 < a1.size) = false := decide_eq_false h2
  have hs : a1.size ≤ 20000 := by omega
  have HB := Lib.hid (fun W => bucket_any a0 W hn.1 hn.2)
  have HR := Lib.hid (fun W => refBucket_any a0 W hn.1 hn.2)
  have HU := Lib.hid (fun W => refUnpad_any a1 W (by omega))
  obtain ⟨K, HK⟩ : ∃ K : Nat, Hid (bk a0 = K) := ⟨_, rfl⟩
  rw [HK.out] at HB HR
  have hf0 := said_text
  have hf1 := said_ok
  clear h2 w0 w1 hn
  by_cases hb : bk (a1.size : Int) = 0
  · have HP := Lib.hid (fun W => pad_none a1 W hb (by omega))
    have HQ := Lib.hid (fun W => refPad_none a1 W hb (by omega))
    clear hb
    cases hu : unpL a1.data.toList with
    | none =>
      have HN := Lib.hid (fun W => unpad_none a1 W (by omega) hu)
      have Hu := Lib.hid hu
      clear hu hs
      go_enter Tryd.func3, Tryd.ntmps3
      go_wp2_with fail
      refine (HP.out _).mono ?_
      rintro e w1 ⟨rfl, rfl⟩
      go_wp2_with fail
      refine (HN.out _).mono ?_
      rintro e w2 ⟨rfl, rfl⟩
      go_wp2_with fail
      refine (HQ.out _).mono ?_
      rintro e w3 ⟨rfl, g3⟩
      have G3 := Lib.hid (g3)
      clear g3
      go_wp2_with fail
      refine (HU.out _).mono ?_
      rintro e w4 ⟨⟨b, c, rfl, hu1, hu2⟩, g4⟩
      have G4 := Lib.hid (gb_none G3.out g4)
      obtain ⟨rfl, rfl⟩ := hu1 Hu.out
      clear g4 hu1 hu2
      go_wp2_with fail
      refine (HB.out _).mono ?_
      rintro e w5 ⟨rfl, rfl⟩
      go_wp2_with fail
      refine (HR.out _).mono ?_
      rintro e w6 ⟨rfl, g6⟩
      have G6 := Lib.hid (gb_none (gb_alloc (gb_alloc G4.out _) _) g6)
      have rx := ((Row.new w4 26 #[.string ⟨#[]⟩, .bool false]).alloc (.cells #[.string ⟨#[]⟩, .bool false] 26)).kept g6 (by simp)
      have ry := (Row.new (w4.alloc (.cells #[.string ⟨#[]⟩, .bool false] 26)) 26 #[.string ⟨#[]⟩, .bool false]).kept g6 (by simp)
      have x0 := rx.at_ (i := 0) rfl
      have x1 := rx.at_ (i := 1) rfl
      have y0 := ry.at_ (i := 0) rfl
      have y1 := ry.at_ (i := 1) rfl
      have ehs : (w4.alloc (.cells #[.string ⟨#[]⟩, .bool false] 26)).heap.size = w4.heap.size + 1 := by simp
      rw [ehs] at y0 y1
      clear g6 rx ry ehs
      go_wp2_with fail
      refine (awake_any _).mono ?_
      rintro e w7 ⟨rfl, rfl⟩
      go_wp2_with fail
      go_ret
      exact ⟨rfl, below_of G6.out⟩
    | some l =>
      have HN := Lib.hid (fun W => unpad_some a1 l W hu)
      have Hu := Lib.hid hu
      have eL := text_eq (rfl : (⟨l.toArray⟩ : ByteArray) = ⟨l.toArray⟩)
      obtain ⟨X, HX⟩ : ∃ X : ByteArray, Hid ((⟨l.toArray⟩ : ByteArray) = X) := ⟨_, rfl⟩
      rw [HX.out] at HN eL
      clear hu hs
      go_enter Tryd.func3, Tryd.ntmps3
      go_wp2_with fail
      refine (HP.out _).mono ?_
      rintro e w1 ⟨rfl, rfl⟩
      go_wp2_with fail
      refine (HN.out _).mono ?_
      rintro e w2 ⟨rfl, g2⟩
      have G2 := Lib.hid (g2)
      clear g2
      go_wp2_with fail
      refine (HQ.out _).mono ?_
      rintro e w3 ⟨rfl, g3⟩
      have G3 := Lib.hid (gb_none G2.out g3)
      clear g3
      go_wp2_with fail
      refine (HU.out _).mono ?_
      rintro e w4 ⟨⟨b, c, rfl, hu1, hu2⟩, g4⟩
      have G4 := Lib.hid (gb_none G3.out g4)
      obtain ⟨rfl, rfl⟩ := hu2 l Hu.out
      rw [HX.out]
      clear g4 hu1 hu2
      go_wp2_with fail
      refine (HB.out _).mono ?_
      rintro e w5 ⟨rfl, rfl⟩
      go_wp2_with fail
      refine (HR.out _).mono ?_
      rintro e w6 ⟨rfl, g6⟩
      have G6 := Lib.hid (gb_none (gb_alloc (gb_alloc G4.out _) _) g6)
      have rx := ((Row.new w4 26 #[.string ⟨#[]⟩, .bool false]).alloc (.cells #[.string X, .bool true] 26)).kept g6 (by simp)
      have ry := (Row.new (w4.alloc (.cells #[.string ⟨#[]⟩, .bool false] 26)) 26 #[.string X, .bool true]).kept g6 (by simp)
      have x0 := rx.at_ (i := 0) rfl
      have x1 := rx.at_ (i := 1) rfl
      have y0 := ry.at_ (i := 0) rfl
      have y1 := ry.at_ (i := 1) rfl
      have ehs : (w4.alloc (.cells #[.string ⟨#[]⟩, .bool false] 26)).heap.size = w4.heap.size + 1 := by simp
      rw [ehs] at y0 y1
      clear g6 rx ry ehs
      go_wp2_with fail
      refine (awake_any _).mono ?_
      rintro e w7 ⟨rfl, rfl⟩
      go_wp2_with fail
      go_ret
      exact ⟨rfl, below_of G6.out⟩
  have HP := Lib.hid (fun W => pad_some a1 W hb)
  have HQ := Lib.hid (fun W => refPad_some a1 W hb)
  have eP := text_eq (rfl : padB a1 = padB a1)
  clear hb
  generalize padB a1 = P at *
  cases hu : unpL a1.data.toList with
  | none =>
    have HN := Lib.hid (fun W => unpad_none a1 W (by omega) hu)
    have Hu := Lib.hid hu
    clear hu hs
    go_enter Tryd.func3, Tryd.ntmps3
    go_wp2_with fail
    refine (HP.out _).mono ?_
    rintro e w1 ⟨rfl, g1⟩
    have G1 := Lib.hid g1
    clear g1
    go_wp2_with fail
    refine (HN.out _).mono ?_
    rintro e w2 ⟨rfl, rfl⟩
    go_wp2_with fail
    refine (HQ.out _).mono ?_
    rintro e w3 ⟨rfl, g3⟩
    have G3 := Lib.hid (gb_none G1.out g3)
    clear g3
    go_wp2_with fail
    refine (HU.out _).mono ?_
    rintro e w4 ⟨⟨b, c, rfl, hu1, hu2⟩, g4⟩
    have G4 := Lib.hid (gb_none G3.out g4)
    obtain ⟨rfl, rfl⟩ := hu1 Hu.out
    clear g4 hu1 hu2
    go_wp2_with fail
    refine (HB.out _).mono ?_
    rintro e w5 ⟨rfl, rfl⟩
    go_wp2_with fail
    refine (HR.out _).mono ?_
    rintro e w6 ⟨rfl, g6⟩
    have G6 := Lib.hid (gb_none (gb_alloc (gb_alloc G4.out _) _) g6)
    have rx := ((Row.new w4 26 #[.string P, .bool true]).alloc (.cells #[.string ⟨#[]⟩, .bool false] 26)).kept g6 (by simp)
    have ry := (Row.new (w4.alloc (.cells #[.string P, .bool true] 26)) 26 #[.string ⟨#[]⟩, .bool false]).kept g6 (by simp)
    have x0 := rx.at_ (i := 0) rfl
    have x1 := rx.at_ (i := 1) rfl
    have y0 := ry.at_ (i := 0) rfl
    have y1 := ry.at_ (i := 1) rfl
    have ehs : (w4.alloc (.cells #[.string P, .bool true] 26)).heap.size = w4.heap.size + 1 := by simp
    rw [ehs] at y0 y1
    clear g6 rx ry ehs
    go_wp2_with fail
    refine (awake_any _).mono ?_
    rintro e w7 ⟨rfl, rfl⟩
    go_wp2_with fail
    go_ret
    exact ⟨rfl, below_of G6.out⟩
  | some l =>
    have HN := Lib.hid (fun W => unpad_some a1 l W hu)
    have Hu := Lib.hid hu
    have eL := text_eq (rfl : (⟨l.toArray⟩ : ByteArray) = ⟨l.toArray⟩)
    obtain ⟨X, HX⟩ : ∃ X : ByteArray, Hid ((⟨l.toArray⟩ : ByteArray) = X) := ⟨_, rfl⟩
    rw [HX.out] at HN eL
    clear hu hs
    go_enter Tryd.func3, Tryd.ntmps3
    go_wp2_with fail
    refine (HP.out _).mono ?_
    rintro e w1 ⟨rfl, g1⟩
    have G1 := Lib.hid g1
    clear g1
    go_wp2_with fail
    refine (HN.out _).mono ?_
    rintro e w2 ⟨rfl, g2⟩
    have G2 := Lib.hid (gb_none G1.out g2)
    clear g2
    go_wp2_with fail
    refine (HQ.out _).mono ?_
    rintro e w3 ⟨rfl, g3⟩
    have G3 := Lib.hid (gb_none G2.out g3)
    clear g3
    go_wp2_with fail
    refine (HU.out _).mono ?_
    rintro e w4 ⟨⟨b, c, rfl, hu1, hu2⟩, g4⟩
    have G4 := Lib.hid (gb_none G3.out g4)
    obtain ⟨rfl, rfl⟩ := hu2 l Hu.out
    rw [HX.out]
    clear g4 hu1 hu2
    go_wp2_with fail
    refine (HB.out _).mono ?_
    rintro e w5 ⟨rfl, rfl⟩
    go_wp2_with fail
    refine (HR.out _).mono ?_
    rintro e w6 ⟨rfl, g6⟩
    have G6 := Lib.hid (gb_none (gb_alloc (gb_alloc G4.out _) _) g6)
    have rx := ((Row.new w4 26 #[.string P, .bool true]).alloc (.cells #[.string X, .bool true] 26)).kept g6 (by simp)
    have ry := (Row.new (w4.alloc (.cells #[.string P, .bool true] 26)) 26 #[.string X, .bool true]).kept g6 (by simp)
    have x0 := rx.at_ (i := 0) rfl
    have x1 := rx.at_ (i := 1) rfl
    have y0 := ry.at_ (i := 0) rfl
    have y1 := ry.at_ (i := 1) rfl
    have ehs : (w4.alloc (.cells #[.string P, .bool true] 26)).heap.size = w4.heap.size + 1 := by simp
    rw [ehs] at y0 y1
    clear g6 rx ry ehs
    go_wp2_with fail
    refine (awake_any _).mono ?_
    rintro e w7 ⟨rfl, rfl⟩
    go_wp2_with fail
    go_ret
    exact ⟨rfl, below_of G6.out⟩

set_option maxRecDepth 100000 in
theorem contract (H : Type) (enc : TypeId × Value → H) (W : World) (base : Nat) (args : Array Value) (ds gs : List (DataW H)) (before : List MemPlace)
    (hval0 : ∀ (j : Nat) t v, Tryd.f3.params[j]? = some t → args[j]? = some v → Value.okWide Tryd.prog W .any base t v)
    (hW : DataW.Whole enc Tryd.prog Tryd.f3.params.toList Rows.padAllSpec.vars false W args.toList ds gs before) (hL : laidMetH Tryd.prog Rows.padAllRow.laid W) :
    Calls Tryd.prog 3 args W fun e W' => ∃ v, e = .returned v ∧ Rows.padAllSpec.post enc Tryd.prog Tryd.f3 false true false false W args v W' := by
  have hval : ∀ (j : Nat) t v, Tryd.f3.params[j]? = some t → args[j]? = some v → Value.okWide Tryd.prog W .any base t v := hval0
  have hW' := hW
  obtain ⟨p, q, hA0, hV, rfl, hfz, hnd⟩ := hW
  have hA : DataW.TrodAll enc Tryd.prog W 0 (fun _ => true) true Tryd.f3.params.toList args.toList ds p := hA0
  rw [Tryd.params3] at hA hval
  obtain ⟨v0, vs0, d0, ds0, p0, q0, hargs, rfl, rfl, h0, r0⟩ := trodAll_cons hA
  obtain ⟨v1, vs1, d1, ds1, p1, q1, rfl, rfl, rfl, h1, r1⟩ := trodAll_cons r0
  obtain ⟨rfl, rfl, rfl⟩ := trodAll_nil r1
  obtain rfl : args = #[v0, v1] := by cases args; simp_all
  obtain ⟨rfl, rfl⟩ := trodVars_none hV
  obtain ⟨a0, rfl, rfl, rfl, w0⟩ := open_int Tryd.underlying3 (hval 0 3 v0 rfl rfl) h0
  obtain ⟨a1, rfl, rfl, rfl, w1⟩ := open_string Tryd.underlying9 (hval 1 9 v1 rfl rfl) h1
  clear hA0 hval0
  simp only [List.append_nil] at hW'
  refine (walk a0 a1 w0 w1 W).mono fun e W' ⟨he, hg⟩ => ?_
  subst he
  exact ⟨_, rfl, _, _, _, [], [], [], hW', (trodAll_cons_mk (shut_bool Tryd.underlying4 _) trodAll_mk0), (trodAll_cons_mk (shut_int Tryd.underlying3 w0) (trodAll_cons_mk (shut_string Tryd.underlying9 w1) trodAll_mk0)), rfl, hg.frame _, fun h => by cases h⟩

def lay (cs : Array Value) : Obj → Obj
  | .cells _ t frozen => .cells cs t frozen
  | o => o
noncomputable def laidWorld (os : Os) : World :=
  { World.holding Tryd.prog os ⟨#[], #[], []⟩ with heap := ((World.holding Tryd.prog os ⟨#[], #[], []⟩).heap.modify 2 (lay #[.int .u8 128, .int .u8 191, .int .u8 160, .int .u8 191, .int .u8 128, .int .u8 159, .int .u8 144, .int .u8 191, .int .u8 128, .int .u8 143, .int .u8 0, .int .u8 0, .int .u8 0, .int .u8 0, .int .u8 0, .int .u8 0, .int .u8 0, .int .u8 0, .int .u8 0, .int .u8 0, .int .u8 0, .int .u8 0, .int .u8 0, .int .u8 0, .int .u8 0, .int .u8 0, .int .u8 0, .int .u8 0, .int .u8 0, .int .u8 0, .int .u8 0, .int .u8 0])).modify 1 (lay (Go.Pinned.utf8FirstZ.map fun (n : Nat) => Value.int .u8 (n : Int)).toArray) }
theorem laid_met (os : Os) : laidMet Tryd.prog Rows.padAllRow.laid ((laidWorld os).forCall (fun _ _ => 0) ⟨#[], #[.int .i64 0, .string ByteArray.empty], []⟩).memory :=
  laidMet_of_run' 8 (by kernel_rfl) (by kernel_rfl)
theorem reads (os : Os) {H : Type} (enc : TypeId × Value → H) : ∃ places, DataW.whole enc Tryd.prog ((laidWorld os).forCall (fun _ _ => 0) ⟨#[], #[.int .i64 0, .string ByteArray.empty], []⟩).memory Tryd.f3.params.toList Rows.padAllSpec.vars false (show Array Value from #[.int .i64 0, .string ByteArray.empty]).toList 8 = some ([.lit (.int .i64 0), .lit (.string [])], [], places) :=
  ⟨[], by kernel_rfl⟩

set_option maxRecDepth 100000 in
theorem lifted (os : Os) (started : os.Started) (H : Type) (enc : TypeId × Value → H) (F : Stop.Interp) :
    ReturnsInHanded {} Tryd.checked os 3 .any ((OpenSpec.ofChange Rows.padAllSpec).preRow enc Tryd.prog Tryd.f3 Rows.padAllRow.domain false Rows.padAllRow.laid) (((OpenSpec.ofChange Rows.padAllSpec).at F).post enc Tryd.prog Tryd.f3 false true false false) := by
  obtain ⟨places, hx⟩ := reads os enc
  refine returnsInHanded_of_row (C := Tryd.checked) (s := OpenSpec.ofChange Rows.padAllSpec) own started (by kernel_rfl) Tryd.func3
    (witness_row_at (enc := enc) (C := Tryd.checked) false (laidWorld os) #[.int .i64 0, .string ByteArray.empty] rfl (by kernel_rfl) (by kernel_rfl) (by kernel_rfl)
      (OpenSpec.preRow_of_cond 8 hx (by kernel_rfl) (fun k hk => by cases hk) (by kernel_rfl) (laid_met os))) ?_
  intro W base args ds gs before hval hW _ _ _ hL _ _
  exact contract H enc W base args ds gs before hval hW hL

theorem said : Rows.PadAllSaid :=
  OpenClaim.holds_of_cond 3 Tryd.f3 rfl rfl rfl rfl rfl rfl rfl ⟨rfl, rfl, rfl, rfl, rfl⟩ rfl rfl rfl rfl rfl (by kernel_rfl) Tryd.func3 (by kernel_rfl)
    (of_decide_eq_true (by kernel_rfl)) (by unfold Func.isWrapper; first | (rw [if_pos (by decide +kernel)]; kernel_rfl) | (rw [if_neg (by decide +kernel)]; exact ⟨rfl, rfl⟩))
    (fun os started H enc _ F => by rw [OpenClaim.pre_eq_preRow]; exact lifted os started H enc F)

theorem plain (f : FuncId) (fn : Func) (hf : Tryd.pinned.checked.prog.funcNamed "deaddrop/deaddroplaw5.PadAll" = some f) (hfn : Tryd.pinned.checked.prog.funcs[f]? = some fn) :
    false = Tryd.pinned.checked.prog.looks [] ∧ ∀ (j : Nat) t, fn.params[j]? = some t → Tryd.pinned.checked.prog.wantsStandIn t = false := by
  obtain rfl : f = 3 := Option.some.inj ((show Tryd.prog.funcNamed "deaddrop/deaddroplaw5.PadAll" = some 3 by kernel_rfl).symm.trans hf) |>.symm
  obtain rfl : fn = Tryd.f3 := (Option.some.inj (Tryd.func3.symm.trans hfn)).symm
  refine ⟨by kernel_rfl, fun j t ht => ?_⟩
  have hall : (Tryd.f3.params.toList.all fun u => !Tryd.prog.wantsStandIn u) = true := by kernel_rfl
  have hm : t ∈ Tryd.f3.params.toList := by simpa using Array.mem_of_getElem? ht
  exact (show Tryd.prog.wantsStandIn t = false by simpa using List.all_eq_true.1 hall t hm)

theorem card : Rows.PadAllCardSaid :=
  Claim7.holds_tied_plain_at .later [] _ _ _ _ said (fun _ h => by cases h) (by kernel_rfl) (fun _ h => by cases h) padAll_row_tie rfl ⟨rfl, rfl⟩ (by kernel_rfl) rfl plain (by kernel_rfl)
#print axioms card
end Go.Proofs.YtlpanplebagmbaaDoor.padAll
