/-
  Proved: whatever values of its parameters' types it is called with, deaddroplaw5.PadEnds returns true, and each argument reads behind the call as it read before; the listed tables of the library being what its text lays (the card ties them).
  Conditions: none but those of the card itself.
-/
import Derived.Test.YtlpanplebagmbaaDoorCards
import Derived.Test.YtlpanplebagmbaaDoorTie
import Derived.WalkKit
import Derived.ProofKit
import Derived.OpenShut
import Derived.ShutString
import Derived.Below
import Derived.Deep.DeepHandedRow
import Derived.Lib.LaidTab
import Derived.LaidSub
import Derived.Stop.LaidTwo
import Derived.Test.YtlpanplebagmbaaDoorPRefU
import Derived.Test.YtlpanplebagmbaaDoorOwnB
import Derived.Test.YtlpanplebagmbaaDoorOwnZ
import Derived.IntWalk
namespace Go.Proofs.YtlpanplebagmbaaDoor.padEnds
open Go.ChangeShapes Go.WideShapes Go.ChangeAt Go.RowKit
open Go.ChangeMaps (open_string shut_string)
open Go.Proofs.YtlpanplebagmbaaDoor.Wd Go.Proofs.YtlpanplebagmbaaDoor.Mm
set_option linter.unusedVariables false

theorem own : ownKnob Tryd.prog.godebug = none := by kernel_rfl


theorem below_of {w w' : World} (h : w.grownBy w' none) : Below w.heap.size w w' := gb_below h (Nat.le_refl _)
theorem u8_of {a : Int} (h : (Lit.int .u8 a).wf = true) : 0 ≤ a ∧ a ≤ 255 := by
  have h1 : IntKind.u8.min = 0 := by decide
  have h2 : IntKind.u8.max = 255 := by decide
  simp only [Lit.wf, h1, h2, Bool.and_eq_true, decide_eq_true_eq] at h
  exact h
theorem bk_64 (n : Nat) (h : n ≤ 50) : bk (n : Int) = 64 := by
  unfold bk; split <;> (try split) <;> omega
theorem bk_ge (n : Int) (h : bk n ≠ 0) : 64 ≤ bk n := by
  revert h; unfold bk; split <;> (try split) <;> (try split) <;> (try split) <;> (try split) <;> (try split) <;> omega
/-- Noughts more behind. -/
theorem unp_more (l : List UInt8) (h : l.length ≤ 50) : unpL (padL l ++ zl 192) = none := by
  cases hu : unpL (padL l ++ zl 192) with
  | none => rfl
  | some m =>
    have hb := bk_64 l.length h
    have hl := padL_len l (by omega)
    have e : padL l ++ zl 192 = l ++ 128 :: List.replicate (63 - l.length + 192) 0 := by
      unfold padL zl
      rw [List.append_assoc, List.cons_append, ← List.replicate_append_replicate, hb]
      congr 4
      omega
    have h1 := unp_at (padL l ++ zl 192) l.length 128 (by rw [e]; simp) (by decide) (fun i h1 h2 => by
      rw [e] at h2 ⊢
      rw [List.length_append, List.length_cons, List.length_replicate] at h2
      rw [List.getElem?_append_right (by omega)]
      obtain ⟨j, hj⟩ : ∃ j, i - l.length = j + 1 := ⟨i - l.length - 1, by omega⟩
      rw [hj, List.getElem?_cons_succ, List.getElem?_replicate, if_pos (by omega)]) hu
    obtain ⟨_, h2, _⟩ := h1
    have e2 : (padL l ++ zl 192).take l.length = l := by rw [e, List.take_left]
    rw [e2] at h2
    have h3 := congrArg List.length h2
    rw [List.length_append, zl_len] at h3
    omega
theorem unp_short (l : List UInt8) (h : l.length = 63) : unpL l = none := by
  cases hu : unpL l with
  | none => rfl
  | some m =>
    obtain ⟨h1, h2⟩ := unp_back hu
    have h3 := padL_len m h2
    have h4 := bk_ge _ h2
    rw [← h1] at h3
    omega
theorem unp_last (l : List UInt8) (h : l.length = 64) (h1 : l[63]? = some 1) : unpL l = none := by
  cases hu : unpL l with
  | none => rfl
  | some m =>
    obtain ⟨_, h2, _⟩ := unp_at l 63 1 h1 (by decide) (fun i h3 h4 => by omega) hu
    have h3 := padL_at (l.take 63)
    rw [← h2, List.length_take, show min 63 l.length = 63 by omega, h1] at h3
    cases h3
theorem unp_zl (n : Nat) : unpL (zl n) = none := unp_zeros _ (fun i h => by
  rw [zl_len] at h
  unfold zl
  rw [List.getElem?_replicate, if_pos h])
theorem zl_cells (n : Nat) : ∀ u ∈ (zl n).map w8, u.oneCell' = true := by
  intro u hu
  simp only [List.mem_map] at hu
  obtain ⟨x, _, rfl⟩ := hu
  rfl
theorem size_mk (l : List UInt8) : (⟨l.toArray⟩ : ByteArray).size = l.length := rfl
theorem nil_text (W : World) : (convert 32 9 (.slice none 0 0)).run Tryd.prog W = .ok (.string ⟨#[]⟩) W := by kernel_rfl
theorem row_news {w : World} {g : Nat} {t : TypeId} {l : List Value} (r : Row w g t l.toArray) : ∀ j u, l[j]? = some u → w.cell? ((⟨g, 0, none⟩ : Addr).add j) = some u := fun j u hu => by
  have hadd : (⟨g, 0, none⟩ : Addr).add j = ⟨g, j, none⟩ := by unfold Addr.add; split <;> simp_all
  rw [hadd]
  exact r.at_ (by simpa using hu)

set_option maxHeartbeats 40000000 in
set_option maxRecDepth 100000 in
theorem walk (a0 : ByteArray) (a1 : Int) (w0 : a0.size ≤ maxLen) (w1 : (Lit.int .u8 a1).wf = true) (w : World) :
    Calls Tryd.prog 5 #[.string a0, .int .u8 a1] w fun e w' => e = .returned (.bool true) ∧ Below w.heap.size w w' := by
  have ha := u8_of w1
  by_cases h5 : 50 < a0.size
  · have d1 : decide ((50 : Int) < (a0.size : Int)) = true := decide_eq_true (by omega)
    have d2 : decide (50 < a0.size) = true := decide_eq_true h5
    clear ha
    go_enter Tryd.func5, Tryd.ntmps5
    go_wp2_with fail
    refine (awake_any _).mono ?_
    rintro e w1 ⟨rfl, rfl⟩
    go_wp2_with fail
    go_ret
    exact ⟨rfl, Below.refl _ _⟩
  have d1 : decide ((50 : Int) < (a0.size : Int)) = false := decide_eq_false (by omega)
  have d2 : decide (50 < a0.size) = false := decide_eq_false h5
  have hb4 := bk_64 a0.size (by omega)
  have hb : bk (a0.size : Int) ≠ 0 := by omega
  have HP := Lib.hid (fun W => refPad_some a0 W hb)
  have hPs := padB_size a0 hb
  rw [hb4] at hPs
  have hun : unpL (padB a0).data.toList = some a0.data.toList := unp_pad a0.data.toList (by rw [len_data]; exact hb)
  have HUP := Lib.hid (fun W => unpad_some (padB a0) a0.data.toList W hun)
  have ea : (⟨a0.data.toList.toArray⟩ : ByteArray) = a0 := rfl
  rw [ea] at HUP
  have HL := Lib.hid (show (padB a0).data.toList = padL a0.data.toList from rfl)
  have Hn0 := Lib.hid (show a0.data.toList.length ≤ 50 by rw [len_data]; omega)
  obtain ⟨P, HPd⟩ : ∃ P, Hid (padB a0 = P) := ⟨_, rfl⟩
  rw [HPd.out] at HP hPs HUP HL
  have hPl : P.data.toList.length = 64 := by rw [len_data, hPs]
  have HPl := Lib.hid hPl
  have Hcv := Lib.hid (fun W => convert_any W P (by rw [hPs]; decide))
  rw [hPs] at Hcv
  have hf0 := said_text
  have es := text_eq (rfl : a0 = a0)
  clear w0 w1 h5 hb4 hb hPs hun ea hPl
  rcases (by omega : a1 % 5 = 0 ∨ a1 % 5 = 1 ∨ a1 % 5 = 2 ∨ a1 % 5 = 3 ∨ a1 % 5 = 4) with hm | hm | hm | hm | hm
  · have ht : a1.tmod 5 = 0 := by rw [Int.tmod_eq_emod_of_nonneg ha.1]; exact hm
    clear ha
    have hmk := fun W => make_zero 64 64 rfl (by decide) W
    go_enter Tryd.func5, Tryd.ntmps5
    go_wp2_with fail
    refine (HP.out _).mono ?_
    rintro e w1 ⟨rfl, g1⟩
    obtain ⟨v0, w2, hcv, own2, g2⟩ := Hcv.out w1
    have Own2 := Lib.hid own2
    have G1 := Lib.hid g1
    have G2 := Lib.hid (gb_none g1 g2)
    obtain ⟨gb, cb, rfl⟩ := owns_slice own2 (by decide)
    clear g1 own2
    clear g2
    have hcv2 := text_zero 64 w2 _ (Row.new w2 5 (zc 64))
    go_wp2_with fail
    refine (unpad_none (zs 64) _ (by rw [zs_size]; decide) (unp_zl 64)).mono ?_
    rintro e w4 ⟨rfl, rfl⟩
    go_wp2_with fail
    refine (HUP.out _).mono ?_
    rintro e w5 ⟨rfl, g5⟩
    have G5 := Lib.hid (gb_none (gb_alloc G2.out _) g5)
    clear g5
    go_wp2_with fail
    refine (awake_any _).mono ?_
    rintro e w6 ⟨rfl, rfl⟩
    go_wp2_with fail
    go_ret
    exact ⟨rfl, below_of G5.out⟩
  · have ht : a1.tmod 5 = 1 := by rw [Int.tmod_eq_emod_of_nonneg ha.1]; exact hm
    clear ha
    go_enter Tryd.func5, Tryd.ntmps5
    go_wp2_with fail
    refine (HP.out _).mono ?_
    rintro e w1 ⟨rfl, g1⟩
    obtain ⟨v0, w2, hcv, own2, g2⟩ := Hcv.out w1
    have Own2 := Lib.hid own2
    have G1 := Lib.hid g1
    have G2 := Lib.hid (gb_none g1 g2)
    obtain ⟨gb, cb, rfl⟩ := owns_slice own2 (by decide)
    clear g1 own2
    clear g2
    obtain ⟨i0, hi0, hq0⟩ := Option.map_eq_some_iff.1 byte_info
    simp only [Prod.mk.injEq] at hq0
    obtain ⟨v1, w3, hap, own3, g3⟩ := run_append_zerosM (P := Tryd.prog) w2 w1.heap.size 32 3 32 5 .i64 i0 Tryd.underlying32 Tryd.underlying3 hi0 hq0.1 hq0.2.1 hq0.2.2 gb 64 cb (P.data.toList.map w8) Own2.out 192 .i64 (by decide) (by decide) (by decide) (Nat.le_trans (Own2.out.lt gb rfl).1 (Nat.le_of_lt (Own2.out.lt gb rfl).2))
    rw [show P.data.toList.map w8 ++ List.replicate 192 (Value.int .u8 0) = (P.data.toList ++ zl 192).map w8 by rw [List.map_append]; simp [zl, w8]] at own3
    have hcv2 := ownsM_text own3 (by decide)
    have hu := unp_more a0.data.toList Hn0.out
    rw [← HL.out] at hu
    have HN := Lib.hid (fun W => unpad_none ⟨(P.data.toList ++ zl 192).toArray⟩ W (by rw [size_mk, List.length_append, HPl.out, zl_len]; decide) hu)
    have G3 := Lib.hid (gb_new G2.out g3 (Nat.le_trans G1.out.size (Own2.out.lt gb rfl).1))
    have Hap := Lib.hid hap
    obtain ⟨g1b, c1b, rfl⟩ := owns_slice own3 (by decide)
    clear own3 hu hap g3 hq0 hi0
    go_wp2_with (at_builtin; refine Lib.wpList_append_run _ rfl _ _ _ _ rfl _ _ rfl rfl _ _ Hap.out ?_)
    refine (HN.out _).mono ?_
    rintro e w4 ⟨rfl, rfl⟩
    go_wp2_with fail
    refine (HUP.out _).mono ?_
    rintro e w5 ⟨rfl, g5⟩
    have G5 := Lib.hid (gb_none G3.out g5)
    clear g5
    go_wp2_with fail
    refine (awake_any _).mono ?_
    rintro e w6 ⟨rfl, rfl⟩
    go_wp2_with fail
    go_ret
    exact ⟨rfl, below_of G5.out⟩
  · have ht : a1.tmod 5 = 2 := by rw [Int.tmod_eq_emod_of_nonneg ha.1]; exact hm
    clear ha
    go_enter Tryd.func5, Tryd.ntmps5
    go_wp2_with fail
    refine (HP.out _).mono ?_
    rintro e w1 ⟨rfl, g1⟩
    obtain ⟨v0, w2, hcv, own2, g2⟩ := Hcv.out w1
    have Own2 := Lib.hid own2
    have G1 := Lib.hid g1
    have G2 := Lib.hid (gb_none g1 g2)
    obtain ⟨gb, cb, rfl⟩ := owns_slice own2 (by decide)
    clear g1 own2
    clear g2
    have own3 := ownsM_less Own2.out 63 (by decide)
    have hcap := (owns_cap Own2.out).1
    have h63 : (63 : Int) ≤ (cb : Int) := by omega
    clear hcap
    rw [← List.map_take] at own3
    have hcv2 := ownsM_text own3 (by decide)
    have hu := unp_short (P.data.toList.take 63) (by rw [List.length_take, HPl.out]; rfl)
    have HN := Lib.hid (fun W => unpad_none ⟨(P.data.toList.take 63).toArray⟩ W (by rw [size_mk, List.length_take]; omega) hu)
    clear own3 hu
    go_wp2_with fail
    refine (HN.out _).mono ?_
    rintro e w4 ⟨rfl, rfl⟩
    go_wp2_with fail
    refine (HUP.out _).mono ?_
    rintro e w5 ⟨rfl, g5⟩
    have G5 := Lib.hid (gb_none G2.out g5)
    clear g5
    go_wp2_with fail
    refine (awake_any _).mono ?_
    rintro e w6 ⟨rfl, rfl⟩
    go_wp2_with fail
    go_ret
    exact ⟨rfl, below_of G5.out⟩
  · have ht : a1.tmod 5 = 3 := by rw [Int.tmod_eq_emod_of_nonneg ha.1]; exact hm
    clear ha
    go_enter Tryd.func5, Tryd.ntmps5
    go_wp2_with fail
    refine (HP.out _).mono ?_
    rintro e w1 ⟨rfl, g1⟩
    obtain ⟨v0, w2, hcv, own2, g2⟩ := Hcv.out w1
    have Own2 := Lib.hid own2
    have G1 := Lib.hid g1
    have G2 := Lib.hid (gb_none g1 g2)
    obtain ⟨gb, cb, rfl⟩ := owns_slice own2 (by decide)
    clear g1 own2
    clear g2
    have hc := ownsM_cell Own2.out 63 _ (List.getElem?_eq_getElem (by rw [List.length_map, HPl.out]; decide))
    have hf := ownsM_free Own2.out 63 (by decide)
    have own3 := ownsM_set Own2.out 63 (.int .u8 1)
    rw [show (P.data.toList.map w8).set 63 (.int .u8 1) = (P.data.toList.set 63 1).map w8 by rw [List.map_set]; rfl] at own3
    have hcv2 := ownsM_text own3 (by decide)
    have hu := unp_last (P.data.toList.set 63 1) (by rw [List.length_set, HPl.out]) (by rw [List.getElem?_set_self (by rw [HPl.out]; decide)])
    have HN := Lib.hid (fun W => unpad_none ⟨(P.data.toList.set 63 1).toArray⟩ W (by rw [size_mk, List.length_set, HPl.out]; decide) hu)
    have G3 := Lib.hid (gb_new G2.out (gb_set1 w2 gb 63 (.int .u8 1)) (Nat.le_trans G1.out.size (Own2.out.lt gb rfl).1))
    clear own3 hu
    go_wp2_with fail
    refine (HN.out _).mono ?_
    rintro e w4 ⟨rfl, rfl⟩
    go_wp2_with fail
    refine (HUP.out _).mono ?_
    rintro e w5 ⟨rfl, g5⟩
    have G5 := Lib.hid (gb_none G3.out g5)
    clear g5
    go_wp2_with fail
    refine (awake_any _).mono ?_
    rintro e w6 ⟨rfl, rfl⟩
    go_wp2_with fail
    go_ret
    exact ⟨rfl, below_of G5.out⟩
  · have ht : a1.tmod 5 = 4 := by rw [Int.tmod_eq_emod_of_nonneg ha.1]; exact hm
    clear ha
    go_enter Tryd.func5, Tryd.ntmps5
    go_wp2_with fail
    refine (HP.out _).mono ?_
    rintro e w1 ⟨rfl, g1⟩
    obtain ⟨v0, w2, hcv, own2, g2⟩ := Hcv.out w1
    have Own2 := Lib.hid own2
    have G1 := Lib.hid g1
    have G2 := Lib.hid (gb_none g1 g2)
    obtain ⟨gb, cb, rfl⟩ := owns_slice own2 (by decide)
    clear g1 own2
    clear g2
    have hcv2 := nil_text w2
    have HN := Lib.hid (fun W => unpad_none ⟨#[]⟩ W (by decide) (unp_zl 0))
    go_wp2_with fail
    refine (HN.out _).mono ?_
    rintro e w4 ⟨rfl, rfl⟩
    go_wp2_with fail
    refine (HUP.out _).mono ?_
    rintro e w5 ⟨rfl, g5⟩
    have G5 := Lib.hid (gb_none G2.out g5)
    clear g5
    go_wp2_with fail
    refine (awake_any _).mono ?_
    rintro e w6 ⟨rfl, rfl⟩
    go_wp2_with fail
    go_ret
    exact ⟨rfl, below_of G5.out⟩

set_option maxRecDepth 100000 in
theorem contract (H : Type) (enc : TypeId × Value → H) (W : World) (base : Nat) (args : Array Value) (ds gs : List (DataW H)) (before : List MemPlace)
    (hval0 : ∀ (j : Nat) t v, Tryd.f5.params[j]? = some t → args[j]? = some v → Value.okWide Tryd.prog W .any base t v)
    (hW : DataW.Whole enc Tryd.prog Tryd.f5.params.toList Rows.padEndsSpec.vars false W args.toList ds gs before) (hL : laidMetH Tryd.prog Rows.padEndsRow.laid W) :
    Calls Tryd.prog 5 args W fun e W' => ∃ v, e = .returned v ∧ Rows.padEndsSpec.post enc Tryd.prog Tryd.f5 false true false false W args v W' := by
  have hval : ∀ (j : Nat) t v, Tryd.f5.params[j]? = some t → args[j]? = some v → Value.okWide Tryd.prog W .any base t v := hval0
  have hW' := hW
  obtain ⟨p, q, hA0, hV, rfl, hfz, hnd⟩ := hW
  have hA : DataW.TrodAll enc Tryd.prog W 0 (fun _ => true) true Tryd.f5.params.toList args.toList ds p := hA0
  rw [Tryd.params5] at hA hval
  obtain ⟨v0, vs0, d0, ds0, p0, q0, hargs, rfl, rfl, h0, r0⟩ := trodAll_cons hA
  obtain ⟨v1, vs1, d1, ds1, p1, q1, rfl, rfl, rfl, h1, r1⟩ := trodAll_cons r0
  obtain ⟨rfl, rfl, rfl⟩ := trodAll_nil r1
  obtain rfl : args = #[v0, v1] := by cases args; simp_all
  obtain ⟨rfl, rfl⟩ := trodVars_none hV
  obtain ⟨a0, rfl, rfl, rfl, w0⟩ := open_string Tryd.underlying9 (hval 0 9 v0 rfl rfl) h0
  obtain ⟨a1, rfl, rfl, rfl, w1⟩ := open_int Tryd.underlying5 (hval 1 5 v1 rfl rfl) h1
  clear hA0 hval0
  simp only [List.append_nil] at hW'
  refine (walk a0 a1 w0 w1 W).mono fun e W' ⟨he, hg⟩ => ?_
  subst he
  exact ⟨_, rfl, _, _, _, [], [], [], hW', (trodAll_cons_mk (shut_bool Tryd.underlying4 _) trodAll_mk0), (trodAll_cons_mk (shut_string Tryd.underlying9 w0) (trodAll_cons_mk (shut_int Tryd.underlying5 w1) trodAll_mk0)), rfl, hg.frame _, fun h => by cases h⟩

def lay (cs : Array Value) : Obj → Obj
  | .cells _ t frozen => .cells cs t frozen
  | o => o
noncomputable def laidWorld (os : Os) : World :=
  { World.holding Tryd.prog os ⟨#[], #[], []⟩ with heap := ((World.holding Tryd.prog os ⟨#[], #[], []⟩).heap.modify 2 (lay #[.int .u8 128, .int .u8 191, .int .u8 160, .int .u8 191, .int .u8 128, .int .u8 159, .int .u8 144, .int .u8 191, .int .u8 128, .int .u8 143, .int .u8 0, .int .u8 0, .int .u8 0, .int .u8 0, .int .u8 0, .int .u8 0, .int .u8 0, .int .u8 0, .int .u8 0, .int .u8 0, .int .u8 0, .int .u8 0, .int .u8 0, .int .u8 0, .int .u8 0, .int .u8 0, .int .u8 0, .int .u8 0, .int .u8 0, .int .u8 0, .int .u8 0, .int .u8 0])).modify 1 (lay (Go.Pinned.utf8FirstZ.map fun (n : Nat) => Value.int .u8 (n : Int)).toArray) }
theorem laid_met (os : Os) : laidMet Tryd.prog Rows.padEndsRow.laid ((laidWorld os).forCall (fun _ _ => 0) ⟨#[], #[.string ByteArray.empty, .int .u8 0], []⟩).memory :=
  laidMet_of_run' 8 (by kernel_rfl) (by kernel_rfl)
theorem reads (os : Os) {H : Type} (enc : TypeId × Value → H) : ∃ places, DataW.whole enc Tryd.prog ((laidWorld os).forCall (fun _ _ => 0) ⟨#[], #[.string ByteArray.empty, .int .u8 0], []⟩).memory Tryd.f5.params.toList Rows.padEndsSpec.vars false (show Array Value from #[.string ByteArray.empty, .int .u8 0]).toList 8 = some ([.lit (.string []), .lit (.int .u8 0)], [], places) :=
  ⟨[], by kernel_rfl⟩

set_option maxRecDepth 100000 in
theorem lifted (os : Os) (started : os.Started) (H : Type) (enc : TypeId × Value → H) (F : Stop.Interp) :
    ReturnsInHanded {} Tryd.checked os 5 .any ((OpenSpec.ofChange Rows.padEndsSpec).preRow enc Tryd.prog Tryd.f5 Rows.padEndsRow.domain false Rows.padEndsRow.laid) (((OpenSpec.ofChange Rows.padEndsSpec).at F).post enc Tryd.prog Tryd.f5 false true false false) := by
  obtain ⟨places, hx⟩ := reads os enc
  refine returnsInHanded_of_row (C := Tryd.checked) (s := OpenSpec.ofChange Rows.padEndsSpec) own started (by kernel_rfl) Tryd.func5
    (witness_row_at (enc := enc) (C := Tryd.checked) false (laidWorld os) #[.string ByteArray.empty, .int .u8 0] rfl (by kernel_rfl) (by kernel_rfl) (by kernel_rfl)
      (OpenSpec.preRow_of_cond 8 hx (by kernel_rfl) (fun k hk => by cases hk) (by kernel_rfl) (laid_met os))) ?_
  intro W base args ds gs before hval hW _ _ _ hL _ _
  exact contract H enc W base args ds gs before hval hW hL

theorem said : Rows.PadEndsSaid :=
  OpenClaim.holds_of_cond 5 Tryd.f5 rfl rfl rfl rfl rfl rfl rfl ⟨rfl, rfl, rfl, rfl, rfl⟩ rfl rfl rfl rfl rfl (by kernel_rfl) Tryd.func5 (by kernel_rfl)
    (of_decide_eq_true (by kernel_rfl)) (by unfold Func.isWrapper; first | (rw [if_pos (by decide +kernel)]; kernel_rfl) | (rw [if_neg (by decide +kernel)]; exact ⟨rfl, rfl⟩))
    (fun os started H enc _ F => by rw [OpenClaim.pre_eq_preRow]; exact lifted os started H enc F)

theorem plain (f : FuncId) (fn : Func) (hf : Tryd.pinned.checked.prog.funcNamed "deaddrop/deaddroplaw5.PadEnds" = some f) (hfn : Tryd.pinned.checked.prog.funcs[f]? = some fn) :
    false = Tryd.pinned.checked.prog.looks [] ∧ ∀ (j : Nat) t, fn.params[j]? = some t → Tryd.pinned.checked.prog.wantsStandIn t = false := by
  obtain rfl : f = 5 := Option.some.inj ((show Tryd.prog.funcNamed "deaddrop/deaddroplaw5.PadEnds" = some 5 by kernel_rfl).symm.trans hf) |>.symm
  obtain rfl : fn = Tryd.f5 := (Option.some.inj (Tryd.func5.symm.trans hfn)).symm
  refine ⟨by kernel_rfl, fun j t ht => ?_⟩
  have hall : (Tryd.f5.params.toList.all fun u => !Tryd.prog.wantsStandIn u) = true := by kernel_rfl
  have hm : t ∈ Tryd.f5.params.toList := by simpa using Array.mem_of_getElem? ht
  exact (show Tryd.prog.wantsStandIn t = false by simpa using List.all_eq_true.1 hall t hm)

theorem card : Rows.PadEndsCardSaid :=
  Claim7.holds_tied_plain_at .later [] _ _ _ _ said (fun _ h => by cases h) (by kernel_rfl) (fun _ h => by cases h) padEnds_row_tie rfl ⟨rfl, rfl⟩ (by kernel_rfl) rfl plain (by kernel_rfl)
#print axioms card
end Go.Proofs.YtlpanplebagmbaaDoor.padEnds
