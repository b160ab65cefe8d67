/-
  Proved: whatever values of its parameters' types it is called with, deaddroplaw5.PadBack returns true, and each argument reads behind the call as it read before; the listed tables of the library being what its text lays (the card ties them).
  Conditions: none but those of the card itself.
-/
import Derived.Test.YtlpanplebagmbaaDoorCards
import Derived.Test.YtlpanplebagmbaaDoorTie
import Derived.WalkKit
import Derived.ProofKit
import Derived.OpenShut
import Derived.ShutString
import Derived.Below
import Derived.Deep.DeepHandedRow
import Derived.Lib.LaidTab
import Derived.LaidSub
import Derived.Stop.LaidTwo
import Derived.Test.YtlpanplebagmbaaDoorPRefU
import Derived.IntWalk
namespace Go.Proofs.YtlpanplebagmbaaDoor.padBack
open Go.ChangeShapes Go.WideShapes Go.ChangeAt Go.RowKit
open Go.ChangeMaps (open_string shut_string)
open Go.Proofs.YtlpanplebagmbaaDoor.Wd Go.Proofs.YtlpanplebagmbaaDoor.Mm
set_option linter.unusedVariables false

theorem own : ownKnob Tryd.prog.godebug = none := by kernel_rfl


theorem below_of {w w' : World} (h : w.grownBy w' none) : Below w.heap.size w w' := gb_below h (Nat.le_refl _)
theorem u8_of {a : Int} (h : (Lit.int .u8 a).wf = true) : 0 ≤ a ∧ a ≤ 255 := by
  have h1 : IntKind.u8.min = 0 := by decide
  have h2 : IntKind.u8.max = 255 := by decide
  simp only [Lit.wf, h1, h2, Bool.and_eq_true, decide_eq_true_eq] at h
  exact h
theorem u16_of {a : Int} (h : (Lit.int .u16 a).wf = true) : 0 ≤ a ∧ a ≤ 65535 := by
  have h1 : IntKind.u16.min = 0 := by decide
  have h2 : IntKind.u16.max = 65535 := by decide
  simp only [Lit.wf, h1, h2, Bool.and_eq_true, decide_eq_true_eq] at h
  exact h
theorem rest {a m : Int} (h : 0 ≤ a ∧ a ≤ 65535) (hm : 0 < m) : ∃ p : Nat, (wrap64 a).tmod m = (p : Int) ∧ (p : Int) < m := by
  have h1 := Int.emod_nonneg a (show m ≠ 0 by omega)
  have h2 := Int.emod_lt_of_pos a hm
  refine ⟨(a % m).toNat, ?_, by omega⟩
  have e : wrap64 a = a := by unfold wrap64; omega
  rw [e, Int.tmod_eq_emod_of_nonneg h.1]
  omega
theorem bk_one (n : Int) : bk n = 0 ∨ bk n = 64 ∨ bk n = 256 ∨ bk n = 1024 ∨ bk n = 4096 ∨ bk n = 16384 := by
  unfold bk; split <;> (try split) <;> (try split) <;> (try split) <;> (try split) <;> (try split) <;> simp
theorem unp_size (l : List UInt8) (h : l.length ≠ 64 ∧ l.length ≠ 256 ∧ l.length ≠ 1024 ∧ l.length ≠ 4096 ∧ l.length ≠ 16384) : unpL l = none := by
  cases hu : unpL l with
  | none => rfl
  | some m =>
    obtain ⟨h1, h2⟩ := unp_back hu
    have h3 := padL_len m h2
    rw [← h1] at h3
    have h4 := bk_one m.length
    omega

set_option maxHeartbeats 40000000 in
set_option maxRecDepth 100000 in
theorem walk (a0 : ByteArray) (a1 : Int) (a2 : Int) (a3 : ByteArray) (w0 : a0.size ≤ maxLen) (w1 : (Lit.int .u8 a1).wf = true) (w2 : (Lit.int .u16 a2).wf = true) (w3 : a3.size ≤ maxLen) (w : World) :
    Calls Tryd.prog 4 #[.string a0, .int .u8 a1, .int .u16 a2, .string a3] w fun e w' => e = .returned (.bool true) ∧ Below w.heap.size w w' := by
  have he := u8_of w1
  have hm := u16_of w2
  by_cases h0 : 300 < a0.size
  · have d1 : decide ((300 : Int) < (a0.size : Int)) = true := decide_eq_true (by omega)
    have d2 : decide (300 < a0.size) = true := decide_eq_true h0
    clear he hm
    go_enter Tryd.func4, Tryd.ntmps4
    go_wp2_with fail
    refine (awake_any _).mono ?_
    rintro e w1 ⟨rfl, rfl⟩
    go_wp2_with fail
    go_ret
    exact ⟨rfl, Below.refl _ _⟩
  have d1 : decide ((300 : Int) < (a0.size : Int)) = false := decide_eq_false (by omega)
  have d2 : decide (300 < a0.size) = false := decide_eq_false h0
  by_cases h3 : 300 < a3.size
  · have d3 : decide ((300 : Int) < (a3.size : Int)) = true := decide_eq_true (by omega)
    have d4 : decide (300 < a3.size) = true := decide_eq_true h3
    clear he hm
    go_enter Tryd.func4, Tryd.ntmps4
    go_wp2_with fail
    refine (awake_any _).mono ?_
    rintro e w1 ⟨rfl, rfl⟩
    go_wp2_with fail
    go_ret
    exact ⟨rfl, Below.refl _ _⟩
  have d3 : decide ((300 : Int) < (a3.size : Int)) = false := decide_eq_false (by omega)
  have d4 : decide (300 < a3.size) = false := decide_eq_false h3
  obtain ⟨p, hp, hp6⟩ := rest (m := 6) ⟨he.1, by omega⟩ (by decide)
  obtain ⟨q, hq, hq40⟩ := rest (m := 40) hm (by decide)
  have Hs0 := Lib.hid (show a0.size ≤ 300 by omega)
  have Hs3 := Lib.hid (show a3.size ≤ 300 by omega)
  clear h0 h3 hm
  have Hp6 := Lib.hid hp6
  have Hq40 := Lib.hid hq40
  clear hp6 hq40 he w1 w2
  go_enter Tryd.func4, Tryd.ntmps4
  go_wp2_with fail
  go_loop [9, 10] (fun t i => ∃ (T : ByteArray) (j : Nat), j ≤ p ∧ i = .int .i64 j ∧ t = .string T ∧ T.size ≤ 300 + j) (fun _ i => p - (intOf i).toNat)
  case atStart => exact ⟨a0, 0, Nat.zero_le _, rfl, rfl, Hs0.out⟩
  case round =>
    obtain ⟨T1, j, hj, rfl, rfl, hT1⟩ := hrel
    by_cases hlt : j < p
    · have hd : decide ((j : Int) < (p : Int)) = true := decide_eq_true (by omega)
      have hd2 : decide (j < p) = true := decide_eq_true hlt
      have hjb : j < 6 := by have := Hp6.out; omega
      have hbig : ¬ 9223372036854775807 < T1.size + 1 := by omega
      go_wp2_with fail
      go_round
      case rel =>
        refine ⟨_, j + 1, by omega, by go_num, rfl, ?_⟩
        rw [ByteArray.size_append]
        show T1.size + 1 ≤ _
        omega
      case measure => simp [intOf]; omega
    · have hjq : j = p := by omega
      have hd : decide ((j : Int) < (p : Int)) = false := decide_eq_false (by omega)
      have hd2 : decide (j < p) = false := decide_eq_false hlt
      replace hT1 : Hid (T1.size ≤ 305) := by show _ ≤ _; have := Hp6.out; omega
      have hbig1 : ¬ 9223372036854775807 < T1.size + 1 := by have := hT1.out; omega
      clear hj hlt hjq
      by_cases hend : 127 < a1
      · have he1 : decide (127 < a1) = true := decide_eq_true hend
        clear hend
        go_wp2_with fail
        go_loop [9, 11] (fun t i => ∃ (T : ByteArray) (j : Nat), j ≤ q ∧ i = .int .i64 j ∧ t = .string T ∧ T.size ≤ 306 + 10 * j) (fun _ i => q - (intOf i).toNat)
        case atStart => exact ⟨_, 0, Nat.zero_le _, rfl, rfl, by first | exact Nat.le_trans hT1.out (by decide) | (rw [ByteArray.size_append]; have h1 := hT1.out; show _ + 1 ≤ _; omega)⟩
        case round =>
          obtain ⟨T, j, hj, rfl, rfl, hT⟩ := hrel
          by_cases hlt : j < q
          · have hd : decide ((j : Int) < (q : Int)) = true := decide_eq_true (by omega)
            have hd2 : decide (j < q) = true := decide_eq_true hlt
            have hjb : j < 40 := by have := Hq40.out; omega
            have hbig : ¬ 9223372036854775807 < T.size + 10 := by omega
            go_wp2_with fail
            go_round
            case rel =>
              refine ⟨_, j + 1, by omega, by go_num, rfl, ?_⟩
              rw [ByteArray.size_append]
              show T.size + 10 ≤ _
              omega
            case measure => simp [intOf]; omega
          · have hjq : j = q := by omega
            have hd : decide ((j : Int) < (q : Int)) = false := decide_eq_false (by omega)
            have hd2 : decide (j < q) = false := decide_eq_false hlt
            replace hT : Hid (T.size ≤ 706) := by show _ ≤ _; have := Hq40.out; omega
            clear hj hlt hjq
            have hb : bk (T.size : Int) ≠ 0 := fun h => by have := (bk_zero _).1 h; have := hT.out; omega
            have hb3 : bk (a3.size : Int) ≠ 0 := fun h => by have := (bk_zero _).1 h; have := Hs3.out; omega
            have HP1 := Lib.hid (fun W => pad_some T W hb)
            have HP2 := Lib.hid (fun W => pad_some a3 W hb3)
            have hun := unp_pad T.data.toList (by rw [len_data]; exact hb)
            have HU1 := Lib.hid (fun W => unpad_some (padB T) T.data.toList W hun)
            rw [show (⟨T.data.toList.toArray⟩ : ByteArray) = T from rfl] at HU1
            have HB1 := Lib.hid (fun W => bucket_any T.size W (by omega) (by have := hT.out; omega))
            have HB3 := Lib.hid (fun W => bucket_any a3.size W (by omega) (by have := Hs3.out; omega))
            have hP := padB_size T hb
            have hQ := padB_size a3 hb3
            have hone := bk_one T.size
            obtain ⟨K, HK⟩ : ∃ K, Hid (bk (T.size : Int) = K) := ⟨_, rfl⟩
            obtain ⟨M, HM⟩ : ∃ M, Hid (bk (a3.size : Int) = M) := ⟨_, rfl⟩
            obtain ⟨P, HPd⟩ : ∃ P, Hid (padB T = P) := ⟨_, rfl⟩
            obtain ⟨Q, HQd⟩ : ∃ Q, Hid (padB a3 = Q) := ⟨_, rfl⟩
            rw [HK.out] at hb hone hP HB1
            rw [HM.out] at hb3 hQ HB3
            rw [HPd.out] at HP1 HU1 hP
            rw [HQd.out] at HP2 hQ
            have hC := fun W => unpad_none (P.extract 0 (P.size - 1)) W (by rw [ByteArray.size_extract]; omega) (unp_size _ (by rw [ext_list, List.length_take, len_data]; omega))
            have hL := fun W => unpad_none (P ++ (⟨#[0]⟩ : ByteArray)) W (by rw [ByteArray.size_append]; show P.size + 1 ≤ _; omega) (unp_size _ (by rw [len_data, ByteArray.size_append]; show P.size + 1 ≠ 64 ∧ P.size + 1 ≠ 256 ∧ P.size + 1 ≠ 1024 ∧ P.size + 1 ≠ 4096 ∧ P.size + 1 ≠ 16384; omega))
            have HC := Lib.hid hC
            have HL := Lib.hid hL
            have hP0 : 0 < P.size := by omega
            obtain ⟨c, hc⟩ : ∃ c : Nat, P.size - 1 = c := ⟨_, rfl⟩
            rw [hc] at HC
            have hmx : max 0 ((P.size : Int) - 1) = (c : Int) := by omega
            have hc2 : (P.size : Int) - 1 = (c : Int) := by omega
            have hcle : c ≤ P.size := by omega
            have hbig : ¬ 9223372036854775807 < P.size + 1 := by omega
            obtain ⟨β, e2, e3⟩ : ∃ β, ((P.size : Int) == (Q.size : Int)) = β ∧ ((K : Int) == (M : Int)) = β := ⟨_, rfl, by rw [hP, hQ]⟩
            have e1 : ((P.size : Int) == (K : Int)) = true := by rw [hP]; simp
            have eT := text_eq (rfl : T = T)
            clear hb hb3 hun hP hQ hone hC hL hc
            go_wp2_with fail
            refine (HP1.out _).mono ?_
            rintro e w1 ⟨rfl, g1⟩
            have G1 := Lib.hid g1
            clear g1
            go_wp2_with fail
            refine (HP2.out _).mono ?_
            rintro e w2 ⟨rfl, g2⟩
            have G2 := Lib.hid (gb_none G1.out g2)
            clear g2
            go_wp2_with fail
            refine (HU1.out _).mono ?_
            rintro e w3 ⟨rfl, g3⟩
            have G3 := Lib.hid (gb_none G2.out g3)
            clear g3
            go_wp2_with fail
            refine (HC.out _).mono ?_
            rintro e w4 ⟨rfl, rfl⟩
            go_wp2_with fail
            refine (HL.out _).mono ?_
            rintro e w5 ⟨rfl, rfl⟩
            go_wp2_with fail
            refine (HB1.out _).mono ?_
            rintro e w6 ⟨rfl, rfl⟩
            go_wp2_with fail
            refine (HB1.out _).mono ?_
            rintro e w6 ⟨rfl, rfl⟩
            go_wp2_with fail
            refine (HB3.out _).mono ?_
            rintro e w6 ⟨rfl, rfl⟩
            go_wp2_with fail
            refine (awake_any _).mono ?_
            rintro e w6 ⟨rfl, rfl⟩
            go_wp2_with fail
            go_ret
            exact ⟨rfl, below_of G3.out⟩
      · have he1 : decide (127 < a1) = false := decide_eq_false hend
        clear hend
        go_wp2_with fail
        go_loop [9, 11] (fun t i => ∃ (T : ByteArray) (j : Nat), j ≤ q ∧ i = .int .i64 j ∧ t = .string T ∧ T.size ≤ 306 + 10 * j) (fun _ i => q - (intOf i).toNat)
        case atStart => exact ⟨_, 0, Nat.zero_le _, rfl, rfl, by first | exact Nat.le_trans hT1.out (by decide) | (rw [ByteArray.size_append]; have h1 := hT1.out; show _ + 1 ≤ _; omega)⟩
        case round =>
          obtain ⟨T, j, hj, rfl, rfl, hT⟩ := hrel
          by_cases hlt : j < q
          · have hd : decide ((j : Int) < (q : Int)) = true := decide_eq_true (by omega)
            have hd2 : decide (j < q) = true := decide_eq_true hlt
            have hjb : j < 40 := by have := Hq40.out; omega
            have hbig : ¬ 9223372036854775807 < T.size + 10 := by omega
            go_wp2_with fail
            go_round
            case rel =>
              refine ⟨_, j + 1, by omega, by go_num, rfl, ?_⟩
              rw [ByteArray.size_append]
              show T.size + 10 ≤ _
              omega
            case measure => simp [intOf]; omega
          · have hjq : j = q := by omega
            have hd : decide ((j : Int) < (q : Int)) = false := decide_eq_false (by omega)
            have hd2 : decide (j < q) = false := decide_eq_false hlt
            replace hT : Hid (T.size ≤ 706) := by show _ ≤ _; have := Hq40.out; omega
            clear hj hlt hjq
            have hb : bk (T.size : Int) ≠ 0 := fun h => by have := (bk_zero _).1 h; have := hT.out; omega
            have hb3 : bk (a3.size : Int) ≠ 0 := fun h => by have := (bk_zero _).1 h; have := Hs3.out; omega
            have HP1 := Lib.hid (fun W => pad_some T W hb)
            have HP2 := Lib.hid (fun W => pad_some a3 W hb3)
            have hun := unp_pad T.data.toList (by rw [len_data]; exact hb)
            have HU1 := Lib.hid (fun W => unpad_some (padB T) T.data.toList W hun)
            rw [show (⟨T.data.toList.toArray⟩ : ByteArray) = T from rfl] at HU1
            have HB1 := Lib.hid (fun W => bucket_any T.size W (by omega) (by have := hT.out; omega))
            have HB3 := Lib.hid (fun W => bucket_any a3.size W (by omega) (by have := Hs3.out; omega))
            have hP := padB_size T hb
            have hQ := padB_size a3 hb3
            have hone := bk_one T.size
            obtain ⟨K, HK⟩ : ∃ K, Hid (bk (T.size : Int) = K) := ⟨_, rfl⟩
            obtain ⟨M, HM⟩ : ∃ M, Hid (bk (a3.size : Int) = M) := ⟨_, rfl⟩
            obtain ⟨P, HPd⟩ : ∃ P, Hid (padB T = P) := ⟨_, rfl⟩
            obtain ⟨Q, HQd⟩ : ∃ Q, Hid (padB a3 = Q) := ⟨_, rfl⟩
            rw [HK.out] at hb hone hP HB1
            rw [HM.out] at hb3 hQ HB3
            rw [HPd.out] at HP1 HU1 hP
            rw [HQd.out] at HP2 hQ
            have hC := fun W => unpad_none (P.extract 0 (P.size - 1)) W (by rw [ByteArray.size_extract]; omega) (unp_size _ (by rw [ext_list, List.length_take, len_data]; omega))
            have hL := fun W => unpad_none (P ++ (⟨#[0]⟩ : ByteArray)) W (by rw [ByteArray.size_append]; show P.size + 1 ≤ _; omega) (unp_size _ (by rw [len_data, ByteArray.size_append]; show P.size + 1 ≠ 64 ∧ P.size + 1 ≠ 256 ∧ P.size + 1 ≠ 1024 ∧ P.size + 1 ≠ 4096 ∧ P.size + 1 ≠ 16384; omega))
            have HC := Lib.hid hC
            have HL := Lib.hid hL
            have hP0 : 0 < P.size := by omega
            obtain ⟨c, hc⟩ : ∃ c : Nat, P.size - 1 = c := ⟨_, rfl⟩
            rw [hc] at HC
            have hmx : max 0 ((P.size : Int) - 1) = (c : Int) := by omega
            have hc2 : (P.size : Int) - 1 = (c : Int) := by omega
            have hcle : c ≤ P.size := by omega
            have hbig : ¬ 9223372036854775807 < P.size + 1 := by omega
            obtain ⟨β, e2, e3⟩ : ∃ β, ((P.size : Int) == (Q.size : Int)) = β ∧ ((K : Int) == (M : Int)) = β := ⟨_, rfl, by rw [hP, hQ]⟩
            have e1 : ((P.size : Int) == (K : Int)) = true := by rw [hP]; simp
            have eT := text_eq (rfl : T = T)
            clear hb hb3 hun hP hQ hone hC hL hc
            go_wp2_with fail
            refine (HP1.out _).mono ?_
            rintro e w1 ⟨rfl, g1⟩
            have G1 := Lib.hid g1
            clear g1
            go_wp2_with fail
            refine (HP2.out _).mono ?_
            rintro e w2 ⟨rfl, g2⟩
            have G2 := Lib.hid (gb_none G1.out g2)
            clear g2
            go_wp2_with fail
            refine (HU1.out _).mono ?_
            rintro e w3 ⟨rfl, g3⟩
            have G3 := Lib.hid (gb_none G2.out g3)
            clear g3
            go_wp2_with fail
            refine (HC.out _).mono ?_
            rintro e w4 ⟨rfl, rfl⟩
            go_wp2_with fail
            refine (HL.out _).mono ?_
            rintro e w5 ⟨rfl, rfl⟩
            go_wp2_with fail
            refine (HB1.out _).mono ?_
            rintro e w6 ⟨rfl, rfl⟩
            go_wp2_with fail
            refine (HB1.out _).mono ?_
            rintro e w6 ⟨rfl, rfl⟩
            go_wp2_with fail
            refine (HB3.out _).mono ?_
            rintro e w6 ⟨rfl, rfl⟩
            go_wp2_with fail
            refine (awake_any _).mono ?_
            rintro e w6 ⟨rfl, rfl⟩
            go_wp2_with fail
            go_ret
            exact ⟨rfl, below_of G3.out⟩

set_option maxRecDepth 100000 in
theorem contract (H : Type) (enc : TypeId × Value → H) (W : World) (base : Nat) (args : Array Value) (ds gs : List (DataW H)) (before : List MemPlace)
    (hval0 : ∀ (j : Nat) t v, Tryd.f4.params[j]? = some t → args[j]? = some v → Value.okWide Tryd.prog W .any base t v)
    (hW : DataW.Whole enc Tryd.prog Tryd.f4.params.toList Rows.padBackSpec.vars false W args.toList ds gs before) (hL : laidMetH Tryd.prog Rows.padBackRow.laid W) :
    Calls Tryd.prog 4 args W fun e W' => ∃ v, e = .returned v ∧ Rows.padBackSpec.post enc Tryd.prog Tryd.f4 false true false false W args v W' := by
  have hval : ∀ (j : Nat) t v, Tryd.f4.params[j]? = some t → args[j]? = some v → Value.okWide Tryd.prog W .any base t v := hval0
  have hW' := hW
  obtain ⟨p, q, hA0, hV, rfl, hfz, hnd⟩ := hW
  have hA : DataW.TrodAll enc Tryd.prog W 0 (fun _ => true) true Tryd.f4.params.toList args.toList ds p := hA0
  rw [Tryd.params4] at hA hval
  obtain ⟨v0, vs0, d0, ds0, p0, q0, hargs, rfl, rfl, h0, r0⟩ := trodAll_cons hA
  obtain ⟨v1, vs1, d1, ds1, p1, q1, rfl, rfl, rfl, h1, r1⟩ := trodAll_cons r0
  obtain ⟨v2, vs2, d2, ds2, p2, q2, rfl, rfl, rfl, h2, r2⟩ := trodAll_cons r1
  obtain ⟨v3, vs3, d3, ds3, p3, q3, rfl, rfl, rfl, h3, r3⟩ := trodAll_cons r2
  obtain ⟨rfl, rfl, rfl⟩ := trodAll_nil r3
  obtain rfl : args = #[v0, v1, v2, v3] := by cases args; simp_all
  obtain ⟨rfl, rfl⟩ := trodVars_none hV
  obtain ⟨a0, rfl, rfl, rfl, w0⟩ := open_string Tryd.underlying9 (hval 0 9 v0 rfl rfl) h0
  obtain ⟨a1, rfl, rfl, rfl, w1⟩ := open_int Tryd.underlying5 (hval 1 5 v1 rfl rfl) h1
  obtain ⟨a2, rfl, rfl, rfl, w2⟩ := open_int Tryd.underlying30 (hval 2 30 v2 rfl rfl) h2
  obtain ⟨a3, rfl, rfl, rfl, w3⟩ := open_string Tryd.underlying9 (hval 3 9 v3 rfl rfl) h3
  clear hA0 hval0
  simp only [List.append_nil] at hW'
  refine (walk a0 a1 a2 a3 w0 w1 w2 w3 W).mono fun e W' ⟨he, hg⟩ => ?_
  subst he
  exact ⟨_, rfl, _, _, _, [], [], [], hW', (trodAll_cons_mk (shut_bool Tryd.underlying4 _) trodAll_mk0), (trodAll_cons_mk (shut_string Tryd.underlying9 w0) (trodAll_cons_mk (shut_int Tryd.underlying5 w1) (trodAll_cons_mk (shut_int Tryd.underlying30 w2) (trodAll_cons_mk (shut_string Tryd.underlying9 w3) trodAll_mk0)))), rfl, hg.frame _, fun h => by cases h⟩

def lay (cs : Array Value) : Obj → Obj
  | .cells _ t frozen => .cells cs t frozen
  | o => o
noncomputable def laidWorld (os : Os) : World :=
  { World.holding Tryd.prog os ⟨#[], #[], []⟩ with heap := ((World.holding Tryd.prog os ⟨#[], #[], []⟩).heap.modify 2 (lay #[.int .u8 128, .int .u8 191, .int .u8 160, .int .u8 191, .int .u8 128, .int .u8 159, .int .u8 144, .int .u8 191, .int .u8 128, .int .u8 143, .int .u8 0, .int .u8 0, .int .u8 0, .int .u8 0, .int .u8 0, .int .u8 0, .int .u8 0, .int .u8 0, .int .u8 0, .int .u8 0, .int .u8 0, .int .u8 0, .int .u8 0, .int .u8 0, .int .u8 0, .int .u8 0, .int .u8 0, .int .u8 0, .int .u8 0, .int .u8 0, .int .u8 0, .int .u8 0])).modify 1 (lay (Go.Pinned.utf8FirstZ.map fun (n : Nat) => Value.int .u8 (n : Int)).toArray) }
theorem laid_met (os : Os) : laidMet Tryd.prog Rows.padBackRow.laid ((laidWorld os).forCall (fun _ _ => 0) ⟨#[], #[.string ByteArray.empty, .int .u8 0, .int .u16 0, .string ByteArray.empty], []⟩).memory :=
  laidMet_of_run' 8 (by kernel_rfl) (by kernel_rfl)
theorem reads (os : Os) {H : Type} (enc : TypeId × Value → H) : ∃ places, DataW.whole enc Tryd.prog ((laidWorld os).forCall (fun _ _ => 0) ⟨#[], #[.string ByteArray.empty, .int .u8 0, .int .u16 0, .string ByteArray.empty], []⟩).memory Tryd.f4.params.toList Rows.padBackSpec.vars false (show Array Value from #[.string ByteArray.empty, .int .u8 0, .int .u16 0, .string ByteArray.empty]).toList 8 = some ([.lit (.string []), .lit (.int .u8 0), .lit (.int .u16 0), .lit (.string [])], [], places) :=
  ⟨[], by kernel_rfl⟩

set_option maxRecDepth 100000 in
theorem lifted (os : Os) (started : os.Started) (H : Type) (enc : TypeId × Value → H) (F : Stop.Interp) :
    ReturnsInHanded {} Tryd.checked os 4 .any ((OpenSpec.ofChange Rows.padBackSpec).preRow enc Tryd.prog Tryd.f4 Rows.padBackRow.domain false Rows.padBackRow.laid) (((OpenSpec.ofChange Rows.padBackSpec).at F).post enc Tryd.prog Tryd.f4 false true false false) := by
  obtain ⟨places, hx⟩ := reads os enc
  refine returnsInHanded_of_row (C := Tryd.checked) (s := OpenSpec.ofChange Rows.padBackSpec) own started (by kernel_rfl) Tryd.func4
    (witness_row_at (enc := enc) (C := Tryd.checked) false (laidWorld os) #[.string ByteArray.empty, .int .u8 0, .int .u16 0, .string ByteArray.empty] rfl (by kernel_rfl) (by kernel_rfl) (by kernel_rfl)
      (OpenSpec.preRow_of_cond 8 hx (by kernel_rfl) (fun k hk => by cases hk) (by kernel_rfl) (laid_met os))) ?_
  intro W base args ds gs before hval hW _ _ _ hL _ _
  exact contract H enc W base args ds gs before hval hW hL

theorem said : Rows.PadBackSaid :=
  OpenClaim.holds_of_cond 4 Tryd.f4 rfl rfl rfl rfl rfl rfl rfl ⟨rfl, rfl, rfl, rfl, rfl⟩ rfl rfl rfl rfl rfl (by kernel_rfl) Tryd.func4 (by kernel_rfl)
    (of_decide_eq_true (by kernel_rfl)) (by unfold Func.isWrapper; first | (rw [if_pos (by decide +kernel)]; kernel_rfl) | (rw [if_neg (by decide +kernel)]; exact ⟨rfl, rfl⟩))
    (fun os started H enc _ F => by rw [OpenClaim.pre_eq_preRow]; exact lifted os started H enc F)

theorem plain (f : FuncId) (fn : Func) (hf : Tryd.pinned.checked.prog.funcNamed "deaddrop/deaddroplaw5.PadBack" = some f) (hfn : Tryd.pinned.checked.prog.funcs[f]? = some fn) :
    false = Tryd.pinned.checked.prog.looks [] ∧ ∀ (j : Nat) t, fn.params[j]? = some t → Tryd.pinned.checked.prog.wantsStandIn t = false := by
  obtain rfl : f = 4 := Option.some.inj ((show Tryd.prog.funcNamed "deaddrop/deaddroplaw5.PadBack" = some 4 by kernel_rfl).symm.trans hf) |>.symm
  obtain rfl : fn = Tryd.f4 := (Option.some.inj (Tryd.func4.symm.trans hfn)).symm
  refine ⟨by kernel_rfl, fun j t ht => ?_⟩
  have hall : (Tryd.f4.params.toList.all fun u => !Tryd.prog.wantsStandIn u) = true := by kernel_rfl
  have hm : t ∈ Tryd.f4.params.toList := by simpa using Array.mem_of_getElem? ht
  exact (show Tryd.prog.wantsStandIn t = false by simpa using List.all_eq_true.1 hall t hm)

theorem card : Rows.PadBackCardSaid :=
  Claim7.holds_tied_plain_at .later [] _ _ _ _ said (fun _ h => by cases h) (by kernel_rfl) (fun _ h => by cases h) padBack_row_tie rfl ⟨rfl, rfl⟩ (by kernel_rfl) rfl plain (by kernel_rfl)
#print axioms card
end Go.Proofs.YtlpanplebagmbaaDoor.padBack
