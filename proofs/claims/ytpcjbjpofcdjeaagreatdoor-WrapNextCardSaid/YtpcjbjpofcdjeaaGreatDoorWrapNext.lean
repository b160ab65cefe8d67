/-
 Proved: whatever values of its parameters' types it is called with, deaddroplaw17.WrapNext returns true, and each argument reads behind the call as it read before; the listed package-level variables being what the program's own text lays (the card ties them).
 Conditions: none but those of the card itself.
-/
import Derived.Test.YtpcjbjpofcdjeaaGreatDoorCards
import Derived.Test.YtpcjbjpofcdjeaaGreatDoorTie
import Derived.WalkKit
import Derived.ProofKit
import Derived.OpenShut
import Derived.ShutString
import Derived.Below
import Derived.ChangeOld
import Derived.Deep.DeepHandedRow
import Derived.LaidSub
import Derived.LaidHandle
import Derived.LaidLaws
import Derived.RowKitTokens
import Derived.Stop.LaidTwo
import Derived.Lib.LaidTab
import Derived.Lib.ItoaNum
import Derived.Test.YtpcjbjpofcdjeaaGreatDoorWcLog
import Derived.Test.YtpcjbjpofcdjeaaGreatDoorWcAwake
import Derived.Test.YtpcjbjpofcdjeaaGreatDoorWcOpen
import Derived.Test.YtpcjbjpofcdjeaaGreatDoorWcMake
import Derived.Test.YtpcjbjpofcdjeaaGreatDoorWcT
import Derived.Test.YtpcjbjpofcdjeaaGreatDoorMbE
import Derived.Test.YtpcjbjpofcdjeaaGreatDoorWcNext
import Derived.Test.YtpcjbjpofcdjeaaGreatDoorWcRefM
import Derived.Test.YtpcjbjpofcdjeaaGreatDoorMbRefC
import Derived.Test.YtpcjbjpofcdjeaaGreatDoorRoA
import Derived.Test.YtpcjbjpofcdjeaaGreatDoorCc
import Derived.Test.YtpcjbjpofcdjeaaGreatDoorTdA
set_option linter.unusedVariables false
set_option maxHeartbeats 40000000
set_option maxRecDepth 100000
namespace Go.Proofs.YtpcjbjpofcdjeaaGreatDoor.wrapNext
open Go.ChangeShapes Go.WideShapes Go.ChangeAt Go.RowKit
open Go.ChangeMaps (open_string shut_string)
open Mm Hh Dt Td Vw Wd Mb Me Ro Ky Wc Go.Proofs.YtpcjbjpofcdjeaaGreatDoor
theorem own : ownKnob Tryz.prog.godebug = none := by kernel_rfl
theorem laidOut : laidOutB Tryz.prog = true := by kernel_rfl
def IsRow (k : IntKind) (w : World) (a : Option Addr) (len cap : Nat) (zs : List Int) : Prop :=
 (a = none ∧ len = 0 ∧ cap = 0 ∧ zs = []) ∨
 ∃ x, a = some x ∧ len ≤ cap ∧ cap ≤ maxLen ∧ zs.length = cap ∧ (∀ i, i < zs.length → w.cell? (x.add i) = some (.int k (zs.getD i 0))) ∧ ∀ n ∈ zs, (Lit.int k n).wf = true
attribute [local go_sem] Td.upon_value Td.upon_skip Td.upon_enter Td.upon_row Td.look_tmp Td.look_const Td.look_func Td.look_global
theorem u8_of {a : Int} (h : (Lit.int .u8 a).wf = true) : 0 ≤ a ∧ a ≤ 255 := by
 have h1 : IntKind.u8.min = 0 := by decide
 have h2 : IntKind.u8.max = 255 := by decide
 simp only [Lit.wf, h1, h2, Bool.and_eq_true, decide_eq_true_eq] at h
 exact h
theorem u8n_of {w : World} {a : Option Addr} {len cap : Nat} {zs : List Int}
  (h : (a = none ∧ len = 0 ∧ cap = 0 ∧ zs = []) ∨ ∃ x, a = some x ∧ len ≤ cap ∧ cap ≤ maxLen ∧ zs.length = cap ∧ (∀ i, i < zs.length → w.cell? (x.add i) = some (.int .u8 (zs.getD i 0))) ∧ ∀ n ∈ zs, (Lit.int .u8 n).wf = true) :
  U8N w a len ((zs.take len).map Int.toNat) := by
 rcases h with ⟨rfl, rfl, rfl, rfl⟩ | ⟨x, rfl, hl, hc, hz, hcell, hwf⟩
 ·exact ⟨rfl, fun h => absurd h (by omega)⟩
 ·refine ⟨by rw [List.length_map, List.length_take]; omega, fun h0 => ?_⟩
  obtain ⟨b, o, sp⟩ := x
  have c0 := hcell 0 (by omega)
  cases sp with
  | some sp =>
   exfalso
   simp only [Addr.add, World.cell?] at c0
   split at c0 <;> simp at c0
  | none =>
   refine ⟨b, o, rfl, ?_, fun i x hx => ?_⟩
   ·have := block_lt_of_cell c0
    simpa [Addr.add] using this
   ·rw [List.getElem?_map, List.getElem?_take] at hx
    split at hx
    ·obtain ⟨z, hz2, rfl⟩ := Option.map_eq_some_iff.1 hx
     have hin := (List.getElem?_eq_some_iff.1 hz2).1
     have ci := hcell i hin
     have hadd : (⟨b, o, none⟩ : Addr).add i = ⟨b, o + i, none⟩ := by unfold Addr.add; split <;> simp_all
     rw [hadd, List.getD_eq_getElem?_getD, hz2] at ci
     have hv := hwf z (List.mem_of_getElem? hz2)
     have hb : 0 ≤ z ∧ z ≤ 255 := by
      have h1 : IntKind.u8.min = 0 := by decide
      have h2 : IntKind.u8.max = 255 := by decide
      simp only [Lit.wf, h1, h2, Bool.and_eq_true, decide_eq_true_eq] at hv
      exact hv
     refine ⟨by omega, ?_⟩
     rw [show ((z.toNat : Nat) : Int) = z by omega]
     exact ci
    ·cases hx
theorem bx_two {w : World} {g h : Nat} (x : Sn.Two w g h) : Bx.BE w g ∧ Bx.BE w h := by
 obtain ⟨a0, a1, c0, c1, t0, t1, h0, h1, hne, hb0, hb1⟩ := x
 exact ⟨⟨a0, c0, t0, h0, hb0⟩, ⟨a1, c1, t1, h1, hb1⟩⟩
theorem allr {w : World} (hE : Sn.Two w 12 13 ∧ Sn.Two w 10 11 ∧ Sn.Two w 14 15 ∧ Sn.Two w 15 16 ∧ Sn.Two w 2 3 ∧ Sn.Two w 4 5 ∧ Sn.Two w 6 7 ∧ Sn.Two w 8 9) (hT : ErrT w) (hS : Tabs w) (hP : Lib.TabIs Tryz.prog w "internal/strconv.uint64pow10" .u64 Lib.pow10Tab) : AllR w :=
 ⟨⟨hS, hE.1, hP⟩, ⟨(bx_two hE.2.1).1, (bx_two hE.2.1).2, (bx_two hE.2.2.1).1, (bx_two hE.2.2.1).2, (bx_two hE.2.2.2.1).2⟩, Me.MErrs.of hE.2.2.2.2, hT⟩
theorem bytes_sz (l : List UInt8) (n : Nat) : (⟨(Cc.bytesS l n).toArray⟩ : ByteArray).size = n := by rw [← Cc.len_data, Cc.ba, Cc.bytesS_len]
theorem walk (a0 : Option Addr) (len0 cap0 : Nat) (z0 : List Int) (a1 : Int) (a2 : Int) (w : World) (w0 : IsRow .u8 w a0 len0 cap0 z0) (w1 : (Lit.int .u8 a1).wf = true) (w2 : (Lit.int .i64 a2).wf = true) (hE : Sn.Two w 12 13 ∧ Sn.Two w 10 11 ∧ Sn.Two w 14 15 ∧ Sn.Two w 15 16 ∧ Sn.Two w 2 3 ∧ Sn.Two w 4 5 ∧ Sn.Two w 6 7 ∧ Sn.Two w 8 9) (hT : w.cell? ⟨0, 0, none⟩ = some (.iface 180 (.agg #[.pointer (some ⟨22, 72, none⟩)]))) (hS : Tabs w) (hP : Lib.TabIs Tryz.prog w "internal/strconv.uint64pow10" .u64 Lib.pow10Tab) :
  Calls Tryz.prog 5 #[.slice a0 len0 cap0, .int .u8 a1, .int .i64 a2] w fun e w' => e = .returned (.bool true) ∧ Below w.heap.size w w' := by
 obtain ⟨n1, n1'⟩ := u8_of w1
 have hR : AllR w := allr hE hT hS hP
 have HAw : Hid (∀ W, w.grownBy W none → Calls Tryz.prog 11 #[] W fun e w' => e = .returned (.bool true) ∧ W.grownBy w' none) := fun W hW => awake17_any W (hR.keep hW)
 have hu := u8n_of w0
 obtain ⟨ns, hns⟩ := nmd ((z0.take len0).map Int.toNat)
 rw [hns] at hu
 obtain ⟨hb0, hl0, _⟩ := Cc.holds_of_row w0
 have hnl : len0 ≤ 9223372036854775807 := hl0
 by_cases h7 : len0 ≤ 8
 ·have d1 : decide (8 < len0) = false := dcF
  have d2 : decide ((8 : Int) < (len0 : Int)) = false := dcF
  obtain ⟨s, hs⟩ : ∃ s : ByteArray, (⟨#[115, 101, 99, 114, 101, 116]⟩ : ByteArray) = s := ⟨_, rfl⟩
  obtain ⟨m, hm⟩ : ∃ m : ByteArray, (⟨#[109, 97, 115, 116, 101, 114]⟩ : ByteArray) = m := ⟨_, rfl⟩
  have hss : s.size = 6 := by rw [← hs]; rfl
  have hms : m.size = 6 := by rw [← hm]; rfl
  have HLg : Hid (Calls Tryz.prog 25 #[.string ⟨#[115, 101, 99, 114, 101, 116]⟩, .string ⟨#[109, 97, 115, 116, 101, 114]⟩, .slice a0 len0 cap0] w fun e w' => ∃ A c', e = .returned (.slice A (logK s m ns).length c') ∧ LogL w' A (logK s m ns).length (logK s m ns) ∧ (logK s m ns).length ≤ c' ∧ w.grownBy w' none) := by
   have h := log17_any s m a0 len0 cap0 ns w (by omega) (by omega) hu (by omega)
   rw [hs, hm]
   exact h
  have Hs9 := Lib.hid hs
  have Hm9 := Lib.hid hm
  clear hs hm
  have HRk := Lib.hid hR
  obtain ⟨p, hp⟩ := nmd (a1.tmod 2)
  have hp2 : 0 ≤ p ∧ p ≤ 1 := by rw [← hp, Int.tmod_eq_emod_of_nonneg n1]; omega
  obtain ⟨K, hK⟩ := nmd (1 + p)
  have hk12 : K = 1 ∨ K = 2 := by omega
  have u1 : IntKind.i64.wrap a1 = a1 := by rw [IntKind.wrap_i64]; omega
  have u2 : IntKind.i64.wrap p = p := by rw [IntKind.wrap_i64]; omega
  have u3 : IntKind.i64.wrap K = K := by rw [IntKind.wrap_i64]; omega
  clear w0 w1 w2 hE hT hS hP hR hu hns hb0 hl0 hnl h7 n1 n1' hp2
  go_enter Tryz.func5, Tryz.ntmps5
  go_wp2_with fail
  refine HLg.out.mono ?_
  rintro e v1 ⟨A, c9, rfl, hLL, hle, g1⟩
  have hch := log_chain s m ns
  have hnx := log_nexts s m ns
  have h1N : (logK s m ns).length = 1 + min 7 ns.length := log_len s m ns
  obtain ⟨C, hC⟩ := nmd (logK s m ns)
  rw [hC] at hLL hle hch hnx h1N ⊢
  obtain ⟨N, hN⟩ := nmd (C.length)
  rw [hN] at hLL hle h1N ⊢
  have HN1 : Hid (1 ≤ N ∧ N ≤ 8) := ⟨by omega, by omega⟩
  have HN := Lib.hid hN
  have HG1 := Lib.hid (gb_none (gb_refl w none) g1)
  have HL : Hid (∀ W, v1.grownBy W none → LogL W A N C) := fun W hW => hLL.keep hW
  have HCh : Hid (ChainR C) := hch
  have HNx : Hid (Nexts s m C) := hnx
  have Hle := Lib.hid hle
  have hmk := fun W (hW : v1.grownBy W none) => pMake_any s m A N c9 C K a2 W (hLL.keep hW) (by omega) hle (good_small hch.2) (by omega) (by omega) (HRk.out.keep (gb_none HG1.out hW))
  have hNl : C.length = N := hN
  obtain ⟨b, hb⟩ := nmd (inB C (N : Int) a2)
  have HIn : Hid (∀ W, v1.grownBy W none → Calls Tryz.prog 29 #[.slice A N c9, .int .i64 (N : Int), .int .i64 a2] W fun x w' => x = .returned (.bool b) ∧ W = w') := fun W hW => by
   have h := refIn_any A N c9 C (N : Int) a2 W (hLL.keep hW) (by omega)
   rw [hb] at h
   exact h
  have hcs := next_cases hch (by omega) (by omega) hk12 (show inB C (C.length : Int) a2 = b by rw [hNl]; exact hb)
  rcases hcs with hcs | hcs
  ·rcases hcs with ⟨he, s1⟩ | ⟨he, s1, s2⟩ | ⟨he, s1, s2, s3, s4⟩ | ⟨he, s1, s2, s3, s4, rfl, s5⟩ | ⟨he, s1, s2, s3, rfl, s5⟩ | ⟨he, s1, s2, s3, rfl, s4⟩
   all_goals
    have HMk : Hid (∀ W, v1.grownBy W none → Calls Tryz.prog 12 #[.string ⟨#[115, 101, 99, 114, 101, 116]⟩, .string ⟨#[109, 97, 115, 116, 101, 114]⟩, .slice A N c9, .int .i64 K, .int .i64 a2] W (MadeIs zeroR (deedE C K a2) W)) := fun W hW => by
     have h := hmk W hW
     rw [show madeR s m C K a2 = zeroR from if_neg (by rw [he]; decide)] at h
     rw [Hs9.out, Hm9.out]
     exact h
    rw [he] at HMk
    obtain ⟨R2, hR2⟩ := nmd (zeroR)
    have q3 : (R2.seq == 0) = true := by rw [← hR2]; rfl
    rw [hR2] at HMk
    clear hLL hle g1 hch hnx h1N hC hN hNl hmk he hR2 hss hms HL HCh HNx HN HN1 Hle HLg hb hk12
    go_wp2_with fail
    refine (HMk.out v1 (gb_refl _ _)).mono ?_
    rintro e v2 ⟨A1, c1, rfl, hw1, hc1, f2⟩
    obtain ⟨b2, hb2⟩ := nmd (v2.heap.size)
    obtain ⟨W2, hW2⟩ := nmd (v2.alloc (.cells #[.int .i64 R2.seq, .string R2.prev, .int .i64 R2.kind, .int .i64 R2.dev, .slice A1 R2.wraps.length c1, .string R2.tag] 25))
    obtain ⟨GW2, HXW2⟩ := rec_box hb2 hW2 hw1
    have HGa := Lib.hid (gb_none f2 GW2)
    have HG2 := Lib.hid (gb_none HG1.out HGa.out)
    have HW2 := Lib.hid hW2
    clear hw1 hc1 f2 GW2 hW2 HMk u1 u2 u3 d1 d2 hp hK
    go_upto_region 6 with fail
    rw [HW2.out]
    clear hb2 HW2
    obtain ⟨⟨y0, y1, y2, y3, y4, y5⟩, _⟩ := HXW2.out W2 (gb_refl _ _)
    go_wp2_with fail
    refine (HIn.out W2 HGa.out).mono ?_
    rintro e _ ⟨rfl, rfl⟩
    go_wp2_with fail
    refine (lnum_any _ _).mono ?_
    rintro e _ ⟨rfl, rfl⟩
    go_wp2_with fail
    refine (HAw.out W2 HG2.out).mono ?_
    rintro e w3 ⟨rfl, f3⟩
    have G3 := Lib.hid (gb_none HG2.out f3)
    clear f3
    go_wp2_with fail
    go_ret
    exact ⟨rfl, gb_below G3.out (Nat.le_refl _)⟩
  ·rcases hcs with ⟨he, s1, s2, s3, s4, rfl, s5⟩ | ⟨he, s1, s2, s3, rfl, s4, s5⟩ | ⟨he, s1, s2, s3, rfl, s5⟩
   all_goals
    obtain ⟨R2, hR2⟩ := nmd (nextR s m C K a2)
    have HMk : Hid (∀ W, v1.grownBy W none → Calls Tryz.prog 12 #[.string ⟨#[115, 101, 99, 114, 101, 116]⟩, .string ⟨#[109, 97, 115, 116, 101, 114]⟩, .slice A N c9, .int .i64 K, .int .i64 a2] W (MadeIs R2 0 W)) := fun W hW => by
     have h := hmk W hW
     rw [he, show madeR s m C K a2 = R2 from (if_pos he).trans hR2] at h
     rw [Hs9.out, Hm9.out]
     exact h
    obtain ⟨C2, hC2⟩ := nmd (C ++ [R2])
    have hn2 : C2.length = N + 1 := by rw [← hC2, List.length_append, hNl]; rfl
    have hch2 : ChainR C2 := by rw [← hC2, ← hR2]; exact next_chain s m he
    obtain ⟨q, hq⟩ := nmd ((K == 1))
    have hin2 : inB C2 ((N : Int) + 1) a2 = q := by
     rw [← hC2, ← hR2, ← hNl, next_in2 s m he, ← hq]
     by_cases h : K = 1
     ·rw [eq_yes h, decide_eq_true h]
     ·rw [eq_no h, decide_eq_false h]
    obtain ⟨n5, hn5⟩ := nmd (R2.wraps.length)
    have hct : (memsB C2 ((N : Int) + 1)).length = n5 := by rw [← hC2, ← hn5, ← hR2, ← hNl]; exact next_count s m C K a2
    have hq5 := hq.symm.trans s5
    have t1 : IntKind.i64.wrap ((N : Int) + 1) = (N : Int) + 1 := by rw [IntKind.wrap_i64]; omega
    have HCkA : Hid (∀ W A' c', LogL W A' (N + 1) C2 → N + 1 ≤ c' → Calls Tryz.prog 31 #[.slice A' (N + 1) c'] W fun e w' => e = .returned (.bool true) ∧ W.grownBy w' none) := fun W A' c' h hc => (refCheck_any A' (N + 1) c' C2 W h hc (good_small hch2.2)).mono fun _ _ h => h.yes hch2
    have HI2A : Hid (∀ W A' c', LogL W A' (N + 1) C2 → Calls Tryz.prog 29 #[.slice A' (N + 1) c', .int .i64 ((N : Int) + 1), .int .i64 a2] W fun x w' => x = .returned (.bool q) ∧ W = w') := fun W A' c' h => by
     have k := refIn_any A' (N + 1) c' C2 ((N : Int) + 1) a2 W h (by omega)
     rw [hin2] at k
     exact k
    have HMmA : Hid (∀ W A' c', LogL W A' (N + 1) C2 → Calls Tryz.prog 32 #[.slice A' (N + 1) c', .int .i64 ((N : Int) + 1)] W fun e w' => ∃ A9 c9', e = .returned (.slice A9 n5 c9') ∧ IL w' A9 n5 (memsB C2 ((N : Int) + 1)) ∧ W.grownBy w' none) := fun W A' c' h => by
     have k := refMembers_any A' (N + 1) c' C2 ((N : Int) + 1) W h (by omega)
     unfold IntsIs at k
     rw [hct] at k
     exact k
    subst hq5
    have HLC := HL
    have HN8 : Hid (N ≤ 8) := HN1.out.2
    have HNc := Hle
    have HNl := Lib.hid hNl
    have HC2 := Lib.hid hC2
    have Hn5 := Lib.hid hn5
    clear hLL hle g1 hch hnx h1N hC hN hNl hmk he hR2 hss hms HL HCh HNx HN HN1 Hle HLg hb hk12 hn2 hch2 hin2 hct hC2 hn5
    go_wp2_with fail
    refine (HMk.out v1 (gb_refl _ _)).mono ?_
    rintro e v2 ⟨A1, c1, rfl, hw1, hc1, f2⟩
    obtain ⟨b2, hb2⟩ := nmd (v2.heap.size)
    obtain ⟨W2, hW2⟩ := nmd (v2.alloc (.cells #[.int .i64 R2.seq, .string R2.prev, .int .i64 R2.kind, .int .i64 R2.dev, .slice A1 R2.wraps.length c1, .string R2.tag] 25))
    obtain ⟨GW2, HXW2⟩ := rec_box hb2 hW2 hw1
    have HGa := Lib.hid (gb_none f2 GW2)
    have Hc1 := Lib.hid hc1
    have HW2 := Lib.hid hW2
    clear hw1 hc1 f2 GW2 hW2 HMk u1 u2 u3 d1 d2 hp hK
    go_upto_region 6 with fail
    rw [HW2.out]
    clear hb2 HW2
    go_wp2_with fail
    refine (HIn.out W2 HGa.out).mono ?_
    rintro e _ ⟨rfl, rfl⟩
    obtain ⟨N0, hN0⟩ := nmd (W2.heap.size)
    have HS : Hid (∀ W, W2.grownBy W none → N0 ≤ W.heap.size) := fun W hW => by rw [← hN0]; exact hW.size
    have HWL : Hid (∀ W, W2.grownBy W none → WL W A1 R2.wraps.length R2.wraps) := fun W hW => (HXW2.out W hW).2
    have HYa : Hid (∀ W, W2.grownBy W none → RecC0 W b2 R2 A1 c1) := fun W hW => (HXW2.out W hW).1
    have HA : Hid (∀ B, N0 ≤ B → 0 < R2.wraps.length → ∀ b, A1 = some b → b.block < B) := fun B hB h0 b hb => by
     have := wl_lt (HWL.out W2 (gb_refl _ _)) h0 b hb
     omega
    have HN := Lib.hid hN0
    have HLC := Lib.hid fun W (hW : W2.grownBy W none) => HLC.out W (gb_none HGa.out hW)
    clear hN0 HXW2
    go_upto_region 16 with fail
    apply Tm.wp_region_told_list (le := fun a b => a.grownBy b none) 5 [emptyV, isV _, copyX C N0, isV _, boxR R2 A1 c1]
    case hC => kernel_rfl
    case hlen => rfl
    case hn => rfl
    case hm => kernel_rfl
    case hB => kernel_rfl
    case ht => exact fun _ _ _ h k => gb_none h k
    case hw => exact gb_drew (gb_refl _ _)
    apply Tm.head_at emptyV_stays
    ·intro W f hW hE h0 K hK; clear hE h0; refine yes_f ?_; go_simp; exact hK _ _ (gb_alloc (gb_refl _ _) _) ⟨_, rfl⟩
    apply Tm.head_is
    ·intro W f hW hE h0 K hK; have e7 := h0.of 7; clear hE h0; refine yes_f ?_; go_simp; exact kK hK
    apply Tm.head_at copyX_stays
    ·intro W f hW hE h0 K hK; have e78 := hE 1 78 _ rfl (by kernel_rfl); have e79 := hE.of 0 79; clear hE h0; refine yes_f ?_; obtain ⟨b78, e78⟩ := e78; obtain ⟨v9, w9, hr9, hcp, hg9⟩ := run_copy (w := W) _ _ rfl (some ⟨b78, 0, none⟩) _ N c9 C (HLC.out W hW) (by have := HN8.out; omega) HNc.out; exact upon_append rfl e78 e79 hr9 (hK _ _ hg9 ⟨_, HS.out W hW, hg9.size, hcp⟩)
    apply Tm.head_is
    ·intro W f hW hE h0 K hK; have e9 := h0.of 9; clear hE h0; refine yes_f ?_; obtain ⟨y0, y1, y2, y3, y4, y5⟩ := HYa.out W hW; go_simp; exact kK hK
    apply Tm.head_at boxR_stays
    ·intro W f hW hE h0 K hK; have e81 := hE.of 0 81; clear hE h0; refine yes_f ?_; go_simp; exact hK _ _ (gb_alloc (gb_refl _ _) _) ⟨_, rfl, Row.new _ _ _⟩
    intro W f hW hA
    simp only [List.take_succ_cons, List.take_zero, List.drop_succ_cons, List.drop_zero, lexIn, Act.put, List.setIfInBounds_toArray, List.set_cons_zero, List.set_cons_succ]
    have e80 := hA 2 (some 80) _ rfl
    have e82 := hA 0 (some 82) _ rfl
    clear hA
    obtain ⟨B9, hB1, hB2, hcp⟩ := e80
    obtain ⟨b8, e82, hr8⟩ := e82
    obtain ⟨v9, w9, hrun, hlr, hgr⟩ := run_more 22 B9 (f 80) C hcp (by have := HNl.out; have := HN8.out; omega) hB2 b8 1 R2 A1 c1 (rec_row hr8) (HWL.out W hW) Hc1.out (HA.out B9 hB1)
    have HR9 := Lib.hid hrun
    have Hg9 : Hid (W2.grownBy w9 none) := hgr W2 (by rw [HN.out]; exact hB1) hW
    obtain ⟨A9, cA, rfl, hlog, hle⟩ := hlr.log
    have e9 : (C ++ [R2]).length = N + 1 := by rw [List.length_append, HNl.out]; rfl
    rw [e9] at hlog hle HR9
    rw [HC2.out] at hlog
    have HlogK := Lib.hid fun W (hW : w9.grownBy W none) => hlog.keep hW
    have Hle9 := Lib.hid hle
    clear hcp hr8 hrun hlr hgr hlog hle e9 hW
    refine Lib.wpList_append_run _ rfl (.tmp 80) (.tmp 82) 22 22 rfl _ _ rfl e82 _ _ HR9.out ?_
    have HY : Hid (∀ W, w9.grownBy W none → RecC0 W b2 R2 A1 c1) := fun W hW => HYa.out W (gb_none Hg9.out hW)
    have HGw := Lib.hid (gb_none HG1.out (gb_none HGa.out Hg9.out))
    have HCk := Lib.hid fun W (hW : w9.grownBy W none) => HCkA.out W A9 cA (HlogK.out W hW) Hle9.out
    have HI2 := Lib.hid fun W (hW : w9.grownBy W none) => HI2A.out W A9 cA (HlogK.out W hW)
    have HMm := Lib.hid fun W (hW : w9.grownBy W none) => HMmA.out W A9 cA (HlogK.out W hW)
    have HAx := Lib.hid fun W (hW : w9.grownBy W none) => HAw.out W (gb_none HGw.out hW)
    clear HR9 HlogK Hle9 HCkA HI2A HMmA HYa HWL HA HLC HS HN
    go_upto_region 17 with fail
    apply wp_region_told (le := fun a b => a.grownBy b none) [isV _, isV _, isV _, isV _, isV _, isV _, isV _, isV _, isV _, isV _, isV _, isV _, isV _, isV _, isV _, isV _, isV _, isV _, isV _, isV _, isV _, isV _, isV _, isV _, numsV n5 (memsB C2 ((N : Int) + 1)), isV _, isV _, isV _, isV _, isV _, isV _, isV _]
    case hn => rfl
    case hm => kernel_rfl
    case hB => kernel_rfl
    case ht => exact fun _ _ _ h k => gb_none h k
    case hw => exact gb_drew (gb_refl _ _)
    apply told_is
    ·intro W f hW hE h0 K hK; have e10 := h0.of 10; clear hE h0; refine yes_f ?_; go_simp; exact kK hK
    apply told_is
    ·intro W f hW hE h0 K hK; have e84 := hE.of 0 84; clear hE h0; refine yes_f ?_; go_simp; refine (lnum_any _ W).mono ?_; rintro e w1' ⟨rfl, rfl⟩; exact ⟨_, rfl, hK _ _ (gb_refl _ _) rfl⟩
    apply told_is
    ·intro W f hW hE h0 K hK; have e85 := hE.of 0 85; clear hE h0; refine yes_f ?_; go_simp; exact kK hK
    apply told_is
    ·intro W f hW hE h0 K hK; have e86 := hE.of 0 86; clear hE h0; refine yes_f ?_; go_simp; exact kK hK
    apply told_is
    ·intro W f hW hE h0 K hK; have e13 := h0.of 13; have e87 := hE.of 0 87; clear hE h0; refine yes_g e87 ?_; go_simp; exact kK hK
    apply told_is
    ·intro W f hW hE h0 K hK; have e88 := hE.of 0 88; have e87 := hE.of 1 87; clear hE h0; refine yes_g e87 ?_; go_simp; refine (HCk.out W hW).mono ?_; rintro e w1' ⟨rfl, g'⟩; exact ⟨_, rfl, hK _ _ g' rfl⟩
    apply told_is
    ·intro W f hW hE h0 K hK; have e87 := hE.of 2 87; have e89 := hE.of 0 89; clear hE h0; refine yes_f ?_; go_simp; exact kK hK
    apply told_is
    ·intro W f hW hE h0 K hK; have e90 := hE.of 0 90; clear hE h0; refine yes_f ?_; go_simp; exact kK hK
    apply told_is
    ·intro W f hW hE h0 K hK; have e13 := h0.of 13; have e91 := hE.of 0 91; clear hE h0; refine yes_g e91 ?_; go_simp; exact kK hK
    apply told_is
    ·intro W f hW hE h0 K hK; have e13 := h0.of 13; have e91 := hE.of 1 91; clear hE h0; refine yes_g e91 ?_; go_simp; exact kK hK
    apply told_is
    ·intro W f hW hE h0 K hK; have e93 := hE.of 0 93; have e91 := hE.of 2 91; clear hE h0; refine yes_g e91 ?_; go_simp; exact kK hK
    apply told_is
    ·intro W f hW hE h0 K hK; have e2 := h0.of 2; have e91 := hE.of 3 91; clear hE h0; refine yes_g e91 ?_; go_simp; exact kK hK
    apply told_is
    ·intro W f hW hE h0 K hK; have e92 := hE.of 3 92; have e94 := hE.of 1 94; have e95 := hE.of 0 95; have e91 := hE.of 4 91; clear hE h0; refine yes_g e91 ?_; go_simp; refine (HI2.out W hW).mono ?_; rintro e w1' ⟨rfl, rfl⟩; exact ⟨_, rfl, hK _ _ (gb_refl _ _) rfl⟩
    apply told_is
    ·intro W f hW hE h0 K hK; have e8 := h0.of 8; have e91 := hE.of 5 91; clear hE h0; refine yes_g e91 ?_; go_simp; exact kK hK
    apply told_is
    ·intro W f hW hE h0 K hK; have e97 := hE.of 0 97; have e91 := hE.of 6 91; clear hE h0; refine yes_g e91 ?_; go_simp; exact kK hK
    apply told_is
    ·intro W f hW hE h0 K hK; have e96 := hE.of 2 96; have e98 := hE.of 0 98; have e91 := hE.of 7 91; clear hE h0; refine yes_g e91 ?_; go_simp; exact kK hK
    apply told_is
    ·intro W f hW hE h0 K hK; have e91 := hE.of 8 91; have e99 := hE.of 0 99; clear hE h0; refine yes_f ?_; go_simp; exact kK hK
    apply told_is
    ·intro W f hW hE h0 K hK; have e100 := hE.of 0 100; clear hE h0; refine yes_f ?_; go_simp; exact kK hK
    apply told_is
    ·intro W f hW hE h0 K hK; have e9 := h0.of 9; have e101 := hE.of 0 101; clear hE h0; refine yes_g e101 ?_; go_simp; exact kK hK
    apply told_is
    ·intro W f hW hE h0 K hK; have e102 := hE.of 0 102; have e101 := hE.of 1 101; clear hE h0; refine yes_g e101 ?_; obtain ⟨y0, y1, y2, y3, y4, y5⟩ := HY.out W hW; rw [Hn5.out] at y4; go_simp; exact kK hK
    apply told_is
    ·intro W f hW hE h0 K hK; have e103 := hE.of 0 103; have e101 := hE.of 2 101; clear hE h0; refine yes_g e101 ?_; go_simp; exact kK hK
    apply told_is
    ·intro W f hW hE h0 K hK; have e13 := h0.of 13; have e101 := hE.of 3 101; clear hE h0; refine yes_g e101 ?_; go_simp; exact kK hK
    apply told_is
    ·intro W f hW hE h0 K hK; have e13 := h0.of 13; have e101 := hE.of 4 101; clear hE h0; refine yes_g e101 ?_; go_simp; exact kK hK
    apply told_is
    ·intro W f hW hE h0 K hK; have e106 := hE.of 0 106; have e101 := hE.of 5 101; clear hE h0; refine yes_g e101 ?_; go_simp; exact kK hK
    apply told_at numsV_stays
    ·intro W f hW hE h0 K hK; have e105 := hE.of 2 105; have e107 := hE.of 0 107; have e101 := hE.of 6 101; clear hE h0; refine yes_g e101 ?_; go_simp; refine (HMm.out W hW).mono ?_; rintro e w1' ⟨A9, c9', rfl, hil, g'⟩; exact ⟨_, rfl, hK _ _ g' ⟨A9, c9', rfl, hil⟩⟩
    apply told_is
    ·intro W f hW hE h0 K hK; have e108 := hE 0 108 _ rfl (by kernel_rfl); have e101 := hE.of 7 101; clear hE h0; refine yes_g e101 ?_; obtain ⟨A9, c9', e108, _⟩ := e108; go_simp; exact kK hK
    apply told_is
    ·intro W f hW hE h0 K hK; have e104 := hE.of 5 104; have e109 := hE.of 0 109; have e101 := hE.of 8 101; clear hE h0; refine yes_g e101 ?_; go_simp; exact kK hK
    apply told_is
    ·intro W f hW hE h0 K hK; have e101 := hE.of 9 101; have e110 := hE.of 0 110; clear hE h0; refine yes_f ?_; go_simp; exact kK hK
    apply told_is
    ·intro W f hW hE h0 K hK; have e111 := hE.of 0 111; clear hE h0; refine yes_f ?_; go_simp; exact kK hK
    apply told_is
    ·intro W f hW hE h0 K hK; have e112 := hE.of 0 112; clear hE h0; refine yes_g e112 ?_; go_simp; refine (HAx.out W hW).mono ?_; rintro e w1' ⟨rfl, g'⟩; exact ⟨_, rfl, hK _ _ g' rfl⟩
    apply told_is
    ·intro W f hW hE h0 K hK; have e112 := hE.of 1 112; have e113 := hE.of 0 113; clear hE h0; refine yes_f ?_; go_simp; exact kK hK
    apply told_is
    ·intro W f hW hE h0 K hK; have e114 := hE.of 0 114; clear hE h0; refine yes_f ?_; go_simp; exact kK hK
    intro W f hW hA
    simp only [lexIn, Act.put, List.setIfInBounds_toArray, List.set_cons_zero, List.set_cons_succ]
    have e6 : f 6 = _ := hA 0 (some 6) _ rfl
    rw [e6]
    clear hA
    have Hg := Lib.hid (gb_none HGw.out hW)
    clear hW
    go_wp2_with fail
    go_ret
    exact ⟨rfl, gb_below Hg.out (Nat.le_refl _)⟩
 ·have d1 : decide (8 < len0) = true := dcT
  have d2 : decide ((8 : Int) < (len0 : Int)) = true := dcT
  clear w0 w1 w2 hE hT hS hP hR hu hns hb0 hl0 hnl
  go_enter Tryz.func5, Tryz.ntmps5
  go_wp2_with fail
  refine (HAw.out w (gb_refl _ _)).mono ?_
  rintro e v1 ⟨rfl, g1⟩
  have G1 := Lib.hid g1
  clear g1
  go_wp2_with fail
  go_ret
  exact ⟨rfl, gb_below G1.out (Nat.le_refl _)⟩
theorem star : "*" ++ "errors.errorString" = "*errors.errorString" := by decide
theorem row_err (u : TypeId) (h : Tryz.prog.typeName? 3 u = some "*errors.errorString") : u = 251 :=
 typeName_ptr_named (nm := "errors.errorString") (by rw [star]; kernel_rfl) (by kernel_rfl) (by decide) u (by rw [star]; exact h)
theorem two0_1 {W : World} (h : laidMetH Tryz.prog Rows.wrapNextRow.laid W) : Sn.Two W 12 13 := by
 have h4 : laidMet Tryz.prog [("deaddrop/hmac.errBelow", Rows.laid_deaddrop_hmac_errBelow), ("deaddrop/hmac.errBeyond", Rows.laid_deaddrop_hmac_errBeyond)] W := (laidMetH_iff.1 (laidMetH.filter (fun x => x.1 == "deaddrop/hmac.errBelow" || x.1 == "deaddrop/hmac.errBeyond") h)).1
 obtain ⟨a0, a1, s0, s1, c0, c1, t0, t1, hv0, hv1, hc0, hs0, hz0, hc1, hs1, hz1, hne, hb0, hb1⟩ := laid_sentinels2 h4 (g0 := 12) (g1 := 13) (ti := 72) (by kernel_rfl) (by kernel_rfl) (by kernel_rfl) (by kernel_rfl) Tryz.underlying72 row_err Tryz.underlying251 Tryz.underlying269 rfl rfl Tryz.underlying9 (by kernel_rfl) (by kernel_rfl)
 exact ⟨a0, a1, c0, c1, t0, t1, by simpa using World.var?_cell (g := 12) (by kernel_rfl) hv0 0, by simpa using World.var?_cell (g := 13) (by kernel_rfl) hv1 0, hne, hb0, hb1⟩
theorem two2_3 {W : World} (h : laidMetH Tryz.prog Rows.wrapNextRow.laid W) : Sn.Two W 10 11 := by
 have h4 : laidMet Tryz.prog [("deaddrop/box.errKey", Rows.laid_deaddrop_box_errKey), ("deaddrop/box.errNonce", Rows.laid_deaddrop_box_errNonce)] W := (laidMetH_iff.1 (laidMetH.filter (fun x => x.1 == "deaddrop/box.errKey" || x.1 == "deaddrop/box.errNonce") h)).1
 obtain ⟨a0, a1, s0, s1, c0, c1, t0, t1, hv0, hv1, hc0, hs0, hz0, hc1, hs1, hz1, hne, hb0, hb1⟩ := laid_sentinels2 h4 (g0 := 10) (g1 := 11) (ti := 72) (by kernel_rfl) (by kernel_rfl) (by kernel_rfl) (by kernel_rfl) Tryz.underlying72 row_err Tryz.underlying251 Tryz.underlying269 rfl rfl Tryz.underlying9 (by kernel_rfl) (by kernel_rfl)
 exact ⟨a0, a1, c0, c1, t0, t1, by simpa using World.var?_cell (g := 10) (by kernel_rfl) hv0 0, by simpa using World.var?_cell (g := 11) (by kernel_rfl) hv1 0, hne, hb0, hb1⟩
theorem two4_5 {W : World} (h : laidMetH Tryz.prog Rows.wrapNextRow.laid W) : Sn.Two W 14 15 := by
 have h4 : laidMet Tryz.prog [("deaddrop/box.errShort", Rows.laid_deaddrop_box_errShort), ("deaddrop/box.errLong", Rows.laid_deaddrop_box_errLong)] W := (laidMetH_iff.1 (laidMetH.filter (fun x => x.1 == "deaddrop/box.errShort" || x.1 == "deaddrop/box.errLong") h)).1
 obtain ⟨a0, a1, s0, s1, c0, c1, t0, t1, hv0, hv1, hc0, hs0, hz0, hc1, hs1, hz1, hne, hb0, hb1⟩ := laid_sentinels2 h4 (g0 := 14) (g1 := 15) (ti := 72) (by kernel_rfl) (by kernel_rfl) (by kernel_rfl) (by kernel_rfl) Tryz.underlying72 row_err Tryz.underlying251 Tryz.underlying269 rfl rfl Tryz.underlying9 (by kernel_rfl) (by kernel_rfl)
 exact ⟨a0, a1, c0, c1, t0, t1, by simpa using World.var?_cell (g := 14) (by kernel_rfl) hv0 0, by simpa using World.var?_cell (g := 15) (by kernel_rfl) hv1 0, hne, hb0, hb1⟩
theorem two5_6 {W : World} (h : laidMetH Tryz.prog Rows.wrapNextRow.laid W) : Sn.Two W 15 16 := by
 have h4 : laidMet Tryz.prog [("deaddrop/box.errLong", Rows.laid_deaddrop_box_errLong), ("deaddrop/box.errTag", Rows.laid_deaddrop_box_errTag)] W := (laidMetH_iff.1 (laidMetH.filter (fun x => x.1 == "deaddrop/box.errLong" || x.1 == "deaddrop/box.errTag") h)).1
 obtain ⟨a0, a1, s0, s1, c0, c1, t0, t1, hv0, hv1, hc0, hs0, hz0, hc1, hs1, hz1, hne, hb0, hb1⟩ := laid_sentinels2 h4 (g0 := 15) (g1 := 16) (ti := 72) (by kernel_rfl) (by kernel_rfl) (by kernel_rfl) (by kernel_rfl) Tryz.underlying72 row_err Tryz.underlying251 Tryz.underlying269 rfl rfl Tryz.underlying9 (by kernel_rfl) (by kernel_rfl)
 exact ⟨a0, a1, c0, c1, t0, t1, by simpa using World.var?_cell (g := 15) (by kernel_rfl) hv0 0, by simpa using World.var?_cell (g := 16) (by kernel_rfl) hv1 0, hne, hb0, hb1⟩
theorem two7_8 {W : World} (h : laidMetH Tryz.prog Rows.wrapNextRow.laid W) : Sn.Two W 2 3 := by
 have h4 : laidMet Tryz.prog [("deaddrop/member.errMany", Rows.laid_deaddrop_member_errMany), ("deaddrop/member.errRecord", Rows.laid_deaddrop_member_errRecord)] W := (laidMetH_iff.1 (laidMetH.filter (fun x => x.1 == "deaddrop/member.errMany" || x.1 == "deaddrop/member.errRecord") h)).1
 obtain ⟨a0, a1, s0, s1, c0, c1, t0, t1, hv0, hv1, hc0, hs0, hz0, hc1, hs1, hz1, hne, hb0, hb1⟩ := laid_sentinels2 h4 (g0 := 2) (g1 := 3) (ti := 72) (by kernel_rfl) (by kernel_rfl) (by kernel_rfl) (by kernel_rfl) Tryz.underlying72 row_err Tryz.underlying251 Tryz.underlying269 rfl rfl Tryz.underlying9 (by kernel_rfl) (by kernel_rfl)
 exact ⟨a0, a1, c0, c1, t0, t1, by simpa using World.var?_cell (g := 2) (by kernel_rfl) hv0 0, by simpa using World.var?_cell (g := 3) (by kernel_rfl) hv1 0, hne, hb0, hb1⟩
theorem two9_10 {W : World} (h : laidMetH Tryz.prog Rows.wrapNextRow.laid W) : Sn.Two W 4 5 := by
 have h4 : laidMet Tryz.prog [("deaddrop/member.errSeq", Rows.laid_deaddrop_member_errSeq), ("deaddrop/member.errPrev", Rows.laid_deaddrop_member_errPrev)] W := (laidMetH_iff.1 (laidMetH.filter (fun x => x.1 == "deaddrop/member.errSeq" || x.1 == "deaddrop/member.errPrev") h)).1
 obtain ⟨a0, a1, s0, s1, c0, c1, t0, t1, hv0, hv1, hc0, hs0, hz0, hc1, hs1, hz1, hne, hb0, hb1⟩ := laid_sentinels2 h4 (g0 := 4) (g1 := 5) (ti := 72) (by kernel_rfl) (by kernel_rfl) (by kernel_rfl) (by kernel_rfl) Tryz.underlying72 row_err Tryz.underlying251 Tryz.underlying269 rfl rfl Tryz.underlying9 (by kernel_rfl) (by kernel_rfl)
 exact ⟨a0, a1, c0, c1, t0, t1, by simpa using World.var?_cell (g := 4) (by kernel_rfl) hv0 0, by simpa using World.var?_cell (g := 5) (by kernel_rfl) hv1 0, hne, hb0, hb1⟩
theorem two11_12 {W : World} (h : laidMetH Tryz.prog Rows.wrapNextRow.laid W) : Sn.Two W 6 7 := by
 have h4 : laidMet Tryz.prog [("deaddrop/member.errFirst", Rows.laid_deaddrop_member_errFirst), ("deaddrop/member.errHave", Rows.laid_deaddrop_member_errHave)] W := (laidMetH_iff.1 (laidMetH.filter (fun x => x.1 == "deaddrop/member.errFirst" || x.1 == "deaddrop/member.errHave") h)).1
 obtain ⟨a0, a1, s0, s1, c0, c1, t0, t1, hv0, hv1, hc0, hs0, hz0, hc1, hs1, hz1, hne, hb0, hb1⟩ := laid_sentinels2 h4 (g0 := 6) (g1 := 7) (ti := 72) (by kernel_rfl) (by kernel_rfl) (by kernel_rfl) (by kernel_rfl) Tryz.underlying72 row_err Tryz.underlying251 Tryz.underlying269 rfl rfl Tryz.underlying9 (by kernel_rfl) (by kernel_rfl)
 exact ⟨a0, a1, c0, c1, t0, t1, by simpa using World.var?_cell (g := 6) (by kernel_rfl) hv0 0, by simpa using World.var?_cell (g := 7) (by kernel_rfl) hv1 0, hne, hb0, hb1⟩
theorem two13_14 {W : World} (h : laidMetH Tryz.prog Rows.wrapNextRow.laid W) : Sn.Two W 8 9 := by
 have h4 : laidMet Tryz.prog [("deaddrop/member.errNone", Rows.laid_deaddrop_member_errNone), ("deaddrop/member.errStay", Rows.laid_deaddrop_member_errStay)] W := (laidMetH_iff.1 (laidMetH.filter (fun x => x.1 == "deaddrop/member.errNone" || x.1 == "deaddrop/member.errStay") h)).1
 obtain ⟨a0, a1, s0, s1, c0, c1, t0, t1, hv0, hv1, hc0, hs0, hz0, hc1, hs1, hz1, hne, hb0, hb1⟩ := laid_sentinels2 h4 (g0 := 8) (g1 := 9) (ti := 72) (by kernel_rfl) (by kernel_rfl) (by kernel_rfl) (by kernel_rfl) Tryz.underlying72 row_err Tryz.underlying251 Tryz.underlying269 rfl rfl Tryz.underlying9 (by kernel_rfl) (by kernel_rfl)
 exact ⟨a0, a1, c0, c1, t0, t1, by simpa using World.var?_cell (g := 8) (by kernel_rfl) hv0 0, by simpa using World.var?_cell (g := 9) (by kernel_rfl) hv1 0, hne, hb0, hb1⟩
theorem et : Tryz.prog.globalNamed "errors.errorType" = some 0 := by kernel_rfl
theorem rt : (Tryz.prog.cutTypes.find? (·.1 == "internal/reflectlite.rtype")).map (·.2) = some 180 := by kernel_rfl
theorem one_error : ((List.range 281).filter fun t => Tryz.prog.rowNamed t [101, 114, 114, 111, 114]) = [72] := by kernel_rfl
theorem how_many : Tryz.prog.types.size = 281 := by kernel_rfl
theorem handle : typeHandle Tryz.prog 72 = .pointer (some ⟨22, 72, none⟩) := by kernel_rfl
theorem errT {W : World} (h : laidMetH Tryz.prog Rows.wrapNextRow.laid W) : W.cell? ⟨0, 0, none⟩ = some (.iface 180 (.agg #[.pointer (some ⟨22, 72, none⟩)])) := by
 have hm : ("errors.errorType", Rows.laid_errors_errorType) ∈ (Rows.wrapNextRow.laid.filter fun x => x.2.handleName?.isSome) := List.mem_filter.2 ⟨List.Mem.tail _ (List.Mem.tail _ (List.Mem.tail _ (List.Mem.tail _ (List.Mem.tail _ (List.Mem.head _))))), by simp [DataW.handleName?, Rows.laid_errors_errorType]⟩
 obtain ⟨n, u, t, hn, hu, ht, hr, hc⟩ := (laidMetH_iff.1 h).2 _ hm
 obtain rfl := Option.some.inj hn
 obtain rfl := Option.some.inj (rt.symm.trans hu)
 have hin : t ∈ [72] := by
  rw [← one_error]
  exact List.mem_filter.2 ⟨List.mem_range.2 (how_many ▸ ht), hr⟩
 obtain rfl := List.mem_singleton.1 hin
 rw [handle] at hc
 have := World.var?_cell et hc 0
 simpa using this
theorem tabs {W : World} (h : laidMetH Tryz.prog Rows.wrapNextRow.laid W) : Tabs W := by
 have gh1 : laidMet Tryz.prog [("deaddrop/sha.opening", Rows.laid_deaddrop_sha_opening)] W := (laidMetH_iff.1 (laidMetH.filter (fun x => x.1 == "deaddrop/sha.opening") h)).1
 have h1 : Lib.TabIs Tryz.prog W "deaddrop/sha.opening" .u32 [1779033703, 3144134277, 1013904242, 2773480762, 1359893119, 2600822924, 528734635, 1541459225] := Lib.tabIs_of_head (rest := []) (g := 1) (t := 158) (e := 127) (n := 8) (by kernel_rfl) (by kernel_rfl) Tryz.underlying158 Tryz.underlying127 (by kernel_rfl) (by kernel_rfl) gh1
 have gh2 : laidMet Tryz.prog [("deaddrop/sha.roundNumbers", Rows.laid_deaddrop_sha_roundNumbers)] W := (laidMetH_iff.1 (laidMetH.filter (fun x => x.1 == "deaddrop/sha.roundNumbers") h)).1
 have h2 : Lib.TabIs Tryz.prog W "deaddrop/sha.roundNumbers" .u32 [1116352408, 1899447441, 3049323471, 3921009573, 961987163, 1508970993, 2453635748, 2870763221, 3624381080, 310598401, 607225278, 1426881987, 1925078388, 2162078206, 2614888103, 3248222580, 3835390401, 4022224774, 264347078, 604807628, 770255983, 1249150122, 1555081692, 1996064986, 2554220882, 2821834349, 2952996808, 3210313671, 3336571891, 3584528711, 113926993, 338241895, 666307205, 773529912, 1294757372, 1396182291, 1695183700, 1986661051, 2177026350, 2456956037, 2730485921, 2820302411, 3259730800, 3345764771, 3516065817, 3600352804, 4094571909, 275423344, 430227734, 506948616, 659060556, 883997877, 958139571, 1322822218, 1537002063, 1747873779, 1955562222, 2024104815, 2227730452, 2361852424, 2428436474, 2756734187, 3204031479, 3329325298] := Lib.tabIs_of_head (rest := []) (g := 17) (t := 228) (e := 127) (n := 64) (by kernel_rfl) (by kernel_rfl) Tryz.underlying228 Tryz.underlying127 (by kernel_rfl) (by kernel_rfl) gh2
 have e1 : ∀ i, i < 8 → ([1779033703, 3144134277, 1013904242, 2773480762, 1359893119, 2600822924, 528734635, 1541459225] : List Int).getD i 0 = ((firstH.getD i 0).toNat : Int) := by decide
 have e2 : ∀ i, i < 64 → ([1116352408, 1899447441, 3049323471, 3921009573, 961987163, 1508970993, 2453635748, 2870763221, 3624381080, 310598401, 607225278, 1426881987, 1925078388, 2162078206, 2614888103, 3248222580, 3835390401, 4022224774, 264347078, 604807628, 770255983, 1249150122, 1555081692, 1996064986, 2554220882, 2821834349, 2952996808, 3210313671, 3336571891, 3584528711, 113926993, 338241895, 666307205, 773529912, 1294757372, 1396182291, 1695183700, 1986661051, 2177026350, 2456956037, 2730485921, 2820302411, 3259730800, 3345764771, 3516065817, 3600352804, 4094571909, 275423344, 430227734, 506948616, 659060556, 883997877, 958139571, 1322822218, 1537002063, 1747873779, 1955562222, 2024104815, 2227730452, 2361852424, 2428436474, 2756734187, 3204031479, 3329325298] : List Int).getD i 0 = ((konst.getD i 0).toNat : Int) := by decide +kernel
 have c1 : ∀ i, i < 8 → W.cell? ⟨1, i, none⟩ = some (w32 (firstH.getD i 0)) := fun i hi => by
  have := h1.cell (g := 1) (by kernel_rfl) i hi
  rw [e1 i hi] at this; exact this
 have c2 : ∀ i, i < 64 → W.cell? ⟨17, i, none⟩ = some (w32 (konst.getD i 0)) := fun i hi => by
  have := h2.cell (g := 17) (by kernel_rfl) i hi
  rw [e2 i hi] at this; exact this
 exact ⟨block_lt_of_cell (c2 0 (by decide)), c1, c2⟩
theorem pows {W : World} (h : laidMetH Tryz.prog Rows.wrapNextRow.laid W) : Lib.TabIs Tryz.prog W "internal/strconv.uint64pow10" .u64 Lib.pow10Tab := by
 have gh1 : laidMet Tryz.prog [("internal/strconv.uint64pow10", Rows.laid_internal_strconv_uint64pow10)] W := (laidMetH_iff.1 (laidMetH.filter (fun x => x.1 == "internal/strconv.uint64pow10") h)).1
 have h1 : Lib.TabIs Tryz.prog W "internal/strconv.uint64pow10" .u64 [1, 10, 100, 1000, 10000, 100000, 1000000, 10000000, 100000000, 1000000000, 10000000000, 100000000000, 1000000000000, 10000000000000, 100000000000000, 1000000000000000, 10000000000000000, 100000000000000000, 1000000000000000000, 10000000000000000000] := Lib.tabIs_of_head (rest := []) (g := 19) (t := 247) (e := 126) (n := 20) (by kernel_rfl) (by kernel_rfl) Tryz.underlying247 Tryz.underlying126 (by kernel_rfl) (by kernel_rfl) gh1
 have e : Lib.pow10Tab = [1, 10, 100, 1000, 10000, 100000, 1000000, 10000000, 100000000, 1000000000, 10000000000, 100000000000, 1000000000000, 10000000000000, 100000000000000, 1000000000000000, 10000000000000000, 100000000000000000, 1000000000000000000, 10000000000000000000] := by decide +kernel
 rw [e]; exact h1
theorem contract (H : Type) (enc : TypeId × Value → H) (W : World) (base : Nat) (args : Array Value) (ds gs : List (DataW H)) (before : List MemPlace)
  (hval0 : ∀ (j : Nat) t v, Tryz.f5.params[j]? = some t → args[j]? = some v → Value.okWide Tryz.prog W .any base t v)
  (hW : DataW.Whole enc Tryz.prog Tryz.f5.params.toList Rows.wrapNextSpec.vars false W args.toList ds gs before) (hL : laidMetH Tryz.prog Rows.wrapNextRow.laid W) :
  Calls Tryz.prog 5 args W fun e W' => ∃ v, e = .returned v ∧ Rows.wrapNextSpec.post enc Tryz.prog Tryz.f5 false true false false W args v W' := by
 have hval : ∀ (j : Nat) t v, Tryz.f5.params[j]? = some t → args[j]? = some v → Value.okWide Tryz.prog W .any base t v := hval0
 have hW' := hW
 obtain ⟨p, q, hA0, hV, rfl, hfz, hnd⟩ := hW
 have hA : DataW.TrodAll enc Tryz.prog W 0 (fun _ => true) true Tryz.f5.params.toList args.toList ds p := hA0
 rw [Tryz.params5] at hA hval
 obtain ⟨v0, vs0, d0, ds0, p0, q0, hargs, rfl, rfl, h0, r0⟩ := trodAll_cons hA
 obtain ⟨v1, vs1, d1, ds1, p1, q1, rfl, rfl, rfl, h1, r1⟩ := trodAll_cons r0
 obtain ⟨v2, vs2, d2, ds2, p2, q2, rfl, rfl, rfl, h2, r2⟩ := trodAll_cons r1
 obtain ⟨rfl, rfl, rfl⟩ := trodAll_nil r2
 obtain rfl : args = #[v0, v1, v2] := by cases args; simp_all
 obtain ⟨rfl, rfl⟩ := trodVars_none hV
 have k0 := h0
 have lt0 : ∀ x ∈ p0, x.block < W.heap.size := by obtain ⟨m, hm⟩ := k0; exact DataW.trod_lt m _ _ _ hm
 obtain ⟨a0, len0, cap0, rfl⟩ := okWide_slice Tryz.underlying54 (hval 0 54 v0 rfl rfl)
 obtain ⟨z0, w0⟩ : ∃ zs, IsRow .u8 W a0 len0 cap0 zs := by
  obtain ⟨fuel, hf⟩ := h0
  rcases open_ints Tryz.underlying54 Tryz.underlying5 (by kernel_rfl) hf with ⟨hcs, _⟩ | ⟨x, l, c, zs, hcs, _, hl, hm, hz, _, hcell, hwz⟩
  ·simp [Value.cells] at hcs
   obtain ⟨rfl, rfl, rfl⟩ := hcs
   exact ⟨[], .inl ⟨rfl, rfl, rfl, rfl⟩⟩
  ·simp [Value.cells] at hcs
   obtain ⟨rfl, rfl, rfl⟩ := hcs
   exact ⟨zs, .inr ⟨_, rfl, hl, hm, by simpa using hz, hcell, hwz⟩⟩
 obtain ⟨a1, rfl, rfl, rfl, w1⟩ := open_int Tryz.underlying5 (hval 1 5 v1 rfl rfl) h1
 obtain ⟨a2, rfl, rfl, rfl, w2⟩ := open_int Tryz.underlying3 (hval 2 3 v2 rfl rfl) h2
 clear hA0 hval0
 refine (walk a0 len0 cap0 z0 a1 a2 W w0 w1 w2 ⟨two0_1 hL, two2_3 hL, two4_5 hL, two5_6 hL, two7_8 hL, two9_10 hL, two11_12 hL, two13_14 hL⟩ (errT hL) (tabs hL) (pows hL)).mono fun e W' ⟨he, bel⟩ => ?_
 subst he
 exact ⟨_, rfl, _, _, _, [], _, [], hW', trodAll_mk1 (shut_bool Tryz.underlying4 _), (trodAll_cons_mk (Below.trod laidOut (by kernel_rfl) (of_decide_eq_true (by kernel_rfl)) k0 bel lt0) (trodAll_cons_mk (shut_int Tryz.underlying5 w1) (trodAll_cons_mk (shut_int Tryz.underlying3 w2) trodAll_mk0))), rfl, bel.frame _, fun h => by cases h⟩
def lay (cs : Array Value) : Obj → Obj
 | .cells _ t frozen => .cells cs t frozen
 | o => o
noncomputable def low : Nat := (World.holding Tryz.prog default ⟨#[], #[], []⟩).heap.size
noncomputable def laidWorld (os : Os) : World :=
 { World.holding Tryz.prog os ⟨#[.cells #[.string ⟨#[98, 101, 108, 111, 119, 32, 110, 111, 116, 104, 105, 110, 103]⟩] 269, .cells #[.string ⟨#[98, 101, 121, 111, 110, 100, 32, 116, 104, 101, 32, 108, 97, 115, 116, 32, 115, 117, 109]⟩] 269, .cells #[.string ⟨#[110, 111, 116, 32, 97, 115, 32, 108, 111, 110, 103, 32, 97, 115, 32, 97, 32, 112, 97, 105, 114, 32, 111, 102, 32, 107, 101, 121, 115]⟩] 269, .cells #[.string ⟨#[110, 111, 116, 32, 97, 115, 32, 108, 111, 110, 103, 32, 97, 115, 32, 97, 32, 110, 111, 110, 99, 101]⟩] 269, .cells #[.string ⟨#[115, 104, 111, 114, 116, 101, 114, 32, 116, 104, 97, 110, 32, 97, 32, 116, 97, 103]⟩] 269, .cells #[.string ⟨#[108, 111, 110, 103, 101, 114, 32, 116, 104, 97, 110, 32, 119, 104, 97, 116, 32, 105, 115, 32, 101, 118, 101, 114, 32, 115, 101, 97, 108, 101, 100]⟩] 269, .cells #[.string ⟨#[116, 104, 101, 32, 116, 97, 103, 32, 100, 111, 101, 115, 32, 110, 111, 116, 32, 102, 105, 116]⟩] 269, .cells #[.string ⟨#[109, 111, 114, 101, 32, 116, 104, 97, 110, 32, 97, 32, 99, 104, 97, 105, 110, 32, 109, 97, 121, 32, 104, 97, 118, 101]⟩] 269, .cells #[.string ⟨#[105, 116, 32, 109, 97, 121, 32, 110, 111, 116, 32, 98, 101]⟩] 269, .cells #[.string ⟨#[110, 111, 116, 32, 116, 104, 101, 32, 111, 110, 101, 32, 98, 101, 104, 105, 110, 100, 32, 116, 104, 101, 32, 111, 110, 101, 32, 97, 104, 101, 97, 100]⟩] 269, .cells #[.string ⟨#[97, 110, 111, 116, 104, 101, 114, 32, 114, 101, 99, 111, 114, 100, 39, 115, 32, 104, 97, 115, 104, 32, 116, 104, 97, 110, 32, 116, 104, 97, 116, 32, 111, 102, 32, 116, 104, 101, 32, 111, 110, 101, 32, 97, 104, 101, 97, 100]⟩] 269, .cells #[.string ⟨#[116, 104, 101, 32, 102, 105, 114, 115, 116, 32, 114, 101, 99, 111, 114, 100, 32, 97, 100, 100, 115, 32, 100, 101, 118, 105, 99, 101, 32, 48]⟩] 269, .cells #[.string ⟨#[97, 100, 100, 101, 100, 32, 119, 104, 105, 108, 101, 32, 105, 116, 32, 105, 115, 32, 97, 32, 109, 101, 109, 98, 101, 114]⟩] 269, .cells #[.string ⟨#[114, 101, 118, 111, 107, 101, 100, 32, 119, 104, 105, 108, 101, 32, 105, 116, 32, 105, 115, 32, 110, 111, 32, 109, 101, 109, 98, 101, 114]⟩] 269, .cells #[.string ⟨#[105, 116, 32, 115, 116, 97, 121, 115, 32, 102, 111, 114, 32, 103, 111, 111, 100]⟩] 269], #[], []⟩ with heap := ((((((((((((((((((((((World.holding Tryz.prog os ⟨#[.cells #[.string ⟨#[98, 101, 108, 111, 119, 32, 110, 111, 116, 104, 105, 110, 103]⟩] 269, .cells #[.string ⟨#[98, 101, 121, 111, 110, 100, 32, 116, 104, 101, 32, 108, 97, 115, 116, 32, 115, 117, 109]⟩] 269, .cells #[.string ⟨#[110, 111, 116, 32, 97, 115, 32, 108, 111, 110, 103, 32, 97, 115, 32, 97, 32, 112, 97, 105, 114, 32, 111, 102, 32, 107, 101, 121, 115]⟩] 269, .cells #[.string ⟨#[110, 111, 116, 32, 97, 115, 32, 108, 111, 110, 103, 32, 97, 115, 32, 97, 32, 110, 111, 110, 99, 101]⟩] 269, .cells #[.string ⟨#[115, 104, 111, 114, 116, 101, 114, 32, 116, 104, 97, 110, 32, 97, 32, 116, 97, 103]⟩] 269, .cells #[.string ⟨#[108, 111, 110, 103, 101, 114, 32, 116, 104, 97, 110, 32, 119, 104, 97, 116, 32, 105, 115, 32, 101, 118, 101, 114, 32, 115, 101, 97, 108, 101, 100]⟩] 269, .cells #[.string ⟨#[116, 104, 101, 32, 116, 97, 103, 32, 100, 111, 101, 115, 32, 110, 111, 116, 32, 102, 105, 116]⟩] 269, .cells #[.string ⟨#[109, 111, 114, 101, 32, 116, 104, 97, 110, 32, 97, 32, 99, 104, 97, 105, 110, 32, 109, 97, 121, 32, 104, 97, 118, 101]⟩] 269, .cells #[.string ⟨#[105, 116, 32, 109, 97, 121, 32, 110, 111, 116, 32, 98, 101]⟩] 269, .cells #[.string ⟨#[110, 111, 116, 32, 116, 104, 101, 32, 111, 110, 101, 32, 98, 101, 104, 105, 110, 100, 32, 116, 104, 101, 32, 111, 110, 101, 32, 97, 104, 101, 97, 100]⟩] 269, .cells #[.string ⟨#[97, 110, 111, 116, 104, 101, 114, 32, 114, 101, 99, 111, 114, 100, 39, 115, 32, 104, 97, 115, 104, 32, 116, 104, 97, 110, 32, 116, 104, 97, 116, 32, 111, 102, 32, 116, 104, 101, 32, 111, 110, 101, 32, 97, 104, 101, 97, 100]⟩] 269, .cells #[.string ⟨#[116, 104, 101, 32, 102, 105, 114, 115, 116, 32, 114, 101, 99, 111, 114, 100, 32, 97, 100, 100, 115, 32, 100, 101, 118, 105, 99, 101, 32, 48]⟩] 269, .cells #[.string ⟨#[97, 100, 100, 101, 100, 32, 119, 104, 105, 108, 101, 32, 105, 116, 32, 105, 115, 32, 97, 32, 109, 101, 109, 98, 101, 114]⟩] 269, .cells #[.string ⟨#[114, 101, 118, 111, 107, 101, 100, 32, 119, 104, 105, 108, 101, 32, 105, 116, 32, 105, 115, 32, 110, 111, 32, 109, 101, 109, 98, 101, 114]⟩] 269, .cells #[.string ⟨#[105, 116, 32, 115, 116, 97, 121, 115, 32, 102, 111, 114, 32, 103, 111, 111, 100]⟩] 269], #[], []⟩).heap).modify 12 (lay #[.iface 251 (.pointer (some ⟨low, 0, none⟩))])).modify 13 (lay #[.iface 251 (.pointer (some ⟨low + 1, 0, none⟩))])).modify 10 (lay #[.iface 251 (.pointer (some ⟨low + 2, 0, none⟩))])).modify 11 (lay #[.iface 251 (.pointer (some ⟨low + 3, 0, none⟩))])).modify 14 (lay #[.iface 251 (.pointer (some ⟨low + 4, 0, none⟩))])).modify 15 (lay #[.iface 251 (.pointer (some ⟨low + 5, 0, none⟩))])).modify 16 (lay #[.iface 251 (.pointer (some ⟨low + 6, 0, none⟩))])).modify 2 (lay #[.iface 251 (.pointer (some ⟨low + 7, 0, none⟩))])).modify 3 (lay #[.iface 251 (.pointer (some ⟨low + 8, 0, none⟩))])).modify 4 (lay #[.iface 251 (.pointer (some ⟨low + 9, 0, none⟩))])).modify 5 (lay #[.iface 251 (.pointer (some ⟨low + 10, 0, none⟩))])).modify 6 (lay #[.iface 251 (.pointer (some ⟨low + 11, 0, none⟩))])).modify 7 (lay #[.iface 251 (.pointer (some ⟨low + 12, 0, none⟩))])).modify 8 (lay #[.iface 251 (.pointer (some ⟨low + 13, 0, none⟩))])).modify 9 (lay #[.iface 251 (.pointer (some ⟨low + 14, 0, none⟩))])).modify 0 (lay #[.iface 180 (.agg #[.pointer (some ⟨22, 72, none⟩)])])).modify 20 (lay #[.int .u8 0, .int .u8 1, .int .u8 28, .int .u8 2, .int .u8 29, .int .u8 14, .int .u8 24, .int .u8 3, .int .u8 30, .int .u8 22, .int .u8 20, .int .u8 15, .int .u8 25, .int .u8 17, .int .u8 4, .int .u8 8, .int .u8 31, .int .u8 27, .int .u8 13, .int .u8 23, .int .u8 21, .int .u8 19, .int .u8 16, .int .u8 7, .int .u8 26, .int .u8 12, .int .u8 18, .int .u8 6, .int .u8 11, .int .u8 5, .int .u8 10, .int .u8 9])).modify 21 (lay #[.int .u8 0, .int .u8 1, .int .u8 56, .int .u8 2, .int .u8 57, .int .u8 49, .int .u8 28, .int .u8 3, .int .u8 61, .int .u8 58, .int .u8 42, .int .u8 50, .int .u8 38, .int .u8 29, .int .u8 17, .int .u8 4, .int .u8 62, .int .u8 47, .int .u8 59, .int .u8 36, .int .u8 45, .int .u8 43, .int .u8 51, .int .u8 22, .int .u8 53, .int .u8 39, .int .u8 33, .int .u8 30, .int .u8 24, .int .u8 18, .int .u8 12, .int .u8 5, .int .u8 63, .int .u8 55, .int .u8 48, .int .u8 27, .int .u8 60, .int .u8 41, .int .u8 37, .int .u8 16, .int .u8 46, .int .u8 35, .int .u8 44, .int .u8 21, .int .u8 52, .int .u8 32, .int .u8 23, .int .u8 11, .int .u8 54, .int .u8 26, .int .u8 40, .int .u8 15, .int .u8 34, .int .u8 20, .int .u8 31, .int .u8 10, .int .u8 25, .int .u8 14, .int .u8 19, .int .u8 9, .int .u8 13, .int .u8 8, .int .u8 7, .int .u8 6])).modify 1 (lay #[.int .u32 1779033703, .int .u32 3144134277, .int .u32 1013904242, .int .u32 2773480762, .int .u32 1359893119, .int .u32 2600822924, .int .u32 528734635, .int .u32 1541459225])).modify 17 (lay #[.int .u32 1116352408, .int .u32 1899447441, .int .u32 3049323471, .int .u32 3921009573, .int .u32 961987163, .int .u32 1508970993, .int .u32 2453635748, .int .u32 2870763221, .int .u32 3624381080, .int .u32 310598401, .int .u32 607225278, .int .u32 1426881987, .int .u32 1925078388, .int .u32 2162078206, .int .u32 2614888103, .int .u32 3248222580, .int .u32 3835390401, .int .u32 4022224774, .int .u32 264347078, .int .u32 604807628, .int .u32 770255983, .int .u32 1249150122, .int .u32 1555081692, .int .u32 1996064986, .int .u32 2554220882, .int .u32 2821834349, .int .u32 2952996808, .int .u32 3210313671, .int .u32 3336571891, .int .u32 3584528711, .int .u32 113926993, .int .u32 338241895, .int .u32 666307205, .int .u32 773529912, .int .u32 1294757372, .int .u32 1396182291, .int .u32 1695183700, .int .u32 1986661051, .int .u32 2177026350, .int .u32 2456956037, .int .u32 2730485921, .int .u32 2820302411, .int .u32 3259730800, .int .u32 3345764771, .int .u32 3516065817, .int .u32 3600352804, .int .u32 4094571909, .int .u32 275423344, .int .u32 430227734, .int .u32 506948616, .int .u32 659060556, .int .u32 883997877, .int .u32 958139571, .int .u32 1322822218, .int .u32 1537002063, .int .u32 1747873779, .int .u32 1955562222, .int .u32 2024104815, .int .u32 2227730452, .int .u32 2361852424, .int .u32 2428436474, .int .u32 2756734187, .int .u32 3204031479, .int .u32 3329325298])).modify 19 (lay #[.int .u64 1, .int .u64 10, .int .u64 100, .int .u64 1000, .int .u64 10000, .int .u64 100000, .int .u64 1000000, .int .u64 10000000, .int .u64 100000000, .int .u64 1000000000, .int .u64 10000000000, .int .u64 100000000000, .int .u64 1000000000000, .int .u64 10000000000000, .int .u64 100000000000000, .int .u64 1000000000000000, .int .u64 10000000000000000, .int .u64 100000000000000000, .int .u64 1000000000000000000, .int .u64 10000000000000000000]) }
theorem laid_met (os : Os) : laidMetH Tryz.prog Rows.wrapNextRow.laid ((laidWorld os).forCall (fun _ _ => 0) ⟨#[], #[.slice none 0 0, .int .u8 0, .int .i64 0], []⟩).memory :=
 laidMetH_of_parts (laidMet_of_run' 8 (by kernel_rfl) (by kernel_rfl)) (by kernel_rfl)
theorem reads (os : Os) {H : Type} (enc : TypeId × Value → H) : ∃ places, DataW.whole enc Tryz.prog ((laidWorld os).forCall (fun _ _ => 0) ⟨#[], #[.slice none 0 0, .int .u8 0, .int .i64 0], []⟩).memory Tryz.f5.params.toList Rows.wrapNextSpec.vars false (show Array Value from #[.slice none 0 0, .int .u8 0, .int .i64 0]).toList 8 = some ([.nil, .lit (.int .u8 0), .lit (.int .i64 0)], [], places) :=
 ⟨[], by kernel_rfl⟩
theorem lifted (os : Os) (started : os.Started) (H : Type) (enc : TypeId × Value → H) (F : Stop.Interp) :
  ReturnsInHanded {} Tryz.checked os 5 .any ((OpenSpec.ofChange Rows.wrapNextSpec).preRow enc Tryz.prog Tryz.f5 Rows.wrapNextRow.domain false Rows.wrapNextRow.laid) (((OpenSpec.ofChange Rows.wrapNextSpec).at F).post enc Tryz.prog Tryz.f5 false true false false) := by
 obtain ⟨places, hx⟩ := reads os enc
 refine returnsInHanded_of_row (C := Tryz.checked) (s := OpenSpec.ofChange Rows.wrapNextSpec) own started (by kernel_rfl) Tryz.func5
  (witness_row_at (enc := enc) (C := Tryz.checked) false (laidWorld os) #[.slice none 0 0, .int .u8 0, .int .i64 0] rfl (by kernel_rfl) (by kernel_rfl) (by kernel_rfl)
   (OpenSpec.preRow_of_cond 8 hx (by kernel_rfl) (fun k hk => by cases hk) (by kernel_rfl) (laid_met os))) ?_
 intro W base args ds gs before hval hW _ _ _ hL _ _
 exact contract H enc W base args ds gs before hval hW hL
theorem said : Rows.WrapNextSaid :=
 OpenClaim.holds_of_cond 5 Tryz.f5 rfl rfl rfl rfl rfl rfl rfl ⟨rfl, rfl, rfl, rfl, rfl⟩ rfl rfl rfl rfl rfl (by kernel_rfl) Tryz.func5 (by kernel_rfl)
  (of_decide_eq_true (by kernel_rfl)) (by unfold Func.isWrapper; first | (rw [if_pos (by decide +kernel)]; kernel_rfl) | (rw [if_neg (by decide +kernel)]; exact ⟨rfl, rfl⟩))
  (fun os started H enc _ F => by rw [OpenClaim.pre_eq_preRow]; exact lifted os started H enc F)
theorem plain (f : FuncId) (fn : Func) (hf : Tryz.pinned.checked.prog.funcNamed "deaddrop/deaddroplaw17.WrapNext" = some f) (hfn : Tryz.pinned.checked.prog.funcs[f]? = some fn) :
  true = Tryz.pinned.checked.prog.looks [] ∧ ∀ (j : Nat) t, fn.params[j]? = some t → Tryz.pinned.checked.prog.wantsStandIn t = false := by
 obtain rfl : f = 5 := Option.some.inj ((show Tryz.prog.funcNamed "deaddrop/deaddroplaw17.WrapNext" = some 5 by kernel_rfl).symm.trans hf) |>.symm
 obtain rfl : fn = Tryz.f5 := (Option.some.inj (Tryz.func5.symm.trans hfn)).symm
 refine ⟨by kernel_rfl, fun j t ht => ?_⟩
 have hall : (Tryz.f5.params.toList.all fun u => !Tryz.prog.wantsStandIn u) = true := by kernel_rfl
 have hm : t ∈ Tryz.f5.params.toList := by simpa using Array.mem_of_getElem? ht
 exact (show Tryz.prog.wantsStandIn t = false by simpa using List.all_eq_true.1 hall t hm)
theorem card : Rows.WrapNextCardSaid :=
 Claim7.holds_tied_plain_at .later [] _ _ _ _ said (fun _ h => by cases h) (by kernel_rfl) (fun _ h => by cases h) wrapNext_row_tie rfl ⟨rfl, rfl⟩ (by kernel_rfl) rfl plain (by kernel_rfl)
#print axioms card
end Go.Proofs.YtpcjbjpofcdjeaaGreatDoor.wrapNext
