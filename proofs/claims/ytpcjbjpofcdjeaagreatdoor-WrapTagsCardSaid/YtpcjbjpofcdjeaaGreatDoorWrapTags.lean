/-
 Proved: whatever values of its parameters' types it is called with, deaddroplaw17.WrapTags returns true, and each argument reads behind the call as it read before; the listed package-level variables being what the program's own text lays (the card ties them).
 Conditions: none but those of the card itself.
-/
import Derived.Test.YtpcjbjpofcdjeaaGreatDoorCards
import Derived.Test.YtpcjbjpofcdjeaaGreatDoorTie
import Derived.WalkKit
import Derived.ProofKit
import Derived.OpenShut
import Derived.ShutString
import Derived.Below
import Derived.ChangeOld
import Derived.Deep.DeepHandedRow
import Derived.LaidSub
import Derived.LaidHandle
import Derived.LaidLaws
import Derived.RowKitTokens
import Derived.Stop.LaidTwo
import Derived.Lib.LaidTab
import Derived.Lib.ItoaNum
import Derived.Test.YtpcjbjpofcdjeaaGreatDoorWcLog
import Derived.Test.YtpcjbjpofcdjeaaGreatDoorWcAwake
import Derived.Test.YtpcjbjpofcdjeaaGreatDoorWcOpen
import Derived.Test.YtpcjbjpofcdjeaaGreatDoorWcMake
import Derived.Test.YtpcjbjpofcdjeaaGreatDoorWcT
import Derived.Test.YtpcjbjpofcdjeaaGreatDoorMbE
import Derived.Test.YtpcjbjpofcdjeaaGreatDoorWcRefM
import Derived.Test.YtpcjbjpofcdjeaaGreatDoorMbRefP
import Derived.Test.YtpcjbjpofcdjeaaGreatDoorKyA
import Derived.Test.YtpcjbjpofcdjeaaGreatDoorCc
import Derived.Test.YtpcjbjpofcdjeaaGreatDoorTdA
set_option linter.unusedVariables false
set_option maxHeartbeats 40000000
set_option maxRecDepth 100000
namespace Go.Proofs.YtpcjbjpofcdjeaaGreatDoor.wrapTags
open Go.ChangeShapes Go.WideShapes Go.ChangeAt Go.RowKit
open Go.ChangeMaps (open_string shut_string)
open Mm Hh Dt Td Vw Wd Mb Me Ro Ky Wc Go.Proofs.YtpcjbjpofcdjeaaGreatDoor
theorem own : ownKnob Tryz.prog.godebug = none := by kernel_rfl
theorem laidOut : laidOutB Tryz.prog = true := by kernel_rfl
def IsRow (k : IntKind) (w : World) (a : Option Addr) (len cap : Nat) (zs : List Int) : Prop :=
 (a = none ∧ len = 0 ∧ cap = 0 ∧ zs = []) ∨
 ∃ x, a = some x ∧ len ≤ cap ∧ cap ≤ maxLen ∧ zs.length = cap ∧ (∀ i, i < zs.length → w.cell? (x.add i) = some (.int k (zs.getD i 0))) ∧ ∀ n ∈ zs, (Lit.int k n).wf = true
attribute [local go_sem] Td.upon_value Td.upon_skip Td.upon_enter Td.upon_row Td.look_tmp Td.look_const Td.look_func Td.look_global
theorem u8_of {a : Int} (h : (Lit.int .u8 a).wf = true) : 0 ≤ a ∧ a ≤ 255 := by
 have h1 : IntKind.u8.min = 0 := by decide
 have h2 : IntKind.u8.max = 255 := by decide
 simp only [Lit.wf, h1, h2, Bool.and_eq_true, decide_eq_true_eq] at h
 exact h
theorem u8n_of {w : World} {a : Option Addr} {len cap : Nat} {zs : List Int}
  (h : (a = none ∧ len = 0 ∧ cap = 0 ∧ zs = []) ∨ ∃ x, a = some x ∧ len ≤ cap ∧ cap ≤ maxLen ∧ zs.length = cap ∧ (∀ i, i < zs.length → w.cell? (x.add i) = some (.int .u8 (zs.getD i 0))) ∧ ∀ n ∈ zs, (Lit.int .u8 n).wf = true) :
  U8N w a len ((zs.take len).map Int.toNat) := by
 rcases h with ⟨rfl, rfl, rfl, rfl⟩ | ⟨x, rfl, hl, hc, hz, hcell, hwf⟩
 ·exact ⟨rfl, fun h => absurd h (by omega)⟩
 ·refine ⟨by rw [List.length_map, List.length_take]; omega, fun h0 => ?_⟩
  obtain ⟨b, o, sp⟩ := x
  have c0 := hcell 0 (by omega)
  cases sp with
  | some sp =>
   exfalso
   simp only [Addr.add, World.cell?] at c0
   split at c0 <;> simp at c0
  | none =>
   refine ⟨b, o, rfl, ?_, fun i x hx => ?_⟩
   ·have := block_lt_of_cell c0
    simpa [Addr.add] using this
   ·rw [List.getElem?_map, List.getElem?_take] at hx
    split at hx
    ·obtain ⟨z, hz2, rfl⟩ := Option.map_eq_some_iff.1 hx
     have hin := (List.getElem?_eq_some_iff.1 hz2).1
     have ci := hcell i hin
     have hadd : (⟨b, o, none⟩ : Addr).add i = ⟨b, o + i, none⟩ := by unfold Addr.add; split <;> simp_all
     rw [hadd, List.getD_eq_getElem?_getD, hz2] at ci
     have hv := hwf z (List.mem_of_getElem? hz2)
     have hb : 0 ≤ z ∧ z ≤ 255 := by
      have h1 : IntKind.u8.min = 0 := by decide
      have h2 : IntKind.u8.max = 255 := by decide
      simp only [Lit.wf, h1, h2, Bool.and_eq_true, decide_eq_true_eq] at hv
      exact hv
     refine ⟨by omega, ?_⟩
     rw [show ((z.toNat : Nat) : Int) = z by omega]
     exact ci
    ·cases hx
theorem bx_two {w : World} {g h : Nat} (x : Sn.Two w g h) : Bx.BE w g ∧ Bx.BE w h := by
 obtain ⟨a0, a1, c0, c1, t0, t1, h0, h1, hne, hb0, hb1⟩ := x
 exact ⟨⟨a0, c0, t0, h0, hb0⟩, ⟨a1, c1, t1, h1, hb1⟩⟩
theorem allr {w : World} (hE : Sn.Two w 12 13 ∧ Sn.Two w 10 11 ∧ Sn.Two w 14 15 ∧ Sn.Two w 15 16 ∧ Sn.Two w 2 3 ∧ Sn.Two w 4 5 ∧ Sn.Two w 6 7 ∧ Sn.Two w 8 9) (hT : ErrT w) (hS : Tabs w) (hP : Lib.TabIs Tryz.prog w "internal/strconv.uint64pow10" .u64 Lib.pow10Tab) : AllR w :=
 ⟨⟨hS, hE.1, hP⟩, ⟨(bx_two hE.2.1).1, (bx_two hE.2.1).2, (bx_two hE.2.2.1).1, (bx_two hE.2.2.1).2, (bx_two hE.2.2.2.1).2⟩, Me.MErrs.of hE.2.2.2.2, hT⟩
theorem bytes_sz (l : List UInt8) (n : Nat) : (⟨(Cc.bytesS l n).toArray⟩ : ByteArray).size = n := by rw [← Cc.len_data, Cc.ba, Cc.bytesS_len]
theorem walk (a0 : Option Addr) (len0 cap0 : Nat) (z0 : List Int) (a1 : Int) (a2 : Int) (w : World) (w0 : IsRow .u8 w a0 len0 cap0 z0) (w1 : (Lit.int .u8 a1).wf = true) (w2 : (Lit.int .u8 a2).wf = true) (hE : Sn.Two w 12 13 ∧ Sn.Two w 10 11 ∧ Sn.Two w 14 15 ∧ Sn.Two w 15 16 ∧ Sn.Two w 2 3 ∧ Sn.Two w 4 5 ∧ Sn.Two w 6 7 ∧ Sn.Two w 8 9) (hT : w.cell? ⟨0, 0, none⟩ = some (.iface 180 (.agg #[.pointer (some ⟨22, 72, none⟩)]))) (hS : Tabs w) (hP : Lib.TabIs Tryz.prog w "internal/strconv.uint64pow10" .u64 Lib.pow10Tab) :
  Calls Tryz.prog 8 #[.slice a0 len0 cap0, .int .u8 a1, .int .u8 a2] w fun e w' => e = .returned (.bool true) ∧ Below w.heap.size w w' := by
 obtain ⟨n1, n1'⟩ := u8_of w1
 obtain ⟨n2, n2'⟩ := u8_of w2
 have hR : AllR w := allr hE hT hS hP
 have HAw : Hid (∀ W, w.grownBy W none → Calls Tryz.prog 11 #[] W fun e w' => e = .returned (.bool true) ∧ W.grownBy w' none) := fun W hW => awake17_any W (hR.keep hW)
 have hu := u8n_of w0
 obtain ⟨ns, hns⟩ := nmd ((z0.take len0).map Int.toNat)
 rw [hns] at hu
 obtain ⟨hb0, hl0, _⟩ := Cc.holds_of_row w0
 have hnl : len0 ≤ 9223372036854775807 := hl0
 by_cases h7 : len0 ≤ 7
 ·have d1 : decide (7 < len0) = false := dcF
  have d2 : decide ((7 : Int) < (len0 : Int)) = false := dcF
  obtain ⟨s, hs⟩ : ∃ s : ByteArray, (⟨#[115, 101, 99, 114, 101, 116]⟩ : ByteArray) = s := ⟨_, rfl⟩
  obtain ⟨m, hm⟩ : ∃ m : ByteArray, (⟨#[109, 97, 115, 116, 101, 114]⟩ : ByteArray) = m := ⟨_, rfl⟩
  have hss : s.size = 6 := by rw [← hs]; rfl
  have hms : m.size = 6 := by rw [← hm]; rfl
  have HLg : Hid (Calls Tryz.prog 25 #[.string ⟨#[115, 101, 99, 114, 101, 116]⟩, .string ⟨#[109, 97, 115, 116, 101, 114]⟩, .slice a0 len0 cap0] w fun e w' => ∃ A c', e = .returned (.slice A (logK s m ns).length c') ∧ LogL w' A (logK s m ns).length (logK s m ns) ∧ (logK s m ns).length ≤ c' ∧ w.grownBy w' none) := by
   have h := log17_any s m a0 len0 cap0 ns w (by omega) (by omega) hu (by omega)
   rw [hs, hm]
   exact h
  have Hs9 := Lib.hid hs
  have Hm9 := Lib.hid hm
  clear hs hm
  have HRk := Lib.hid hR
  obtain ⟨p, hp⟩ := nmd (a1.tmod 2)
  have hp2 : 0 ≤ p ∧ p ≤ 1 := by rw [← hp, Int.tmod_eq_emod_of_nonneg n1]; omega
  obtain ⟨q, hq⟩ := nmd (a2.tmod 4)
  have hq2 : 0 ≤ q ∧ q ≤ 3 := by rw [← hq, Int.tmod_eq_emod_of_nonneg n2]; omega
  obtain ⟨K, hK⟩ := nmd (1 + p)
  obtain ⟨D, hD⟩ := nmd (1 + q)
  have u1 : IntKind.i64.wrap a1 = a1 := by rw [IntKind.wrap_i64]; omega
  have u2 : IntKind.i64.wrap p = p := by rw [IntKind.wrap_i64]; omega
  have u3 : IntKind.i64.wrap K = K := by rw [IntKind.wrap_i64]; omega
  have u4 : IntKind.i64.wrap a2 = a2 := by rw [IntKind.wrap_i64]; omega
  have u5 : IntKind.i64.wrap q = q := by rw [IntKind.wrap_i64]; omega
  have u6 : IntKind.i64.wrap D = D := by rw [IntKind.wrap_i64]; omega
  clear w0 w1 w2 hE hT hS hP hR hu hns hb0 hl0 hnl h7 n1 n1' n2 n2' hp2 hq2
  go_enter Tryz.func8, Tryz.ntmps8
  go_wp2_with fail
  refine HLg.out.mono ?_
  rintro e v1 ⟨A, c9, rfl, hLL, hle, g1⟩
  have hch := log_chain s m ns
  have hnx := log_nexts s m ns
  have h1N : (logK s m ns).length = 1 + min 7 ns.length := log_len s m ns
  obtain ⟨C, hC⟩ := nmd (logK s m ns)
  rw [hC] at hLL hle hch hnx h1N ⊢
  obtain ⟨N, hN⟩ := nmd (C.length)
  rw [hN] at hLL hle h1N ⊢
  have HN1 : Hid (1 ≤ N ∧ N ≤ 8) := ⟨by omega, by omega⟩
  have HN := Lib.hid hN
  have HG1 := Lib.hid (gb_none (gb_refl w none) g1)
  have HL : Hid (∀ W, v1.grownBy W none → LogL W A N C) := fun W hW => hLL.keep hW
  have HCh : Hid (ChainR C) := hch
  have HNx : Hid (Nexts s m C) := hnx
  have Hle := Lib.hid hle
  have hmk := fun W (hW : v1.grownBy W none) => pMake_any s m A N c9 C K D W (hLL.keep hW) (by omega) hle (good_small hch.2) (by omega) (by omega) (HRk.out.keep (gb_none HG1.out hW))
  have hm0 := fun W (hW : v1.grownBy W none) => pMake_any s m none 0 0 [] 1 0 W (LogL.none _ _) (by decide) (by decide) (fun r hr => by cases hr) (by omega) (by omega) (HRk.out.keep (gb_none HG1.out hW))
  have hNl : C.length = N := hN
  by_cases he : deedE C K D = 0
  ·obtain ⟨R2, hR2⟩ := nmd (nextR s m C K D)
   obtain ⟨R1, hR1⟩ := nmd (firstK s m)
   have HMk : Hid (∀ W, v1.grownBy W none → Calls Tryz.prog 12 #[.string ⟨#[115, 101, 99, 114, 101, 116]⟩, .string ⟨#[109, 97, 115, 116, 101, 114]⟩, .slice A N c9, .int .i64 K, .int .i64 D] W (MadeIs R2 0 W)) := fun W hW => by
    have h := hmk W hW
    rw [he, show madeR s m C K D = R2 from (if_pos he).trans hR2] at h
    rw [Hs9.out, Hm9.out]
    exact h
   have HM0 : Hid (∀ W, v1.grownBy W none → Calls Tryz.prog 12 #[.string ⟨#[115, 101, 99, 114, 101, 116]⟩, .string ⟨#[109, 97, 115, 116, 101, 114]⟩, .slice none 0 0, .int .i64 1, .int .i64 0] W (MadeIs R1 0 W)) := fun W hW => by
    have h := hm0 W hW
    rw [first_deed, show madeR s m [] 1 0 = R1 from (if_pos first_deed).trans hR1] at h
    rw [Hs9.out, Hm9.out]
    exact h
   obtain ⟨E9, hE9⟩ := nmd (Ky.epochB s (N : Int))
   have hes : E9.size ≤ 1048576 := by rw [← hE9]; exact Nat.le_trans (Nat.le_of_eq (epoch_size _ _)) (by decide)
   have hmay : MayR R2 := by rw [← hR2]; exact next_may s m he
   have hwr : R2.wraps.length ≤ 1099511627776 := by have := (may_small hmay).1; omega
   have htg : tagR E9 R2 = R2.tag := by rw [← hE9, ← hR2, ← hN]; exact next_tag s m he (by omega) (.inl rfl)
   have htn : tagR E9 (noTag R2) = R2.tag := by rw [← hE9, ← hR2, ← hN]; exact next_tag s m he (by omega) (.inr rfl)
   have ht16 : R2.tag.size = 16 := by rw [← htg]; exact tagR_size hmay
   obtain ⟨r, hr, hlast⟩ := last_at2 hN (by omega)
   have hpv : hashB r = R2.prev := by rw [← hR2, ← hlast]; rfl
   have hmayr := good_may hch.2 (List.mem_of_getElem? hr)
   have hwl9 : r.wraps.length ≤ 1099511627776 := by have := (may_small hmayr).1; omega
   obtain ⟨J, hJ⟩ := nmd (N - 1)
   rw [hJ] at hr
   have HJ : Hid ((N : Int) - 1 = (J : Int) ∧ (J : Int) < (N : Int) ∧ IntKind.i64.wrap ((N : Int) - 1) = (J : Int) ∧ IntKind.i64.wrap (J : Int) = (J : Int)) := ⟨by omega, by omega, by rw [IntKind.wrap_i64]; omega, by rw [IntKind.wrap_i64]; omega⟩
   obtain ⟨g, oo, hA, hgl, RA, rc, z0, z1, z2, z3, z4, z5, hwl, hrc⟩ := log_at hLL hr
   subst hA
   have q1 : (R1.tag.toList == []) = true := by rw [← hR1]; exact str_none rfl
   have q2 : (R1.prev.toList == []) = true := by rw [← hR1]; exact str_none rfl
   have q3 : (R2.tag.toList == R2.tag.toList) = true := beq_self_eq_true _
   have q4 : (R2.prev.toList == R2.prev.toList) = true := beq_self_eq_true _
   have q5 : ((R2.tag.size : Int) == 16) = true := eq_yes (by omega)
   have HEpA : Hid (∀ W, Calls Tryz.prog 30 #[.string ⟨#[115, 101, 99, 114, 101, 116]⟩, .int .i64 (N : Int)] W fun e w' => e = .returned (.string E9) ∧ W.grownBy w' none) := fun W => by
    rw [Hs9.out, ← hE9]
    exact Ky.refEpoch_any s (N : Int) W (by omega) (by omega) (by omega)
   have HHA : Hid (∀ W, WL W RA r.wraps.length r.wraps → Calls Tryz.prog 33 #[.agg #[.int .i64 r.seq, .string r.prev, .int .i64 r.kind, .int .i64 r.dev, .slice RA r.wraps.length rc, .string r.tag]] W fun e w' => e = .returned (.string R2.prev) ∧ W.grownBy w' none) := fun W hw => by
    rw [← hpv]
    exact refHash_any r RA rc W hw hwl9
   have HTA : Hid (∀ A1 c1 W, WL W A1 R2.wraps.length R2.wraps → w.grownBy W none → Calls Tryz.prog 20 #[.string E9, .agg #[.int .i64 R2.seq, .string R2.prev, .int .i64 R2.kind, .int .i64 R2.dev, .slice A1 R2.wraps.length c1, .string ⟨#[]⟩]] W fun e w' => e = .returned (.string R2.tag) ∧ W.grownBy w' none) := fun A1 c1 W hw hW => by
    have h := pTag_any E9 (noTag R2) A1 c1 W hw hwr hes (HRk.out.keep hW).1.1
    rw [htn] at h
    exact h
   have HTB : Hid (∀ A1 c1 W, WL W A1 R2.wraps.length R2.wraps → w.grownBy W none → Calls Tryz.prog 20 #[.string E9, .agg #[.int .i64 R2.seq, .string R2.prev, .int .i64 R2.kind, .int .i64 R2.dev, .slice A1 R2.wraps.length c1, .string R2.tag]] W fun e w' => e = .returned (.string R2.tag) ∧ W.grownBy w' none) := fun A1 c1 W hw hW => by
    have h := pTag_any E9 R2 A1 c1 W hw hwr hes (HRk.out.keep hW).1.1
    rw [htg] at h
    exact h
   have HZA : Hid (∀ W, v1.grownBy W none → (W.cell? ⟨g, oo + J * 6, none⟩ = some (.int .i64 r.seq) ∧ W.cell? ⟨g, oo + J * 6 + 1, none⟩ = some (.string r.prev) ∧ W.cell? ⟨g, oo + J * 6 + 2, none⟩ = some (.int .i64 r.kind) ∧ W.cell? ⟨g, oo + J * 6 + 3, none⟩ = some (.int .i64 r.dev) ∧ W.cell? ⟨g, oo + J * 6 + 4, none⟩ = some (.slice RA r.wraps.length rc) ∧ W.cell? ⟨g, oo + J * 6 + 5, none⟩ = some (.string r.tag)) ∧ WL W RA r.wraps.length r.wraps) := fun W hW => by
    have hb := hW.block g hgl (by simp)
    exact ⟨⟨(World.cell?_of_block (a := ⟨g, _, none⟩) hb).trans z0, (World.cell?_of_block (a := ⟨g, _, none⟩) hb).trans z1, (World.cell?_of_block (a := ⟨g, _, none⟩) hb).trans z2, (World.cell?_of_block (a := ⟨g, _, none⟩) hb).trans z3, (World.cell?_of_block (a := ⟨g, _, none⟩) hb).trans z4, (World.cell?_of_block (a := ⟨g, _, none⟩) hb).trans z5⟩, hwl.keep hW⟩
   clear hLL hle g1 hch hnx h1N hC hN hNl hmk hm0 he hR1 hE9 hes hmay hwr htg htn ht16 hr hlast hpv hmayr hwl9 hJ hgl z0 z1 z2 z3 z4 z5 hwl hrc hss hms hR2 HL HCh HNx HN HN1 Hle HLg
   go_wp2_with fail
   refine (HMk.out v1 (gb_refl _ _)).mono ?_
   rintro e v2 ⟨A1, c1, rfl, hw1, hc1, f2⟩
   obtain ⟨b2, hb2⟩ := nmd (v2.heap.size)
   obtain ⟨W2, hW2⟩ := nmd (v2.alloc (.cells #[.int .i64 R2.seq, .string R2.prev, .int .i64 R2.kind, .int .i64 R2.dev, .slice A1 R2.wraps.length c1, .string R2.tag] 25))
   obtain ⟨GW2, HXW2⟩ := rec_box hb2 hW2 hw1
   have HG2 := Lib.hid (gb_none f2 GW2)
   have HW2 := Lib.hid hW2
   clear hw1 hc1 f2 GW2 hW2 HMk u1 u2 u3 u4 u5 u6 d1 d2 hp hq hK hD
   go_upto_region 5 with fail
   rw [HW2.out]
   clear hb2 HW2
   go_wp2_with fail
   refine (lnum_any _ _).mono ?_
   rintro e _ ⟨rfl, rfl⟩
   go_wp2_with fail
   refine (HM0.out W2 HG2.out).mono ?_
   rintro e v3 ⟨A3, c3, rfl, hw3, hc3, f3⟩
   obtain ⟨b3, hb3⟩ := nmd (v3.heap.size)
   obtain ⟨W3, hW3⟩ := nmd (v3.alloc (.cells #[.int .i64 R1.seq, .string R1.prev, .int .i64 R1.kind, .int .i64 R1.dev, .slice A3 R1.wraps.length c3, .string R1.tag] 25))
   obtain ⟨GW3, HXW3⟩ := rec_box hb3 hW3 hw3
   have HG3 := Lib.hid (gb_none f3 GW3)
   have HW3 := Lib.hid hW3
   clear hw3 hc3 f3 GW3 hW3 HM0
   go_upto_region 8 with fail
   rw [HW3.out]
   clear hb3 HW3
   obtain ⟨⟨y0, y1, y2, y3, y4, y5⟩, hwz⟩ := HXW2.out W3 HG3.out
   obtain ⟨b4, hb4⟩ := nmd (W3.heap.size)
   obtain ⟨W4, hW4⟩ := nmd (W3.alloc (.cells #[.int .i64 R2.seq, .string R2.prev, .int .i64 R2.kind, .int .i64 R2.dev, .slice A1 R2.wraps.length c1, .string R2.tag] 25))
   have hr4 : Row W4 b4 25 #[.int .i64 R2.seq, .string R2.prev, .int .i64 R2.kind, .int .i64 R2.dev, .slice A1 R2.wraps.length c1, .string R2.tag] := by rw [← hW4, ← hb4]; exact Row.new _ _ _
   have g4 : W3.grownBy W4 none := by rw [← hW4]; exact gb_alloc (gb_refl _ _) _
   have HW4 := Lib.hid hW4
   clear hwz hW4
   go_upto_region 9 with fail
   rw [HW4.out]
   clear y0 y1 y2 y3 y4 y5 HW4
   have hr5 := hr4.set_ 5 (.string ⟨#[]⟩)
   obtain ⟨W5, hW5⟩ := nmd (W4.setCell ⟨b4, 5, none⟩ (.string ⟨#[]⟩))
   have g5 : W3.grownBy W5 none := by rw [← hW5]; exact gb_new g4 (gb_set1 _ _ _ _) (by omega)
   have v0 : W4.cell? ⟨b4, 5, none⟩ = some (.string R2.tag) := hr4.at_ (i := 5) rfl
   have v1' : W4.frozen? ⟨b4, 5, none⟩ = false := hr4.free 5
   rw [hW5] at hr5
   have HY4 : Hid (∀ W, W5.grownBy W none → W.cell? ⟨b4, 0, none⟩ = some (.int .i64 R2.seq) ∧ W.cell? ⟨b4, 1, none⟩ = some (.string R2.prev) ∧ W.cell? ⟨b4, 2, none⟩ = some (.int .i64 R2.kind) ∧ W.cell? ⟨b4, 3, none⟩ = some (.int .i64 R2.dev) ∧ W.cell? ⟨b4, 4, none⟩ = some (.slice A1 R2.wraps.length c1) ∧ W.cell? ⟨b4, 5, none⟩ = some (.string ⟨#[]⟩)) := fun W hW => by
    have h := hr5.kept hW (by simp)
    exact ⟨h.at_ (i := 0) rfl, h.at_ (i := 1) rfl, h.at_ (i := 2) rfl, h.at_ (i := 3) rfl, h.at_ (i := 4) rfl, h.at_ (i := 5) rfl⟩
   have HW5 := Lib.hid hW5
   have HG5 := Lib.hid (gb_none HG3.out g5)
   have HG15 := Lib.hid (gb_none HG2.out HG5.out)
   have HY2 : Hid (∀ W, W5.grownBy W none → RecC0 W b2 R2 A1 c1) := fun W hW => (HXW2.out W (gb_none HG5.out hW)).1
   have HY3 : Hid (∀ W, W5.grownBy W none → RecC0 W b3 R1 A3 c3) := fun W hW => (HXW3.out W (gb_none g5 hW)).1
   have HZ := Lib.hid fun W (hW : W5.grownBy W none) => (HZA.out W (gb_none HG15.out hW)).1
   have HHs := Lib.hid fun W (hW : W5.grownBy W none) => HHA.out W (HZA.out W (gb_none HG15.out hW)).2
   have HTa := Lib.hid fun W (hW : W5.grownBy W none) => HTA.out A1 c1 W (HXW2.out W (gb_none HG5.out hW)).2 (gb_none HG1.out (gb_none HG15.out hW))
   have HTb := Lib.hid fun W (hW : W5.grownBy W none) => HTB.out A1 c1 W (HXW2.out W (gb_none HG5.out hW)).2 (gb_none HG1.out (gb_none HG15.out hW))
   have HEp := Lib.hid fun W (_ : W5.grownBy W none) => HEpA.out W
   have HAx := Lib.hid fun W (hW : W5.grownBy W none) => HAw.out W (gb_none HG1.out (gb_none HG15.out hW))
   clear hr4 hr5 g4 g5 hW5 hb4 HXW2 HXW3 HZA HHA HTA HTB HEpA HAw
   go_upto_region 10 with fail
   rw [HW5.out]
   clear v0 v1' HW5
   apply wp_region_told (le := fun a b => a.grownBy b none) [isV _, isV _, isV _, isV _, isV _, isV _, isV _, isV _, isV _, isV _, isV _, isV _, isV _, isV _, isV _, isV _, isV _, isV _, isV _, isV _, isV _, isV _, isV _, isV _, isV _, isV _, isV _, isV _, isV _, isV _, isV _, isV _, isV _, isV _, isV _, isV _, isV _, isV _, isV _, isV _, isV _, isV _, isV _, isV _, isV _, isV _, isV _, isV _, isV _, isV _, isV _, isV _, isV _, isV _, isV _]
   case hn => rfl
   case hm => kernel_rfl
   case hB => kernel_rfl
   case ht => exact fun _ _ _ h k => gb_none h k
   case hw => exact gb_drew (gb_refl _ _)
   apply told_is
   ·intro W f hW hE h0 K hK; have e8 := h0.of 8; clear hE h0; refine yes_f ?_; go_simp; exact kK hK
   apply told_is
   ·intro W f hW hE h0 K hK; have e47 := hE.of 0 47; clear hE h0; refine yes_f ?_; obtain ⟨y0, y1, y2, y3, y4, y5⟩ := HY2.out W hW; go_simp; exact kK hK
   apply told_is
   ·intro W f hW hE h0 K hK; have e48 := hE.of 0 48; clear hE h0; refine yes_f ?_; go_simp; exact kK hK
   apply told_is
   ·intro W f hW hE h0 K hK; have e49 := hE.of 0 49; clear hE h0; refine yes_f ?_; go_simp; exact kK hK
   apply told_is
   ·intro W f hW hE h0 K hK; have e50 := hE.of 0 50; clear hE h0; refine yes_f ?_; go_simp; exact kK hK
   apply told_is
   ·intro W f hW hE h0 K hK; have e8 := h0.of 8; have e51 := hE.of 0 51; clear hE h0; refine yes_g e51 ?_; go_simp; exact kK hK
   apply told_is
   ·intro W f hW hE h0 K hK; have e52 := hE.of 0 52; have e51 := hE.of 1 51; clear hE h0; refine yes_g e51 ?_; obtain ⟨y0, y1, y2, y3, y4, y5⟩ := HY2.out W hW; go_simp; exact kK hK
   apply told_is
   ·intro W f hW hE h0 K hK; have e7 := h0.of 7; have e51 := hE.of 2 51; clear hE h0; refine yes_g e51 ?_; go_simp; exact kK hK
   apply told_is
   ·intro W f hW hE h0 K hK; have e54 := hE.of 0 54; have e51 := hE.of 3 51; clear hE h0; refine yes_g e51 ?_; go_simp; exact kK hK
   apply told_is
   ·intro W f hW hE h0 K hK; have e55 := hE.of 0 55; have e51 := hE.of 4 51; clear hE h0; refine yes_g e51 ?_; go_simp; refine (HEp.out W hW).mono ?_; rintro e w1' ⟨rfl, g'⟩; exact ⟨_, rfl, hK _ _ g' rfl⟩
   apply told_is
   ·intro W f hW hE h0 K hK; have e12 := h0.of 12; have e51 := hE.of 5 51; clear hE h0; refine yes_g e51 ?_; obtain ⟨y0, y1, y2, y3, y4, y5⟩ := HY4.out W hW; go_simp; exact kK hK
   apply told_is
   ·intro W f hW hE h0 K hK; have e56 := hE.of 1 56; have e57 := hE.of 0 57; have e51 := hE.of 6 51; clear hE h0; refine yes_g e51 ?_; go_simp; refine (HTa.out W hW).mono ?_; rintro e w1' ⟨rfl, g'⟩; exact ⟨_, rfl, hK _ _ g' rfl⟩
   apply told_is
   ·intro W f hW hE h0 K hK; have e53 := hE.of 5 53; have e58 := hE.of 0 58; have e51 := hE.of 7 51; clear hE h0; refine yes_g e51 ?_; go_simp; exact kK hK
   apply told_is
   ·intro W f hW hE h0 K hK; have e51 := hE.of 8 51; have e59 := hE.of 0 59; clear hE h0; refine yes_f ?_; go_simp; exact kK hK
   apply told_is
   ·intro W f hW hE h0 K hK; have e60 := hE.of 0 60; clear hE h0; refine yes_f ?_; go_simp; exact kK hK
   apply told_is
   ·intro W f hW hE h0 K hK; have e8 := h0.of 8; have e61 := hE.of 0 61; clear hE h0; refine yes_g e61 ?_; go_simp; exact kK hK
   apply told_is
   ·intro W f hW hE h0 K hK; have e62 := hE.of 0 62; have e61 := hE.of 1 61; clear hE h0; refine yes_g e61 ?_; obtain ⟨y0, y1, y2, y3, y4, y5⟩ := HY2.out W hW; go_simp; exact kK hK
   apply told_is
   ·intro W f hW hE h0 K hK; have e7 := h0.of 7; have e61 := hE.of 2 61; clear hE h0; refine yes_g e61 ?_; go_simp; exact kK hK
   apply told_is
   ·intro W f hW hE h0 K hK; have e64 := hE.of 0 64; have e61 := hE.of 3 61; clear hE h0; refine yes_g e61 ?_; go_simp; exact kK hK
   apply told_is
   ·intro W f hW hE h0 K hK; have e65 := hE.of 0 65; have e61 := hE.of 4 61; clear hE h0; refine yes_g e61 ?_; go_simp; refine (HEp.out W hW).mono ?_; rintro e w1' ⟨rfl, g'⟩; exact ⟨_, rfl, hK _ _ g' rfl⟩
   apply told_is
   ·intro W f hW hE h0 K hK; have e8 := h0.of 8; have e61 := hE.of 5 61; clear hE h0; refine yes_g e61 ?_; obtain ⟨y0, y1, y2, y3, y4, y5⟩ := HY2.out W hW; go_simp; exact kK hK
   apply told_is
   ·intro W f hW hE h0 K hK; have e66 := hE.of 1 66; have e67 := hE.of 0 67; have e61 := hE.of 6 61; clear hE h0; refine yes_g e61 ?_; go_simp; refine (HTb.out W hW).mono ?_; rintro e w1' ⟨rfl, g'⟩; exact ⟨_, rfl, hK _ _ g' rfl⟩
   apply told_is
   ·intro W f hW hE h0 K hK; have e63 := hE.of 5 63; have e68 := hE.of 0 68; have e61 := hE.of 7 61; clear hE h0; refine yes_g e61 ?_; go_simp; exact kK hK
   apply told_is
   ·intro W f hW hE h0 K hK; have e61 := hE.of 8 61; have e69 := hE.of 0 69; clear hE h0; refine yes_f ?_; go_simp; exact kK hK
   apply told_is
   ·intro W f hW hE h0 K hK; have e70 := hE.of 0 70; clear hE h0; refine yes_f ?_; go_simp; exact kK hK
   apply told_is
   ·intro W f hW hE h0 K hK; have e8 := h0.of 8; have e71 := hE.of 0 71; clear hE h0; refine yes_g e71 ?_; go_simp; exact kK hK
   apply told_is
   ·intro W f hW hE h0 K hK; have e72 := hE.of 0 72; have e71 := hE.of 1 71; clear hE h0; refine yes_g e71 ?_; obtain ⟨y0, y1, y2, y3, y4, y5⟩ := HY2.out W hW; go_simp; exact kK hK
   apply told_is
   ·intro W f hW hE h0 K hK; have e7 := h0.of 7; have e71 := hE.of 2 71; clear hE h0; refine yes_g e71 ?_; go_simp; exact kK hK
   apply told_is
   ·intro W f hW hE h0 K hK; have e7 := h0.of 7; have e71 := hE.of 3 71; clear hE h0; refine yes_g e71 ?_; go_simp; exact kK hK
   apply told_is
   ·intro W f hW hE h0 K hK; have e75 := hE.of 0 75; have e71 := hE.of 4 71; clear hE h0; refine yes_g e71 ?_; go_simp; exact kK hK
   apply told_is
   ·intro W f hW hE h0 K hK; have e76 := hE.of 0 76; have e71 := hE.of 5 71; clear hE h0; refine yes_g e71 ?_; obtain ⟨z1, z2, z3, z5⟩ := HJ.out; go_simp; exact kK hK
   apply told_is
   ·intro W f hW hE h0 K hK; have e74 := hE.of 3 74; have e77 := hE.of 0 77; have e71 := hE.of 6 71; clear hE h0; refine yes_g e71 ?_; obtain ⟨z1, z2, z3, z5⟩ := HJ.out; go_simp; exact kK hK
   apply told_is
   ·intro W f hW hE h0 K hK; have e78 := hE.of 0 78; have e71 := hE.of 7 71; clear hE h0; refine yes_g e71 ?_; obtain ⟨z0, z1, z2, z3, z4, z5⟩ := HZ.out W hW; go_simp; exact kK hK
   apply told_is
   ·intro W f hW hE h0 K hK; have e79 := hE.of 0 79; have e71 := hE.of 8 71; clear hE h0; refine yes_g e71 ?_; go_simp; refine (HHs.out W hW).mono ?_; rintro e w1' ⟨rfl, g'⟩; exact ⟨_, rfl, hK _ _ g' rfl⟩
   apply told_is
   ·intro W f hW hE h0 K hK; have e73 := hE.of 7 73; have e80 := hE.of 0 80; have e71 := hE.of 9 71; clear hE h0; refine yes_g e71 ?_; go_simp; exact kK hK
   apply told_is
   ·intro W f hW hE h0 K hK; have e71 := hE.of 10 71; have e81 := hE.of 0 81; clear hE h0; refine yes_f ?_; go_simp; exact kK hK
   apply told_is
   ·intro W f hW hE h0 K hK; have e82 := hE.of 0 82; clear hE h0; refine yes_f ?_; go_simp; exact kK hK
   apply told_is
   ·intro W f hW hE h0 K hK; have e11 := h0.of 11; have e83 := hE.of 0 83; clear hE h0; refine yes_g e83 ?_; go_simp; exact kK hK
   apply told_is
   ·intro W f hW hE h0 K hK; have e84 := hE.of 0 84; have e83 := hE.of 1 83; clear hE h0; refine yes_g e83 ?_; go_simp; refine (lnum_any _ W).mono ?_; rintro e w1' ⟨rfl, rfl⟩; exact ⟨_, rfl, hK _ _ (gb_refl _ _) rfl⟩
   apply told_is
   ·intro W f hW hE h0 K hK; have e85 := hE.of 0 85; have e83 := hE.of 2 83; clear hE h0; refine yes_g e83 ?_; go_simp; exact kK hK
   apply told_is
   ·intro W f hW hE h0 K hK; have e83 := hE.of 3 83; have e86 := hE.of 0 86; clear hE h0; refine yes_f ?_; go_simp; exact kK hK
   apply told_is
   ·intro W f hW hE h0 K hK; have e87 := hE.of 0 87; clear hE h0; refine yes_f ?_; go_simp; exact kK hK
   apply told_is
   ·intro W f hW hE h0 K hK; have e10 := h0.of 10; have e88 := hE.of 0 88; clear hE h0; refine yes_g e88 ?_; go_simp; exact kK hK
   apply told_is
   ·intro W f hW hE h0 K hK; have e89 := hE.of 0 89; have e88 := hE.of 1 88; clear hE h0; refine yes_g e88 ?_; obtain ⟨y0, y1, y2, y3, y4, y5⟩ := HY3.out W hW; go_simp; exact kK hK
   apply told_is
   ·intro W f hW hE h0 K hK; have e90 := hE.of 0 90; have e88 := hE.of 2 88; clear hE h0; refine yes_g e88 ?_; go_simp; exact kK hK
   apply told_is
   ·intro W f hW hE h0 K hK; have e88 := hE.of 3 88; have e91 := hE.of 0 91; clear hE h0; refine yes_f ?_; go_simp; exact kK hK
   apply told_is
   ·intro W f hW hE h0 K hK; have e92 := hE.of 0 92; clear hE h0; refine yes_f ?_; go_simp; exact kK hK
   apply told_is
   ·intro W f hW hE h0 K hK; have e10 := h0.of 10; have e93 := hE.of 0 93; clear hE h0; refine yes_g e93 ?_; go_simp; exact kK hK
   apply told_is
   ·intro W f hW hE h0 K hK; have e94 := hE.of 0 94; have e93 := hE.of 1 93; clear hE h0; refine yes_g e93 ?_; obtain ⟨y0, y1, y2, y3, y4, y5⟩ := HY3.out W hW; go_simp; exact kK hK
   apply told_is
   ·intro W f hW hE h0 K hK; have e95 := hE.of 0 95; have e93 := hE.of 2 93; clear hE h0; refine yes_g e93 ?_; go_simp; exact kK hK
   apply told_is
   ·intro W f hW hE h0 K hK; have e93 := hE.of 3 93; have e96 := hE.of 0 96; clear hE h0; refine yes_f ?_; go_simp; exact kK hK
   apply told_is
   ·intro W f hW hE h0 K hK; have e97 := hE.of 0 97; clear hE h0; refine yes_f ?_; go_simp; exact kK hK
   apply told_is
   ·intro W f hW hE h0 K hK; have e98 := hE.of 0 98; clear hE h0; refine yes_g e98 ?_; go_simp; refine (HAx.out W hW).mono ?_; rintro e w1' ⟨rfl, g'⟩; exact ⟨_, rfl, hK _ _ g' rfl⟩
   apply told_is
   ·intro W f hW hE h0 K hK; have e98 := hE.of 1 98; have e99 := hE.of 0 99; clear hE h0; refine yes_f ?_; go_simp; exact kK hK
   apply told_is
   ·intro W f hW hE h0 K hK; have e100 := hE.of 0 100; clear hE h0; refine yes_f ?_; go_simp; exact kK hK
   intro W f hW hA
   simp only [lexIn, Act.put, List.setIfInBounds_toArray, List.set_cons_zero, List.set_cons_succ]
   have e6 : f 6 = _ := hA 0 (some 6) _ rfl
   rw [e6]
   clear hA
   have Hg := Lib.hid (gb_none HG1.out (gb_none HG15.out hW))
   clear hW
   go_wp2_with fail
   go_ret
   exact ⟨rfl, gb_below Hg.out (Nat.le_refl _)⟩
  ·obtain ⟨E2, hE2⟩ := nmd (deedE C K D)
   have HMk : Hid (∀ W, v1.grownBy W none → Calls Tryz.prog 12 #[.string ⟨#[115, 101, 99, 114, 101, 116]⟩, .string ⟨#[109, 97, 115, 116, 101, 114]⟩, .slice A N c9, .int .i64 K, .int .i64 D] W (MadeIs zeroR E2 W)) := fun W hW => by
    have h := hmk W hW
    rw [hE2, show madeR s m C K D = zeroR from if_neg he] at h
    rw [Hs9.out, Hm9.out]
    exact h
   rw [hE2] at he
   have q1 : (E2 == 0) = false := eq_no he
   have q2 : (E2 != 0) = true := by rw [bne, q1]; rfl
   obtain ⟨R2, hR2⟩ := nmd (zeroR)
   have q3 : (R2.seq == 0) = true := by rw [← hR2]; rfl
   rw [hR2] at HMk
   clear hLL hle g1 hch hnx h1N hC hN hNl hmk hm0 he hE2 hR2 hss hms HL HCh HNx HN HN1 Hle HLg
   go_wp2_with fail
   refine (HMk.out v1 (gb_refl _ _)).mono ?_
   rintro e v2 ⟨A1, c1, rfl, hw1, hc1, f2⟩
   obtain ⟨b2, hb2⟩ := nmd (v2.heap.size)
   obtain ⟨W2, hW2⟩ := nmd (v2.alloc (.cells #[.int .i64 R2.seq, .string R2.prev, .int .i64 R2.kind, .int .i64 R2.dev, .slice A1 R2.wraps.length c1, .string R2.tag] 25))
   obtain ⟨GW2, HXW2⟩ := rec_box hb2 hW2 hw1
   have HG2 := Lib.hid (gb_none HG1.out (gb_none f2 GW2))
   have HW2 := Lib.hid hW2
   clear hw1 hc1 f2 GW2 hW2 HMk u1 u2 u3 u4 u5 u6 d1 d2 hp hq hK hD
   go_upto_region 5 with fail
   rw [HW2.out]
   clear hb2 HW2
   obtain ⟨⟨y0, y1, y2, y3, y4, y5⟩, _⟩ := HXW2.out W2 (gb_refl _ _)
   go_wp2_with fail
   refine (lnum_any _ _).mono ?_
   rintro e _ ⟨rfl, rfl⟩
   go_wp2_with fail
   refine (HAw.out W2 HG2.out).mono ?_
   rintro e w3 ⟨rfl, f3⟩
   have G3 := Lib.hid (gb_none HG2.out f3)
   clear f3
   go_wp2_with fail
   go_ret
   exact ⟨rfl, gb_below G3.out (Nat.le_refl _)⟩
 ·have d1 : decide (7 < len0) = true := dcT
  have d2 : decide ((7 : Int) < (len0 : Int)) = true := dcT
  clear w0 w1 w2 hE hT hS hP hR hu hns hb0 hl0 hnl
  go_enter Tryz.func8, Tryz.ntmps8
  go_wp2_with fail
  refine (HAw.out w (gb_refl _ _)).mono ?_
  rintro e v1 ⟨rfl, g1⟩
  have G1 := Lib.hid g1
  clear g1
  go_wp2_with fail
  go_ret
  exact ⟨rfl, gb_below G1.out (Nat.le_refl _)⟩
theorem star : "*" ++ "errors.errorString" = "*errors.errorString" := by decide
theorem row_err (u : TypeId) (h : Tryz.prog.typeName? 3 u = some "*errors.errorString") : u = 251 :=
 typeName_ptr_named (nm := "errors.errorString") (by rw [star]; kernel_rfl) (by kernel_rfl) (by decide) u (by rw [star]; exact h)
theorem two0_1 {W : World} (h : laidMetH Tryz.prog Rows.wrapTagsRow.laid W) : Sn.Two W 12 13 := by
 have h4 : laidMet Tryz.prog [("deaddrop/hmac.errBelow", Rows.laid_deaddrop_hmac_errBelow), ("deaddrop/hmac.errBeyond", Rows.laid_deaddrop_hmac_errBeyond)] W := (laidMetH_iff.1 (laidMetH.filter (fun x => x.1 == "deaddrop/hmac.errBelow" || x.1 == "deaddrop/hmac.errBeyond") h)).1
 obtain ⟨a0, a1, s0, s1, c0, c1, t0, t1, hv0, hv1, hc0, hs0, hz0, hc1, hs1, hz1, hne, hb0, hb1⟩ := laid_sentinels2 h4 (g0 := 12) (g1 := 13) (ti := 72) (by kernel_rfl) (by kernel_rfl) (by kernel_rfl) (by kernel_rfl) Tryz.underlying72 row_err Tryz.underlying251 Tryz.underlying269 rfl rfl Tryz.underlying9 (by kernel_rfl) (by kernel_rfl)
 exact ⟨a0, a1, c0, c1, t0, t1, by simpa using World.var?_cell (g := 12) (by kernel_rfl) hv0 0, by simpa using World.var?_cell (g := 13) (by kernel_rfl) hv1 0, hne, hb0, hb1⟩
theorem two2_3 {W : World} (h : laidMetH Tryz.prog Rows.wrapTagsRow.laid W) : Sn.Two W 10 11 := by
 have h4 : laidMet Tryz.prog [("deaddrop/box.errKey", Rows.laid_deaddrop_box_errKey), ("deaddrop/box.errNonce", Rows.laid_deaddrop_box_errNonce)] W := (laidMetH_iff.1 (laidMetH.filter (fun x => x.1 == "deaddrop/box.errKey" || x.1 == "deaddrop/box.errNonce") h)).1
 obtain ⟨a0, a1, s0, s1, c0, c1, t0, t1, hv0, hv1, hc0, hs0, hz0, hc1, hs1, hz1, hne, hb0, hb1⟩ := laid_sentinels2 h4 (g0 := 10) (g1 := 11) (ti := 72) (by kernel_rfl) (by kernel_rfl) (by kernel_rfl) (by kernel_rfl) Tryz.underlying72 row_err Tryz.underlying251 Tryz.underlying269 rfl rfl Tryz.underlying9 (by kernel_rfl) (by kernel_rfl)
 exact ⟨a0, a1, c0, c1, t0, t1, by simpa using World.var?_cell (g := 10) (by kernel_rfl) hv0 0, by simpa using World.var?_cell (g := 11) (by kernel_rfl) hv1 0, hne, hb0, hb1⟩
theorem two4_5 {W : World} (h : laidMetH Tryz.prog Rows.wrapTagsRow.laid W) : Sn.Two W 14 15 := by
 have h4 : laidMet Tryz.prog [("deaddrop/box.errShort", Rows.laid_deaddrop_box_errShort), ("deaddrop/box.errLong", Rows.laid_deaddrop_box_errLong)] W := (laidMetH_iff.1 (laidMetH.filter (fun x => x.1 == "deaddrop/box.errShort" || x.1 == "deaddrop/box.errLong") h)).1
 obtain ⟨a0, a1, s0, s1, c0, c1, t0, t1, hv0, hv1, hc0, hs0, hz0, hc1, hs1, hz1, hne, hb0, hb1⟩ := laid_sentinels2 h4 (g0 := 14) (g1 := 15) (ti := 72) (by kernel_rfl) (by kernel_rfl) (by kernel_rfl) (by kernel_rfl) Tryz.underlying72 row_err Tryz.underlying251 Tryz.underlying269 rfl rfl Tryz.underlying9 (by kernel_rfl) (by kernel_rfl)
 exact ⟨a0, a1, c0, c1, t0, t1, by simpa using World.var?_cell (g := 14) (by kernel_rfl) hv0 0, by simpa using World.var?_cell (g := 15) (by kernel_rfl) hv1 0, hne, hb0, hb1⟩
theorem two5_6 {W : World} (h : laidMetH Tryz.prog Rows.wrapTagsRow.laid W) : Sn.Two W 15 16 := by
 have h4 : laidMet Tryz.prog [("deaddrop/box.errLong", Rows.laid_deaddrop_box_errLong), ("deaddrop/box.errTag", Rows.laid_deaddrop_box_errTag)] W := (laidMetH_iff.1 (laidMetH.filter (fun x => x.1 == "deaddrop/box.errLong" || x.1 == "deaddrop/box.errTag") h)).1
 obtain ⟨a0, a1, s0, s1, c0, c1, t0, t1, hv0, hv1, hc0, hs0, hz0, hc1, hs1, hz1, hne, hb0, hb1⟩ := laid_sentinels2 h4 (g0 := 15) (g1 := 16) (ti := 72) (by kernel_rfl) (by kernel_rfl) (by kernel_rfl) (by kernel_rfl) Tryz.underlying72 row_err Tryz.underlying251 Tryz.underlying269 rfl rfl Tryz.underlying9 (by kernel_rfl) (by kernel_rfl)
 exact ⟨a0, a1, c0, c1, t0, t1, by simpa using World.var?_cell (g := 15) (by kernel_rfl) hv0 0, by simpa using World.var?_cell (g := 16) (by kernel_rfl) hv1 0, hne, hb0, hb1⟩
theorem two7_8 {W : World} (h : laidMetH Tryz.prog Rows.wrapTagsRow.laid W) : Sn.Two W 2 3 := by
 have h4 : laidMet Tryz.prog [("deaddrop/member.errMany", Rows.laid_deaddrop_member_errMany), ("deaddrop/member.errRecord", Rows.laid_deaddrop_member_errRecord)] W := (laidMetH_iff.1 (laidMetH.filter (fun x => x.1 == "deaddrop/member.errMany" || x.1 == "deaddrop/member.errRecord") h)).1
 obtain ⟨a0, a1, s0, s1, c0, c1, t0, t1, hv0, hv1, hc0, hs0, hz0, hc1, hs1, hz1, hne, hb0, hb1⟩ := laid_sentinels2 h4 (g0 := 2) (g1 := 3) (ti := 72) (by kernel_rfl) (by kernel_rfl) (by kernel_rfl) (by kernel_rfl) Tryz.underlying72 row_err Tryz.underlying251 Tryz.underlying269 rfl rfl Tryz.underlying9 (by kernel_rfl) (by kernel_rfl)
 exact ⟨a0, a1, c0, c1, t0, t1, by simpa using World.var?_cell (g := 2) (by kernel_rfl) hv0 0, by simpa using World.var?_cell (g := 3) (by kernel_rfl) hv1 0, hne, hb0, hb1⟩
theorem two9_10 {W : World} (h : laidMetH Tryz.prog Rows.wrapTagsRow.laid W) : Sn.Two W 4 5 := by
 have h4 : laidMet Tryz.prog [("deaddrop/member.errSeq", Rows.laid_deaddrop_member_errSeq), ("deaddrop/member.errPrev", Rows.laid_deaddrop_member_errPrev)] W := (laidMetH_iff.1 (laidMetH.filter (fun x => x.1 == "deaddrop/member.errSeq" || x.1 == "deaddrop/member.errPrev") h)).1
 obtain ⟨a0, a1, s0, s1, c0, c1, t0, t1, hv0, hv1, hc0, hs0, hz0, hc1, hs1, hz1, hne, hb0, hb1⟩ := laid_sentinels2 h4 (g0 := 4) (g1 := 5) (ti := 72) (by kernel_rfl) (by kernel_rfl) (by kernel_rfl) (by kernel_rfl) Tryz.underlying72 row_err Tryz.underlying251 Tryz.underlying269 rfl rfl Tryz.underlying9 (by kernel_rfl) (by kernel_rfl)
 exact ⟨a0, a1, c0, c1, t0, t1, by simpa using World.var?_cell (g := 4) (by kernel_rfl) hv0 0, by simpa using World.var?_cell (g := 5) (by kernel_rfl) hv1 0, hne, hb0, hb1⟩
theorem two11_12 {W : World} (h : laidMetH Tryz.prog Rows.wrapTagsRow.laid W) : Sn.Two W 6 7 := by
 have h4 : laidMet Tryz.prog [("deaddrop/member.errFirst", Rows.laid_deaddrop_member_errFirst), ("deaddrop/member.errHave", Rows.laid_deaddrop_member_errHave)] W := (laidMetH_iff.1 (laidMetH.filter (fun x => x.1 == "deaddrop/member.errFirst" || x.1 == "deaddrop/member.errHave") h)).1
 obtain ⟨a0, a1, s0, s1, c0, c1, t0, t1, hv0, hv1, hc0, hs0, hz0, hc1, hs1, hz1, hne, hb0, hb1⟩ := laid_sentinels2 h4 (g0 := 6) (g1 := 7) (ti := 72) (by kernel_rfl) (by kernel_rfl) (by kernel_rfl) (by kernel_rfl) Tryz.underlying72 row_err Tryz.underlying251 Tryz.underlying269 rfl rfl Tryz.underlying9 (by kernel_rfl) (by kernel_rfl)
 exact ⟨a0, a1, c0, c1, t0, t1, by simpa using World.var?_cell (g := 6) (by kernel_rfl) hv0 0, by simpa using World.var?_cell (g := 7) (by kernel_rfl) hv1 0, hne, hb0, hb1⟩
theorem two13_14 {W : World} (h : laidMetH Tryz.prog Rows.wrapTagsRow.laid W) : Sn.Two W 8 9 := by
 have h4 : laidMet Tryz.prog [("deaddrop/member.errNone", Rows.laid_deaddrop_member_errNone), ("deaddrop/member.errStay", Rows.laid_deaddrop_member_errStay)] W := (laidMetH_iff.1 (laidMetH.filter (fun x => x.1 == "deaddrop/member.errNone" || x.1 == "deaddrop/member.errStay") h)).1
 obtain ⟨a0, a1, s0, s1, c0, c1, t0, t1, hv0, hv1, hc0, hs0, hz0, hc1, hs1, hz1, hne, hb0, hb1⟩ := laid_sentinels2 h4 (g0 := 8) (g1 := 9) (ti := 72) (by kernel_rfl) (by kernel_rfl) (by kernel_rfl) (by kernel_rfl) Tryz.underlying72 row_err Tryz.underlying251 Tryz.underlying269 rfl rfl Tryz.underlying9 (by kernel_rfl) (by kernel_rfl)
 exact ⟨a0, a1, c0, c1, t0, t1, by simpa using World.var?_cell (g := 8) (by kernel_rfl) hv0 0, by simpa using World.var?_cell (g := 9) (by kernel_rfl) hv1 0, hne, hb0, hb1⟩
theorem et : Tryz.prog.globalNamed "errors.errorType" = some 0 := by kernel_rfl
theorem rt : (Tryz.prog.cutTypes.find? (·.1 == "internal/reflectlite.rtype")).map (·.2) = some 180 := by kernel_rfl
theorem one_error : ((List.range 281).filter fun t => Tryz.prog.rowNamed t [101, 114, 114, 111, 114]) = [72] := by kernel_rfl
theorem how_many : Tryz.prog.types.size = 281 := by kernel_rfl
theorem handle : typeHandle Tryz.prog 72 = .pointer (some ⟨22, 72, none⟩) := by kernel_rfl
theorem errT {W : World} (h : laidMetH Tryz.prog Rows.wrapTagsRow.laid W) : W.cell? ⟨0, 0, none⟩ = some (.iface 180 (.agg #[.pointer (some ⟨22, 72, none⟩)])) := by
 have hm : ("errors.errorType", Rows.laid_errors_errorType) ∈ (Rows.wrapTagsRow.laid.filter fun x => x.2.handleName?.isSome) := List.mem_filter.2 ⟨List.Mem.tail _ (List.Mem.tail _ (List.Mem.tail _ (List.Mem.tail _ (List.Mem.tail _ (List.Mem.head _))))), by simp [DataW.handleName?, Rows.laid_errors_errorType]⟩
 obtain ⟨n, u, t, hn, hu, ht, hr, hc⟩ := (laidMetH_iff.1 h).2 _ hm
 obtain rfl := Option.some.inj hn
 obtain rfl := Option.some.inj (rt.symm.trans hu)
 have hin : t ∈ [72] := by
  rw [← one_error]
  exact List.mem_filter.2 ⟨List.mem_range.2 (how_many ▸ ht), hr⟩
 obtain rfl := List.mem_singleton.1 hin
 rw [handle] at hc
 have := World.var?_cell et hc 0
 simpa using this
theorem tabs {W : World} (h : laidMetH Tryz.prog Rows.wrapTagsRow.laid W) : Tabs W := by
 have gh1 : laidMet Tryz.prog [("deaddrop/sha.opening", Rows.laid_deaddrop_sha_opening)] W := (laidMetH_iff.1 (laidMetH.filter (fun x => x.1 == "deaddrop/sha.opening") h)).1
 have h1 : Lib.TabIs Tryz.prog W "deaddrop/sha.opening" .u32 [1779033703, 3144134277, 1013904242, 2773480762, 1359893119, 2600822924, 528734635, 1541459225] := Lib.tabIs_of_head (rest := []) (g := 1) (t := 158) (e := 127) (n := 8) (by kernel_rfl) (by kernel_rfl) Tryz.underlying158 Tryz.underlying127 (by kernel_rfl) (by kernel_rfl) gh1
 have gh2 : laidMet Tryz.prog [("deaddrop/sha.roundNumbers", Rows.laid_deaddrop_sha_roundNumbers)] W := (laidMetH_iff.1 (laidMetH.filter (fun x => x.1 == "deaddrop/sha.roundNumbers") h)).1
 have h2 : Lib.TabIs Tryz.prog W "deaddrop/sha.roundNumbers" .u32 [1116352408, 1899447441, 3049323471, 3921009573, 961987163, 1508970993, 2453635748, 2870763221, 3624381080, 310598401, 607225278, 1426881987, 1925078388, 2162078206, 2614888103, 3248222580, 3835390401, 4022224774, 264347078, 604807628, 770255983, 1249150122, 1555081692, 1996064986, 2554220882, 2821834349, 2952996808, 3210313671, 3336571891, 3584528711, 113926993, 338241895, 666307205, 773529912, 1294757372, 1396182291, 1695183700, 1986661051, 2177026350, 2456956037, 2730485921, 2820302411, 3259730800, 3345764771, 3516065817, 3600352804, 4094571909, 275423344, 430227734, 506948616, 659060556, 883997877, 958139571, 1322822218, 1537002063, 1747873779, 1955562222, 2024104815, 2227730452, 2361852424, 2428436474, 2756734187, 3204031479, 3329325298] := Lib.tabIs_of_head (rest := []) (g := 17) (t := 228) (e := 127) (n := 64) (by kernel_rfl) (by kernel_rfl) Tryz.underlying228 Tryz.underlying127 (by kernel_rfl) (by kernel_rfl) gh2
 have e1 : ∀ i, i < 8 → ([1779033703, 3144134277, 1013904242, 2773480762, 1359893119, 2600822924, 528734635, 1541459225] : List Int).getD i 0 = ((firstH.getD i 0).toNat : Int) := by decide
 have e2 : ∀ i, i < 64 → ([1116352408, 1899447441, 3049323471, 3921009573, 961987163, 1508970993, 2453635748, 2870763221, 3624381080, 310598401, 607225278, 1426881987, 1925078388, 2162078206, 2614888103, 3248222580, 3835390401, 4022224774, 264347078, 604807628, 770255983, 1249150122, 1555081692, 1996064986, 2554220882, 2821834349, 2952996808, 3210313671, 3336571891, 3584528711, 113926993, 338241895, 666307205, 773529912, 1294757372, 1396182291, 1695183700, 1986661051, 2177026350, 2456956037, 2730485921, 2820302411, 3259730800, 3345764771, 3516065817, 3600352804, 4094571909, 275423344, 430227734, 506948616, 659060556, 883997877, 958139571, 1322822218, 1537002063, 1747873779, 1955562222, 2024104815, 2227730452, 2361852424, 2428436474, 2756734187, 3204031479, 3329325298] : List Int).getD i 0 = ((konst.getD i 0).toNat : Int) := by decide +kernel
 have c1 : ∀ i, i < 8 → W.cell? ⟨1, i, none⟩ = some (w32 (firstH.getD i 0)) := fun i hi => by
  have := h1.cell (g := 1) (by kernel_rfl) i hi
  rw [e1 i hi] at this; exact this
 have c2 : ∀ i, i < 64 → W.cell? ⟨17, i, none⟩ = some (w32 (konst.getD i 0)) := fun i hi => by
  have := h2.cell (g := 17) (by kernel_rfl) i hi
  rw [e2 i hi] at this; exact this
 exact ⟨block_lt_of_cell (c2 0 (by decide)), c1, c2⟩
theorem pows {W : World} (h : laidMetH Tryz.prog Rows.wrapTagsRow.laid W) : Lib.TabIs Tryz.prog W "internal/strconv.uint64pow10" .u64 Lib.pow10Tab := by
 have gh1 : laidMet Tryz.prog [("internal/strconv.uint64pow10", Rows.laid_internal_strconv_uint64pow10)] W := (laidMetH_iff.1 (laidMetH.filter (fun x => x.1 == "internal/strconv.uint64pow10") h)).1
 have h1 : Lib.TabIs Tryz.prog W "internal/strconv.uint64pow10" .u64 [1, 10, 100, 1000, 10000, 100000, 1000000, 10000000, 100000000, 1000000000, 10000000000, 100000000000, 1000000000000, 10000000000000, 100000000000000, 1000000000000000, 10000000000000000, 100000000000000000, 1000000000000000000, 10000000000000000000] := Lib.tabIs_of_head (rest := []) (g := 19) (t := 247) (e := 126) (n := 20) (by kernel_rfl) (by kernel_rfl) Tryz.underlying247 Tryz.underlying126 (by kernel_rfl) (by kernel_rfl) gh1
 have e : Lib.pow10Tab = [1, 10, 100, 1000, 10000, 100000, 1000000, 10000000, 100000000, 1000000000, 10000000000, 100000000000, 1000000000000, 10000000000000, 100000000000000, 1000000000000000, 10000000000000000, 100000000000000000, 1000000000000000000, 10000000000000000000] := by decide +kernel
 rw [e]; exact h1
theorem contract (H : Type) (enc : TypeId × Value → H) (W : World) (base : Nat) (args : Array Value) (ds gs : List (DataW H)) (before : List MemPlace)
  (hval0 : ∀ (j : Nat) t v, Tryz.f8.params[j]? = some t → args[j]? = some v → Value.okWide Tryz.prog W .any base t v)
  (hW : DataW.Whole enc Tryz.prog Tryz.f8.params.toList Rows.wrapTagsSpec.vars false W args.toList ds gs before) (hL : laidMetH Tryz.prog Rows.wrapTagsRow.laid W) :
  Calls Tryz.prog 8 args W fun e W' => ∃ v, e = .returned v ∧ Rows.wrapTagsSpec.post enc Tryz.prog Tryz.f8 false true false false W args v W' := by
 have hval : ∀ (j : Nat) t v, Tryz.f8.params[j]? = some t → args[j]? = some v → Value.okWide Tryz.prog W .any base t v := hval0
 have hW' := hW
 obtain ⟨p, q, hA0, hV, rfl, hfz, hnd⟩ := hW
 have hA : DataW.TrodAll enc Tryz.prog W 0 (fun _ => true) true Tryz.f8.params.toList args.toList ds p := hA0
 rw [Tryz.params8] at hA hval
 obtain ⟨v0, vs0, d0, ds0, p0, q0, hargs, rfl, rfl, h0, r0⟩ := trodAll_cons hA
 obtain ⟨v1, vs1, d1, ds1, p1, q1, rfl, rfl, rfl, h1, r1⟩ := trodAll_cons r0
 obtain ⟨v2, vs2, d2, ds2, p2, q2, rfl, rfl, rfl, h2, r2⟩ := trodAll_cons r1
 obtain ⟨rfl, rfl, rfl⟩ := trodAll_nil r2
 obtain rfl : args = #[v0, v1, v2] := by cases args; simp_all
 obtain ⟨rfl, rfl⟩ := trodVars_none hV
 have k0 := h0
 have lt0 : ∀ x ∈ p0, x.block < W.heap.size := by obtain ⟨m, hm⟩ := k0; exact DataW.trod_lt m _ _ _ hm
 obtain ⟨a0, len0, cap0, rfl⟩ := okWide_slice Tryz.underlying54 (hval 0 54 v0 rfl rfl)
 obtain ⟨z0, w0⟩ : ∃ zs, IsRow .u8 W a0 len0 cap0 zs := by
  obtain ⟨fuel, hf⟩ := h0
  rcases open_ints Tryz.underlying54 Tryz.underlying5 (by kernel_rfl) hf with ⟨hcs, _⟩ | ⟨x, l, c, zs, hcs, _, hl, hm, hz, _, hcell, hwz⟩
  ·simp [Value.cells] at hcs
   obtain ⟨rfl, rfl, rfl⟩ := hcs
   exact ⟨[], .inl ⟨rfl, rfl, rfl, rfl⟩⟩
  ·simp [Value.cells] at hcs
   obtain ⟨rfl, rfl, rfl⟩ := hcs
   exact ⟨zs, .inr ⟨_, rfl, hl, hm, by simpa using hz, hcell, hwz⟩⟩
 obtain ⟨a1, rfl, rfl, rfl, w1⟩ := open_int Tryz.underlying5 (hval 1 5 v1 rfl rfl) h1
 obtain ⟨a2, rfl, rfl, rfl, w2⟩ := open_int Tryz.underlying5 (hval 2 5 v2 rfl rfl) h2
 clear hA0 hval0
 refine (walk a0 len0 cap0 z0 a1 a2 W w0 w1 w2 ⟨two0_1 hL, two2_3 hL, two4_5 hL, two5_6 hL, two7_8 hL, two9_10 hL, two11_12 hL, two13_14 hL⟩ (errT hL) (tabs hL) (pows hL)).mono fun e W' ⟨he, bel⟩ => ?_
 subst he
 exact ⟨_, rfl, _, _, _, [], _, [], hW', trodAll_mk1 (shut_bool Tryz.underlying4 _), (trodAll_cons_mk (Below.trod laidOut (by kernel_rfl) (of_decide_eq_true (by kernel_rfl)) k0 bel lt0) (trodAll_cons_mk (shut_int Tryz.underlying5 w1) (trodAll_cons_mk (shut_int Tryz.underlying5 w2) trodAll_mk0))), rfl, bel.frame _, fun h => by cases h⟩
def lay (cs : Array Value) : Obj → Obj
 | .cells _ t frozen => .cells cs t frozen
 | o => o
noncomputable def low : Nat := (World.holding Tryz.prog default ⟨#[], #[], []⟩).heap.size
noncomputable def laidWorld (os : Os) : World :=
 { World.holding Tryz.prog os ⟨#[.cells #[.string ⟨#[98, 101, 108, 111, 119, 32, 110, 111, 116, 104, 105, 110, 103]⟩] 269, .cells #[.string ⟨#[98, 101, 121, 111, 110, 100, 32, 116, 104, 101, 32, 108, 97, 115, 116, 32, 115, 117, 109]⟩] 269, .cells #[.string ⟨#[110, 111, 116, 32, 97, 115, 32, 108, 111, 110, 103, 32, 97, 115, 32, 97, 32, 112, 97, 105, 114, 32, 111, 102, 32, 107, 101, 121, 115]⟩] 269, .cells #[.string ⟨#[110, 111, 116, 32, 97, 115, 32, 108, 111, 110, 103, 32, 97, 115, 32, 97, 32, 110, 111, 110, 99, 101]⟩] 269, .cells #[.string ⟨#[115, 104, 111, 114, 116, 101, 114, 32, 116, 104, 97, 110, 32, 97, 32, 116, 97, 103]⟩] 269, .cells #[.string ⟨#[108, 111, 110, 103, 101, 114, 32, 116, 104, 97, 110, 32, 119, 104, 97, 116, 32, 105, 115, 32, 101, 118, 101, 114, 32, 115, 101, 97, 108, 101, 100]⟩] 269, .cells #[.string ⟨#[116, 104, 101, 32, 116, 97, 103, 32, 100, 111, 101, 115, 32, 110, 111, 116, 32, 102, 105, 116]⟩] 269, .cells #[.string ⟨#[109, 111, 114, 101, 32, 116, 104, 97, 110, 32, 97, 32, 99, 104, 97, 105, 110, 32, 109, 97, 121, 32, 104, 97, 118, 101]⟩] 269, .cells #[.string ⟨#[105, 116, 32, 109, 97, 121, 32, 110, 111, 116, 32, 98, 101]⟩] 269, .cells #[.string ⟨#[110, 111, 116, 32, 116, 104, 101, 32, 111, 110, 101, 32, 98, 101, 104, 105, 110, 100, 32, 116, 104, 101, 32, 111, 110, 101, 32, 97, 104, 101, 97, 100]⟩] 269, .cells #[.string ⟨#[97, 110, 111, 116, 104, 101, 114, 32, 114, 101, 99, 111, 114, 100, 39, 115, 32, 104, 97, 115, 104, 32, 116, 104, 97, 110, 32, 116, 104, 97, 116, 32, 111, 102, 32, 116, 104, 101, 32, 111, 110, 101, 32, 97, 104, 101, 97, 100]⟩] 269, .cells #[.string ⟨#[116, 104, 101, 32, 102, 105, 114, 115, 116, 32, 114, 101, 99, 111, 114, 100, 32, 97, 100, 100, 115, 32, 100, 101, 118, 105, 99, 101, 32, 48]⟩] 269, .cells #[.string ⟨#[97, 100, 100, 101, 100, 32, 119, 104, 105, 108, 101, 32, 105, 116, 32, 105, 115, 32, 97, 32, 109, 101, 109, 98, 101, 114]⟩] 269, .cells #[.string ⟨#[114, 101, 118, 111, 107, 101, 100, 32, 119, 104, 105, 108, 101, 32, 105, 116, 32, 105, 115, 32, 110, 111, 32, 109, 101, 109, 98, 101, 114]⟩] 269, .cells #[.string ⟨#[105, 116, 32, 115, 116, 97, 121, 115, 32, 102, 111, 114, 32, 103, 111, 111, 100]⟩] 269], #[], []⟩ with heap := ((((((((((((((((((((((World.holding Tryz.prog os ⟨#[.cells #[.string ⟨#[98, 101, 108, 111, 119, 32, 110, 111, 116, 104, 105, 110, 103]⟩] 269, .cells #[.string ⟨#[98, 101, 121, 111, 110, 100, 32, 116, 104, 101, 32, 108, 97, 115, 116, 32, 115, 117, 109]⟩] 269, .cells #[.string ⟨#[110, 111, 116, 32, 97, 115, 32, 108, 111, 110, 103, 32, 97, 115, 32, 97, 32, 112, 97, 105, 114, 32, 111, 102, 32, 107, 101, 121, 115]⟩] 269, .cells #[.string ⟨#[110, 111, 116, 32, 97, 115, 32, 108, 111, 110, 103, 32, 97, 115, 32, 97, 32, 110, 111, 110, 99, 101]⟩] 269, .cells #[.string ⟨#[115, 104, 111, 114, 116, 101, 114, 32, 116, 104, 97, 110, 32, 97, 32, 116, 97, 103]⟩] 269, .cells #[.string ⟨#[108, 111, 110, 103, 101, 114, 32, 116, 104, 97, 110, 32, 119, 104, 97, 116, 32, 105, 115, 32, 101, 118, 101, 114, 32, 115, 101, 97, 108, 101, 100]⟩] 269, .cells #[.string ⟨#[116, 104, 101, 32, 116, 97, 103, 32, 100, 111, 101, 115, 32, 110, 111, 116, 32, 102, 105, 116]⟩] 269, .cells #[.string ⟨#[109, 111, 114, 101, 32, 116, 104, 97, 110, 32, 97, 32, 99, 104, 97, 105, 110, 32, 109, 97, 121, 32, 104, 97, 118, 101]⟩] 269, .cells #[.string ⟨#[105, 116, 32, 109, 97, 121, 32, 110, 111, 116, 32, 98, 101]⟩] 269, .cells #[.string ⟨#[110, 111, 116, 32, 116, 104, 101, 32, 111, 110, 101, 32, 98, 101, 104, 105, 110, 100, 32, 116, 104, 101, 32, 111, 110, 101, 32, 97, 104, 101, 97, 100]⟩] 269, .cells #[.string ⟨#[97, 110, 111, 116, 104, 101, 114, 32, 114, 101, 99, 111, 114, 100, 39, 115, 32, 104, 97, 115, 104, 32, 116, 104, 97, 110, 32, 116, 104, 97, 116, 32, 111, 102, 32, 116, 104, 101, 32, 111, 110, 101, 32, 97, 104, 101, 97, 100]⟩] 269, .cells #[.string ⟨#[116, 104, 101, 32, 102, 105, 114, 115, 116, 32, 114, 101, 99, 111, 114, 100, 32, 97, 100, 100, 115, 32, 100, 101, 118, 105, 99, 101, 32, 48]⟩] 269, .cells #[.string ⟨#[97, 100, 100, 101, 100, 32, 119, 104, 105, 108, 101, 32, 105, 116, 32, 105, 115, 32, 97, 32, 109, 101, 109, 98, 101, 114]⟩] 269, .cells #[.string ⟨#[114, 101, 118, 111, 107, 101, 100, 32, 119, 104, 105, 108, 101, 32, 105, 116, 32, 105, 115, 32, 110, 111, 32, 109, 101, 109, 98, 101, 114]⟩] 269, .cells #[.string ⟨#[105, 116, 32, 115, 116, 97, 121, 115, 32, 102, 111, 114, 32, 103, 111, 111, 100]⟩] 269], #[], []⟩).heap).modify 12 (lay #[.iface 251 (.pointer (some ⟨low, 0, none⟩))])).modify 13 (lay #[.iface 251 (.pointer (some ⟨low + 1, 0, none⟩))])).modify 10 (lay #[.iface 251 (.pointer (some ⟨low + 2, 0, none⟩))])).modify 11 (lay #[.iface 251 (.pointer (some ⟨low + 3, 0, none⟩))])).modify 14 (lay #[.iface 251 (.pointer (some ⟨low + 4, 0, none⟩))])).modify 15 (lay #[.iface 251 (.pointer (some ⟨low + 5, 0, none⟩))])).modify 16 (lay #[.iface 251 (.pointer (some ⟨low + 6, 0, none⟩))])).modify 2 (lay #[.iface 251 (.pointer (some ⟨low + 7, 0, none⟩))])).modify 3 (lay #[.iface 251 (.pointer (some ⟨low + 8, 0, none⟩))])).modify 4 (lay #[.iface 251 (.pointer (some ⟨low + 9, 0, none⟩))])).modify 5 (lay #[.iface 251 (.pointer (some ⟨low + 10, 0, none⟩))])).modify 6 (lay #[.iface 251 (.pointer (some ⟨low + 11, 0, none⟩))])).modify 7 (lay #[.iface 251 (.pointer (some ⟨low + 12, 0, none⟩))])).modify 8 (lay #[.iface 251 (.pointer (some ⟨low + 13, 0, none⟩))])).modify 9 (lay #[.iface 251 (.pointer (some ⟨low + 14, 0, none⟩))])).modify 0 (lay #[.iface 180 (.agg #[.pointer (some ⟨22, 72, none⟩)])])).modify 20 (lay #[.int .u8 0, .int .u8 1, .int .u8 28, .int .u8 2, .int .u8 29, .int .u8 14, .int .u8 24, .int .u8 3, .int .u8 30, .int .u8 22, .int .u8 20, .int .u8 15, .int .u8 25, .int .u8 17, .int .u8 4, .int .u8 8, .int .u8 31, .int .u8 27, .int .u8 13, .int .u8 23, .int .u8 21, .int .u8 19, .int .u8 16, .int .u8 7, .int .u8 26, .int .u8 12, .int .u8 18, .int .u8 6, .int .u8 11, .int .u8 5, .int .u8 10, .int .u8 9])).modify 21 (lay #[.int .u8 0, .int .u8 1, .int .u8 56, .int .u8 2, .int .u8 57, .int .u8 49, .int .u8 28, .int .u8 3, .int .u8 61, .int .u8 58, .int .u8 42, .int .u8 50, .int .u8 38, .int .u8 29, .int .u8 17, .int .u8 4, .int .u8 62, .int .u8 47, .int .u8 59, .int .u8 36, .int .u8 45, .int .u8 43, .int .u8 51, .int .u8 22, .int .u8 53, .int .u8 39, .int .u8 33, .int .u8 30, .int .u8 24, .int .u8 18, .int .u8 12, .int .u8 5, .int .u8 63, .int .u8 55, .int .u8 48, .int .u8 27, .int .u8 60, .int .u8 41, .int .u8 37, .int .u8 16, .int .u8 46, .int .u8 35, .int .u8 44, .int .u8 21, .int .u8 52, .int .u8 32, .int .u8 23, .int .u8 11, .int .u8 54, .int .u8 26, .int .u8 40, .int .u8 15, .int .u8 34, .int .u8 20, .int .u8 31, .int .u8 10, .int .u8 25, .int .u8 14, .int .u8 19, .int .u8 9, .int .u8 13, .int .u8 8, .int .u8 7, .int .u8 6])).modify 1 (lay #[.int .u32 1779033703, .int .u32 3144134277, .int .u32 1013904242, .int .u32 2773480762, .int .u32 1359893119, .int .u32 2600822924, .int .u32 528734635, .int .u32 1541459225])).modify 17 (lay #[.int .u32 1116352408, .int .u32 1899447441, .int .u32 3049323471, .int .u32 3921009573, .int .u32 961987163, .int .u32 1508970993, .int .u32 2453635748, .int .u32 2870763221, .int .u32 3624381080, .int .u32 310598401, .int .u32 607225278, .int .u32 1426881987, .int .u32 1925078388, .int .u32 2162078206, .int .u32 2614888103, .int .u32 3248222580, .int .u32 3835390401, .int .u32 4022224774, .int .u32 264347078, .int .u32 604807628, .int .u32 770255983, .int .u32 1249150122, .int .u32 1555081692, .int .u32 1996064986, .int .u32 2554220882, .int .u32 2821834349, .int .u32 2952996808, .int .u32 3210313671, .int .u32 3336571891, .int .u32 3584528711, .int .u32 113926993, .int .u32 338241895, .int .u32 666307205, .int .u32 773529912, .int .u32 1294757372, .int .u32 1396182291, .int .u32 1695183700, .int .u32 1986661051, .int .u32 2177026350, .int .u32 2456956037, .int .u32 2730485921, .int .u32 2820302411, .int .u32 3259730800, .int .u32 3345764771, .int .u32 3516065817, .int .u32 3600352804, .int .u32 4094571909, .int .u32 275423344, .int .u32 430227734, .int .u32 506948616, .int .u32 659060556, .int .u32 883997877, .int .u32 958139571, .int .u32 1322822218, .int .u32 1537002063, .int .u32 1747873779, .int .u32 1955562222, .int .u32 2024104815, .int .u32 2227730452, .int .u32 2361852424, .int .u32 2428436474, .int .u32 2756734187, .int .u32 3204031479, .int .u32 3329325298])).modify 19 (lay #[.int .u64 1, .int .u64 10, .int .u64 100, .int .u64 1000, .int .u64 10000, .int .u64 100000, .int .u64 1000000, .int .u64 10000000, .int .u64 100000000, .int .u64 1000000000, .int .u64 10000000000, .int .u64 100000000000, .int .u64 1000000000000, .int .u64 10000000000000, .int .u64 100000000000000, .int .u64 1000000000000000, .int .u64 10000000000000000, .int .u64 100000000000000000, .int .u64 1000000000000000000, .int .u64 10000000000000000000]) }
theorem laid_met (os : Os) : laidMetH Tryz.prog Rows.wrapTagsRow.laid ((laidWorld os).forCall (fun _ _ => 0) ⟨#[], #[.slice none 0 0, .int .u8 0, .int .u8 0], []⟩).memory :=
 laidMetH_of_parts (laidMet_of_run' 8 (by kernel_rfl) (by kernel_rfl)) (by kernel_rfl)
theorem reads (os : Os) {H : Type} (enc : TypeId × Value → H) : ∃ places, DataW.whole enc Tryz.prog ((laidWorld os).forCall (fun _ _ => 0) ⟨#[], #[.slice none 0 0, .int .u8 0, .int .u8 0], []⟩).memory Tryz.f8.params.toList Rows.wrapTagsSpec.vars false (show Array Value from #[.slice none 0 0, .int .u8 0, .int .u8 0]).toList 8 = some ([.nil, .lit (.int .u8 0), .lit (.int .u8 0)], [], places) :=
 ⟨[], by kernel_rfl⟩
theorem lifted (os : Os) (started : os.Started) (H : Type) (enc : TypeId × Value → H) (F : Stop.Interp) :
  ReturnsInHanded {} Tryz.checked os 8 .any ((OpenSpec.ofChange Rows.wrapTagsSpec).preRow enc Tryz.prog Tryz.f8 Rows.wrapTagsRow.domain false Rows.wrapTagsRow.laid) (((OpenSpec.ofChange Rows.wrapTagsSpec).at F).post enc Tryz.prog Tryz.f8 false true false false) := by
 obtain ⟨places, hx⟩ := reads os enc
 refine returnsInHanded_of_row (C := Tryz.checked) (s := OpenSpec.ofChange Rows.wrapTagsSpec) own started (by kernel_rfl) Tryz.func8
  (witness_row_at (enc := enc) (C := Tryz.checked) false (laidWorld os) #[.slice none 0 0, .int .u8 0, .int .u8 0] rfl (by kernel_rfl) (by kernel_rfl) (by kernel_rfl)
   (OpenSpec.preRow_of_cond 8 hx (by kernel_rfl) (fun k hk => by cases hk) (by kernel_rfl) (laid_met os))) ?_
 intro W base args ds gs before hval hW _ _ _ hL _ _
 exact contract H enc W base args ds gs before hval hW hL
theorem said : Rows.WrapTagsSaid :=
 OpenClaim.holds_of_cond 8 Tryz.f8 rfl rfl rfl rfl rfl rfl rfl ⟨rfl, rfl, rfl, rfl, rfl⟩ rfl rfl rfl rfl rfl (by kernel_rfl) Tryz.func8 (by kernel_rfl)
  (of_decide_eq_true (by kernel_rfl)) (by unfold Func.isWrapper; first | (rw [if_pos (by decide +kernel)]; kernel_rfl) | (rw [if_neg (by decide +kernel)]; exact ⟨rfl, rfl⟩))
  (fun os started H enc _ F => by rw [OpenClaim.pre_eq_preRow]; exact lifted os started H enc F)
theorem plain (f : FuncId) (fn : Func) (hf : Tryz.pinned.checked.prog.funcNamed "deaddrop/deaddroplaw17.WrapTags" = some f) (hfn : Tryz.pinned.checked.prog.funcs[f]? = some fn) :
  true = Tryz.pinned.checked.prog.looks [] ∧ ∀ (j : Nat) t, fn.params[j]? = some t → Tryz.pinned.checked.prog.wantsStandIn t = false := by
 obtain rfl : f = 8 := Option.some.inj ((show Tryz.prog.funcNamed "deaddrop/deaddroplaw17.WrapTags" = some 8 by kernel_rfl).symm.trans hf) |>.symm
 obtain rfl : fn = Tryz.f8 := (Option.some.inj (Tryz.func8.symm.trans hfn)).symm
 refine ⟨by kernel_rfl, fun j t ht => ?_⟩
 have hall : (Tryz.f8.params.toList.all fun u => !Tryz.prog.wantsStandIn u) = true := by kernel_rfl
 have hm : t ∈ Tryz.f8.params.toList := by simpa using Array.mem_of_getElem? ht
 exact (show Tryz.prog.wantsStandIn t = false by simpa using List.all_eq_true.1 hall t hm)
theorem card : Rows.WrapTagsCardSaid :=
 Claim7.holds_tied_plain_at .later [] _ _ _ _ said (fun _ h => by cases h) (by kernel_rfl) (fun _ h => by cases h) wrapTags_row_tie rfl ⟨rfl, rfl⟩ (by kernel_rfl) rfl plain (by kernel_rfl)
#print axioms card
end Go.Proofs.YtpcjbjpofcdjeaaGreatDoor.wrapTags
