/-
 Proved: whatever values of its parameters' types it is called with, deaddroplaw17.WrapOpens returns true, and each argument reads behind the call as it read before; the listed package-level variables being what the program's own text lays (the card ties them).
 Conditions: none but those of the card itself.
-/
import Derived.Test.YtpcjbjpofcdjeaaGreatDoorCards
import Derived.Test.YtpcjbjpofcdjeaaGreatDoorTie
import Derived.WalkKit
import Derived.ProofKit
import Derived.OpenShut
import Derived.ShutString
import Derived.Below
import Derived.ChangeOld
import Derived.Deep.DeepHandedRow
import Derived.LaidSub
import Derived.LaidHandle
import Derived.LaidLaws
import Derived.RowKitTokens
import Derived.Stop.LaidTwo
import Derived.Lib.LaidTab
import Derived.Lib.ItoaNum
import Derived.Test.YtpcjbjpofcdjeaaGreatDoorWcLog
import Derived.Test.YtpcjbjpofcdjeaaGreatDoorWcAwake
import Derived.Test.YtpcjbjpofcdjeaaGreatDoorWcOpen
import Derived.Test.YtpcjbjpofcdjeaaGreatDoorWcMake
import Derived.Test.YtpcjbjpofcdjeaaGreatDoorWcT
import Derived.Test.YtpcjbjpofcdjeaaGreatDoorMbE
import Derived.Test.YtpcjbjpofcdjeaaGreatDoorMbRefC
import Derived.Test.YtpcjbjpofcdjeaaGreatDoorKyA
import Derived.Test.YtpcjbjpofcdjeaaGreatDoorCc
import Derived.Test.YtpcjbjpofcdjeaaGreatDoorTdA
set_option linter.unusedVariables false
set_option maxHeartbeats 40000000
set_option maxRecDepth 100000
namespace Go.Proofs.YtpcjbjpofcdjeaaGreatDoor.wrapOpens
open Go.ChangeShapes Go.WideShapes Go.ChangeAt Go.RowKit
open Go.ChangeMaps (open_string shut_string)
open Mm Hh Dt Td Vw Wd Mb Me Ro Ky Wc Go.Proofs.YtpcjbjpofcdjeaaGreatDoor
theorem own : ownKnob Tryz.prog.godebug = none := by kernel_rfl
theorem laidOut : laidOutB Tryz.prog = true := by kernel_rfl
def IsRow (k : IntKind) (w : World) (a : Option Addr) (len cap : Nat) (zs : List Int) : Prop :=
 (a = none ∧ len = 0 ∧ cap = 0 ∧ zs = []) ∨
 ∃ x, a = some x ∧ len ≤ cap ∧ cap ≤ maxLen ∧ zs.length = cap ∧ (∀ i, i < zs.length → w.cell? (x.add i) = some (.int k (zs.getD i 0))) ∧ ∀ n ∈ zs, (Lit.int k n).wf = true
attribute [local go_sem] Td.upon_value Td.upon_skip Td.upon_enter Td.upon_row Td.look_tmp Td.look_const Td.look_func Td.look_global
theorem u8_of {a : Int} (h : (Lit.int .u8 a).wf = true) : 0 ≤ a ∧ a ≤ 255 := by
 have h1 : IntKind.u8.min = 0 := by decide
 have h2 : IntKind.u8.max = 255 := by decide
 simp only [Lit.wf, h1, h2, Bool.and_eq_true, decide_eq_true_eq] at h
 exact h
theorem u8n_of {w : World} {a : Option Addr} {len cap : Nat} {zs : List Int}
  (h : (a = none ∧ len = 0 ∧ cap = 0 ∧ zs = []) ∨ ∃ x, a = some x ∧ len ≤ cap ∧ cap ≤ maxLen ∧ zs.length = cap ∧ (∀ i, i < zs.length → w.cell? (x.add i) = some (.int .u8 (zs.getD i 0))) ∧ ∀ n ∈ zs, (Lit.int .u8 n).wf = true) :
  U8N w a len ((zs.take len).map Int.toNat) := by
 rcases h with ⟨rfl, rfl, rfl, rfl⟩ | ⟨x, rfl, hl, hc, hz, hcell, hwf⟩
 ·exact ⟨rfl, fun h => absurd h (by omega)⟩
 ·refine ⟨by rw [List.length_map, List.length_take]; omega, fun h0 => ?_⟩
  obtain ⟨b, o, sp⟩ := x
  have c0 := hcell 0 (by omega)
  cases sp with
  | some sp =>
   exfalso
   simp only [Addr.add, World.cell?] at c0
   split at c0 <;> simp at c0
  | none =>
   refine ⟨b, o, rfl, ?_, fun i x hx => ?_⟩
   ·have := block_lt_of_cell c0
    simpa [Addr.add] using this
   ·rw [List.getElem?_map, List.getElem?_take] at hx
    split at hx
    ·obtain ⟨z, hz2, rfl⟩ := Option.map_eq_some_iff.1 hx
     have hin := (List.getElem?_eq_some_iff.1 hz2).1
     have ci := hcell i hin
     have hadd : (⟨b, o, none⟩ : Addr).add i = ⟨b, o + i, none⟩ := by unfold Addr.add; split <;> simp_all
     rw [hadd, List.getD_eq_getElem?_getD, hz2] at ci
     have hv := hwf z (List.mem_of_getElem? hz2)
     have hb : 0 ≤ z ∧ z ≤ 255 := by
      have h1 : IntKind.u8.min = 0 := by decide
      have h2 : IntKind.u8.max = 255 := by decide
      simp only [Lit.wf, h1, h2, Bool.and_eq_true, decide_eq_true_eq] at hv
      exact hv
     refine ⟨by omega, ?_⟩
     rw [show ((z.toNat : Nat) : Int) = z by omega]
     exact ci
    ·cases hx
theorem bx_two {w : World} {g h : Nat} (x : Sn.Two w g h) : Bx.BE w g ∧ Bx.BE w h := by
 obtain ⟨a0, a1, c0, c1, t0, t1, h0, h1, hne, hb0, hb1⟩ := x
 exact ⟨⟨a0, c0, t0, h0, hb0⟩, ⟨a1, c1, t1, h1, hb1⟩⟩
theorem allr {w : World} (hE : Sn.Two w 12 13 ∧ Sn.Two w 10 11 ∧ Sn.Two w 14 15 ∧ Sn.Two w 15 16 ∧ Sn.Two w 2 3 ∧ Sn.Two w 4 5 ∧ Sn.Two w 6 7 ∧ Sn.Two w 8 9) (hT : ErrT w) (hS : Tabs w) (hP : Lib.TabIs Tryz.prog w "internal/strconv.uint64pow10" .u64 Lib.pow10Tab) : AllR w :=
 ⟨⟨hS, hE.1, hP⟩, ⟨(bx_two hE.2.1).1, (bx_two hE.2.1).2, (bx_two hE.2.2.1).1, (bx_two hE.2.2.1).2, (bx_two hE.2.2.2.1).2⟩, Me.MErrs.of hE.2.2.2.2, hT⟩
theorem bytes_sz (l : List UInt8) (n : Nat) : (⟨(Cc.bytesS l n).toArray⟩ : ByteArray).size = n := by rw [← Cc.len_data, Cc.ba, Cc.bytesS_len]
theorem walk (a0 : Option Addr) (len0 cap0 : Nat) (z0 : List Int) (a1 : Option Addr) (len1 cap1 : Nat) (z1 : List Int) (a2 : Int) (w : World) (w0 : IsRow .u8 w a0 len0 cap0 z0) (w1 : IsRow .u8 w a1 len1 cap1 z1) (w2 : (Lit.int .u8 a2).wf = true) (hE : Sn.Two w 12 13 ∧ Sn.Two w 10 11 ∧ Sn.Two w 14 15 ∧ Sn.Two w 15 16 ∧ Sn.Two w 2 3 ∧ Sn.Two w 4 5 ∧ Sn.Two w 6 7 ∧ Sn.Two w 8 9) (hT : w.cell? ⟨0, 0, none⟩ = some (.iface 180 (.agg #[.pointer (some ⟨22, 72, none⟩)]))) (hS : Tabs w) (hP : Lib.TabIs Tryz.prog w "internal/strconv.uint64pow10" .u64 Lib.pow10Tab) :
  Calls Tryz.prog 7 #[.slice a0 len0 cap0, .slice a1 len1 cap1, .int .u8 a2] w fun e w' => e = .returned (.bool true) ∧ Below w.heap.size w w' := by
 obtain ⟨n2, n2'⟩ := u8_of w2
 have hR : AllR w := allr hE hT hS hP
 have HAw : Hid (∀ W, w.grownBy W none → Calls Tryz.prog 11 #[] W fun e w' => e = .returned (.bool true) ∧ W.grownBy w' none) := fun W hW => awake17_any W (hR.keep hW)
 have hu := u8n_of w1
 obtain ⟨ns, hns⟩ := nmd ((z1.take len1).map Int.toNat)
 rw [hns] at hu
 obtain ⟨hb1, hl1, _⟩ := Cc.holds_of_row w1
 have hnl : len1 ≤ 9223372036854775807 := hl1
 obtain ⟨hb0, hl0, _⟩ := Cc.holds_of_row w0
 obtain ⟨s, hs⟩ : ∃ s : ByteArray, (⟨(Cc.bytesS (Cc.bytesOf z0 len0) 32).toArray⟩ : ByteArray) = s := ⟨_, rfl⟩
 obtain ⟨m, hm⟩ : ∃ m : ByteArray, (⟨(Cc.bytesS (Cc.bytesOf z1 len1) 20).toArray⟩ : ByteArray) = m := ⟨_, rfl⟩
 have hss : s.size = 32 := by rw [← hs]; exact bytes_sz _ _
 have hms : m.size = 20 := by rw [← hm]; exact bytes_sz _ _
 by_cases h8 : len1 ≤ 8
 ·have d1 : decide (8 < len1) = false := dcF
  have d2 : decide ((8 : Int) < (len1 : Int)) = false := dcF
  have HB0 : Hid (Calls Tryz.prog 24 #[.slice a0 len0 cap0, .int .i64 32] w fun e w' => e = .returned (.string s) ∧ w.grownBy w' none) := by rw [← hs]; exact Cc.bytes_any a0 len0 cap0 32 _ w hb0 hl0 (by decide)
  have HB1 : Hid (∀ W, w.grownBy W none → Calls Tryz.prog 24 #[.slice a1 len1 cap1, .int .i64 20] W fun e w' => e = .returned (.string m) ∧ W.grownBy w' none) := fun W hW => by rw [← hm]; exact Cc.bytes_any a1 len1 cap1 20 _ W (hb1.keep hW) hl1 (by decide)
  have HLg : Hid (∀ W, w.grownBy W none → Calls Tryz.prog 25 #[.string s, .string m, .slice a1 len1 cap1] W fun e w' => ∃ A c', e = .returned (.slice A (logK s m ns).length c') ∧ LogL w' A (logK s m ns).length (logK s m ns) ∧ (logK s m ns).length ≤ c' ∧ W.grownBy w' none) := fun W hW => log17_any s m a1 len1 cap1 ns W (by omega) (by omega) (hu.keep hW) (by omega)
  have HRk := Lib.hid hR
  have HOwA : Hid (∀ (k : Nat) W, k < 8 → Calls Tryz.prog 26 #[.string m, .int .i64 (k : Int)] W fun e w' => e = .returned (.string (Ky.ownB m (k : Int))) ∧ W.grownBy w' none) := fun k W hk => Ky.refOwn_any m (k : Int) W (by omega) (by omega) (by omega)
  have HEpA : Hid (∀ (k : Int) W, 0 ≤ k → k ≤ 100 → Calls Tryz.prog 30 #[.string s, .int .i64 k] W fun e w' => e = .returned (.string (Ky.epochB s k)) ∧ W.grownBy w' none) := fun k W h0 h1 => Ky.refEpoch_any s k W (by omega) (by omega) (by omega)
  clear w0 w1 w2 hE hT hS hP hR hu hns hb0 hb1 hl0 hl1 hnl hs hm hss hms h8
  go_enter Tryz.func7, Tryz.ntmps7
  go_wp2_with fail
  refine HB0.out.mono ?_
  rintro e x1 ⟨rfl, f1⟩
  have F1 := Lib.hid f1
  clear f1 HB0
  go_wp2_with fail
  refine (HB1.out x1 F1.out).mono ?_
  rintro e x2 ⟨rfl, f2⟩
  have F2 := Lib.hid (gb_none F1.out f2)
  clear f2 HB1
  go_wp2_with fail
  refine (HLg.out x2 F2.out).mono ?_
  rintro e v1 ⟨A, c9, rfl, hLL, hle, g1⟩
  have hch := log_chain s m ns
  have hnx := log_nexts s m ns
  have h1N : (logK s m ns).length = 1 + min 7 ns.length := log_len s m ns
  obtain ⟨C, hC⟩ := nmd (logK s m ns)
  rw [hC] at hLL hle hch hnx h1N ⊢
  obtain ⟨N, hN⟩ := nmd (C.length)
  rw [hN] at hLL hle h1N ⊢
  have HN1 : Hid (1 ≤ N ∧ N ≤ 8) := ⟨by omega, by omega⟩
  have HN := Lib.hid hN
  have HG1 := Lib.hid (gb_none F2.out g1)
  have HL : Hid (∀ W, v1.grownBy W none → LogL W A N C) := fun W hW => hLL.keep hW
  have HCh : Hid (ChainR C) := hch
  have HNx : Hid (Nexts s m C) := hnx
  have Hle := Lib.hid hle
  obtain ⟨K, hK, hK2⟩ : ∃ K : Nat, a2 % (N : Int) = (K : Int) ∧ K < N := by
   have h1 := Int.emod_nonneg a2 (show (N : Int) ≠ 0 by omega)
   have h2 := Int.emod_lt_of_pos a2 (show (0 : Int) < (N : Int) by omega)
   exact ⟨(a2 % (N : Int)).toNat, by omega, by omega⟩
  obtain ⟨r, hr⟩ : ∃ r, C[K]? = some r := ⟨_, List.getElem?_eq_getElem (by omega)⟩
  have hmay := good_may hch.2 (List.mem_of_getElem? hr)
  have HU : Hid (∀ k : Int, unwrapR (Ky.ownB m k) r k = if inB C ((K + 1 : Nat) : Int) k = true then some (Ky.epochB s ((K + 1 : Nat) : Int)) else none) := fun k => log_opens hnx hch.2 hr k
  have HIn : Hid (∀ (k : Int) W, v1.grownBy W none → Calls Tryz.prog 29 #[.slice A N c9, .int .i64 ((K : Int) + 1), .int .i64 k] W fun x w' => x = .returned (.bool (inB C ((K + 1 : Nat) : Int) k)) ∧ W = w') := fun k W hW => refIn_any A N c9 C ((K : Int) + 1) k W (HL.out W hW) (by omega)
  obtain ⟨g, oo, hA, hgl, RA, rc, z0, z1, z2, z3, z4, z5, hwl, hrc⟩ := log_at hLL hr
  subst hA
  have HOpA : Hid (∀ own (k : Int) W, own.size ≤ 1048576 → v1.grownBy W none → Calls Tryz.prog 14 #[.string own, .agg #[.int .i64 r.seq, .string r.prev, .int .i64 r.kind, .int .i64 r.dev, .slice RA r.wraps.length rc, .string r.tag], .int .i64 k] W fun e w' => e = .returned (.tuple #[.string ((unwrapR own r k).getD ⟨#[]⟩), .bool (unwrapR own r k).isSome]) ∧ W.grownBy w' none) := fun own k W ho hW => pOpen_any own r RA rc k W (hwl.keep hW) (by have := (may_small2 hmay).1; omega) (fun x hx => by have := (may_small2 hmay).2 x hx; omega) ho (HRk.out.keep (gb_none HG1.out hW))
  have HZA : Hid (∀ W, v1.grownBy W none → W.cell? ⟨g, oo + K * 6, none⟩ = some (.int .i64 r.seq) ∧ W.cell? ⟨g, oo + K * 6 + 1, none⟩ = some (.string r.prev) ∧ W.cell? ⟨g, oo + K * 6 + 2, none⟩ = some (.int .i64 r.kind) ∧ W.cell? ⟨g, oo + K * 6 + 3, none⟩ = some (.int .i64 r.dev) ∧ W.cell? ⟨g, oo + K * 6 + 4, none⟩ = some (.slice RA r.wraps.length rc) ∧ W.cell? ⟨g, oo + K * 6 + 5, none⟩ = some (.string r.tag)) := fun W hW => by
   have hb := hW.block g hgl (by simp)
   exact ⟨(World.cell?_of_block (a := ⟨g, _, none⟩) hb).trans z0, (World.cell?_of_block (a := ⟨g, _, none⟩) hb).trans z1, (World.cell?_of_block (a := ⟨g, _, none⟩) hb).trans z2, (World.cell?_of_block (a := ⟨g, _, none⟩) hb).trans z3, (World.cell?_of_block (a := ⟨g, _, none⟩) hb).trans z4, (World.cell?_of_block (a := ⟨g, _, none⟩) hb).trans z5⟩
  obtain ⟨E9, hE9⟩ := nmd (Ky.epochB s ((K + 1 : Nat) : Int))
  rw [hE9] at HU
  have HEp : Hid (∀ W, Calls Tryz.prog 30 #[.string s, .int .i64 ((K : Int) + 1)] W fun e w' => e = .returned (.string E9) ∧ W.grownBy w' none) := fun W => by rw [← hE9]; exact HEpA.out ((K : Int) + 1) W (by omega) (by omega)
  have e9 : (E9.toList == E9.toList) = true := beq_self_eq_true _
  have e9n : (E9.toList != E9.toList) = false := by rw [bne, e9]; rfl
  have t1 : IntKind.i64.wrap a2 = a2 := by rw [IntKind.wrap_i64]; omega
  have t2 : a2.tmod (N : Int) = (K : Int) := by rw [Int.tmod_eq_emod_of_nonneg n2, hK]
  have t3 : ¬ (N : Int) = 0 := by omega
  have t3b : ¬ N = 0 := by omega
  have t4 : IntKind.i64.wrap (K : Int) = (K : Int) := by rw [IntKind.wrap_i64]; omega
  have HT : Hid (IntKind.i64.wrap ((K : Int) + 1) = (K : Int) + 1 ∧ (K : Int) < (N : Int)) := ⟨by rw [IntKind.wrap_i64]; omega, by omega⟩
  clear hLL hle g1 hch hnx h1N hC hN hK hK2 hr hmay n2 n2' hgl z0 z1 z2 z3 z4 z5 hwl hrc hE9 HEpA HLg HL HN HCh HNx HN1 Hle HRk d1 d2
  go_upto_region 6 with fail
  clear t1 t2 t3 t3b t4
  go_wp2_with fail
  go_loopw [11] (fun iv wr => ∃ k : Nat, k ≤ 8 ∧ iv = .int .i64 k ∧ v1.grownBy wr none) (fun iv _ => 8 - (intOf iv).toNat)
  case atStart => exact ⟨0, by decide, rfl, gb_refl _ _⟩
  case round =>
   obtain ⟨k, hk, rfl, hg⟩ := hrel
   by_cases hlt : k < 8
   ·have d1 : decide (k < 8) = true := decide_eq_true hlt
    have d2 : decide ((k : Int) < 8) = true := dcT
    have tk : IntKind.i64.wrap ((k : Int) + 1) = ((k + 1 : Nat) : Int) := by rw [IntKind.wrap_i64]; omega
    have hun := HU.out (k : Int)
    obtain ⟨O9, hO9⟩ := nmd (Ky.ownB m (k : Int))
    have HOw : Hid (∀ W, wr.grownBy W none → Calls Tryz.prog 26 #[.string m, .int .i64 (k : Int)] W fun e w' => e = .returned (.string O9) ∧ W.grownBy w' none) := fun W _ => by rw [← hO9]; exact HOwA.out k W hlt
    have hop := fun W hW => HOpA.out O9 (k : Int) W (by rw [← hO9, Ky.own_size]; decide) hW
    rw [hO9] at hun
    have HZ := Lib.hid fun W (hW : wr.grownBy W none) => HZA.out W (gb_none hg hW)
    have HlT := Lib.hid hlt
    clear hO9
    cases hq2 : inB C ((K + 1 : Nat) : Int) (k : Int) with
    | true =>
     have hq := hq2
     have Hq := Lib.hid hq
     have HOp : Hid (∀ W, wr.grownBy W none → Calls Tryz.prog 14 #[.string O9, .agg #[.int .i64 r.seq, .string r.prev, .int .i64 r.kind, .int .i64 r.dev, .slice RA r.wraps.length rc, .string r.tag], .int .i64 (k : Int)] W fun e w' => e = .returned (.tuple #[.string E9, .bool true]) ∧ W.grownBy w' none) := fun W hW => by
      have h := hop W (gb_none hg hW)
      rw [hun, hq] at h
      exact h
     have HInk : Hid (∀ W, wr.grownBy W none → Calls Tryz.prog 29 #[.slice (some ⟨g, oo, none⟩) N c9, .int .i64 ((K : Int) + 1), .int .i64 (k : Int)] W fun x w' => x = .returned (.bool true) ∧ W = w') := fun W hW => by
      have h := HIn.out (k : Int) W (gb_none hg hW)
      rw [hq2] at h
      exact h
     clear hq hq2 hun hop hk hlt
     go_upto_region 9 with fail
     clear d1 d2
     apply wp_region_told (le := fun a b => a.grownBy b none) [isV _, isV _, isV _, isV _, isV _, isV _, isV _, isV _, isV _, isV _, isV _, isV _, isV _, isV _]
     case hn => rfl
     case hm => kernel_rfl
     case hB => kernel_rfl
     case ht => exact fun _ _ _ h k => gb_none h k
     case hw => exact gb_drew (gb_refl _ _)
     apply told_is
     ·intro W f hW hE h0 K hK; have e8 := h0.of 8; clear hE h0; refine yes_f ?_; go_simp; exact kK hK
     apply told_is
     ·intro W f hW hE h0 K hK; have e11 := h0.of 11; clear hE h0; refine yes_f ?_; go_simp; exact kK hK
     apply told_is
     ·intro W f hW hE h0 K hK; have e37 := hE.of 1 37; have e38 := hE.of 0 38; clear hE h0; refine yes_f ?_; go_simp; refine (HOw.out W hW).mono ?_; rintro e w1' ⟨rfl, g'⟩; exact ⟨_, rfl, hK _ _ g' rfl⟩
     apply told_is
     ·intro W f hW hE h0 K hK; have e9 := h0.of 9; clear hE h0; refine yes_f ?_; go_simp; exact kK hK
     apply told_is
     ·intro W f hW hE h0 K hK; have e10 := h0.of 10; clear hE h0; refine yes_f ?_; go_simp; exact kK hK
     apply told_is
     ·intro W f hW hE h0 K hK; have e40 := hE.of 1 40; have e41 := hE.of 0 41; clear hE h0; refine yes_f ?_; have bK := HT.out.2; go_simp; exact kK hK
     apply told_is
     ·intro W f hW hE h0 K hK; have e42 := hE.of 0 42; clear hE h0; refine yes_f ?_; obtain ⟨z0, z1, z2, z3, z4, z5⟩ := HZ.out W hW; go_simp; exact kK hK
     apply told_is
     ·intro W f hW hE h0 K hK; have e11 := h0.of 11; clear hE h0; refine yes_f ?_; go_simp; exact kK hK
     apply told_is
     ·intro W f hW hE h0 K hK; have e39 := hE.of 5 39; have e43 := hE.of 1 43; have e44 := hE.of 0 44; clear hE h0; refine yes_f ?_; go_simp; refine (HOp.out W hW).mono ?_; rintro e w1' ⟨rfl, g'⟩; exact ⟨_, rfl, hK _ _ g' rfl⟩
     apply told_is
     ·intro W f hW hE h0 K hK; have e45 := hE.of 0 45; clear hE h0; refine yes_f ?_; go_simp; exact kK hK
     apply told_is
     ·intro W f hW hE h0 K hK; have e36 := hE.of 0 36; clear hE h0; refine yes_f ?_; go_simp; exact kK hK
     apply told_is
     ·intro W f hW hE h0 K hK; have e36 := hE.of 1 36; clear hE h0; refine yes_f ?_; go_simp; exact kK hK
     apply told_is
     ·intro W f hW hE h0 K hK; have e46 := hE.of 1 46; clear hE h0; refine yes_f ?_; go_simp; exact kK hK
     apply told_is
     ·intro W f hW hE h0 K hK; have e47 := hE.of 1 47; clear hE h0; refine yes_f ?_; go_simp; exact kK hK
     intro W f hW hA
     simp only [lexIn, Act.put, List.setIfInBounds_toArray, List.set_cons_zero, List.set_cons_succ]
     have e12 : f 12 = _ := hA 1 (some 12) _ rfl
     rw [e12]
     have e13 : f 13 = _ := hA 0 (some 13) _ rfl
     rw [e13]
     clear hA
     have Hg2 := Lib.hid (gb_none hg hW)
     have HI2 := Lib.hid (HInk.out W hW)
     clear hW HOw HOp HZ HInk hg
     obtain ⟨p1, bK⟩ := HT.out
     go_wp2_with fail
     refine HI2.out.mono ?_
     rintro e _ ⟨rfl, rfl⟩
     go_wp2_with fail
     refine (HEp.out _).mono ?_
     rintro e w5 ⟨rfl, g5⟩
     have Hg5 := Lib.hid (gb_none Hg2.out g5)
     clear g5
     go_wp2_with fail
     go_roundw
     case rel => exact ⟨k + 1, HlT.out, by go_num, Hg5.out⟩
     case measure => simp [intOf]; have := HlT.out; omega
    | false =>
     have hq := hq2
     have Hq := Lib.hid hq
     have HOp : Hid (∀ W, wr.grownBy W none → Calls Tryz.prog 14 #[.string O9, .agg #[.int .i64 r.seq, .string r.prev, .int .i64 r.kind, .int .i64 r.dev, .slice RA r.wraps.length rc, .string r.tag], .int .i64 (k : Int)] W fun e w' => e = .returned (.tuple #[.string ⟨#[]⟩, .bool false]) ∧ W.grownBy w' none) := fun W hW => by
      have h := hop W (gb_none hg hW)
      rw [hun, hq] at h
      exact h
     have HInk : Hid (∀ W, wr.grownBy W none → Calls Tryz.prog 29 #[.slice (some ⟨g, oo, none⟩) N c9, .int .i64 ((K : Int) + 1), .int .i64 (k : Int)] W fun x w' => x = .returned (.bool false) ∧ W = w') := fun W hW => by
      have h := HIn.out (k : Int) W (gb_none hg hW)
      rw [hq2] at h
      exact h
     clear hq hq2 hun hop hk hlt
     go_upto_region 9 with fail
     clear d1 d2
     apply wp_region_told (le := fun a b => a.grownBy b none) [isV _, isV _, isV _, isV _, isV _, isV _, isV _, isV _, isV _, isV _, isV _, isV _, isV _, isV _]
     case hn => rfl
     case hm => kernel_rfl
     case hB => kernel_rfl
     case ht => exact fun _ _ _ h k => gb_none h k
     case hw => exact gb_drew (gb_refl _ _)
     apply told_is
     ·intro W f hW hE h0 K hK; have e8 := h0.of 8; clear hE h0; refine yes_f ?_; go_simp; exact kK hK
     apply told_is
     ·intro W f hW hE h0 K hK; have e11 := h0.of 11; clear hE h0; refine yes_f ?_; go_simp; exact kK hK
     apply told_is
     ·intro W f hW hE h0 K hK; have e37 := hE.of 1 37; have e38 := hE.of 0 38; clear hE h0; refine yes_f ?_; go_simp; refine (HOw.out W hW).mono ?_; rintro e w1' ⟨rfl, g'⟩; exact ⟨_, rfl, hK _ _ g' rfl⟩
     apply told_is
     ·intro W f hW hE h0 K hK; have e9 := h0.of 9; clear hE h0; refine yes_f ?_; go_simp; exact kK hK
     apply told_is
     ·intro W f hW hE h0 K hK; have e10 := h0.of 10; clear hE h0; refine yes_f ?_; go_simp; exact kK hK
     apply told_is
     ·intro W f hW hE h0 K hK; have e40 := hE.of 1 40; have e41 := hE.of 0 41; clear hE h0; refine yes_f ?_; have bK := HT.out.2; go_simp; exact kK hK
     apply told_is
     ·intro W f hW hE h0 K hK; have e42 := hE.of 0 42; clear hE h0; refine yes_f ?_; obtain ⟨z0, z1, z2, z3, z4, z5⟩ := HZ.out W hW; go_simp; exact kK hK
     apply told_is
     ·intro W f hW hE h0 K hK; have e11 := h0.of 11; clear hE h0; refine yes_f ?_; go_simp; exact kK hK
     apply told_is
     ·intro W f hW hE h0 K hK; have e39 := hE.of 5 39; have e43 := hE.of 1 43; have e44 := hE.of 0 44; clear hE h0; refine yes_f ?_; go_simp; refine (HOp.out W hW).mono ?_; rintro e w1' ⟨rfl, g'⟩; exact ⟨_, rfl, hK _ _ g' rfl⟩
     apply told_is
     ·intro W f hW hE h0 K hK; have e45 := hE.of 0 45; clear hE h0; refine yes_f ?_; go_simp; exact kK hK
     apply told_is
     ·intro W f hW hE h0 K hK; have e36 := hE.of 0 36; clear hE h0; refine yes_f ?_; go_simp; exact kK hK
     apply told_is
     ·intro W f hW hE h0 K hK; have e36 := hE.of 1 36; clear hE h0; refine yes_f ?_; go_simp; exact kK hK
     apply told_is
     ·intro W f hW hE h0 K hK; have e46 := hE.of 1 46; clear hE h0; refine yes_f ?_; go_simp; exact kK hK
     apply told_is
     ·intro W f hW hE h0 K hK; have e47 := hE.of 1 47; clear hE h0; refine yes_f ?_; go_simp; exact kK hK
     intro W f hW hA
     simp only [lexIn, Act.put, List.setIfInBounds_toArray, List.set_cons_zero, List.set_cons_succ]
     have e12 : f 12 = _ := hA 1 (some 12) _ rfl
     rw [e12]
     have e13 : f 13 = _ := hA 0 (some 13) _ rfl
     rw [e13]
     clear hA
     have Hg2 := Lib.hid (gb_none hg hW)
     have HI2 := Lib.hid (HInk.out W hW)
     clear hW HOw HOp HZ HInk hg
     obtain ⟨p1, bK⟩ := HT.out
     go_wp2_with fail
     refine HI2.out.mono ?_
     rintro e _ ⟨rfl, rfl⟩
     go_wp2_with fail
     go_roundw
     case rel => exact ⟨k + 1, HlT.out, by go_num, Hg2.out⟩
     case measure => simp [intOf]; have := HlT.out; omega
   ·obtain rfl : k = 8 := by omega
    have d1 : decide (((8 : Nat) : Int) < 8) = false := by decide
    have G0 := Lib.hid (gb_none HG1.out hg)
    clear hlt hk hg
    go_wp2_with fail
    refine (HAw.out wr G0.out).mono ?_
    rintro e w3 ⟨rfl, g3⟩
    have G3 := Lib.hid (gb_none G0.out g3)
    clear g3
    go_wp2_with fail
    go_ret
    exact ⟨rfl, gb_below G3.out (Nat.le_refl _)⟩
 ·have d1 : decide (8 < len1) = true := dcT
  have d2 : decide ((8 : Int) < (len1 : Int)) = true := dcT
  clear w0 w1 w2 hE hT hS hP hR hu hns hb0 hb1 hl0 hl1 hnl hs hm hss hms h8
  go_enter Tryz.func7, Tryz.ntmps7
  go_wp2_with fail
  refine (HAw.out w (gb_refl _ _)).mono ?_
  rintro e v1 ⟨rfl, g1⟩
  have G1 := Lib.hid g1
  clear g1
  go_wp2_with fail
  go_ret
  exact ⟨rfl, gb_below G1.out (Nat.le_refl _)⟩
theorem star : "*" ++ "errors.errorString" = "*errors.errorString" := by decide
theorem row_err (u : TypeId) (h : Tryz.prog.typeName? 3 u = some "*errors.errorString") : u = 251 :=
 typeName_ptr_named (nm := "errors.errorString") (by rw [star]; kernel_rfl) (by kernel_rfl) (by decide) u (by rw [star]; exact h)
theorem two0_1 {W : World} (h : laidMetH Tryz.prog Rows.wrapOpensRow.laid W) : Sn.Two W 12 13 := by
 have h4 : laidMet Tryz.prog [("deaddrop/hmac.errBelow", Rows.laid_deaddrop_hmac_errBelow), ("deaddrop/hmac.errBeyond", Rows.laid_deaddrop_hmac_errBeyond)] W := (laidMetH_iff.1 (laidMetH.filter (fun x => x.1 == "deaddrop/hmac.errBelow" || x.1 == "deaddrop/hmac.errBeyond") h)).1
 obtain ⟨a0, a1, s0, s1, c0, c1, t0, t1, hv0, hv1, hc0, hs0, hz0, hc1, hs1, hz1, hne, hb0, hb1⟩ := laid_sentinels2 h4 (g0 := 12) (g1 := 13) (ti := 72) (by kernel_rfl) (by kernel_rfl) (by kernel_rfl) (by kernel_rfl) Tryz.underlying72 row_err Tryz.underlying251 Tryz.underlying269 rfl rfl Tryz.underlying9 (by kernel_rfl) (by kernel_rfl)
 exact ⟨a0, a1, c0, c1, t0, t1, by simpa using World.var?_cell (g := 12) (by kernel_rfl) hv0 0, by simpa using World.var?_cell (g := 13) (by kernel_rfl) hv1 0, hne, hb0, hb1⟩
theorem two2_3 {W : World} (h : laidMetH Tryz.prog Rows.wrapOpensRow.laid W) : Sn.Two W 10 11 := by
 have h4 : laidMet Tryz.prog [("deaddrop/box.errKey", Rows.laid_deaddrop_box_errKey), ("deaddrop/box.errNonce", Rows.laid_deaddrop_box_errNonce)] W := (laidMetH_iff.1 (laidMetH.filter (fun x => x.1 == "deaddrop/box.errKey" || x.1 == "deaddrop/box.errNonce") h)).1
 obtain ⟨a0, a1, s0, s1, c0, c1, t0, t1, hv0, hv1, hc0, hs0, hz0, hc1, hs1, hz1, hne, hb0, hb1⟩ := laid_sentinels2 h4 (g0 := 10) (g1 := 11) (ti := 72) (by kernel_rfl) (by kernel_rfl) (by kernel_rfl) (by kernel_rfl) Tryz.underlying72 row_err Tryz.underlying251 Tryz.underlying269 rfl rfl Tryz.underlying9 (by kernel_rfl) (by kernel_rfl)
 exact ⟨a0, a1, c0, c1, t0, t1, by simpa using World.var?_cell (g := 10) (by kernel_rfl) hv0 0, by simpa using World.var?_cell (g := 11) (by kernel_rfl) hv1 0, hne, hb0, hb1⟩
theorem two4_5 {W : World} (h : laidMetH Tryz.prog Rows.wrapOpensRow.laid W) : Sn.Two W 14 15 := by
 have h4 : laidMet Tryz.prog [("deaddrop/box.errShort", Rows.laid_deaddrop_box_errShort), ("deaddrop/box.errLong", Rows.laid_deaddrop_box_errLong)] W := (laidMetH_iff.1 (laidMetH.filter (fun x => x.1 == "deaddrop/box.errShort" || x.1 == "deaddrop/box.errLong") h)).1
 obtain ⟨a0, a1, s0, s1, c0, c1, t0, t1, hv0, hv1, hc0, hs0, hz0, hc1, hs1, hz1, hne, hb0, hb1⟩ := laid_sentinels2 h4 (g0 := 14) (g1 := 15) (ti := 72) (by kernel_rfl) (by kernel_rfl) (by kernel_rfl) (by kernel_rfl) Tryz.underlying72 row_err Tryz.underlying251 Tryz.underlying269 rfl rfl Tryz.underlying9 (by kernel_rfl) (by kernel_rfl)
 exact ⟨a0, a1, c0, c1, t0, t1, by simpa using World.var?_cell (g := 14) (by kernel_rfl) hv0 0, by simpa using World.var?_cell (g := 15) (by kernel_rfl) hv1 0, hne, hb0, hb1⟩
theorem two5_6 {W : World} (h : laidMetH Tryz.prog Rows.wrapOpensRow.laid W) : Sn.Two W 15 16 := by
 have h4 : laidMet Tryz.prog [("deaddrop/box.errLong", Rows.laid_deaddrop_box_errLong), ("deaddrop/box.errTag", Rows.laid_deaddrop_box_errTag)] W := (laidMetH_iff.1 (laidMetH.filter (fun x => x.1 == "deaddrop/box.errLong" || x.1 == "deaddrop/box.errTag") h)).1
 obtain ⟨a0, a1, s0, s1, c0, c1, t0, t1, hv0, hv1, hc0, hs0, hz0, hc1, hs1, hz1, hne, hb0, hb1⟩ := laid_sentinels2 h4 (g0 := 15) (g1 := 16) (ti := 72) (by kernel_rfl) (by kernel_rfl) (by kernel_rfl) (by kernel_rfl) Tryz.underlying72 row_err Tryz.underlying251 Tryz.underlying269 rfl rfl Tryz.underlying9 (by kernel_rfl) (by kernel_rfl)
 exact ⟨a0, a1, c0, c1, t0, t1, by simpa using World.var?_cell (g := 15) (by kernel_rfl) hv0 0, by simpa using World.var?_cell (g := 16) (by kernel_rfl) hv1 0, hne, hb0, hb1⟩
theorem two7_8 {W : World} (h : laidMetH Tryz.prog Rows.wrapOpensRow.laid W) : Sn.Two W 2 3 := by
 have h4 : laidMet Tryz.prog [("deaddrop/member.errMany", Rows.laid_deaddrop_member_errMany), ("deaddrop/member.errRecord", Rows.laid_deaddrop_member_errRecord)] W := (laidMetH_iff.1 (laidMetH.filter (fun x => x.1 == "deaddrop/member.errMany" || x.1 == "deaddrop/member.errRecord") h)).1
 obtain ⟨a0, a1, s0, s1, c0, c1, t0, t1, hv0, hv1, hc0, hs0, hz0, hc1, hs1, hz1, hne, hb0, hb1⟩ := laid_sentinels2 h4 (g0 := 2) (g1 := 3) (ti := 72) (by kernel_rfl) (by kernel_rfl) (by kernel_rfl) (by kernel_rfl) Tryz.underlying72 row_err Tryz.underlying251 Tryz.underlying269 rfl rfl Tryz.underlying9 (by kernel_rfl) (by kernel_rfl)
 exact ⟨a0, a1, c0, c1, t0, t1, by simpa using World.var?_cell (g := 2) (by kernel_rfl) hv0 0, by simpa using World.var?_cell (g := 3) (by kernel_rfl) hv1 0, hne, hb0, hb1⟩
theorem two9_10 {W : World} (h : laidMetH Tryz.prog Rows.wrapOpensRow.laid W) : Sn.Two W 4 5 := by
 have h4 : laidMet Tryz.prog [("deaddrop/member.errSeq", Rows.laid_deaddrop_member_errSeq), ("deaddrop/member.errPrev", Rows.laid_deaddrop_member_errPrev)] W := (laidMetH_iff.1 (laidMetH.filter (fun x => x.1 == "deaddrop/member.errSeq" || x.1 == "deaddrop/member.errPrev") h)).1
 obtain ⟨a0, a1, s0, s1, c0, c1, t0, t1, hv0, hv1, hc0, hs0, hz0, hc1, hs1, hz1, hne, hb0, hb1⟩ := laid_sentinels2 h4 (g0 := 4) (g1 := 5) (ti := 72) (by kernel_rfl) (by kernel_rfl) (by kernel_rfl) (by kernel_rfl) Tryz.underlying72 row_err Tryz.underlying251 Tryz.underlying269 rfl rfl Tryz.underlying9 (by kernel_rfl) (by kernel_rfl)
 exact ⟨a0, a1, c0, c1, t0, t1, by simpa using World.var?_cell (g := 4) (by kernel_rfl) hv0 0, by simpa using World.var?_cell (g := 5) (by kernel_rfl) hv1 0, hne, hb0, hb1⟩
theorem two11_12 {W : World} (h : laidMetH Tryz.prog Rows.wrapOpensRow.laid W) : Sn.Two W 6 7 := by
 have h4 : laidMet Tryz.prog [("deaddrop/member.errFirst", Rows.laid_deaddrop_member_errFirst), ("deaddrop/member.errHave", Rows.laid_deaddrop_member_errHave)] W := (laidMetH_iff.1 (laidMetH.filter (fun x => x.1 == "deaddrop/member.errFirst" || x.1 == "deaddrop/member.errHave") h)).1
 obtain ⟨a0, a1, s0, s1, c0, c1, t0, t1, hv0, hv1, hc0, hs0, hz0, hc1, hs1, hz1, hne, hb0, hb1⟩ := laid_sentinels2 h4 (g0 := 6) (g1 := 7) (ti := 72) (by kernel_rfl) (by kernel_rfl) (by kernel_rfl) (by kernel_rfl) Tryz.underlying72 row_err Tryz.underlying251 Tryz.underlying269 rfl rfl Tryz.underlying9 (by kernel_rfl) (by kernel_rfl)
 exact ⟨a0, a1, c0, c1, t0, t1, by simpa using World.var?_cell (g := 6) (by kernel_rfl) hv0 0, by simpa using World.var?_cell (g := 7) (by kernel_rfl) hv1 0, hne, hb0, hb1⟩
theorem two13_14 {W : World} (h : laidMetH Tryz.prog Rows.wrapOpensRow.laid W) : Sn.Two W 8 9 := by
 have h4 : laidMet Tryz.prog [("deaddrop/member.errNone", Rows.laid_deaddrop_member_errNone), ("deaddrop/member.errStay", Rows.laid_deaddrop_member_errStay)] W := (laidMetH_iff.1 (laidMetH.filter (fun x => x.1 == "deaddrop/member.errNone" || x.1 == "deaddrop/member.errStay") h)).1
 obtain ⟨a0, a1, s0, s1, c0, c1, t0, t1, hv0, hv1, hc0, hs0, hz0, hc1, hs1, hz1, hne, hb0, hb1⟩ := laid_sentinels2 h4 (g0 := 8) (g1 := 9) (ti := 72) (by kernel_rfl) (by kernel_rfl) (by kernel_rfl) (by kernel_rfl) Tryz.underlying72 row_err Tryz.underlying251 Tryz.underlying269 rfl rfl Tryz.underlying9 (by kernel_rfl) (by kernel_rfl)
 exact ⟨a0, a1, c0, c1, t0, t1, by simpa using World.var?_cell (g := 8) (by kernel_rfl) hv0 0, by simpa using World.var?_cell (g := 9) (by kernel_rfl) hv1 0, hne, hb0, hb1⟩
theorem et : Tryz.prog.globalNamed "errors.errorType" = some 0 := by kernel_rfl
theorem rt : (Tryz.prog.cutTypes.find? (·.1 == "internal/reflectlite.rtype")).map (·.2) = some 180 := by kernel_rfl
theorem one_error : ((List.range 281).filter fun t => Tryz.prog.rowNamed t [101, 114, 114, 111, 114]) = [72] := by kernel_rfl
theorem how_many : Tryz.prog.types.size = 281 := by kernel_rfl
theorem handle : typeHandle Tryz.prog 72 = .pointer (some ⟨22, 72, none⟩) := by kernel_rfl
theorem errT {W : World} (h : laidMetH Tryz.prog Rows.wrapOpensRow.laid W) : W.cell? ⟨0, 0, none⟩ = some (.iface 180 (.agg #[.pointer (some ⟨22, 72, none⟩)])) := by
 have hm : ("errors.errorType", Rows.laid_errors_errorType) ∈ (Rows.wrapOpensRow.laid.filter fun x => x.2.handleName?.isSome) := List.mem_filter.2 ⟨List.Mem.tail _ (List.Mem.tail _ (List.Mem.tail _ (List.Mem.tail _ (List.Mem.tail _ (List.Mem.head _))))), by simp [DataW.handleName?, Rows.laid_errors_errorType]⟩
 obtain ⟨n, u, t, hn, hu, ht, hr, hc⟩ := (laidMetH_iff.1 h).2 _ hm
 obtain rfl := Option.some.inj hn
 obtain rfl := Option.some.inj (rt.symm.trans hu)
 have hin : t ∈ [72] := by
  rw [← one_error]
  exact List.mem_filter.2 ⟨List.mem_range.2 (how_many ▸ ht), hr⟩
 obtain rfl := List.mem_singleton.1 hin
 rw [handle] at hc
 have := World.var?_cell et hc 0
 simpa using this
theorem tabs {W : World} (h : laidMetH Tryz.prog Rows.wrapOpensRow.laid W) : Tabs W := by
 have gh1 : laidMet Tryz.prog [("deaddrop/sha.opening", Rows.laid_deaddrop_sha_opening)] W := (laidMetH_iff.1 (laidMetH.filter (fun x => x.1 == "deaddrop/sha.opening") h)).1
 have h1 : Lib.TabIs Tryz.prog W "deaddrop/sha.opening" .u32 [1779033703, 3144134277, 1013904242, 2773480762, 1359893119, 2600822924, 528734635, 1541459225] := Lib.tabIs_of_head (rest := []) (g := 1) (t := 158) (e := 127) (n := 8) (by kernel_rfl) (by kernel_rfl) Tryz.underlying158 Tryz.underlying127 (by kernel_rfl) (by kernel_rfl) gh1
 have gh2 : laidMet Tryz.prog [("deaddrop/sha.roundNumbers", Rows.laid_deaddrop_sha_roundNumbers)] W := (laidMetH_iff.1 (laidMetH.filter (fun x => x.1 == "deaddrop/sha.roundNumbers") h)).1
 have h2 : Lib.TabIs Tryz.prog W "deaddrop/sha.roundNumbers" .u32 [1116352408, 1899447441, 3049323471, 3921009573, 961987163, 1508970993, 2453635748, 2870763221, 3624381080, 310598401, 607225278, 1426881987, 1925078388, 2162078206, 2614888103, 3248222580, 3835390401, 4022224774, 264347078, 604807628, 770255983, 1249150122, 1555081692, 1996064986, 2554220882, 2821834349, 2952996808, 3210313671, 3336571891, 3584528711, 113926993, 338241895, 666307205, 773529912, 1294757372, 1396182291, 1695183700, 1986661051, 2177026350, 2456956037, 2730485921, 2820302411, 3259730800, 3345764771, 3516065817, 3600352804, 4094571909, 275423344, 430227734, 506948616, 659060556, 883997877, 958139571, 1322822218, 1537002063, 1747873779, 1955562222, 2024104815, 2227730452, 2361852424, 2428436474, 2756734187, 3204031479, 3329325298] := Lib.tabIs_of_head (rest := []) (g := 17) (t := 228) (e := 127) (n := 64) (by kernel_rfl) (by kernel_rfl) Tryz.underlying228 Tryz.underlying127 (by kernel_rfl) (by kernel_rfl) gh2
 have e1 : ∀ i, i < 8 → ([1779033703, 3144134277, 1013904242, 2773480762, 1359893119, 2600822924, 528734635, 1541459225] : List Int).getD i 0 = ((firstH.getD i 0).toNat : Int) := by decide
 have e2 : ∀ i, i < 64 → ([1116352408, 1899447441, 3049323471, 3921009573, 961987163, 1508970993, 2453635748, 2870763221, 3624381080, 310598401, 607225278, 1426881987, 1925078388, 2162078206, 2614888103, 3248222580, 3835390401, 4022224774, 264347078, 604807628, 770255983, 1249150122, 1555081692, 1996064986, 2554220882, 2821834349, 2952996808, 3210313671, 3336571891, 3584528711, 113926993, 338241895, 666307205, 773529912, 1294757372, 1396182291, 1695183700, 1986661051, 2177026350, 2456956037, 2730485921, 2820302411, 3259730800, 3345764771, 3516065817, 3600352804, 4094571909, 275423344, 430227734, 506948616, 659060556, 883997877, 958139571, 1322822218, 1537002063, 1747873779, 1955562222, 2024104815, 2227730452, 2361852424, 2428436474, 2756734187, 3204031479, 3329325298] : List Int).getD i 0 = ((konst.getD i 0).toNat : Int) := by decide +kernel
 have c1 : ∀ i, i < 8 → W.cell? ⟨1, i, none⟩ = some (w32 (firstH.getD i 0)) := fun i hi => by
  have := h1.cell (g := 1) (by kernel_rfl) i hi
  rw [e1 i hi] at this; exact this
 have c2 : ∀ i, i < 64 → W.cell? ⟨17, i, none⟩ = some (w32 (konst.getD i 0)) := fun i hi => by
  have := h2.cell (g := 17) (by kernel_rfl) i hi
  rw [e2 i hi] at this; exact this
 exact ⟨block_lt_of_cell (c2 0 (by decide)), c1, c2⟩
theorem pows {W : World} (h : laidMetH Tryz.prog Rows.wrapOpensRow.laid W) : Lib.TabIs Tryz.prog W "internal/strconv.uint64pow10" .u64 Lib.pow10Tab := by
 have gh1 : laidMet Tryz.prog [("internal/strconv.uint64pow10", Rows.laid_internal_strconv_uint64pow10)] W := (laidMetH_iff.1 (laidMetH.filter (fun x => x.1 == "internal/strconv.uint64pow10") h)).1
 have h1 : Lib.TabIs Tryz.prog W "internal/strconv.uint64pow10" .u64 [1, 10, 100, 1000, 10000, 100000, 1000000, 10000000, 100000000, 1000000000, 10000000000, 100000000000, 1000000000000, 10000000000000, 100000000000000, 1000000000000000, 10000000000000000, 100000000000000000, 1000000000000000000, 10000000000000000000] := Lib.tabIs_of_head (rest := []) (g := 19) (t := 247) (e := 126) (n := 20) (by kernel_rfl) (by kernel_rfl) Tryz.underlying247 Tryz.underlying126 (by kernel_rfl) (by kernel_rfl) gh1
 have e : Lib.pow10Tab = [1, 10, 100, 1000, 10000, 100000, 1000000, 10000000, 100000000, 1000000000, 10000000000, 100000000000, 1000000000000, 10000000000000, 100000000000000, 1000000000000000, 10000000000000000, 100000000000000000, 1000000000000000000, 10000000000000000000] := by decide +kernel
 rw [e]; exact h1
theorem contract (H : Type) (enc : TypeId × Value → H) (W : World) (base : Nat) (args : Array Value) (ds gs : List (DataW H)) (before : List MemPlace)
  (hval0 : ∀ (j : Nat) t v, Tryz.f7.params[j]? = some t → args[j]? = some v → Value.okWide Tryz.prog W .any base t v)
  (hW : DataW.Whole enc Tryz.prog Tryz.f7.params.toList Rows.wrapOpensSpec.vars false W args.toList ds gs before) (hL : laidMetH Tryz.prog Rows.wrapOpensRow.laid W) :
  Calls Tryz.prog 7 args W fun e W' => ∃ v, e = .returned v ∧ Rows.wrapOpensSpec.post enc Tryz.prog Tryz.f7 false true false false W args v W' := by
 have hval : ∀ (j : Nat) t v, Tryz.f7.params[j]? = some t → args[j]? = some v → Value.okWide Tryz.prog W .any base t v := hval0
 have hW' := hW
 obtain ⟨p, q, hA0, hV, rfl, hfz, hnd⟩ := hW
 have hA : DataW.TrodAll enc Tryz.prog W 0 (fun _ => true) true Tryz.f7.params.toList args.toList ds p := hA0
 rw [Tryz.params7] at hA hval
 obtain ⟨v0, vs0, d0, ds0, p0, q0, hargs, rfl, rfl, h0, r0⟩ := trodAll_cons hA
 obtain ⟨v1, vs1, d1, ds1, p1, q1, rfl, rfl, rfl, h1, r1⟩ := trodAll_cons r0
 obtain ⟨v2, vs2, d2, ds2, p2, q2, rfl, rfl, rfl, h2, r2⟩ := trodAll_cons r1
 obtain ⟨rfl, rfl, rfl⟩ := trodAll_nil r2
 obtain rfl : args = #[v0, v1, v2] := by cases args; simp_all
 obtain ⟨rfl, rfl⟩ := trodVars_none hV
 have k0 := h0
 have lt0 : ∀ x ∈ p0, x.block < W.heap.size := by obtain ⟨m, hm⟩ := k0; exact DataW.trod_lt m _ _ _ hm
 obtain ⟨a0, len0, cap0, rfl⟩ := okWide_slice Tryz.underlying54 (hval 0 54 v0 rfl rfl)
 obtain ⟨z0, w0⟩ : ∃ zs, IsRow .u8 W a0 len0 cap0 zs := by
  obtain ⟨fuel, hf⟩ := h0
  rcases open_ints Tryz.underlying54 Tryz.underlying5 (by kernel_rfl) hf with ⟨hcs, _⟩ | ⟨x, l, c, zs, hcs, _, hl, hm, hz, _, hcell, hwz⟩
  ·simp [Value.cells] at hcs
   obtain ⟨rfl, rfl, rfl⟩ := hcs
   exact ⟨[], .inl ⟨rfl, rfl, rfl, rfl⟩⟩
  ·simp [Value.cells] at hcs
   obtain ⟨rfl, rfl, rfl⟩ := hcs
   exact ⟨zs, .inr ⟨_, rfl, hl, hm, by simpa using hz, hcell, hwz⟩⟩
 have k1 := h1
 have lt1 : ∀ x ∈ p1, x.block < W.heap.size := by obtain ⟨m, hm⟩ := k1; exact DataW.trod_lt m _ _ _ hm
 obtain ⟨a1, len1, cap1, rfl⟩ := okWide_slice Tryz.underlying54 (hval 1 54 v1 rfl rfl)
 obtain ⟨z1, w1⟩ : ∃ zs, IsRow .u8 W a1 len1 cap1 zs := by
  obtain ⟨fuel, hf⟩ := h1
  rcases open_ints Tryz.underlying54 Tryz.underlying5 (by kernel_rfl) hf with ⟨hcs, _⟩ | ⟨x, l, c, zs, hcs, _, hl, hm, hz, _, hcell, hwz⟩
  ·simp [Value.cells] at hcs
   obtain ⟨rfl, rfl, rfl⟩ := hcs
   exact ⟨[], .inl ⟨rfl, rfl, rfl, rfl⟩⟩
  ·simp [Value.cells] at hcs
   obtain ⟨rfl, rfl, rfl⟩ := hcs
   exact ⟨zs, .inr ⟨_, rfl, hl, hm, by simpa using hz, hcell, hwz⟩⟩
 obtain ⟨a2, rfl, rfl, rfl, w2⟩ := open_int Tryz.underlying5 (hval 2 5 v2 rfl rfl) h2
 clear hA0 hval0
 refine (walk a0 len0 cap0 z0 a1 len1 cap1 z1 a2 W w0 w1 w2 ⟨two0_1 hL, two2_3 hL, two4_5 hL, two5_6 hL, two7_8 hL, two9_10 hL, two11_12 hL, two13_14 hL⟩ (errT hL) (tabs hL) (pows hL)).mono fun e W' ⟨he, bel⟩ => ?_
 subst he
 exact ⟨_, rfl, _, _, _, [], _, [], hW', trodAll_mk1 (shut_bool Tryz.underlying4 _), (trodAll_cons_mk (Below.trod laidOut (by kernel_rfl) (of_decide_eq_true (by kernel_rfl)) k0 bel lt0) (trodAll_cons_mk (Below.trod laidOut (by kernel_rfl) (of_decide_eq_true (by kernel_rfl)) k1 bel lt1) (trodAll_cons_mk (shut_int Tryz.underlying5 w2) trodAll_mk0))), rfl, bel.frame _, fun h => by cases h⟩
def lay (cs : Array Value) : Obj → Obj
 | .cells _ t frozen => .cells cs t frozen
 | o => o
noncomputable def low : Nat := (World.holding Tryz.prog default ⟨#[], #[], []⟩).heap.size
noncomputable def laidWorld (os : Os) : World :=
 { World.holding Tryz.prog os ⟨#[.cells #[.string ⟨#[98, 101, 108, 111, 119, 32, 110, 111, 116, 104, 105, 110, 103]⟩] 269, .cells #[.string ⟨#[98, 101, 121, 111, 110, 100, 32, 116, 104, 101, 32, 108, 97, 115, 116, 32, 115, 117, 109]⟩] 269, .cells #[.string ⟨#[110, 111, 116, 32, 97, 115, 32, 108, 111, 110, 103, 32, 97, 115, 32, 97, 32, 112, 97, 105, 114, 32, 111, 102, 32, 107, 101, 121, 115]⟩] 269, .cells #[.string ⟨#[110, 111, 116, 32, 97, 115, 32, 108, 111, 110, 103, 32, 97, 115, 32, 97, 32, 110, 111, 110, 99, 101]⟩] 269, .cells #[.string ⟨#[115, 104, 111, 114, 116, 101, 114, 32, 116, 104, 97, 110, 32, 97, 32, 116, 97, 103]⟩] 269, .cells #[.string ⟨#[108, 111, 110, 103, 101, 114, 32, 116, 104, 97, 110, 32, 119, 104, 97, 116, 32, 105, 115, 32, 101, 118, 101, 114, 32, 115, 101, 97, 108, 101, 100]⟩] 269, .cells #[.string ⟨#[116, 104, 101, 32, 116, 97, 103, 32, 100, 111, 101, 115, 32, 110, 111, 116, 32, 102, 105, 116]⟩] 269, .cells #[.string ⟨#[109, 111, 114, 101, 32, 116, 104, 97, 110, 32, 97, 32, 99, 104, 97, 105, 110, 32, 109, 97, 121, 32, 104, 97, 118, 101]⟩] 269, .cells #[.string ⟨#[105, 116, 32, 109, 97, 121, 32, 110, 111, 116, 32, 98, 101]⟩] 269, .cells #[.string ⟨#[110, 111, 116, 32, 116, 104, 101, 32, 111, 110, 101, 32, 98, 101, 104, 105, 110, 100, 32, 116, 104, 101, 32, 111, 110, 101, 32, 97, 104, 101, 97, 100]⟩] 269, .cells #[.string ⟨#[97, 110, 111, 116, 104, 101, 114, 32, 114, 101, 99, 111, 114, 100, 39, 115, 32, 104, 97, 115, 104, 32, 116, 104, 97, 110, 32, 116, 104, 97, 116, 32, 111, 102, 32, 116, 104, 101, 32, 111, 110, 101, 32, 97, 104, 101, 97, 100]⟩] 269, .cells #[.string ⟨#[116, 104, 101, 32, 102, 105, 114, 115, 116, 32, 114, 101, 99, 111, 114, 100, 32, 97, 100, 100, 115, 32, 100, 101, 118, 105, 99, 101, 32, 48]⟩] 269, .cells #[.string ⟨#[97, 100, 100, 101, 100, 32, 119, 104, 105, 108, 101, 32, 105, 116, 32, 105, 115, 32, 97, 32, 109, 101, 109, 98, 101, 114]⟩] 269, .cells #[.string ⟨#[114, 101, 118, 111, 107, 101, 100, 32, 119, 104, 105, 108, 101, 32, 105, 116, 32, 105, 115, 32, 110, 111, 32, 109, 101, 109, 98, 101, 114]⟩] 269, .cells #[.string ⟨#[105, 116, 32, 115, 116, 97, 121, 115, 32, 102, 111, 114, 32, 103, 111, 111, 100]⟩] 269], #[], []⟩ with heap := ((((((((((((((((((((((World.holding Tryz.prog os ⟨#[.cells #[.string ⟨#[98, 101, 108, 111, 119, 32, 110, 111, 116, 104, 105, 110, 103]⟩] 269, .cells #[.string ⟨#[98, 101, 121, 111, 110, 100, 32, 116, 104, 101, 32, 108, 97, 115, 116, 32, 115, 117, 109]⟩] 269, .cells #[.string ⟨#[110, 111, 116, 32, 97, 115, 32, 108, 111, 110, 103, 32, 97, 115, 32, 97, 32, 112, 97, 105, 114, 32, 111, 102, 32, 107, 101, 121, 115]⟩] 269, .cells #[.string ⟨#[110, 111, 116, 32, 97, 115, 32, 108, 111, 110, 103, 32, 97, 115, 32, 97, 32, 110, 111, 110, 99, 101]⟩] 269, .cells #[.string ⟨#[115, 104, 111, 114, 116, 101, 114, 32, 116, 104, 97, 110, 32, 97, 32, 116, 97, 103]⟩] 269, .cells #[.string ⟨#[108, 111, 110, 103, 101, 114, 32, 116, 104, 97, 110, 32, 119, 104, 97, 116, 32, 105, 115, 32, 101, 118, 101, 114, 32, 115, 101, 97, 108, 101, 100]⟩] 269, .cells #[.string ⟨#[116, 104, 101, 32, 116, 97, 103, 32, 100, 111, 101, 115, 32, 110, 111, 116, 32, 102, 105, 116]⟩] 269, .cells #[.string ⟨#[109, 111, 114, 101, 32, 116, 104, 97, 110, 32, 97, 32, 99, 104, 97, 105, 110, 32, 109, 97, 121, 32, 104, 97, 118, 101]⟩] 269, .cells #[.string ⟨#[105, 116, 32, 109, 97, 121, 32, 110, 111, 116, 32, 98, 101]⟩] 269, .cells #[.string ⟨#[110, 111, 116, 32, 116, 104, 101, 32, 111, 110, 101, 32, 98, 101, 104, 105, 110, 100, 32, 116, 104, 101, 32, 111, 110, 101, 32, 97, 104, 101, 97, 100]⟩] 269, .cells #[.string ⟨#[97, 110, 111, 116, 104, 101, 114, 32, 114, 101, 99, 111, 114, 100, 39, 115, 32, 104, 97, 115, 104, 32, 116, 104, 97, 110, 32, 116, 104, 97, 116, 32, 111, 102, 32, 116, 104, 101, 32, 111, 110, 101, 32, 97, 104, 101, 97, 100]⟩] 269, .cells #[.string ⟨#[116, 104, 101, 32, 102, 105, 114, 115, 116, 32, 114, 101, 99, 111, 114, 100, 32, 97, 100, 100, 115, 32, 100, 101, 118, 105, 99, 101, 32, 48]⟩] 269, .cells #[.string ⟨#[97, 100, 100, 101, 100, 32, 119, 104, 105, 108, 101, 32, 105, 116, 32, 105, 115, 32, 97, 32, 109, 101, 109, 98, 101, 114]⟩] 269, .cells #[.string ⟨#[114, 101, 118, 111, 107, 101, 100, 32, 119, 104, 105, 108, 101, 32, 105, 116, 32, 105, 115, 32, 110, 111, 32, 109, 101, 109, 98, 101, 114]⟩] 269, .cells #[.string ⟨#[105, 116, 32, 115, 116, 97, 121, 115, 32, 102, 111, 114, 32, 103, 111, 111, 100]⟩] 269], #[], []⟩).heap).modify 12 (lay #[.iface 251 (.pointer (some ⟨low, 0, none⟩))])).modify 13 (lay #[.iface 251 (.pointer (some ⟨low + 1, 0, none⟩))])).modify 10 (lay #[.iface 251 (.pointer (some ⟨low + 2, 0, none⟩))])).modify 11 (lay #[.iface 251 (.pointer (some ⟨low + 3, 0, none⟩))])).modify 14 (lay #[.iface 251 (.pointer (some ⟨low + 4, 0, none⟩))])).modify 15 (lay #[.iface 251 (.pointer (some ⟨low + 5, 0, none⟩))])).modify 16 (lay #[.iface 251 (.pointer (some ⟨low + 6, 0, none⟩))])).modify 2 (lay #[.iface 251 (.pointer (some ⟨low + 7, 0, none⟩))])).modify 3 (lay #[.iface 251 (.pointer (some ⟨low + 8, 0, none⟩))])).modify 4 (lay #[.iface 251 (.pointer (some ⟨low + 9, 0, none⟩))])).modify 5 (lay #[.iface 251 (.pointer (some ⟨low + 10, 0, none⟩))])).modify 6 (lay #[.iface 251 (.pointer (some ⟨low + 11, 0, none⟩))])).modify 7 (lay #[.iface 251 (.pointer (some ⟨low + 12, 0, none⟩))])).modify 8 (lay #[.iface 251 (.pointer (some ⟨low + 13, 0, none⟩))])).modify 9 (lay #[.iface 251 (.pointer (some ⟨low + 14, 0, none⟩))])).modify 0 (lay #[.iface 180 (.agg #[.pointer (some ⟨22, 72, none⟩)])])).modify 20 (lay #[.int .u8 0, .int .u8 1, .int .u8 28, .int .u8 2, .int .u8 29, .int .u8 14, .int .u8 24, .int .u8 3, .int .u8 30, .int .u8 22, .int .u8 20, .int .u8 15, .int .u8 25, .int .u8 17, .int .u8 4, .int .u8 8, .int .u8 31, .int .u8 27, .int .u8 13, .int .u8 23, .int .u8 21, .int .u8 19, .int .u8 16, .int .u8 7, .int .u8 26, .int .u8 12, .int .u8 18, .int .u8 6, .int .u8 11, .int .u8 5, .int .u8 10, .int .u8 9])).modify 21 (lay #[.int .u8 0, .int .u8 1, .int .u8 56, .int .u8 2, .int .u8 57, .int .u8 49, .int .u8 28, .int .u8 3, .int .u8 61, .int .u8 58, .int .u8 42, .int .u8 50, .int .u8 38, .int .u8 29, .int .u8 17, .int .u8 4, .int .u8 62, .int .u8 47, .int .u8 59, .int .u8 36, .int .u8 45, .int .u8 43, .int .u8 51, .int .u8 22, .int .u8 53, .int .u8 39, .int .u8 33, .int .u8 30, .int .u8 24, .int .u8 18, .int .u8 12, .int .u8 5, .int .u8 63, .int .u8 55, .int .u8 48, .int .u8 27, .int .u8 60, .int .u8 41, .int .u8 37, .int .u8 16, .int .u8 46, .int .u8 35, .int .u8 44, .int .u8 21, .int .u8 52, .int .u8 32, .int .u8 23, .int .u8 11, .int .u8 54, .int .u8 26, .int .u8 40, .int .u8 15, .int .u8 34, .int .u8 20, .int .u8 31, .int .u8 10, .int .u8 25, .int .u8 14, .int .u8 19, .int .u8 9, .int .u8 13, .int .u8 8, .int .u8 7, .int .u8 6])).modify 1 (lay #[.int .u32 1779033703, .int .u32 3144134277, .int .u32 1013904242, .int .u32 2773480762, .int .u32 1359893119, .int .u32 2600822924, .int .u32 528734635, .int .u32 1541459225])).modify 17 (lay #[.int .u32 1116352408, .int .u32 1899447441, .int .u32 3049323471, .int .u32 3921009573, .int .u32 961987163, .int .u32 1508970993, .int .u32 2453635748, .int .u32 2870763221, .int .u32 3624381080, .int .u32 310598401, .int .u32 607225278, .int .u32 1426881987, .int .u32 1925078388, .int .u32 2162078206, .int .u32 2614888103, .int .u32 3248222580, .int .u32 3835390401, .int .u32 4022224774, .int .u32 264347078, .int .u32 604807628, .int .u32 770255983, .int .u32 1249150122, .int .u32 1555081692, .int .u32 1996064986, .int .u32 2554220882, .int .u32 2821834349, .int .u32 2952996808, .int .u32 3210313671, .int .u32 3336571891, .int .u32 3584528711, .int .u32 113926993, .int .u32 338241895, .int .u32 666307205, .int .u32 773529912, .int .u32 1294757372, .int .u32 1396182291, .int .u32 1695183700, .int .u32 1986661051, .int .u32 2177026350, .int .u32 2456956037, .int .u32 2730485921, .int .u32 2820302411, .int .u32 3259730800, .int .u32 3345764771, .int .u32 3516065817, .int .u32 3600352804, .int .u32 4094571909, .int .u32 275423344, .int .u32 430227734, .int .u32 506948616, .int .u32 659060556, .int .u32 883997877, .int .u32 958139571, .int .u32 1322822218, .int .u32 1537002063, .int .u32 1747873779, .int .u32 1955562222, .int .u32 2024104815, .int .u32 2227730452, .int .u32 2361852424, .int .u32 2428436474, .int .u32 2756734187, .int .u32 3204031479, .int .u32 3329325298])).modify 19 (lay #[.int .u64 1, .int .u64 10, .int .u64 100, .int .u64 1000, .int .u64 10000, .int .u64 100000, .int .u64 1000000, .int .u64 10000000, .int .u64 100000000, .int .u64 1000000000, .int .u64 10000000000, .int .u64 100000000000, .int .u64 1000000000000, .int .u64 10000000000000, .int .u64 100000000000000, .int .u64 1000000000000000, .int .u64 10000000000000000, .int .u64 100000000000000000, .int .u64 1000000000000000000, .int .u64 10000000000000000000]) }
theorem laid_met (os : Os) : laidMetH Tryz.prog Rows.wrapOpensRow.laid ((laidWorld os).forCall (fun _ _ => 0) ⟨#[], #[.slice none 0 0, .slice none 0 0, .int .u8 0], []⟩).memory :=
 laidMetH_of_parts (laidMet_of_run' 8 (by kernel_rfl) (by kernel_rfl)) (by kernel_rfl)
theorem reads (os : Os) {H : Type} (enc : TypeId × Value → H) : ∃ places, DataW.whole enc Tryz.prog ((laidWorld os).forCall (fun _ _ => 0) ⟨#[], #[.slice none 0 0, .slice none 0 0, .int .u8 0], []⟩).memory Tryz.f7.params.toList Rows.wrapOpensSpec.vars false (show Array Value from #[.slice none 0 0, .slice none 0 0, .int .u8 0]).toList 8 = some ([.nil, .nil, .lit (.int .u8 0)], [], places) :=
 ⟨[], by kernel_rfl⟩
theorem lifted (os : Os) (started : os.Started) (H : Type) (enc : TypeId × Value → H) (F : Stop.Interp) :
  ReturnsInHanded {} Tryz.checked os 7 .any ((OpenSpec.ofChange Rows.wrapOpensSpec).preRow enc Tryz.prog Tryz.f7 Rows.wrapOpensRow.domain false Rows.wrapOpensRow.laid) (((OpenSpec.ofChange Rows.wrapOpensSpec).at F).post enc Tryz.prog Tryz.f7 false true false false) := by
 obtain ⟨places, hx⟩ := reads os enc
 refine returnsInHanded_of_row (C := Tryz.checked) (s := OpenSpec.ofChange Rows.wrapOpensSpec) own started (by kernel_rfl) Tryz.func7
  (witness_row_at (enc := enc) (C := Tryz.checked) false (laidWorld os) #[.slice none 0 0, .slice none 0 0, .int .u8 0] rfl (by kernel_rfl) (by kernel_rfl) (by kernel_rfl)
   (OpenSpec.preRow_of_cond 8 hx (by kernel_rfl) (fun k hk => by cases hk) (by kernel_rfl) (laid_met os))) ?_
 intro W base args ds gs before hval hW _ _ _ hL _ _
 exact contract H enc W base args ds gs before hval hW hL
theorem said : Rows.WrapOpensSaid :=
 OpenClaim.holds_of_cond 7 Tryz.f7 rfl rfl rfl rfl rfl rfl rfl ⟨rfl, rfl, rfl, rfl, rfl⟩ rfl rfl rfl rfl rfl (by kernel_rfl) Tryz.func7 (by kernel_rfl)
  (of_decide_eq_true (by kernel_rfl)) (by unfold Func.isWrapper; first | (rw [if_pos (by decide +kernel)]; kernel_rfl) | (rw [if_neg (by decide +kernel)]; exact ⟨rfl, rfl⟩))
  (fun os started H enc _ F => by rw [OpenClaim.pre_eq_preRow]; exact lifted os started H enc F)
theorem plain (f : FuncId) (fn : Func) (hf : Tryz.pinned.checked.prog.funcNamed "deaddrop/deaddroplaw17.WrapOpens" = some f) (hfn : Tryz.pinned.checked.prog.funcs[f]? = some fn) :
  true = Tryz.pinned.checked.prog.looks [] ∧ ∀ (j : Nat) t, fn.params[j]? = some t → Tryz.pinned.checked.prog.wantsStandIn t = false := by
 obtain rfl : f = 7 := Option.some.inj ((show Tryz.prog.funcNamed "deaddrop/deaddroplaw17.WrapOpens" = some 7 by kernel_rfl).symm.trans hf) |>.symm
 obtain rfl : fn = Tryz.f7 := (Option.some.inj (Tryz.func7.symm.trans hfn)).symm
 refine ⟨by kernel_rfl, fun j t ht => ?_⟩
 have hall : (Tryz.f7.params.toList.all fun u => !Tryz.prog.wantsStandIn u) = true := by kernel_rfl
 have hm : t ∈ Tryz.f7.params.toList := by simpa using Array.mem_of_getElem? ht
 exact (show Tryz.prog.wantsStandIn t = false by simpa using List.all_eq_true.1 hall t hm)
theorem card : Rows.WrapOpensCardSaid :=
 Claim7.holds_tied_plain_at .later [] _ _ _ _ said (fun _ h => by cases h) (by kernel_rfl) (fun _ h => by cases h) wrapOpens_row_tie rfl ⟨rfl, rfl⟩ (by kernel_rfl) rfl plain (by kernel_rfl)
#print axioms card
end Go.Proofs.YtpcjbjpofcdjeaaGreatDoor.wrapOpens
