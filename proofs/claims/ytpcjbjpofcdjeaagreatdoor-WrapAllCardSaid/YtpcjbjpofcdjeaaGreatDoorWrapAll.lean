/-
 Proved: whatever values of its parameters' types it is called with, deaddroplaw17.WrapAll returns true, and each argument reads behind the call as it read before; the listed package-level variables being what the program's own text lays (the card ties them).
 Conditions: none but those of the card itself.
-/
import Derived.Test.YtpcjbjpofcdjeaaGreatDoorTwq
import Derived.Test.YtpcjbjpofcdjeaaGreatDoorCards
import Derived.Test.YtpcjbjpofcdjeaaGreatDoorTie
import Derived.WalkKit
import Derived.ProofKit
import Derived.OpenShut
import Derived.ShutString
import Derived.Below
import Derived.ChangeOld
import Derived.Deep.DeepHandedRow
import Derived.LaidSub
import Derived.LaidHandle
import Derived.LaidLaws
import Derived.RowKitTokens
import Derived.Stop.LaidTwo
import Derived.Lib.LaidTab
import Derived.Lib.ItoaNum
import Derived.Test.YtpcjbjpofcdjeaaGreatDoorWcTakeq
import Derived.Test.YtpcjbjpofcdjeaaGreatDoorWcTakeRq
import Derived.Test.YtpcjbjpofcdjeaaGreatDoorWcGreatq
import Derived.Test.YtpcjbjpofcdjeaaGreatDoorWcSameq
import Derived.Test.YtpcjbjpofcdjeaaGreatDoorWcKeysq
import Derived.Test.YtpcjbjpofcdjeaaGreatDoorWcLogq
import Derived.Test.YtpcjbjpofcdjeaaGreatDoorWcAwakeq
import Derived.Test.YtpcjbjpofcdjeaaGreatDoorWcOpenq
import Derived.Test.YtpcjbjpofcdjeaaGreatDoorWcMakeq
import Derived.Test.YtpcjbjpofcdjeaaGreatDoorWcTq
import Derived.Test.YtpcjbjpofcdjeaaGreatDoorMbSameq
import Derived.Test.YtpcjbjpofcdjeaaGreatDoorMbEq
import Derived.Test.YtpcjbjpofcdjeaaGreatDoorTdAq
set_option linter.unusedVariables false
set_option maxHeartbeats 40000000
set_option maxRecDepth 100000
namespace Go.Proofs.YtpcjbjpofcdjeaaGreatDoor.wrapAll
open Go.ChangeShapes Go.WideShapes Go.ChangeAt Go.RowKit
open Go.ChangeMaps (open_string shut_string)
open Mm Hh Dt Td Vw Wd Mb Me Ro Ky Wc Go.Proofs.YtpcjbjpofcdjeaaGreatDoor
theorem own : ownKnob Tryz.prog.godebug = none := by kernel_rfl
theorem laidOut : laidOutB Tryz.prog = true := by kernel_rfl
attribute [local go_sem] Td.upon_value Td.upon_skip Td.upon_enter Td.upon_row Td.look_tmp Td.look_const Td.look_func Td.look_global
theorem u8_of {a : Int} (h : (Lit.int .u8 a).wf = true) : 0 ≤ a ∧ a ≤ 255 := by
 have h1 : IntKind.u8.min = 0 := by decide
 have h2 : IntKind.u8.max = 255 := by decide
 simp only [Lit.wf, h1, h2, Bool.and_eq_true, decide_eq_true_eq] at h
 exact h
theorem u8n_of {w : World} {a : Option Addr} {len cap : Nat} {zs : List Int}
  (h : (a = none ∧ len = 0 ∧ cap = 0 ∧ zs = []) ∨ ∃ x, a = some x ∧ len ≤ cap ∧ cap ≤ maxLen ∧ zs.length = cap ∧ (∀ i, i < zs.length → w.cell? (x.add i) = some (.int .u8 (zs.getD i 0))) ∧ ∀ n ∈ zs, (Lit.int .u8 n).wf = true) :
  U8N w a len ((zs.take len).map Int.toNat) := by
 rcases h with ⟨rfl, rfl, rfl, rfl⟩ | ⟨x, rfl, hl, hc, hz, hcell, hwf⟩
 ·exact ⟨rfl, fun h => absurd h (by omega)⟩
 ·refine ⟨by rw [List.length_map, List.length_take]; omega, fun h0 => ?_⟩
  obtain ⟨b, o, sp⟩ := x
  have c0 := hcell 0 (by omega)
  cases sp with
  | some sp =>
   exfalso
   simp only [Addr.add, World.cell?] at c0
   split at c0 <;> simp at c0
  | none =>
   refine ⟨b, o, rfl, ?_, fun i x hx => ?_⟩
   ·have := block_lt_of_cell c0
    simpa [Addr.add] using this
   ·rw [List.getElem?_map, List.getElem?_take] at hx
    split at hx
    ·obtain ⟨z, hz2, rfl⟩ := Option.map_eq_some_iff.1 hx
     have hin := (List.getElem?_eq_some_iff.1 hz2).1
     have ci := hcell i hin
     have hadd : (⟨b, o, none⟩ : Addr).add i = ⟨b, o + i, none⟩ := by unfold Addr.add; split <;> simp_all
     rw [hadd, List.getD_eq_getElem?_getD, hz2] at ci
     have hv := hwf z (List.mem_of_getElem? hz2)
     have hb : 0 ≤ z ∧ z ≤ 255 := by
      have h1 : IntKind.u8.min = 0 := by decide
      have h2 : IntKind.u8.max = 255 := by decide
      simp only [Lit.wf, h1, h2, Bool.and_eq_true, decide_eq_true_eq] at hv
      exact hv
     refine ⟨by omega, ?_⟩
     rw [show ((z.toNat : Nat) : Int) = z by omega]
     exact ci
    ·cases hx
theorem bx_two {w : World} {g h : Nat} (x : Sn.Two w g h) : Bx.BE w g ∧ Bx.BE w h := by
 obtain ⟨a0, a1, c0, c1, t0, t1, h0, h1, hne, hb0, hb1⟩ := x
 exact ⟨⟨a0, c0, t0, h0, hb0⟩, ⟨a1, c1, t1, h1, hb1⟩⟩
theorem allr {w : World} (hE : Sn.Two w 12 13 ∧ Sn.Two w 10 11 ∧ Sn.Two w 14 15 ∧ Sn.Two w 15 16 ∧ Sn.Two w 2 3 ∧ Sn.Two w 4 5 ∧ Sn.Two w 6 7 ∧ Sn.Two w 8 9) (hT : ErrT w) (hS : Tabs w) (hP : Lib.TabIs Tryz.prog w "internal/strconv.uint64pow10" .u64 Lib.pow10Tab) : AllR w :=
 ⟨⟨hS, hE.1, hP⟩, ⟨(bx_two hE.2.1).1, (bx_two hE.2.1).2, (bx_two hE.2.2.1).1, (bx_two hE.2.2.1).2, (bx_two hE.2.2.2.1).2⟩, Me.MErrs.of hE.2.2.2.2, hT⟩
theorem bytes_sz (l : List UInt8) (n : Nat) : (⟨(Cc.bytesS l n).toArray⟩ : ByteArray).size = n := by rw [← Cc.len_data, Cc.ba, Cc.bytesS_len]
theorem open_record {H : Type} {enc : TypeId × Value → H} {w : World} {spare : Nat → Bool} {held : Bool} {r : Reach} {b0 : Nat} {v : Value} {d : DataW H} {p : List MemPlace} (hv : Value.okWide Tryz.prog w r b0 25 v) (h : DataW.Trod enc Tryz.prog w 0 spare held 25 v d p) : ∃ (x : Rc) (A : Option Addr) (c : Nat), v = .agg (recCs x A c) ∧ WL w A x.wraps.length x.wraps ∧ x.wraps.length ≤ c := by
 obtain ⟨cs, rfl, hsz⟩ := okWide_struct Tryz.underlying25 hv
 obtain ⟨fuel, hf⟩ := h
 obtain ⟨x, A, c, hx, h1, h2⟩ := cells_record (by rw [Array.length_toList, hsz]; exact mb_cells.2.1) (show DataW.trod enc Tryz.prog w 0 spare held fuel 25 cs.toList = some (d, p) from hf)
 refine ⟨x, A, c, ?_, h1, h2⟩
 obtain ⟨l⟩ := cs
 have hx : l = _ := hx
 rw [hx]
theorem logkeys_one {l : List Rc} {ks : List Mb.Wp} {own : ByteArray} {id : Int} {r : Rc} {k : Int} {l1 l2 : List Rc} {k1 k2 : List Mb.Wp} (h1 : LogKeys l ks own id r k l1 k1) (h2 : LogKeys l ks own id r k l2 k2) : l1 = l2 ∧ k1 = k2 := by
 rcases h1 with ⟨h, rfl, rfl⟩ | ⟨h, rfl, ha⟩
 ·rcases h2 with ⟨_, rfl, rfl⟩ | ⟨h3, _, _⟩
  ·exact ⟨rfl, rfl⟩
  ·exact absurd h3 h
 ·rcases h2 with ⟨h3, _, _⟩ | ⟨_, rfl, hb⟩
  ·exact absurd h h3
  ·refine ⟨rfl, ?_⟩
   rcases ha with ⟨h4, rfl⟩ | ⟨h4, x, h5, rfl⟩
   ·rcases hb with ⟨_, rfl⟩ | ⟨h6, _⟩
    ·rfl
    ·rw [h4] at h6; cases h6
   ·rcases hb with ⟨h6, _⟩ | ⟨_, y, h7, rfl⟩
    ·rw [h4] at h6; cases h6
    ·rw [h5] at h7; cases h7; rfl
theorem walk (tx0 : ByteArray) (tx1 : ByteArray) (a2 : Option Addr) (len2 cap2 : Nat) (l2 : List Rc) (a3 : Int) (a4 : Int) (tx5 : ByteArray) (rx6 : Rc) (RA6 : Option Addr) (rc6 : Nat) (a7 : Option Addr) (len7 cap7 : Nat) (l7 : List Mb.Wp) (a8 : Int) (w : World) (w2 : LogL w a2 len2 l2) (c2 : len2 ≤ cap2) (w3 : (Lit.int .i64 a3).wf = true) (w4 : (Lit.int .i64 a4).wf = true) (w6 : WL w RA6 rx6.wraps.length rx6.wraps) (c6 : rx6.wraps.length ≤ rc6) (w7 : WL w a7 len7 l7) (c7 : len7 ≤ cap7) (w8 : (Lit.int .i64 a8).wf = true) (hE : Sn.Two w 12 13 ∧ Sn.Two w 10 11 ∧ Sn.Two w 14 15 ∧ Sn.Two w 15 16 ∧ Sn.Two w 2 3 ∧ Sn.Two w 4 5 ∧ Sn.Two w 6 7 ∧ Sn.Two w 8 9) (hT : w.cell? ⟨0, 0, none⟩ = some (.iface 180 (.agg #[.pointer (some ⟨22, 72, none⟩)]))) (hS : Tabs w) (hP : Lib.TabIs Tryz.prog w "internal/strconv.uint64pow10" .u64 Lib.pow10Tab) :
  Calls Tryz.prog 3 #[.string tx0, .string tx1, .slice a2 len2 cap2, .int .i64 a3, .int .i64 a4, .string tx5, .agg (recCs rx6 RA6 rc6), .slice a7 len7 cap7, .int .i64 a8] w fun e w' => e = .returned (.bool true) ∧ Below w.heap.size w w' := by
 have hR : AllR w := allr hE hT hS hP
 have HAw : Hid (∀ W, Gn w W → Calls Tryz.prog 11 #[] W fun e w' => e = .returned (.bool true) ∧ Gn W w') := fun W hW => awake17_any W (hR.keep hW)
 have HL : Hid (LogL w a2 len2 l2) := w2
 have Hc2 := qj c2
 have HW6 : Hid (WL w RA6 rx6.wraps.length rx6.wraps) := w6
 have Hc6 := qj c6
 have HW7 : Hid (WL w a7 len7 l7) := w7
 have Hc7 := qj c7
 have HRk := qj hR
 obtain ⟨b0, hb0⟩ := nmd (w.heap.size)
 obtain ⟨W0, hW0⟩ := nmd (w.alloc (.cells (recCs rx6 RA6 rc6) 25))
 obtain ⟨G0, HX6⟩ := rec_box hb0 hW0 w6
 have HG0 := qj G0
 have HGl := qj (greatLog_any a2 len2 cap2 l2 W0 (w2.keep G0))
 have HGr := qj fun W (hW : Gn W0 W) => great2_any rx6 RA6 rc6 W (w6.keep (gb_none G0 hW))
 clear w2 c2 w3 w4 w6 c6 w7 c7 w8 hE hT hS hP hR G0
 go_enter Tryz.func3, Tryz.ntmps3
 go_upto_region 1 with fail
 clear hW0 hb0
 go_wp2_with fail
 refine HGl.out.mono ?_
 rintro e w1 ⟨⟨q1, rfl, hq1⟩, g1⟩
 have Hq1 := qj hq1
 have Hg10 := qj g1
 have Hg1 := qj (gb_none HG0.out g1)
 clear hq1 g1 HGl
 cases q1 with
 | true =>
  go_wp2_with fail
  refine (HAw.out w1 Hg1.out).mono ?_
  rintro e v1 ⟨rfl, g1⟩
  have G9 := qj (gb_none Hg1.out g1)
  clear g1
  go_wp2_with fail
  go_ret
  exact ⟨rfl, gb_below G9.out (Nat.le_refl _)⟩
 | false =>
  have HA44 : Hid (len2 ≤ 44) := (show len2 ≤ 44 ∧ ∀ r ∈ l2, SmallR r by first | exact Hq1.out rfl | exact Hq1.out trivial | exact Hq1.out).1
  have HA1 : Hid (∀ r ∈ l2, SmallR r) := (show len2 ≤ 44 ∧ ∀ r ∈ l2, SmallR r by first | exact Hq1.out rfl | exact Hq1.out trivial | exact Hq1.out).2
  obtain ⟨⟨y0, y1, y2, y3, y4, y5⟩, _⟩ := HX6.out w1 Hg10.out
  clear Hq1
  go_wp2_with fail
  refine (HGr.out w1 Hg10.out).mono ?_
  rintro e w2 ⟨⟨q2, rfl, hq2⟩, g2⟩
  have Hq2 := qj hq2
  have Hg20 := qj (gb_none Hg10.out g2)
  have Hg2 := qj (gb_none Hg1.out g2)
  clear hq2 g2 HGr y0 y1 y2 y3 y4 y5
  cases q2 with
  | true =>
   go_wp2_with fail
   refine (HAw.out w2 Hg2.out).mono ?_
   rintro e v1 ⟨rfl, g1⟩
   have G9 := qj (gb_none Hg2.out g1)
   clear g1
   go_wp2_with fail
   go_ret
   exact ⟨rfl, gb_below G9.out (Nat.le_refl _)⟩
  | false =>
   have HZ6 : Hid (SmallR rx6) := by first | exact Hq2.out rfl | exact Hq2.out trivial | exact Hq2.out
   clear Hq2
   by_cases t0 : tx0.size ≤ 100
   ·have st0a : decide (100 < tx0.size) = false := dcF
    have st0b : decide ((100 : Int) < (tx0.size : Int)) = false := dcF
    by_cases t1 : tx1.size ≤ 100
    ·have st1a : decide (100 < tx1.size) = false := dcF
     have st1b : decide ((100 : Int) < (tx1.size : Int)) = false := dcF
     by_cases t5 : tx5.size ≤ 100
     ·have st5a : decide (100 < tx5.size) = false := dcF
      have st5b : decide ((100 : Int) < (tx5.size : Int)) = false := dcF
      by_cases t7 : len7 ≤ 45
      ·have st7a : decide (45 < len7) = false := dcF
       have st7b : decide ((45 : Int) < (len7 : Int)) = false := dcF
       have HSm : Hid (tx0.size ≤ 100 ∧ tx1.size ≤ 100 ∧ tx5.size ≤ 100 ∧ len7 ≤ 45 ∧ len2 ≤ 44) := ⟨t0, t1, t5, t7, HA44.out⟩
       clear t0 t1 t5 t7
       go_wp2_with fail
       go_loopw [19] (fun i wr => ∃ k : Nat, k ≤ len7 ∧ i = .int .i64 k ∧ Hid (∀ x ∈ l7.take k, x.box.size ≤ 100) ∧ Gn W0 wr) (fun i _ => len7 - (intOf i).toNat)
       case atStart => exact ⟨0, Nat.zero_le _, rfl, (fun z hz => by simp at hz), Hg20.out⟩
       case round =>
        obtain ⟨k, hk, rfl, HA, hg⟩ := hrel
        have Hgr := qj (gb_none HG0.out hg)
        have Hgr0 := qj hg
        by_cases hlt : k < len7
        ·have d1 : decide (k < len7) = true := decide_eq_true hlt
         have d2 : decide ((k : Int) < (len7 : Int)) = true := dcT
         have bk : (k : Int) < (len7 : Int) := by omega
         have tk : IntKind.i64.wrap ((k : Int) + 1) = ((k + 1 : Nat) : Int) := by rw [IntKind.wrap_i64]; have := HSm.out; omega
         have hWL := HW7.out.keep Hgr.out
         obtain ⟨g, o, hAe, hgl, _⟩ := hWL.2 (by omega)
         subst hAe
         obtain ⟨x, hx⟩ : ∃ x, l7[k]? = some x := ⟨_, List.getElem?_eq_getElem (by rw [hWL.1]; exact hlt)⟩
         obtain ⟨_, h0, h1⟩ := wl_of hWL hx
         have Hlt := qj hlt
         have Hx := qj hx
         clear hWL hx hlt hk hgl hg
         by_cases hs : x.box.size ≤ 100
         ·have sa : decide (100 < x.box.size) = false := dcF
          have sb : decide ((100 : Int) < (x.box.size : Int)) = false := dcF
          have HA2 : Hid (∀ z ∈ l7.take (k + 1), z.box.size ≤ 100) := fun z hz => by
           rw [take_snoc Hx.out] at hz
           rcases List.mem_append.1 hz with h | h
           ·exact HA.out z h
           ·rw [List.mem_singleton.1 h]; exact hs
          clear hs
          go_wp2_with fail
          go_roundw
          case rel => exact ⟨k + 1, by have := Hlt.out; omega, by go_num, HA2, Hgr0.out⟩
          case measure => simp [intOf]; have := Hlt.out; omega
         ·have sa : decide (100 < x.box.size) = true := dcT
          have sb : decide ((100 : Int) < (x.box.size : Int)) = true := dcT
          clear hs
          go_wp2_with fail
          refine (HAw.out wr Hgr.out).mono ?_
          rintro e v1 ⟨rfl, g1⟩
          have G9 := qj (gb_none Hgr.out g1)
          clear g1
          go_wp2_with fail
          go_ret
          exact ⟨rfl, gb_below G9.out (Nat.le_refl _)⟩
        ·have d1 : decide (k < len7) = false := decide_eq_false hlt
         have d2 : decide ((k : Int) < (len7 : Int)) = false := dcF
         have HKs : Hid (∀ x ∈ l7, x.box.size ≤ 100) := by
          have h := HA.out
          rwa [List.take_of_length_le (by rw [HW7.out.1]; omega)] at h
         clear hlt hk HA hg
         obtain ⟨R1, hR1⟩ := nmd (madeR tx0 tx1 l2 a3 a4)
         obtain ⟨k1, hk1⟩ := nmd (deedE l2 a3 a4)
         obtain ⟨k2, hk2⟩ := nmd (takeE l2 l7 tx5 a8 rx6)
         obtain ⟨U9, hU9⟩ := nmd ((unwrapR tx5 rx6 a4).getD ⟨#[]⟩)
         obtain ⟨ub, hub⟩ := nmd ((unwrapR tx5 rx6 a4).isSome)
         obtain ⟨T9, hT9⟩ := nmd (tagR tx0 rx6)
         have hS := HSm.out
         have hA1 := HA1.out
         have hb1 : ∀ x ∈ l2, x.wraps.length ≤ 1099511627776 := fun x hx => by have := (hA1 x hx).1; omega
         have hz6 := HZ6.out
         have HMk := qj fun W (hW : Gn w W) => pMake_any tx0 tx1 a2 len2 cap2 l2 a3 a4 W (HL.out.keep hW) (by omega) Hc2.out hb1 (by omega) (by omega) (HRk.out.keep hW)
         have HRm := qj fun W (hW : Gn w W) => refMake_any tx0 tx1 a2 len2 cap2 l2 a3 a4 W (HL.out.keep hW) (by omega) Hc2.out hb1 (by omega) (by omega)
         have HOp := qj fun W (hW : Gn w W) => pOpen_any tx5 rx6 RA6 rc6 a4 W (HW6.out.keep hW) (by have := hz6.1; omega) (fun x hx => Nat.le_trans (hz6.2.2.2 x hx) (by decide)) (by omega) (HRk.out.keep hW)
         have HUn := qj fun W (hW : Gn w W) => refUnwrap_any tx5 rx6 RA6 rc6 a4 W (HW6.out.keep hW) (by have := hz6.1; omega) (fun x hx => Nat.le_trans (hz6.2.2.2 x hx) (by decide)) (by omega)
         have hbig : ∀ x, SmallR x → x.wraps.length ≤ 999999 ∧ x.prev.size ≤ 281474976710656 ∧ x.tag.size ≤ 281474976710656 ∧ ∀ z ∈ x.wraps, z.box.size ≤ 1099511627776 := fun x h => ⟨by have := h.1; omega, by have := h.2.1; omega, by have := h.2.2.1; omega, fun z hz => Nat.le_trans (h.2.2.2 z hz) (by decide)⟩
         have HTk := qj fun W (hW : Gn w W) => take_any tx5 l2 l7 a8 rx6 a2 a7 RA6 len2 cap2 len7 cap7 rc6 W (HL.out.keep hW) (by omega) Hc2.out (fun x hx => hbig x (hA1 x hx)) (HW7.out.keep hW) (by omega) (fun x hx => Nat.le_trans (HKs.out x hx) (by decide)) (HW6.out.keep hW) Hc6.out (hbig rx6 hz6) (by omega) (HRk.out.keep hW)
         have HTr := qj fun W (hW : Gn w W) => refTake_any tx5 l2 l7 a8 rx6 a2 a7 RA6 len2 cap2 len7 cap7 rc6 W (HL.out.keep hW) (by omega) Hc2.out hb1 (HW7.out.keep hW) (by omega) Hc7.out (fun x hx => Nat.le_trans (HKs.out x hx) (by decide)) (HW6.out.keep hW) (by have := hz6.1; omega) Hc6.out (fun x hx => Nat.le_trans (hz6.2.2.2 x hx) (by decide)) (by omega)
         have HTaA := qj fun W (hW : Gn w W) => pTag_any tx0 rx6 RA6 rc6 W (HW6.out.keep hW) (by have := hz6.1; omega) (by omega) (HRk.out.keep hW).1.1
         have HTbA := qj fun W (hW : Gn w W) => refTag_any tx0 rx6 RA6 rc6 W (HW6.out.keep hW) (by have := hz6.1; omega) (by omega)
         have hR1n : R1.wraps.length ≤ 1099511627776 := by
          rw [← hR1]
          unfold madeR
          split
          ·have := (may_small (next_may tx0 tx1 (by assumption))).1; omega
          ·exact Nat.zero_le _
         have HR1n := qj hR1n
         rw [hR1, hk1] at HMk HRm
         rw [hU9, hub] at HOp HUn
         rw [hT9] at HTaA HTbA
         rw [hk2] at HTk
         unfold TakenIs at HTr
         rw [hk2] at HTr
         clear hR1 hk1 hk2 hU9 hub hT9 hS hA1 hb1 hz6 hbig hR1n
         go_wp2_with fail
         refine (HMk.out wr Hgr.out).mono ?_
         rintro e v2 ⟨A1, c1, rfl, hw1, hc1, f2⟩
         obtain ⟨b2, hb2⟩ := nmd (v2.heap.size)
         obtain ⟨W2, hW2⟩ := nmd (v2.alloc (.cells (recCs R1 A1 c1) 25))
         obtain ⟨GW2, HXW2⟩ := rec_box hb2 hW2 hw1
         have HG2 := qj (gb_none Hgr0.out (gb_none f2 GW2))
         have HW2 := qj hW2
         clear hw1 hc1 f2 GW2 hW2 HMk
         go_upto_region 9 with fail
         rw [HW2.out]
         clear hb2 HW2
         go_wp2_with fail
         refine (HRm.out W2 (gb_none HG0.out HG2.out)).mono ?_
         rintro e v3 ⟨A3, c3, rfl, hw3, hc3, _, f3⟩
         obtain ⟨b3, hb3⟩ := nmd (v3.heap.size)
         obtain ⟨W3, hW3⟩ := nmd (v3.alloc (.cells #[.int .i64 R1.seq, .string R1.prev, .int .i64 R1.kind, .int .i64 R1.dev, .slice A3 R1.wraps.length c3, .string R1.tag, .int .i64 k1] 36))
         have g3 : Gn W2 W3 := by rw [← hW3]; exact gb_alloc f3 _
         have HM3a : Hid (Row W3 b3 36 #[.int .i64 R1.seq, .string R1.prev, .int .i64 R1.kind, .int .i64 R1.dev, .slice A3 R1.wraps.length c3, .string R1.tag, .int .i64 k1]) := by rw [← hW3, ← hb3]; exact Row.new _ _ _
         have Hw3a : Hid (WL W3 A3 R1.wraps.length R1.wraps) := by rw [← hW3]; exact hw3.keep (gb_alloc (gb_refl _ _) _)
         have HG3 := qj (gb_none HG2.out g3)
         have HG23 := qj g3
         have HW3 := qj hW3
         clear hw3 hc3 f3 g3 hW3 HRm
         go_upto_region 10 with fail
         rw [HW3.out]
         clear hb3 HW3
         obtain ⟨⟨y0, y1, y2, y3, y4, y5⟩, _⟩ := HX6.out W3 HG3.out
         go_wp2_with fail
         refine (HOp.out W3 (gb_none HG0.out HG3.out)).mono ?_
         rintro e v4 ⟨rfl, f4⟩
         have HG4 := qj (gb_none HG3.out f4)
         have HG34 := qj f4
         clear f4 y0 y1 y2 y3 y4 y5 HOp
         obtain ⟨⟨y0, y1, y2, y3, y4, y5⟩, _⟩ := HX6.out v4 HG4.out
         go_wp2_with fail
         refine (HUn.out v4 (gb_none HG0.out HG4.out)).mono ?_
         rintro e v5 ⟨rfl, f5⟩
         obtain ⟨b5, hb5⟩ := nmd (v5.heap.size)
         obtain ⟨W5, hW5⟩ := nmd (v5.alloc (.cells #[.string U9, .bool ub] 41))
         have g5 : Gn v4 W5 := by rw [← hW5]; exact gb_alloc f5 _
         have HS5a : Hid (Row W5 b5 41 #[.string U9, .bool ub]) := by rw [← hW5, ← hb5]; exact Row.new _ _ _
         have HG5 := qj (gb_none HG4.out g5)
         have HG35 := qj (gb_none HG34.out g5)
         have HW5 := qj hW5
         clear f5 g5 hW5 y0 y1 y2 y3 y4 y5 HUn HG34
         go_upto_region 12 with fail
         rw [HW5.out]
         clear hb5 HW5
         obtain ⟨⟨y0, y1, y2, y3, y4, y5⟩, _⟩ := HX6.out W5 HG5.out
         go_wp2_with fail
         refine (HTk.out W5 (gb_none HG0.out HG5.out)).mono ?_
         rintro e v6 ⟨l8, k8, A8, c8, K8, d8, rfl, hlk8, hl8, _, hw8, _, f6⟩
         have HG6 := qj (gb_none HG5.out f6)
         have HG56 := qj f6
         have Hl8 := qj hl8
         have Hw8 := qj hw8
         have Hlk8 := qj hlk8
         clear f6 y0 y1 y2 y3 y4 y5 HTk hl8 hw8 hlk8
         obtain ⟨⟨y0, y1, y2, y3, y4, y5⟩, _⟩ := HX6.out v6 HG6.out
         go_wp2_with fail
         refine (HTr.out v6 (gb_none HG0.out HG6.out)).mono ?_
         rintro e v7 ⟨l9, k9, A7, c7, K7, d7, rfl, hlk9, hl9, _, hw9, _, f7⟩
         obtain ⟨rfl, rfl⟩ := logkeys_one Hlk8.out hlk9
         obtain ⟨n7, hn7⟩ := nmd (l8.length)
         obtain ⟨m7, hm7⟩ := nmd (k8.length)
         have hn8 : n7 ≤ 1099511627776 ∧ ∀ r ∈ l8, r.wraps.length ≤ 1099511627776 := by
          have h := HSm.out
          have h2 := HL.out.1
          have h3 := HZ6.out.1
          rcases Hlk8.out with ⟨_, rfl, _⟩ | ⟨_, rfl, _⟩
          ·exact ⟨by omega, fun r hr => by have := (HA1.out r hr).1; omega⟩
          ·rw [List.length_append] at hn7
           refine ⟨by simp at hn7; omega, fun r hr => ?_⟩
           rcases List.mem_append.1 hr with h1 | h1
           ·have := (HA1.out r h1).1; omega
           ·rw [List.mem_singleton.1 h1]; omega
         have hm8 : m7 ≤ 1099511627776 := by
          have h := HSm.out
          have h2 := HW7.out.1
          rcases Hlk8.out with ⟨_, _, rfl⟩ | ⟨_, _, ⟨_, rfl⟩ | ⟨_, x, _, rfl⟩⟩
          ·omega
          ·omega
          ·rw [List.length_append] at hm7; simp at hm7; omega
         rw [hn7] at Hl8 hl9 ⊢
         rw [hm7] at Hw8 hw9 ⊢
         obtain ⟨b7, hb7⟩ := nmd (v7.heap.size)
         obtain ⟨W7, hW7⟩ := nmd (v7.alloc (.cells #[.slice A7 n7 c7, .slice K7 m7 d7, .int .i64 k2] 46))
         have g7 : Gn v6 W7 := by rw [← hW7]; exact gb_alloc f7 _
         have h7a : Gn v7 W7 := by rw [← hW7]; exact gb_alloc (gb_refl _ _) _
         have HG7 := qj (gb_none HG6.out g7)
         have HG57 := qj (gb_none HG56.out g7)
         have HT9 : Hid (∀ W, Gn W7 W → Row W b7 46 #[.slice A7 n7 c7, .slice K7 m7 d7, .int .i64 k2]) := fun W hW => by
          have h : Row W7 b7 46 #[.slice A7 n7 c7, .slice K7 m7 d7, .int .i64 k2] := by rw [← hW7, ← hb7]; exact Row.new _ _ _
          exact h.kept hW (by simp)
         have HS5 : Hid (∀ W, Gn W7 W → Row W b5 41 #[.string U9, .bool ub]) := fun W hW => HS5a.out.kept (gb_none HG57.out hW) (by simp)
         have HG37 := qj (gb_none HG35.out HG57.out)
         have HM3 : Hid (∀ W, Gn W7 W → Row W b3 36 #[.int .i64 R1.seq, .string R1.prev, .int .i64 R1.kind, .int .i64 R1.dev, .slice A3 R1.wraps.length c3, .string R1.tag, .int .i64 k1]) := fun W hW => HM3a.out.kept (gb_none HG37.out hW) (by simp)
         have HG27 := qj (gb_none HG23.out HG37.out)
         have HX1 : Hid (∀ W, Gn W7 W → RecC0 W b2 R1 A1 c1) := fun W hW => (HXW2.out W (gb_none HG27.out hW)).1
         have HY : Hid (∀ W, Gn W7 W → RecC0 W b0 rx6 RA6 rc6) := fun W hW => (HX6.out W (gb_none HG7.out hW)).1
         have HwG : Hid (∀ W, Gn W7 W → Gn w W) := fun W hW => gb_none HG0.out (gb_none HG7.out hW)
         have HSr := qj fun W (hW : Gn W7 W) => (refSame_any R1 R1 A1 A3 c1 c3 W (HXW2.out W (gb_none HG27.out hW)).2 (Hw3a.out.keep (gb_none HG37.out hW)) HR1n.out).mono fun e w' h => h.yes rfl
         have HSl := qj fun W (hW : Gn W7 W) => (refSameLog_any A8 A7 n7 c8 n7 c7 l8 l8 W (Hl8.out.keep (gb_none g7 hW)) (hl9.keep (gb_none h7a hW)) hn8.1 hn8.2).mono fun e w' h => h.yes rfl
         have HSk := qj fun W (hW : Gn W7 W) => (refSameKeys_any K8 K7 m7 d8 m7 d7 k8 k8 W (Hw8.out.keep (gb_none g7 hW)) (hw9.keep (gb_none h7a hW)) hm8).mono fun e w' h => h.yes rfl
         have HTa := qj fun W (hW : Gn W7 W) => HTaA.out W (HwG.out W hW)
         have HTb := qj fun W (hW : Gn W7 W) => HTbA.out W (HwG.out W hW)
         have HAx := qj fun W (hW : Gn W7 W) => HAw.out W (HwG.out W hW)
         have q1 : (U9.toList == U9.toList) = true := beq_self_eq_true _
         have q2 : (T9.toList == T9.toList) = true := beq_self_eq_true _
         have q3 : (ub == ub) = true := beq_self_eq_true _
         have q4 : (k1 == k1) = true := beq_self_eq_true _
         have q5 : (k2 == k2) = true := beq_self_eq_true _
         have HW7e := qj hW7
         clear hn7 hm7 hn8 hm8 hlk9 hl9 hw9 f7 g7 h7a hW7 y0 y1 y2 y3 y4 y5 HTr
         go_upto_region 14 with fail
         rw [HW7e.out]
         clear hb7 HW7e
         refine tw_go ?_
         apply tw_xh 20
         ·intro W f hW e20 K hK; obtain ⟨x0, x1, x2, x3, x4, x5⟩ := HX1.out W hW; go_simp; exact kK hK
         refine tw_h 22 ?_
         apply tw_xe 0 114
         ·intro W f hW e114 K hK; have u0 := (HM3.out W hW).at_ (i := 0) rfl; have u1 := (HM3.out W hW).at_ (i := 1) rfl; have u2 := (HM3.out W hW).at_ (i := 2) rfl; have u3 := (HM3.out W hW).at_ (i := 3) rfl; have u4 := (HM3.out W hW).at_ (i := 4) rfl; have u5 := (HM3.out W hW).at_ (i := 5) rfl; go_simp; exact kK hK
         apply tw_xee 2 113 0 115
         ·intro W f hW ⟨e113, e115⟩ K hK; go_simp; exact ck (HSr.out W hW) hK
         refine tw_e 0 116 ?_
         refine tw_gh 0 117 21 ?_
         apply tw_is
         ·intro W f hW hE h0 K hK; have e118 := hE.of 0 118; have e117 := hE.of 1 117; clear hE h0; refine yes_g e117 ?_; go_simp; refine (lnum_any _ W).mono ?_; rintro e w1' ⟨rfl, rfl⟩; exact ⟨_, rfl, hK _ _ (gb_refl _ _) rfl⟩
         refine tw_gh 2 117 22 ?_
         apply tw_is
         ·intro W f hW hE h0 K hK; have e120 := hE.of 0 120; have e117 := hE.of 3 117; clear hE h0; refine yes_g e117 ?_; have u6 := (HM3.out W hW).at_ (i := 6) rfl; go_simp; exact kK hK
         apply tw_is
         ·intro W f hW hE h0 K hK; have e119 := hE.of 2 119; have e121 := hE.of 0 121; have e117 := hE.of 4 117; clear hE h0; refine yes_g e117 ?_; go_simp; exact kK hK
         refine tw_ee 5 117 0 122 ?_
         refine tw_e 0 123 ?_
         refine tw_gh 0 124 23 ?_
         refine tw_gh 1 124 25 ?_
         apply tw_is
         ·intro W f hW hE h0 K hK; have e126 := hE.of 0 126; have e124 := hE.of 2 124; clear hE h0; refine yes_g e124 ?_; have u0 := (HS5.out W hW).at_ (i := 0) rfl; go_simp; exact kK hK
         apply tw_is
         ·intro W f hW hE h0 K hK; have e125 := hE.of 2 125; have e127 := hE.of 0 127; have e124 := hE.of 3 124; clear hE h0; refine yes_g e124 ?_; go_simp; exact kK hK
         refine tw_ee 4 124 0 128 ?_
         refine tw_e 0 129 ?_
         refine tw_gh 0 130 24 ?_
         refine tw_gh 1 130 25 ?_
         apply tw_is
         ·intro W f hW hE h0 K hK; have e132 := hE.of 0 132; have e130 := hE.of 2 130; clear hE h0; refine yes_g e130 ?_; have u1 := (HS5.out W hW).at_ (i := 1) rfl; go_simp; exact kK hK
         apply tw_is
         ·intro W f hW hE h0 K hK; have e131 := hE.of 2 131; have e133 := hE.of 0 133; have e130 := hE.of 3 130; clear hE h0; refine yes_g e130 ?_; go_simp; exact kK hK
         refine tw_ee 4 130 0 134 ?_
         refine tw_e 0 135 ?_
         refine tw_gh 0 136 0 ?_
         apply tw_is
         ·intro W f hW hE h0 K hK; have e15 := h0.of 15; have e136 := hE.of 1 136; clear hE h0; refine yes_g e136 ?_; obtain ⟨y0, y1, y2, y3, y4, y5⟩ := HY.out W hW; go_simp; exact kK hK
         apply tw_is
         ·intro W f hW hE h0 K hK; have e137 := hE.of 1 137; have e138 := hE.of 0 138; have e136 := hE.of 2 136; clear hE h0; refine yes_g e136 ?_; go_simp; exact ck (HTa.out W hW) hK
         refine tw_gh 3 136 0 ?_
         apply tw_is
         ·intro W f hW hE h0 K hK; have e15 := h0.of 15; have e136 := hE.of 4 136; clear hE h0; refine yes_g e136 ?_; obtain ⟨y0, y1, y2, y3, y4, y5⟩ := HY.out W hW; go_simp; exact kK hK
         apply tw_is
         ·intro W f hW hE h0 K hK; have e140 := hE.of 1 140; have e141 := hE.of 0 141; have e136 := hE.of 5 136; clear hE h0; refine yes_g e136 ?_; go_simp; exact ck (HTb.out W hW) hK
         apply tw_is
         ·intro W f hW hE h0 K hK; have e139 := hE.of 3 139; have e142 := hE.of 0 142; have e136 := hE.of 6 136; clear hE h0; refine yes_g e136 ?_; go_simp; exact kK hK
         refine tw_ee 7 136 0 143 ?_
         refine tw_e 0 144 ?_
         refine tw_gh 0 145 26 ?_
         refine tw_gh 1 145 29 ?_
         apply tw_is
         ·intro W f hW hE h0 K hK; have e147 := hE.of 0 147; have e145 := hE.of 2 145; clear hE h0; refine yes_g e145 ?_; have u0 := (HT9.out W hW).at_ (i := 0) rfl; go_simp; exact kK hK
         apply tw_is
         ·intro W f hW hE h0 K hK; have e146 := hE.of 2 146; have e148 := hE.of 0 148; have e145 := hE.of 3 145; clear hE h0; refine yes_g e145 ?_; go_simp; exact ck (HSl.out W hW) hK
         refine tw_ee 4 145 0 149 ?_
         refine tw_e 0 150 ?_
         refine tw_gh 0 151 27 ?_
         refine tw_gh 1 151 29 ?_
         apply tw_is
         ·intro W f hW hE h0 K hK; have e153 := hE.of 0 153; have e151 := hE.of 2 151; clear hE h0; refine yes_g e151 ?_; have u1 := (HT9.out W hW).at_ (i := 1) rfl; go_simp; exact kK hK
         apply tw_is
         ·intro W f hW hE h0 K hK; have e152 := hE.of 2 152; have e154 := hE.of 0 154; have e151 := hE.of 3 151; clear hE h0; refine yes_g e151 ?_; go_simp; exact ck (HSk.out W hW) hK
         refine tw_ee 4 151 0 155 ?_
         refine tw_e 0 156 ?_
         refine tw_gh 0 157 28 ?_
         apply tw_is
         ·intro W f hW hE h0 K hK; have e158 := hE.of 0 158; have e157 := hE.of 1 157; clear hE h0; refine yes_g e157 ?_; go_simp; refine (lnum_any _ W).mono ?_; rintro e w1' ⟨rfl, rfl⟩; exact ⟨_, rfl, hK _ _ (gb_refl _ _) rfl⟩
         refine tw_gh 2 157 29 ?_
         apply tw_is
         ·intro W f hW hE h0 K hK; have e160 := hE.of 0 160; have e157 := hE.of 3 157; clear hE h0; refine yes_g e157 ?_; have u2 := (HT9.out W hW).at_ (i := 2) rfl; go_simp; exact kK hK
         apply tw_is
         ·intro W f hW hE h0 K hK; have e159 := hE.of 2 159; have e161 := hE.of 0 161; have e157 := hE.of 4 157; clear hE h0; refine yes_g e157 ?_; go_simp; exact kK hK
         refine tw_ee 5 157 0 162 ?_
         refine tw_e 0 163 ?_
         apply tw_is
         ·intro W f hW hE h0 K hK; have e164 := hE.of 0 164; clear hE h0; refine yes_g e164 ?_; go_simp; exact ck (HAx.out W hW) hK
         refine tw_ee 1 164 0 165 ?_
         refine tw_e 0 166 ?_
         refine tw_nil fun W f hW hA => ?_
         have e18 : f 18 = _ := hA 0 (some 18) _ rfl
         rw [e18]
         clear hA
         have Hg := qj (HwG.out W hW)
         clear hW
         go_wp2_with fail
         go_ret
         exact ⟨rfl, gb_below Hg.out (Nat.le_refl _)⟩
      ·have st7a : decide (45 < len7) = true := dcT
       have st7b : decide ((45 : Int) < (len7 : Int)) = true := dcT
       go_wp2_with fail
       refine (HAw.out w2 Hg2.out).mono ?_
       rintro e v1 ⟨rfl, g1⟩
       have G9 := qj (gb_none Hg2.out g1)
       clear g1
       go_wp2_with fail
       go_ret
       exact ⟨rfl, gb_below G9.out (Nat.le_refl _)⟩
     ·have st5a : decide (100 < tx5.size) = true := dcT
      have st5b : decide ((100 : Int) < (tx5.size : Int)) = true := dcT
      go_wp2_with fail
      refine (HAw.out w2 Hg2.out).mono ?_
      rintro e v1 ⟨rfl, g1⟩
      have G9 := qj (gb_none Hg2.out g1)
      clear g1
      go_wp2_with fail
      go_ret
      exact ⟨rfl, gb_below G9.out (Nat.le_refl _)⟩
    ·have st1a : decide (100 < tx1.size) = true := dcT
     have st1b : decide ((100 : Int) < (tx1.size : Int)) = true := dcT
     go_wp2_with fail
     refine (HAw.out w2 Hg2.out).mono ?_
     rintro e v1 ⟨rfl, g1⟩
     have G9 := qj (gb_none Hg2.out g1)
     clear g1
     go_wp2_with fail
     go_ret
     exact ⟨rfl, gb_below G9.out (Nat.le_refl _)⟩
   ·have st0a : decide (100 < tx0.size) = true := dcT
    have st0b : decide ((100 : Int) < (tx0.size : Int)) = true := dcT
    go_wp2_with fail
    refine (HAw.out w2 Hg2.out).mono ?_
    rintro e v1 ⟨rfl, g1⟩
    have G9 := qj (gb_none Hg2.out g1)
    clear g1
    go_wp2_with fail
    go_ret
    exact ⟨rfl, gb_below G9.out (Nat.le_refl _)⟩
theorem star : "*" ++ "errors.errorString" = "*errors.errorString" := by decide
theorem row_err (u : TypeId) (h : Tryz.prog.typeName? 3 u = some "*errors.errorString") : u = 251 :=
 typeName_ptr_named (nm := "errors.errorString") (by rw [star]; kernel_rfl) (by kernel_rfl) (by decide) u (by rw [star]; exact h)
theorem two0_1 {W : World} (h : laidMetH Tryz.prog Rows.wrapAllRow.laid W) : Sn.Two W 12 13 := by
 have h4 : laidMet Tryz.prog [("deaddrop/hmac.errBelow", Rows.laid_deaddrop_hmac_errBelow), ("deaddrop/hmac.errBeyond", Rows.laid_deaddrop_hmac_errBeyond)] W := (laidMetH_iff.1 (laidMetH.filter (fun x => x.1 == "deaddrop/hmac.errBelow" || x.1 == "deaddrop/hmac.errBeyond") h)).1
 obtain ⟨a0, a1, s0, s1, c0, c1, t0, t1, hv0, hv1, hc0, hs0, hz0, hc1, hs1, hz1, hne, hb0, hb1⟩ := laid_sentinels2 h4 (g0 := 12) (g1 := 13) (ti := 72) (by kernel_rfl) (by kernel_rfl) (by kernel_rfl) (by kernel_rfl) Tryz.underlying72 row_err Tryz.underlying251 Tryz.underlying269 rfl rfl Tryz.underlying9 (by kernel_rfl) (by kernel_rfl)
 exact ⟨a0, a1, c0, c1, t0, t1, by simpa using World.var?_cell (g := 12) (by kernel_rfl) hv0 0, by simpa using World.var?_cell (g := 13) (by kernel_rfl) hv1 0, hne, hb0, hb1⟩
theorem two2_3 {W : World} (h : laidMetH Tryz.prog Rows.wrapAllRow.laid W) : Sn.Two W 10 11 := by
 have h4 : laidMet Tryz.prog [("deaddrop/box.errKey", Rows.laid_deaddrop_box_errKey), ("deaddrop/box.errNonce", Rows.laid_deaddrop_box_errNonce)] W := (laidMetH_iff.1 (laidMetH.filter (fun x => x.1 == "deaddrop/box.errKey" || x.1 == "deaddrop/box.errNonce") h)).1
 obtain ⟨a0, a1, s0, s1, c0, c1, t0, t1, hv0, hv1, hc0, hs0, hz0, hc1, hs1, hz1, hne, hb0, hb1⟩ := laid_sentinels2 h4 (g0 := 10) (g1 := 11) (ti := 72) (by kernel_rfl) (by kernel_rfl) (by kernel_rfl) (by kernel_rfl) Tryz.underlying72 row_err Tryz.underlying251 Tryz.underlying269 rfl rfl Tryz.underlying9 (by kernel_rfl) (by kernel_rfl)
 exact ⟨a0, a1, c0, c1, t0, t1, by simpa using World.var?_cell (g := 10) (by kernel_rfl) hv0 0, by simpa using World.var?_cell (g := 11) (by kernel_rfl) hv1 0, hne, hb0, hb1⟩
theorem two4_5 {W : World} (h : laidMetH Tryz.prog Rows.wrapAllRow.laid W) : Sn.Two W 14 15 := by
 have h4 : laidMet Tryz.prog [("deaddrop/box.errShort", Rows.laid_deaddrop_box_errShort), ("deaddrop/box.errLong", Rows.laid_deaddrop_box_errLong)] W := (laidMetH_iff.1 (laidMetH.filter (fun x => x.1 == "deaddrop/box.errShort" || x.1 == "deaddrop/box.errLong") h)).1
 obtain ⟨a0, a1, s0, s1, c0, c1, t0, t1, hv0, hv1, hc0, hs0, hz0, hc1, hs1, hz1, hne, hb0, hb1⟩ := laid_sentinels2 h4 (g0 := 14) (g1 := 15) (ti := 72) (by kernel_rfl) (by kernel_rfl) (by kernel_rfl) (by kernel_rfl) Tryz.underlying72 row_err Tryz.underlying251 Tryz.underlying269 rfl rfl Tryz.underlying9 (by kernel_rfl) (by kernel_rfl)
 exact ⟨a0, a1, c0, c1, t0, t1, by simpa using World.var?_cell (g := 14) (by kernel_rfl) hv0 0, by simpa using World.var?_cell (g := 15) (by kernel_rfl) hv1 0, hne, hb0, hb1⟩
theorem two5_6 {W : World} (h : laidMetH Tryz.prog Rows.wrapAllRow.laid W) : Sn.Two W 15 16 := by
 have h4 : laidMet Tryz.prog [("deaddrop/box.errLong", Rows.laid_deaddrop_box_errLong), ("deaddrop/box.errTag", Rows.laid_deaddrop_box_errTag)] W := (laidMetH_iff.1 (laidMetH.filter (fun x => x.1 == "deaddrop/box.errLong" || x.1 == "deaddrop/box.errTag") h)).1
 obtain ⟨a0, a1, s0, s1, c0, c1, t0, t1, hv0, hv1, hc0, hs0, hz0, hc1, hs1, hz1, hne, hb0, hb1⟩ := laid_sentinels2 h4 (g0 := 15) (g1 := 16) (ti := 72) (by kernel_rfl) (by kernel_rfl) (by kernel_rfl) (by kernel_rfl) Tryz.underlying72 row_err Tryz.underlying251 Tryz.underlying269 rfl rfl Tryz.underlying9 (by kernel_rfl) (by kernel_rfl)
 exact ⟨a0, a1, c0, c1, t0, t1, by simpa using World.var?_cell (g := 15) (by kernel_rfl) hv0 0, by simpa using World.var?_cell (g := 16) (by kernel_rfl) hv1 0, hne, hb0, hb1⟩
theorem two7_8 {W : World} (h : laidMetH Tryz.prog Rows.wrapAllRow.laid W) : Sn.Two W 2 3 := by
 have h4 : laidMet Tryz.prog [("deaddrop/member.errMany", Rows.laid_deaddrop_member_errMany), ("deaddrop/member.errRecord", Rows.laid_deaddrop_member_errRecord)] W := (laidMetH_iff.1 (laidMetH.filter (fun x => x.1 == "deaddrop/member.errMany" || x.1 == "deaddrop/member.errRecord") h)).1
 obtain ⟨a0, a1, s0, s1, c0, c1, t0, t1, hv0, hv1, hc0, hs0, hz0, hc1, hs1, hz1, hne, hb0, hb1⟩ := laid_sentinels2 h4 (g0 := 2) (g1 := 3) (ti := 72) (by kernel_rfl) (by kernel_rfl) (by kernel_rfl) (by kernel_rfl) Tryz.underlying72 row_err Tryz.underlying251 Tryz.underlying269 rfl rfl Tryz.underlying9 (by kernel_rfl) (by kernel_rfl)
 exact ⟨a0, a1, c0, c1, t0, t1, by simpa using World.var?_cell (g := 2) (by kernel_rfl) hv0 0, by simpa using World.var?_cell (g := 3) (by kernel_rfl) hv1 0, hne, hb0, hb1⟩
theorem two9_10 {W : World} (h : laidMetH Tryz.prog Rows.wrapAllRow.laid W) : Sn.Two W 4 5 := by
 have h4 : laidMet Tryz.prog [("deaddrop/member.errSeq", Rows.laid_deaddrop_member_errSeq), ("deaddrop/member.errPrev", Rows.laid_deaddrop_member_errPrev)] W := (laidMetH_iff.1 (laidMetH.filter (fun x => x.1 == "deaddrop/member.errSeq" || x.1 == "deaddrop/member.errPrev") h)).1
 obtain ⟨a0, a1, s0, s1, c0, c1, t0, t1, hv0, hv1, hc0, hs0, hz0, hc1, hs1, hz1, hne, hb0, hb1⟩ := laid_sentinels2 h4 (g0 := 4) (g1 := 5) (ti := 72) (by kernel_rfl) (by kernel_rfl) (by kernel_rfl) (by kernel_rfl) Tryz.underlying72 row_err Tryz.underlying251 Tryz.underlying269 rfl rfl Tryz.underlying9 (by kernel_rfl) (by kernel_rfl)
 exact ⟨a0, a1, c0, c1, t0, t1, by simpa using World.var?_cell (g := 4) (by kernel_rfl) hv0 0, by simpa using World.var?_cell (g := 5) (by kernel_rfl) hv1 0, hne, hb0, hb1⟩
theorem two11_12 {W : World} (h : laidMetH Tryz.prog Rows.wrapAllRow.laid W) : Sn.Two W 6 7 := by
 have h4 : laidMet Tryz.prog [("deaddrop/member.errFirst", Rows.laid_deaddrop_member_errFirst), ("deaddrop/member.errHave", Rows.laid_deaddrop_member_errHave)] W := (laidMetH_iff.1 (laidMetH.filter (fun x => x.1 == "deaddrop/member.errFirst" || x.1 == "deaddrop/member.errHave") h)).1
 obtain ⟨a0, a1, s0, s1, c0, c1, t0, t1, hv0, hv1, hc0, hs0, hz0, hc1, hs1, hz1, hne, hb0, hb1⟩ := laid_sentinels2 h4 (g0 := 6) (g1 := 7) (ti := 72) (by kernel_rfl) (by kernel_rfl) (by kernel_rfl) (by kernel_rfl) Tryz.underlying72 row_err Tryz.underlying251 Tryz.underlying269 rfl rfl Tryz.underlying9 (by kernel_rfl) (by kernel_rfl)
 exact ⟨a0, a1, c0, c1, t0, t1, by simpa using World.var?_cell (g := 6) (by kernel_rfl) hv0 0, by simpa using World.var?_cell (g := 7) (by kernel_rfl) hv1 0, hne, hb0, hb1⟩
theorem two13_14 {W : World} (h : laidMetH Tryz.prog Rows.wrapAllRow.laid W) : Sn.Two W 8 9 := by
 have h4 : laidMet Tryz.prog [("deaddrop/member.errNone", Rows.laid_deaddrop_member_errNone), ("deaddrop/member.errStay", Rows.laid_deaddrop_member_errStay)] W := (laidMetH_iff.1 (laidMetH.filter (fun x => x.1 == "deaddrop/member.errNone" || x.1 == "deaddrop/member.errStay") h)).1
 obtain ⟨a0, a1, s0, s1, c0, c1, t0, t1, hv0, hv1, hc0, hs0, hz0, hc1, hs1, hz1, hne, hb0, hb1⟩ := laid_sentinels2 h4 (g0 := 8) (g1 := 9) (ti := 72) (by kernel_rfl) (by kernel_rfl) (by kernel_rfl) (by kernel_rfl) Tryz.underlying72 row_err Tryz.underlying251 Tryz.underlying269 rfl rfl Tryz.underlying9 (by kernel_rfl) (by kernel_rfl)
 exact ⟨a0, a1, c0, c1, t0, t1, by simpa using World.var?_cell (g := 8) (by kernel_rfl) hv0 0, by simpa using World.var?_cell (g := 9) (by kernel_rfl) hv1 0, hne, hb0, hb1⟩
theorem et : Tryz.prog.globalNamed "errors.errorType" = some 0 := by kernel_rfl
theorem rt : (Tryz.prog.cutTypes.find? (·.1 == "internal/reflectlite.rtype")).map (·.2) = some 180 := by kernel_rfl
theorem one_error : ((List.range 281).filter fun t => Tryz.prog.rowNamed t [101, 114, 114, 111, 114]) = [72] := by kernel_rfl
theorem how_many : Tryz.prog.types.size = 281 := by kernel_rfl
theorem handle : typeHandle Tryz.prog 72 = .pointer (some ⟨22, 72, none⟩) := by kernel_rfl
theorem errT {W : World} (h : laidMetH Tryz.prog Rows.wrapAllRow.laid W) : W.cell? ⟨0, 0, none⟩ = some (.iface 180 (.agg #[.pointer (some ⟨22, 72, none⟩)])) := by
 have hm : ("errors.errorType", Rows.laid_errors_errorType) ∈ (Rows.wrapAllRow.laid.filter fun x => x.2.handleName?.isSome) := List.mem_filter.2 ⟨List.Mem.tail _ (List.Mem.tail _ (List.Mem.tail _ (List.Mem.tail _ (List.Mem.tail _ (List.Mem.head _))))), by simp [DataW.handleName?, Rows.laid_errors_errorType]⟩
 obtain ⟨n, u, t, hn, hu, ht, hr, hc⟩ := (laidMetH_iff.1 h).2 _ hm
 obtain rfl := Option.some.inj hn
 obtain rfl := Option.some.inj (rt.symm.trans hu)
 have hin : t ∈ [72] := by
  rw [← one_error]
  exact List.mem_filter.2 ⟨List.mem_range.2 (how_many ▸ ht), hr⟩
 obtain rfl := List.mem_singleton.1 hin
 rw [handle] at hc
 have := World.var?_cell et hc 0
 simpa using this
theorem tabs {W : World} (h : laidMetH Tryz.prog Rows.wrapAllRow.laid W) : Tabs W := by
 have gh1 : laidMet Tryz.prog [("deaddrop/sha.opening", Rows.laid_deaddrop_sha_opening)] W := (laidMetH_iff.1 (laidMetH.filter (fun x => x.1 == "deaddrop/sha.opening") h)).1
 have h1 : Lib.TabIs Tryz.prog W "deaddrop/sha.opening" .u32 [1779033703, 3144134277, 1013904242, 2773480762, 1359893119, 2600822924, 528734635, 1541459225] := Lib.tabIs_of_head (rest := []) (g := 1) (t := 158) (e := 127) (n := 8) (by kernel_rfl) (by kernel_rfl) Tryz.underlying158 Tryz.underlying127 (by kernel_rfl) (by kernel_rfl) gh1
 have gh2 : laidMet Tryz.prog [("deaddrop/sha.roundNumbers", Rows.laid_deaddrop_sha_roundNumbers)] W := (laidMetH_iff.1 (laidMetH.filter (fun x => x.1 == "deaddrop/sha.roundNumbers") h)).1
 have h2 : Lib.TabIs Tryz.prog W "deaddrop/sha.roundNumbers" .u32 [1116352408, 1899447441, 3049323471, 3921009573, 961987163, 1508970993, 2453635748, 2870763221, 3624381080, 310598401, 607225278, 1426881987, 1925078388, 2162078206, 2614888103, 3248222580, 3835390401, 4022224774, 264347078, 604807628, 770255983, 1249150122, 1555081692, 1996064986, 2554220882, 2821834349, 2952996808, 3210313671, 3336571891, 3584528711, 113926993, 338241895, 666307205, 773529912, 1294757372, 1396182291, 1695183700, 1986661051, 2177026350, 2456956037, 2730485921, 2820302411, 3259730800, 3345764771, 3516065817, 3600352804, 4094571909, 275423344, 430227734, 506948616, 659060556, 883997877, 958139571, 1322822218, 1537002063, 1747873779, 1955562222, 2024104815, 2227730452, 2361852424, 2428436474, 2756734187, 3204031479, 3329325298] := Lib.tabIs_of_head (rest := []) (g := 17) (t := 228) (e := 127) (n := 64) (by kernel_rfl) (by kernel_rfl) Tryz.underlying228 Tryz.underlying127 (by kernel_rfl) (by kernel_rfl) gh2
 have e1 : ∀ i, i < 8 → ([1779033703, 3144134277, 1013904242, 2773480762, 1359893119, 2600822924, 528734635, 1541459225] : List Int).getD i 0 = ((firstH.getD i 0).toNat : Int) := by decide
 have e2 : ∀ i, i < 64 → ([1116352408, 1899447441, 3049323471, 3921009573, 961987163, 1508970993, 2453635748, 2870763221, 3624381080, 310598401, 607225278, 1426881987, 1925078388, 2162078206, 2614888103, 3248222580, 3835390401, 4022224774, 264347078, 604807628, 770255983, 1249150122, 1555081692, 1996064986, 2554220882, 2821834349, 2952996808, 3210313671, 3336571891, 3584528711, 113926993, 338241895, 666307205, 773529912, 1294757372, 1396182291, 1695183700, 1986661051, 2177026350, 2456956037, 2730485921, 2820302411, 3259730800, 3345764771, 3516065817, 3600352804, 4094571909, 275423344, 430227734, 506948616, 659060556, 883997877, 958139571, 1322822218, 1537002063, 1747873779, 1955562222, 2024104815, 2227730452, 2361852424, 2428436474, 2756734187, 3204031479, 3329325298] : List Int).getD i 0 = ((konst.getD i 0).toNat : Int) := by decide +kernel
 have c1 : ∀ i, i < 8 → W.cell? ⟨1, i, none⟩ = some (w32 (firstH.getD i 0)) := fun i hi => by
  have := h1.cell (g := 1) (by kernel_rfl) i hi
  rw [e1 i hi] at this; exact this
 have c2 : ∀ i, i < 64 → W.cell? ⟨17, i, none⟩ = some (w32 (konst.getD i 0)) := fun i hi => by
  have := h2.cell (g := 17) (by kernel_rfl) i hi
  rw [e2 i hi] at this; exact this
 exact ⟨block_lt_of_cell (c2 0 (by decide)), c1, c2⟩
theorem pows {W : World} (h : laidMetH Tryz.prog Rows.wrapAllRow.laid W) : Lib.TabIs Tryz.prog W "internal/strconv.uint64pow10" .u64 Lib.pow10Tab := by
 have gh1 : laidMet Tryz.prog [("internal/strconv.uint64pow10", Rows.laid_internal_strconv_uint64pow10)] W := (laidMetH_iff.1 (laidMetH.filter (fun x => x.1 == "internal/strconv.uint64pow10") h)).1
 have h1 : Lib.TabIs Tryz.prog W "internal/strconv.uint64pow10" .u64 [1, 10, 100, 1000, 10000, 100000, 1000000, 10000000, 100000000, 1000000000, 10000000000, 100000000000, 1000000000000, 10000000000000, 100000000000000, 1000000000000000, 10000000000000000, 100000000000000000, 1000000000000000000, 10000000000000000000] := Lib.tabIs_of_head (rest := []) (g := 19) (t := 247) (e := 126) (n := 20) (by kernel_rfl) (by kernel_rfl) Tryz.underlying247 Tryz.underlying126 (by kernel_rfl) (by kernel_rfl) gh1
 have e : Lib.pow10Tab = [1, 10, 100, 1000, 10000, 100000, 1000000, 10000000, 100000000, 1000000000, 10000000000, 100000000000, 1000000000000, 10000000000000, 100000000000000, 1000000000000000, 10000000000000000, 100000000000000000, 1000000000000000000, 10000000000000000000] := by decide +kernel
 rw [e]; exact h1
theorem contract (H : Type) (enc : TypeId × Value → H) (W : World) (base : Nat) (args : Array Value) (ds gs : List (DataW H)) (before : List MemPlace)
  (hval0 : ∀ (j : Nat) t v, Tryz.f3.params[j]? = some t → args[j]? = some v → Value.okWide Tryz.prog W .any base t v)
  (hW : DataW.Whole enc Tryz.prog Tryz.f3.params.toList Rows.wrapAllSpec.vars false W args.toList ds gs before) (hL : laidMetH Tryz.prog Rows.wrapAllRow.laid W) :
  Calls Tryz.prog 3 args W fun e W' => ∃ v, e = .returned v ∧ Rows.wrapAllSpec.post enc Tryz.prog Tryz.f3 false true false false W args v W' := by
 have hval : ∀ (j : Nat) t v, Tryz.f3.params[j]? = some t → args[j]? = some v → Value.okWide Tryz.prog W .any base t v := hval0
 have hW' := hW
 obtain ⟨p, q, hA0, hV, rfl, hfz, hnd⟩ := hW
 have hA : DataW.TrodAll enc Tryz.prog W 0 (fun _ => true) true Tryz.f3.params.toList args.toList ds p := hA0
 rw [Tryz.params3] at hA hval
 obtain ⟨v0, vs0, d0, ds0, p0, q0, hargs, rfl, rfl, h0, r0⟩ := trodAll_cons hA
 obtain ⟨v1, vs1, d1, ds1, p1, q1, rfl, rfl, rfl, h1, r1⟩ := trodAll_cons r0
 obtain ⟨v2, vs2, d2, ds2, p2, q2, rfl, rfl, rfl, h2, r2⟩ := trodAll_cons r1
 obtain ⟨v3, vs3, d3, ds3, p3, q3, rfl, rfl, rfl, h3, r3⟩ := trodAll_cons r2
 obtain ⟨v4, vs4, d4, ds4, p4, q4, rfl, rfl, rfl, h4, r4⟩ := trodAll_cons r3
 obtain ⟨v5, vs5, d5, ds5, p5, q5, rfl, rfl, rfl, h5, r5⟩ := trodAll_cons r4
 obtain ⟨v6, vs6, d6, ds6, p6, q6, rfl, rfl, rfl, h6, r6⟩ := trodAll_cons r5
 obtain ⟨v7, vs7, d7, ds7, p7, q7, rfl, rfl, rfl, h7, r7⟩ := trodAll_cons r6
 obtain ⟨v8, vs8, d8, ds8, p8, q8, rfl, rfl, rfl, h8, r8⟩ := trodAll_cons r7
 obtain ⟨rfl, rfl, rfl⟩ := trodAll_nil r8
 obtain rfl : args = #[v0, v1, v2, v3, v4, v5, v6, v7, v8] := by cases args; simp_all
 obtain ⟨rfl, rfl⟩ := trodVars_none hV
 have k0 := h0
 have lt0 : ∀ x ∈ p0, x.block < W.heap.size := by obtain ⟨m, hm⟩ := k0; exact DataW.trod_lt m _ _ _ hm
 obtain ⟨tx0, rfl, _⟩ := open_string Tryz.underlying9 (hval 0 9 v0 rfl rfl) h0
 have k1 := h1
 have lt1 : ∀ x ∈ p1, x.block < W.heap.size := by obtain ⟨m, hm⟩ := k1; exact DataW.trod_lt m _ _ _ hm
 obtain ⟨tx1, rfl, _⟩ := open_string Tryz.underlying9 (hval 1 9 v1 rfl rfl) h1
 have k2 := h2
 have lt2 : ∀ x ∈ p2, x.block < W.heap.size := by obtain ⟨m, hm⟩ := k2; exact DataW.trod_lt m _ _ _ hm
 obtain ⟨a2, len2, cap2, l2, rfl, w2, c2⟩ := open_log (hval 2 22 v2 rfl rfl) h2
 obtain ⟨a3, rfl, rfl, rfl, w3⟩ := open_int Tryz.underlying3 (hval 3 3 v3 rfl rfl) h3
 obtain ⟨a4, rfl, rfl, rfl, w4⟩ := open_int Tryz.underlying3 (hval 4 3 v4 rfl rfl) h4
 have k5 := h5
 have lt5 : ∀ x ∈ p5, x.block < W.heap.size := by obtain ⟨m, hm⟩ := k5; exact DataW.trod_lt m _ _ _ hm
 obtain ⟨tx5, rfl, _⟩ := open_string Tryz.underlying9 (hval 5 9 v5 rfl rfl) h5
 have k6 := h6
 have lt6 : ∀ x ∈ p6, x.block < W.heap.size := by obtain ⟨m, hm⟩ := k6; exact DataW.trod_lt m _ _ _ hm
 obtain ⟨rx6, RA6, rc6, rfl, w6, c6⟩ := open_record (hval 6 25 v6 rfl rfl) h6
 have k7 := h7
 have lt7 : ∀ x ∈ p7, x.block < W.heap.size := by obtain ⟨m, hm⟩ := k7; exact DataW.trod_lt m _ _ _ hm
 obtain ⟨a7, len7, cap7, l7, rfl, w7, c7⟩ := open_keys (hval 7 26 v7 rfl rfl) h7
 obtain ⟨a8, rfl, rfl, rfl, w8⟩ := open_int Tryz.underlying3 (hval 8 3 v8 rfl rfl) h8
 clear hA0 hval0
 refine (walk tx0 tx1 a2 len2 cap2 l2 a3 a4 tx5 rx6 RA6 rc6 a7 len7 cap7 l7 a8 W w2 c2 w3 w4 w6 c6 w7 c7 w8 ⟨two0_1 hL, two2_3 hL, two4_5 hL, two5_6 hL, two7_8 hL, two9_10 hL, two11_12 hL, two13_14 hL⟩ (errT hL) (tabs hL) (pows hL)).mono fun e W' ⟨he, bel⟩ => ?_
 subst he
 exact ⟨_, rfl, _, _, _, [], _, [], hW', trodAll_mk1 (shut_bool Tryz.underlying4 _), (trodAll_cons_mk (Below.trod laidOut (by kernel_rfl) (of_decide_eq_true (by kernel_rfl)) k0 bel lt0) (trodAll_cons_mk (Below.trod laidOut (by kernel_rfl) (of_decide_eq_true (by kernel_rfl)) k1 bel lt1) (trodAll_cons_mk (Below.trod laidOut (by kernel_rfl) (of_decide_eq_true (by kernel_rfl)) k2 bel lt2) (trodAll_cons_mk (shut_int Tryz.underlying3 w3) (trodAll_cons_mk (shut_int Tryz.underlying3 w4) (trodAll_cons_mk (Below.trod laidOut (by kernel_rfl) (of_decide_eq_true (by kernel_rfl)) k5 bel lt5) (trodAll_cons_mk (Below.trod laidOut (by kernel_rfl) (of_decide_eq_true (by kernel_rfl)) k6 bel lt6) (trodAll_cons_mk (Below.trod laidOut (by kernel_rfl) (of_decide_eq_true (by kernel_rfl)) k7 bel lt7) (trodAll_cons_mk (shut_int Tryz.underlying3 w8) trodAll_mk0))))))))), rfl, bel.frame _, fun h => by cases h⟩
def lay (cs : Array Value) : Obj → Obj
 | .cells _ t frozen => .cells cs t frozen
 | o => o
noncomputable def low : Nat := (World.holding Tryz.prog default ⟨#[], #[], []⟩).heap.size
noncomputable def laidWorld (os : Os) : World :=
 { World.holding Tryz.prog os ⟨#[.cells #[.string ⟨#[98, 101, 108, 111, 119, 32, 110, 111, 116, 104, 105, 110, 103]⟩] 269, .cells #[.string ⟨#[98, 101, 121, 111, 110, 100, 32, 116, 104, 101, 32, 108, 97, 115, 116, 32, 115, 117, 109]⟩] 269, .cells #[.string ⟨#[110, 111, 116, 32, 97, 115, 32, 108, 111, 110, 103, 32, 97, 115, 32, 97, 32, 112, 97, 105, 114, 32, 111, 102, 32, 107, 101, 121, 115]⟩] 269, .cells #[.string ⟨#[110, 111, 116, 32, 97, 115, 32, 108, 111, 110, 103, 32, 97, 115, 32, 97, 32, 110, 111, 110, 99, 101]⟩] 269, .cells #[.string ⟨#[115, 104, 111, 114, 116, 101, 114, 32, 116, 104, 97, 110, 32, 97, 32, 116, 97, 103]⟩] 269, .cells #[.string ⟨#[108, 111, 110, 103, 101, 114, 32, 116, 104, 97, 110, 32, 119, 104, 97, 116, 32, 105, 115, 32, 101, 118, 101, 114, 32, 115, 101, 97, 108, 101, 100]⟩] 269, .cells #[.string ⟨#[116, 104, 101, 32, 116, 97, 103, 32, 100, 111, 101, 115, 32, 110, 111, 116, 32, 102, 105, 116]⟩] 269, .cells #[.string ⟨#[109, 111, 114, 101, 32, 116, 104, 97, 110, 32, 97, 32, 99, 104, 97, 105, 110, 32, 109, 97, 121, 32, 104, 97, 118, 101]⟩] 269, .cells #[.string ⟨#[105, 116, 32, 109, 97, 121, 32, 110, 111, 116, 32, 98, 101]⟩] 269, .cells #[.string ⟨#[110, 111, 116, 32, 116, 104, 101, 32, 111, 110, 101, 32, 98, 101, 104, 105, 110, 100, 32, 116, 104, 101, 32, 111, 110, 101, 32, 97, 104, 101, 97, 100]⟩] 269, .cells #[.string ⟨#[97, 110, 111, 116, 104, 101, 114, 32, 114, 101, 99, 111, 114, 100, 39, 115, 32, 104, 97, 115, 104, 32, 116, 104, 97, 110, 32, 116, 104, 97, 116, 32, 111, 102, 32, 116, 104, 101, 32, 111, 110, 101, 32, 97, 104, 101, 97, 100]⟩] 269, .cells #[.string ⟨#[116, 104, 101, 32, 102, 105, 114, 115, 116, 32, 114, 101, 99, 111, 114, 100, 32, 97, 100, 100, 115, 32, 100, 101, 118, 105, 99, 101, 32, 48]⟩] 269, .cells #[.string ⟨#[97, 100, 100, 101, 100, 32, 119, 104, 105, 108, 101, 32, 105, 116, 32, 105, 115, 32, 97, 32, 109, 101, 109, 98, 101, 114]⟩] 269, .cells #[.string ⟨#[114, 101, 118, 111, 107, 101, 100, 32, 119, 104, 105, 108, 101, 32, 105, 116, 32, 105, 115, 32, 110, 111, 32, 109, 101, 109, 98, 101, 114]⟩] 269, .cells #[.string ⟨#[105, 116, 32, 115, 116, 97, 121, 115, 32, 102, 111, 114, 32, 103, 111, 111, 100]⟩] 269], #[], []⟩ with heap := ((((((((((((((((((((((World.holding Tryz.prog os ⟨#[.cells #[.string ⟨#[98, 101, 108, 111, 119, 32, 110, 111, 116, 104, 105, 110, 103]⟩] 269, .cells #[.string ⟨#[98, 101, 121, 111, 110, 100, 32, 116, 104, 101, 32, 108, 97, 115, 116, 32, 115, 117, 109]⟩] 269, .cells #[.string ⟨#[110, 111, 116, 32, 97, 115, 32, 108, 111, 110, 103, 32, 97, 115, 32, 97, 32, 112, 97, 105, 114, 32, 111, 102, 32, 107, 101, 121, 115]⟩] 269, .cells #[.string ⟨#[110, 111, 116, 32, 97, 115, 32, 108, 111, 110, 103, 32, 97, 115, 32, 97, 32, 110, 111, 110, 99, 101]⟩] 269, .cells #[.string ⟨#[115, 104, 111, 114, 116, 101, 114, 32, 116, 104, 97, 110, 32, 97, 32, 116, 97, 103]⟩] 269, .cells #[.string ⟨#[108, 111, 110, 103, 101, 114, 32, 116, 104, 97, 110, 32, 119, 104, 97, 116, 32, 105, 115, 32, 101, 118, 101, 114, 32, 115, 101, 97, 108, 101, 100]⟩] 269, .cells #[.string ⟨#[116, 104, 101, 32, 116, 97, 103, 32, 100, 111, 101, 115, 32, 110, 111, 116, 32, 102, 105, 116]⟩] 269, .cells #[.string ⟨#[109, 111, 114, 101, 32, 116, 104, 97, 110, 32, 97, 32, 99, 104, 97, 105, 110, 32, 109, 97, 121, 32, 104, 97, 118, 101]⟩] 269, .cells #[.string ⟨#[105, 116, 32, 109, 97, 121, 32, 110, 111, 116, 32, 98, 101]⟩] 269, .cells #[.string ⟨#[110, 111, 116, 32, 116, 104, 101, 32, 111, 110, 101, 32, 98, 101, 104, 105, 110, 100, 32, 116, 104, 101, 32, 111, 110, 101, 32, 97, 104, 101, 97, 100]⟩] 269, .cells #[.string ⟨#[97, 110, 111, 116, 104, 101, 114, 32, 114, 101, 99, 111, 114, 100, 39, 115, 32, 104, 97, 115, 104, 32, 116, 104, 97, 110, 32, 116, 104, 97, 116, 32, 111, 102, 32, 116, 104, 101, 32, 111, 110, 101, 32, 97, 104, 101, 97, 100]⟩] 269, .cells #[.string ⟨#[116, 104, 101, 32, 102, 105, 114, 115, 116, 32, 114, 101, 99, 111, 114, 100, 32, 97, 100, 100, 115, 32, 100, 101, 118, 105, 99, 101, 32, 48]⟩] 269, .cells #[.string ⟨#[97, 100, 100, 101, 100, 32, 119, 104, 105, 108, 101, 32, 105, 116, 32, 105, 115, 32, 97, 32, 109, 101, 109, 98, 101, 114]⟩] 269, .cells #[.string ⟨#[114, 101, 118, 111, 107, 101, 100, 32, 119, 104, 105, 108, 101, 32, 105, 116, 32, 105, 115, 32, 110, 111, 32, 109, 101, 109, 98, 101, 114]⟩] 269, .cells #[.string ⟨#[105, 116, 32, 115, 116, 97, 121, 115, 32, 102, 111, 114, 32, 103, 111, 111, 100]⟩] 269], #[], []⟩).heap).modify 12 (lay #[.iface 251 (.pointer (some ⟨low, 0, none⟩))])).modify 13 (lay #[.iface 251 (.pointer (some ⟨low + 1, 0, none⟩))])).modify 10 (lay #[.iface 251 (.pointer (some ⟨low + 2, 0, none⟩))])).modify 11 (lay #[.iface 251 (.pointer (some ⟨low + 3, 0, none⟩))])).modify 14 (lay #[.iface 251 (.pointer (some ⟨low + 4, 0, none⟩))])).modify 15 (lay #[.iface 251 (.pointer (some ⟨low + 5, 0, none⟩))])).modify 16 (lay #[.iface 251 (.pointer (some ⟨low + 6, 0, none⟩))])).modify 2 (lay #[.iface 251 (.pointer (some ⟨low + 7, 0, none⟩))])).modify 3 (lay #[.iface 251 (.pointer (some ⟨low + 8, 0, none⟩))])).modify 4 (lay #[.iface 251 (.pointer (some ⟨low + 9, 0, none⟩))])).modify 5 (lay #[.iface 251 (.pointer (some ⟨low + 10, 0, none⟩))])).modify 6 (lay #[.iface 251 (.pointer (some ⟨low + 11, 0, none⟩))])).modify 7 (lay #[.iface 251 (.pointer (some ⟨low + 12, 0, none⟩))])).modify 8 (lay #[.iface 251 (.pointer (some ⟨low + 13, 0, none⟩))])).modify 9 (lay #[.iface 251 (.pointer (some ⟨low + 14, 0, none⟩))])).modify 0 (lay #[.iface 180 (.agg #[.pointer (some ⟨22, 72, none⟩)])])).modify 20 (lay #[.int .u8 0, .int .u8 1, .int .u8 28, .int .u8 2, .int .u8 29, .int .u8 14, .int .u8 24, .int .u8 3, .int .u8 30, .int .u8 22, .int .u8 20, .int .u8 15, .int .u8 25, .int .u8 17, .int .u8 4, .int .u8 8, .int .u8 31, .int .u8 27, .int .u8 13, .int .u8 23, .int .u8 21, .int .u8 19, .int .u8 16, .int .u8 7, .int .u8 26, .int .u8 12, .int .u8 18, .int .u8 6, .int .u8 11, .int .u8 5, .int .u8 10, .int .u8 9])).modify 21 (lay #[.int .u8 0, .int .u8 1, .int .u8 56, .int .u8 2, .int .u8 57, .int .u8 49, .int .u8 28, .int .u8 3, .int .u8 61, .int .u8 58, .int .u8 42, .int .u8 50, .int .u8 38, .int .u8 29, .int .u8 17, .int .u8 4, .int .u8 62, .int .u8 47, .int .u8 59, .int .u8 36, .int .u8 45, .int .u8 43, .int .u8 51, .int .u8 22, .int .u8 53, .int .u8 39, .int .u8 33, .int .u8 30, .int .u8 24, .int .u8 18, .int .u8 12, .int .u8 5, .int .u8 63, .int .u8 55, .int .u8 48, .int .u8 27, .int .u8 60, .int .u8 41, .int .u8 37, .int .u8 16, .int .u8 46, .int .u8 35, .int .u8 44, .int .u8 21, .int .u8 52, .int .u8 32, .int .u8 23, .int .u8 11, .int .u8 54, .int .u8 26, .int .u8 40, .int .u8 15, .int .u8 34, .int .u8 20, .int .u8 31, .int .u8 10, .int .u8 25, .int .u8 14, .int .u8 19, .int .u8 9, .int .u8 13, .int .u8 8, .int .u8 7, .int .u8 6])).modify 1 (lay #[.int .u32 1779033703, .int .u32 3144134277, .int .u32 1013904242, .int .u32 2773480762, .int .u32 1359893119, .int .u32 2600822924, .int .u32 528734635, .int .u32 1541459225])).modify 17 (lay #[.int .u32 1116352408, .int .u32 1899447441, .int .u32 3049323471, .int .u32 3921009573, .int .u32 961987163, .int .u32 1508970993, .int .u32 2453635748, .int .u32 2870763221, .int .u32 3624381080, .int .u32 310598401, .int .u32 607225278, .int .u32 1426881987, .int .u32 1925078388, .int .u32 2162078206, .int .u32 2614888103, .int .u32 3248222580, .int .u32 3835390401, .int .u32 4022224774, .int .u32 264347078, .int .u32 604807628, .int .u32 770255983, .int .u32 1249150122, .int .u32 1555081692, .int .u32 1996064986, .int .u32 2554220882, .int .u32 2821834349, .int .u32 2952996808, .int .u32 3210313671, .int .u32 3336571891, .int .u32 3584528711, .int .u32 113926993, .int .u32 338241895, .int .u32 666307205, .int .u32 773529912, .int .u32 1294757372, .int .u32 1396182291, .int .u32 1695183700, .int .u32 1986661051, .int .u32 2177026350, .int .u32 2456956037, .int .u32 2730485921, .int .u32 2820302411, .int .u32 3259730800, .int .u32 3345764771, .int .u32 3516065817, .int .u32 3600352804, .int .u32 4094571909, .int .u32 275423344, .int .u32 430227734, .int .u32 506948616, .int .u32 659060556, .int .u32 883997877, .int .u32 958139571, .int .u32 1322822218, .int .u32 1537002063, .int .u32 1747873779, .int .u32 1955562222, .int .u32 2024104815, .int .u32 2227730452, .int .u32 2361852424, .int .u32 2428436474, .int .u32 2756734187, .int .u32 3204031479, .int .u32 3329325298])).modify 19 (lay #[.int .u64 1, .int .u64 10, .int .u64 100, .int .u64 1000, .int .u64 10000, .int .u64 100000, .int .u64 1000000, .int .u64 10000000, .int .u64 100000000, .int .u64 1000000000, .int .u64 10000000000, .int .u64 100000000000, .int .u64 1000000000000, .int .u64 10000000000000, .int .u64 100000000000000, .int .u64 1000000000000000, .int .u64 10000000000000000, .int .u64 100000000000000000, .int .u64 1000000000000000000, .int .u64 10000000000000000000]) }
theorem laid_met (os : Os) : laidMetH Tryz.prog Rows.wrapAllRow.laid ((laidWorld os).forCall (fun _ _ => 0) ⟨#[], #[.string ⟨#[]⟩, .string ⟨#[]⟩, .slice none 0 0, .int .i64 0, .int .i64 0, .string ⟨#[]⟩, .agg #[.int .i64 0, .string ⟨#[]⟩, .int .i64 0, .int .i64 0, .slice none 0 0, .string ⟨#[]⟩], .slice none 0 0, .int .i64 0], []⟩).memory :=
 laidMetH_of_parts (laidMet_of_run' 8 (by kernel_rfl) (by kernel_rfl)) (by kernel_rfl)
theorem reads (os : Os) {H : Type} (enc : TypeId × Value → H) : ∃ places, DataW.whole enc Tryz.prog ((laidWorld os).forCall (fun _ _ => 0) ⟨#[], #[.string ⟨#[]⟩, .string ⟨#[]⟩, .slice none 0 0, .int .i64 0, .int .i64 0, .string ⟨#[]⟩, .agg #[.int .i64 0, .string ⟨#[]⟩, .int .i64 0, .int .i64 0, .slice none 0 0, .string ⟨#[]⟩], .slice none 0 0, .int .i64 0], []⟩).memory Tryz.f3.params.toList Rows.wrapAllSpec.vars false (show Array Value from #[.string ⟨#[]⟩, .string ⟨#[]⟩, .slice none 0 0, .int .i64 0, .int .i64 0, .string ⟨#[]⟩, .agg #[.int .i64 0, .string ⟨#[]⟩, .int .i64 0, .int .i64 0, .slice none 0 0, .string ⟨#[]⟩], .slice none 0 0, .int .i64 0]).toList 8 = some ([.lit (.string []), .lit (.string []), .nil, .lit (.int .i64 0), .lit (.int .i64 0), .lit (.string []), .agg [.lit (.int .i64 0), .lit (.string []), .lit (.int .i64 0), .lit (.int .i64 0), .nil, .lit (.string [])], .nil, .lit (.int .i64 0)], [], places) :=
 ⟨[], by kernel_rfl⟩
theorem lifted (os : Os) (started : os.Started) (H : Type) (enc : TypeId × Value → H) (F : Stop.Interp) :
  ReturnsInHanded {} Tryz.checked os 3 .any ((OpenSpec.ofChange Rows.wrapAllSpec).preRow enc Tryz.prog Tryz.f3 Rows.wrapAllRow.domain false Rows.wrapAllRow.laid) (((OpenSpec.ofChange Rows.wrapAllSpec).at F).post enc Tryz.prog Tryz.f3 false true false false) := by
 obtain ⟨places, hx⟩ := reads os enc
 refine returnsInHanded_of_row (C := Tryz.checked) (s := OpenSpec.ofChange Rows.wrapAllSpec) own started (by kernel_rfl) Tryz.func3
  (witness_row_at (enc := enc) (C := Tryz.checked) false (laidWorld os) #[.string ⟨#[]⟩, .string ⟨#[]⟩, .slice none 0 0, .int .i64 0, .int .i64 0, .string ⟨#[]⟩, .agg #[.int .i64 0, .string ⟨#[]⟩, .int .i64 0, .int .i64 0, .slice none 0 0, .string ⟨#[]⟩], .slice none 0 0, .int .i64 0] rfl (by kernel_rfl) (by kernel_rfl) (by kernel_rfl)
   (OpenSpec.preRow_of_cond 8 hx (by kernel_rfl) (fun k hk => by cases hk) (by kernel_rfl) (laid_met os))) ?_
 intro W base args ds gs before hval hW _ _ _ hL _ _
 exact contract H enc W base args ds gs before hval hW hL
theorem said : Rows.WrapAllSaid :=
 OpenClaim.holds_of_cond 3 Tryz.f3 rfl rfl rfl rfl rfl rfl rfl ⟨rfl, rfl, rfl, rfl, rfl⟩ rfl rfl rfl rfl rfl (by kernel_rfl) Tryz.func3 (by kernel_rfl)
  (of_decide_eq_true (by kernel_rfl)) (by unfold Func.isWrapper; first | (rw [if_pos (by decide +kernel)]; kernel_rfl) | (rw [if_neg (by decide +kernel)]; exact ⟨rfl, rfl⟩))
  (fun os started H enc _ F => by rw [OpenClaim.pre_eq_preRow]; exact lifted os started H enc F)
theorem plain (f : FuncId) (fn : Func) (hf : Tryz.pinned.checked.prog.funcNamed "deaddrop/deaddroplaw17.WrapAll" = some f) (hfn : Tryz.pinned.checked.prog.funcs[f]? = some fn) :
  true = Tryz.pinned.checked.prog.looks [] ∧ ∀ (j : Nat) t, fn.params[j]? = some t → Tryz.pinned.checked.prog.wantsStandIn t = false := by
 obtain rfl : f = 3 := Option.some.inj ((show Tryz.prog.funcNamed "deaddrop/deaddroplaw17.WrapAll" = some 3 by kernel_rfl).symm.trans hf) |>.symm
 obtain rfl : fn = Tryz.f3 := (Option.some.inj (Tryz.func3.symm.trans hfn)).symm
 refine ⟨by kernel_rfl, fun j t ht => ?_⟩
 have hall : (Tryz.f3.params.toList.all fun u => !Tryz.prog.wantsStandIn u) = true := by kernel_rfl
 have hm : t ∈ Tryz.f3.params.toList := by simpa using Array.mem_of_getElem? ht
 exact (show Tryz.prog.wantsStandIn t = false by simpa using List.all_eq_true.1 hall t hm)
theorem card : Rows.WrapAllCardSaid :=
 Claim7.holds_tied_plain_at .later [] _ _ _ _ said (fun _ h => by cases h) (by kernel_rfl) (fun _ h => by cases h) wrapAll_row_tie rfl ⟨rfl, rfl⟩ (by kernel_rfl) rfl plain (by kernel_rfl)
#print axioms card
end Go.Proofs.YtpcjbjpofcdjeaaGreatDoor.wrapAll
