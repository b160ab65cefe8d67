/-
  Proved: whatever values of its parameters' types it is called with, deaddroplaw15.MemberBack returns true, and each argument reads behind the call as it read before; the listed package-level variables being what the program's own text lays (the card ties them).
  Conditions: none but those of the card itself.
-/
import Derived.Test.YtdlafgkiddhejaaGreatDoorCards
import Derived.Test.YtdlafgkiddhejaaGreatDoorTie
import Derived.WalkKit
import Derived.ProofKit
import Derived.OpenShut
import Derived.ShutString
import Derived.Below
import Derived.ChangeOld
import Derived.Deep.DeepHandedRow
import Derived.LaidSub
import Derived.LaidHandle
import Derived.LaidLaws
import Derived.RowKitTokens
import Derived.Stop.LaidTwo
import Derived.Lib.LaidTab
import Derived.Test.YtdlafgkiddhejaaGreatDoorMbLaw
import Derived.Test.YtdlafgkiddhejaaGreatDoorMbOpen
import Derived.Test.YtdlafgkiddhejaaGreatDoorTdA
import Derived.Deep.DeepCutAuto
import Derived.Test.YtdlafgkiddhejaaGreatDoorSn
namespace Go.Proofs.YtdlafgkiddhejaaGreatDoor.memberBack
open Go.ChangeShapes Go.WideShapes Go.ChangeAt Go.RowKit
open Go.ChangeMaps (open_string shut_string)
open Go.Proofs.YtdlafgkiddhejaaGreatDoor.Mm Go.Proofs.YtdlafgkiddhejaaGreatDoor.Dt Go.Proofs.YtdlafgkiddhejaaGreatDoor.Td Go.Proofs.YtdlafgkiddhejaaGreatDoor.Vw Go.Proofs.YtdlafgkiddhejaaGreatDoor.Wd Go.Proofs.YtdlafgkiddhejaaGreatDoor.Hh Go.Proofs.YtdlafgkiddhejaaGreatDoor.Mb Go.Proofs.YtdlafgkiddhejaaGreatDoor.Me Go.Proofs.YtdlafgkiddhejaaGreatDoor
set_option linter.unusedVariables false

theorem own : ownKnob Tryz.prog.godebug = none := by kernel_rfl
theorem laidOut : laidOutB Tryz.prog = true := by kernel_rfl

attribute [local go_sem] Td.upon_value Td.upon_skip Td.upon_enter Td.upon_row Td.look_tmp Td.look_const Td.look_func Td.look_global
attribute [local go_sem] xor8
theorem bytesRow_at2 (s : ByteArray) (cap i : Nat) (h : i < s.size) : (bytesRow s cap)[i]? = some (w8 (s.data.toList.getD i 0)) := by
  have h' : i < s.data.size := h
  have h2 : s.data.toList[i]? = some s.data[i] := by rw [Array.getElem?_toList, Array.getElem?_eq_getElem h']
  rw [List.getD_eq_getElem?_getD, h2]
  unfold bytesRow
  rw [Array.getElem?_append_left (by rw [Array.size_map]; exact h'), Array.getElem?_map, Array.getElem?_eq_getElem h']
  rfl
theorem bytesRow_ge (s : ByteArray) (cap : Nat) : s.size ≤ (bytesRow s cap).size := by
  unfold bytesRow; rw [Array.size_append, Array.size_map]; exact Nat.le_add_right _ _
theorem rowF_text {w : World} {g : Nat} {C : Array Value} {l : List UInt8} {n : Nat} (h : RowF w g 5 C) (hn : l.length = n) (hC : ∀ i, i < n → C[i]? = some (w8 (l.getD i 0))) (c : Nat) :
    (convert 30 9 (.slice (some ⟨g, 0, none⟩) n c)).run Tryz.prog w = .ok (.string ⟨l.toArray⟩) w := by
  subst hn
  refine run_convert_bytes_back (P := Tryz.prog) w 30 9 5 ⟨g, 0, none⟩ c l Tryz.underlying30 Tryz.underlying5 Tryz.underlying9 (fun j hj => ?_)
  have hadd : (⟨g, 0, none⟩ : Addr).add j = ⟨g, j, none⟩ := by unfold Addr.add; split <;> simp_all
  rw [hadd]
  refine h.at_ ((hC j hj).trans ?_)
  rw [List.getD_eq_getElem?_getD, List.getElem?_eq_getElem hj]; rfl
theorem u16_bound {a : Int} (h : (Lit.int .u16 a).wf = true) : 0 ≤ a ∧ a ≤ 65535 := by
  have h1 : IntKind.u16.min = 0 := by decide
  have h2 : IntKind.u16.max = 65535 := by decide
  simp only [Lit.wf, h1, h2, Bool.and_eq_true, decide_eq_true_eq] at h
  exact h
theorem u8_byte {a : Int} (h0 : 0 ≤ a) (h1 : a ≤ 255) : ∃ m : UInt8, a = (m.toNat : Int) := ⟨UInt8.ofNat a.toNat, by rw [UInt8.toNat_ofNat']; omega⟩
theorem same_set (l : List UInt8) (y : Nat) (hy : y < l.length) (m : UInt8) (h : l.set y (l.getD y 0 ^^^ m) = l) : m = 0 := by
  have h2 := congrArg (fun l => l.getD y 0) h
  simp only [List.getD_eq_getElem?_getD, List.getElem?_set_self hy, Option.getD_some] at h2
  have h3 : l[y]?.getD 0 ^^^ (l[y]?.getD 0 ^^^ m) = l[y]?.getD 0 ^^^ l[y]?.getD 0 := by rw [h2]
  rwa [← UInt8.xor_assoc, UInt8.xor_self, UInt8.zero_xor] at h3
theorem set_get (l : List UInt8) (y : Nat) (v : UInt8) (h : y < l.length) : (l.set y v).getD y 0 = v := by
  rw [List.getD_eq_getElem?_getD, List.getElem?_set_self h]; rfl

set_option maxHeartbeats 40000000 in
set_option maxRecDepth 100000 in
theorem walk (rx0 : Rc) (RA0 : Option Addr) (rc0 : Nat) (a1 : Int) (a2 : Int) (a3 : Int) (w : World) (w0 : WL w RA0 rx0.wraps.length rx0.wraps) (c0 : rx0.wraps.length ≤ rc0) (w1 : (Lit.int .u16 a1).wf = true) (w2 : (Lit.int .u16 a2).wf = true) (w3 : (Lit.int .u8 a3).wf = true) (hE : Sn.Two w 0 1 ∧ Sn.Two w 2 3 ∧ Sn.Two w 4 5 ∧ Sn.Two w 6 7) (hT : w.cell? ⟨9, 0, none⟩ = some (.iface 126 (.agg #[.pointer (some ⟨12, 45, none⟩)]))) (hS : Tabs w) :
    Calls Tryz.prog 6 #[.agg #[.int .i64 rx0.seq, .string rx0.prev, .int .i64 rx0.kind, .int .i64 rx0.dev, .slice RA0 rx0.wraps.length rc0, .string rx0.tag], .int .u16 a1, .int .u16 a2, .int .u8 a3] w fun e w' => e = .returned (.bool true) ∧ Below w.heap.size w w' := by
  have HR : Hid (Rdy w) := ⟨hS, MErrs.of hE, hT⟩
  have HAw : Hid (∀ W, w.grownBy W none → Calls Tryz.prog 9 #[] W fun e w' => e = .returned (.bool true) ∧ W.grownBy w' none) := fun W hW => awake15_any W (HR.out.keep hW)
  clear hS hE hT
  obtain ⟨b2, b2'⟩ := u16_bound w1
  obtain ⟨b3, b3'⟩ := u16_bound w2
  obtain ⟨b4, b4'⟩ := u8_of w3
  obtain ⟨m, rfl⟩ := u8_byte b4 b4'
  have Hb : Hid (0 ≤ a1 ∧ a1 ≤ 65535 ∧ 0 ≤ a2 ∧ a2 ≤ 65535) := ⟨b2, b2', b3, b3'⟩
  obtain ⟨b0, hb0⟩ : ∃ b0, w.heap.size = b0 := ⟨_, rfl⟩
  obtain ⟨W0, hW0⟩ : ∃ W0, w.alloc (.cells #[.int .i64 rx0.seq, .string rx0.prev, .int .i64 rx0.kind, .int .i64 rx0.dev, .slice RA0 rx0.wraps.length rc0, .string rx0.tag] 26) = W0 := ⟨_, rfl⟩
  obtain ⟨G0, HX⟩ := rec_box hb0 hW0 w0
  have HG := Lib.hid G0
  have Hc0 := Lib.hid c0
  obtain ⟨⟨y0, y1, y2, y3, y4, y5⟩, _⟩ := HX.out W0 (gb_refl _ _)
  have HGa := Lib.hid (great_any rx0 RA0 rc0 W0 (HX.out W0 (gb_refl _ _)).2 Hc0.out)
  clear w0 w1 w2 w3 b4 b4' b2 b2' b3 b3' G0 c0
  go_enter Tryz.func6, Tryz.ntmps6
  go_upto_region 1 with fail
  clear hW0 hb0
  go_wp2_with fail
  refine HGa.out.mono ?_
  rintro e v1 ⟨⟨q, rfl, hq⟩, g1⟩
  have Hq1 := Lib.hid hq
  have HGv1 := Lib.hid g1
  clear hq g1 HGa y0 y1 y2 y3 y4 y5
  obtain ⟨⟨y0, y1, y2, y3, y4, y5⟩, _⟩ := HX.out v1 HGv1.out
  cases q with
  | true =>
    clear y0 y1 y2 y3 y4 y5
    go_wp2_with fail
    refine (HAw.out _ (gb_none HG.out HGv1.out)).mono ?_
    rintro e v9 ⟨rfl, k9⟩
    go_wp2_with fail
    go_ret
    exact ⟨rfl, gb_below (gb_none (gb_none HG.out HGv1.out) k9) (Nat.le_refl _)⟩
  | false =>
  by_cases hm : m = 0
  · subst hm
    have e1 : (((0 : UInt8).toNat : Int) == 0) = true := rfl
    have e2 : ((0 : UInt8).toNat == 0) = true := rfl
    go_wp2_with fail
    refine (HAw.out _ (gb_none HG.out HGv1.out)).mono ?_
    rintro e v9 ⟨rfl, k9⟩
    go_wp2_with fail
    go_ret
    exact ⟨rfl, gb_below (gb_none (gb_none HG.out HGv1.out) k9) (Nat.le_refl _)⟩
  have hmz : m.toNat ≠ 0 := fun e => hm (UInt8.toNat_inj.1 e)
  have e1 : ((m.toNat : Int) == 0) = false := by simpa using hmz
  have e2 : (m.toNat == 0) = false := by simpa using hmz
  have Hm := Lib.hid hm
  clear hm hmz
  have Hn0 : Hid (rx0.wraps.length ≤ 12) := Hq1.out (by first | rfl | trivial)
  have HMa := Lib.hid (refMay_any rx0 RA0 rc0 v1 (HX.out v1 HGv1.out).2 (by have := Hn0.out; omega))
  by_cases hma : MayR rx0
  rotate_left
  · go_wp2_with fail
    refine HMa.out.mono ?_
    intro e v2 hh
    obtain ⟨he, g2⟩ := hh.no hma
    subst he
    have HGv2 := Lib.hid (gb_none HGv1.out g2)
    clear hh g2 y0 y1 y2 y3 y4 y5
    go_wp2_with fail
    refine (HAw.out _ (gb_none HG.out HGv2.out)).mono ?_
    rintro e v9 ⟨rfl, k9⟩
    go_wp2_with fail
    go_ret
    exact ⟨rfl, gb_below (gb_none (gb_none HG.out HGv2.out) k9) (Nat.le_refl _)⟩
  go_wp2_with fail
  refine HMa.out.mono ?_
  intro e v2 hh
  obtain ⟨he, g2⟩ := hh.yes hma
  subst he
  have HGv2 := Lib.hid (gb_none HGv1.out g2)
  clear hh g2 HMa y0 y1 y2 y3 y4 y5
  have HRs := Lib.hid hma
  have hPd : (recB rx0).data.toList = (recW rx0).enc := by rw [recB_yes hma]
  have hPz : 5 ≤ (recB rx0).size := by
    have h1 := rec_len rx0
    have h2 : (recB rx0).data.toList.length = (recB rx0).size := by rw [Array.length_toList]; rfl
    rw [hPd] at h2
    omega
  have hPs : (recB rx0).size ≤ 2000 := recB_size
  have HPu : Hid (∀ W, W0.grownBy W none → Calls Tryz.prog 14 #[.agg #[.int .i64 rx0.seq, .string rx0.prev, .int .i64 rx0.kind, .int .i64 rx0.dev, .slice RA0 rx0.wraps.length rc0, .string rx0.tag]] W fun e w' => e = .returned (.string (recB rx0)) ∧ W.grownBy w' none) := fun W hW => Mb.put_any rx0 RA0 rc0 W (HX.out W hW).2 (by have := Hn0.out; omega)
  have HGe : Hid (∀ W, W0.grownBy W none → Calls Tryz.prog 13 #[.string (recB rx0)] W fun e w' => ∃ A c, e = .returned (.tuple #[.agg #[.int .i64 rx0.seq, .string rx0.prev, .int .i64 rx0.kind, .int .i64 rx0.dev, .slice A rx0.wraps.length c, .string rx0.tag], .bool true]) ∧ WL w' A rx0.wraps.length rx0.wraps ∧ rx0.wraps.length ≤ c ∧ W.grownBy w' none) := fun W hW => get_put rx0 hma W (HR.out.keep (gb_none HG.out hW)).2.2
  clear hma
  generalize recB rx0 = P at *
  have HPd := Lib.hid hPd
  have HPz : Hid (0 < P.size) := by show 0 < _; omega
  have HPsz := Lib.hid hPs
  clear hPd hPz hPs
  go_upto_region 3 with fail
  obtain ⟨⟨y0, y1, y2, y3, y4, y5⟩, _⟩ := HX.out v2 HGv2.out
  go_wp2_with fail
  refine (HPu.out v2 HGv2.out).mono ?_
  rintro e v3 ⟨rfl, g3⟩
  have HGv3 := Lib.hid (gb_none HGv2.out g3)
  clear g3 e1 e2 y0 y1 y2 y3 y4 y5
  go_upto_region 4 with fail
  go_wp2_with fail
  refine (HGe.out v3 HGv3.out).mono ?_
  rintro e v4 ⟨A6, c6, rfl, hwl6, hc6, g4⟩
  obtain ⟨b6, hb6⟩ : ∃ b6, v4.heap.size = b6 := ⟨_, rfl⟩
  have Hnm : Hid (W0.grownBy (v4.alloc (.cells #[.int .i64 rx0.seq, .string rx0.prev, .int .i64 rx0.kind, .int .i64 rx0.dev, .slice A6 rx0.wraps.length c6, .string rx0.tag] 26)) none ∧ Row (v4.alloc (.cells #[.int .i64 rx0.seq, .string rx0.prev, .int .i64 rx0.kind, .int .i64 rx0.dev, .slice A6 rx0.wraps.length c6, .string rx0.tag] 26)) b6 26 #[.int .i64 rx0.seq, .string rx0.prev, .int .i64 rx0.kind, .int .i64 rx0.dev, .slice A6 rx0.wraps.length c6, .string rx0.tag] ∧ WL (v4.alloc (.cells #[.int .i64 rx0.seq, .string rx0.prev, .int .i64 rx0.kind, .int .i64 rx0.dev, .slice A6 rx0.wraps.length c6, .string rx0.tag] 26)) A6 rx0.wraps.length rx0.wraps) := ⟨gb_alloc (gb_none HGv3.out g4) _, by rw [← hb6]; exact Row.new _ _ _, hwl6.keep (gb_alloc (gb_refl _ _) _)⟩
  clear hwl6 g4
  go_upto_region 5 with fail
  refine Td.named (fun W' => W0.grownBy W' none ∧ Row W' b6 26 #[.int .i64 rx0.seq, .string rx0.prev, .int .i64 rx0.kind, .int .i64 rx0.dev, .slice A6 rx0.wraps.length c6, .string rx0.tag] ∧ WL W' A6 rx0.wraps.length rx0.wraps) Hnm.out ?_
  clear Hnm hb6 hc6
  rintro W6 ⟨k1, k2, k3⟩
  have HGW6 := Lib.hid k1
  obtain ⟨x0, x1, x2, x3, x4, x5⟩ := rec_row k2
  have HS6 := Lib.hid k3
  obtain ⟨⟨y0, y1, y2, y3, y4, y5⟩, _⟩ := HX.out W6 HGW6.out
  have p1 := list_ne (s := P) (by have := HPz.out; omega)
  have p2 : (P.toList == []) = false := str_some (by have := HPz.out; omega)
  clear k1 k2 k3
  go_wp2_with fail
  refine (refSame_any rx0 rx0 A6 RA0 c6 rc0 W6 HS6.out (HX.out W6 HGW6.out).2 (by have := Hn0.out; omega)).mono ?_
  intro e v5 hh
  obtain ⟨he, g5⟩ := hh.yes rfl
  subst he
  have Hk5 := Lib.hid (gb_none HGW6.out g5)
  clear hh g5 x0 x1 x2 x3 x4 x5 y0 y1 y2 y3 y4 y5
  go_upto_region 7 with fail
  refine Td.named (fun W' => W0.grownBy W' none) Hk5.out ?_
  clear Hk5 p1 p2
  rintro W8 k5
  have HGW8 := Lib.hid k5
  clear k5
  obtain ⟨K, hK, hK2⟩ : ∃ K : Nat, a1 % (P.size : Int) = (K : Int) ∧ K < P.size := by
    have h0 := HPz.out
    have h1 := Int.emod_nonneg a1 (show (P.size : Int) ≠ 0 by omega)
    have h2 := Int.emod_lt_of_pos a1 (show (0 : Int) < (P.size : Int) by omega)
    exact ⟨(a1 % (P.size : Int)).toNat, by omega, by omega⟩
  obtain ⟨y, hy, hy2⟩ : ∃ y : Nat, a2 % (P.size : Int) = (y : Int) ∧ y < P.size := by
    have h0 := HPz.out
    have h1 := Int.emod_nonneg a2 (show (P.size : Int) ≠ 0 by omega)
    have h2 := Int.emod_lt_of_pos a2 (show (0 : Int) < (P.size : Int) by omega)
    exact ⟨(a2 % (P.size : Int)).toNat, by omega, by omega⟩
  have Hy2 := Lib.hid hy2
  have HyT : Hid (IntKind.i64.wrap a2 = a2 ∧ a2.tmod (P.size : Int) = (y : Int) ∧ IntKind.i64.wrap (y : Int) = (y : Int) ∧ (y : Int) < (P.size : Int)) := ⟨by rw [IntKind.wrap_i64]; have := Hb.out; omega, by rw [Int.tmod_eq_emod_of_nonneg Hb.out.2.2.1, hy], by rw [IntKind.wrap_i64]; have := HPsz.out; omega, by omega⟩
  have HNc : Hid (∀ u, ¬ IsRec (P.extract 0 K).data.toList u) := fun u => by
    have h1 : (P.extract 0 K).data.toList = (recW rx0).enc.take K := by
      rw [ByteArray.data_extract, Array.toList_extract, List.extract_eq_take_drop, List.drop_zero, HPd.out]; rfl
    rw [h1]
    exact rec_cut HRs.out (by rw [← HPd.out, Array.length_toList]; exact hK2)
  have HSc : Hid ((P.extract 0 K).data.toList.length ≤ 1099511627776) := by show _ ≤ _; rw [Array.length_toList]; show (P.extract 0 K).size ≤ _; rw [ByteArray.size_extract]; have := HPsz.out; omega
  have HNm : Hid (∀ u, ¬ IsRec (P ++ ⟨#[0]⟩).data.toList u) := fun u => by
    rw [ByteArray.data_append, Array.toList_append, HPd.out]
    exact rec_longer HRs.out (by simp)
  have HSm : Hid ((P ++ ⟨#[0]⟩).data.toList.length ≤ 1099511627776) := by show _ ≤ _; rw [Array.length_toList]; show (P ++ ⟨#[0]⟩ : ByteArray).size ≤ _; rw [ByteArray.size_append]; have := HPsz.out; show _ + 1 ≤ _; omega
  have t1 : IntKind.i64.wrap a1 = a1 := by rw [IntKind.wrap_i64]; have := Hb.out; omega
  have t2 : a1.tmod (P.size : Int) = (K : Int) := by rw [Int.tmod_eq_emod_of_nonneg Hb.out.1, hK]
  have t3 : ¬ P.size = 0 := by have := HPz.out; omega
  have t4 : IntKind.i64.wrap (K : Int) = (K : Int) := by rw [IntKind.wrap_i64]; have := HPsz.out; omega
  have t5 : K ≤ P.size := by omega
  have t6 : (K : Int) ≤ (P.size : Int) := by omega
  clear hK hK2 hy hy2
  go_wp2_with fail
  refine (get_any (P.extract 0 K) W8 HSc.out (HR.out.keep (gb_none HG.out HGW8.out)).2.2).mono ?_
  rintro e v1 ⟨hres, k1⟩
  rcases hres with ⟨u, _, _, hp, _⟩ | ⟨_, rfl⟩
  · exact absurd hp (HNc.out u)
  have Hk1 := Lib.hid (gb_none HGW8.out k1)
  clear k1
  go_upto_region 8 with fail
  refine Td.named (fun W' => W0.grownBy W' none) (gb_alloc Hk1.out _) ?_
  clear Hk1
  rintro W9 k2
  have HGW9 := Lib.hid k2
  clear k2
  clear t1 t2 t4 t5 t6
  have hcat : ¬ 9223372036854775807 < P.size + (⟨#[0]⟩ : ByteArray).size := by
    have h1 : (⟨#[0]⟩ : ByteArray).size = 1 := rfl
    have := HPsz.out
    omega
  go_wp2_with fail
  refine (get_any _ W9 (by exact HSm.out) (HR.out.keep (gb_none HG.out HGW9.out)).2.2).mono ?_
  rintro e v1 ⟨hres, k1⟩
  rcases hres with ⟨u, _, _, hp, _⟩ | ⟨_, rfl⟩
  · exact absurd hp (by exact HNm.out u)
  have Hk1 := Lib.hid (gb_none HGW9.out k1)
  clear k1
  go_upto_region 9 with fail
  refine Td.named (fun W' => W0.grownBy W' none) (gb_alloc Hk1.out _) ?_
  clear Hk1
  rintro W10 k2
  have HGW10 := Lib.hid k2
  clear k2
  clear hcat
  have hcv := run_bytes_of_string (P := Tryz.prog) W10 9 30 5 P Tryz.underlying9 Tryz.underlying30 Tryz.underlying5
  have r0 : RowF (W10.drew.alloc (.cells (bytesRow P (grownCap W10 P.size 0 5)) 5 ((bytesRow P (grownCap W10 P.size 0 5)).size, (bytesRow P (grownCap W10 P.size 0 5)).size + 1))) W10.heap.size 5 (bytesRow P (grownCap W10 P.size 0 5)) := ⟨_, Nat.le_refl _, heap_alloc_new _ _⟩
  have g0 : W10.grownBy (W10.drew.alloc (.cells (bytesRow P (grownCap W10 P.size 0 5)) 5 ((bytesRow P (grownCap W10 P.size 0 5)).size, (bytesRow P (grownCap W10 P.size 0 5)).size + 1))) none := gb_alloc (gb_drew (gb_refl _ _)) _
  have hC : ∀ i, i < P.size → (bytesRow P (grownCap W10 P.size 0 5))[i]? = some (w8 (P.data.toList.getD i 0)) := fun i hi => bytesRow_at2 P _ i hi
  have hCs := bytesRow_ge P (grownCap W10 P.size 0 5)
  generalize hW : W10.drew.alloc (.cells (bytesRow P (grownCap W10 P.size 0 5)) 5 ((bytesRow P (grownCap W10 P.size 0 5)).size, (bytesRow P (grownCap W10 P.size 0 5)).size + 1)) = W11 at *
  generalize bytesRow P (grownCap W10 P.size 0 5) = CC at *
  generalize grownCap W10 P.size 0 5 = cap at *
  clear hW
  obtain ⟨bc, hbc⟩ : ∃ bc, W10.heap.size = bc := ⟨_, rfl⟩
  rw [hbc] at r0 hcv
  have Hbc : Hid (W10.heap.size = bc) := hbc
  have HC := Lib.hid hC
  have Hr0 := Lib.hid r0
  have Hg0 := Lib.hid g0
  have HCs := Lib.hid hCs
  clear hbc hC r0 g0 hCs
  go_upto_region 10 with fail
  clear hcv
  obtain ⟨x0, Hx0⟩ : ∃ x0, Hid (x0 = P.data.toList.getD y 0) := ⟨_, rfl⟩
  have cx : W11.cell? ⟨bc, y, none⟩ = some (.int .u8 (x0.toNat : Int)) := by rw [Hx0.out]; exact Hr0.out.at_ (HC.out y Hy2.out)
  have hfz : W11.frozen? ⟨bc, y, none⟩ = false := Hr0.out.free (by have := HCs.out; have := Hy2.out; omega)
  obtain ⟨t1, t2, t4, t5⟩ := HyT.out
  have hy2 := Hy2.out
  go_upto_region 11 with fail
  clear t1 t2 t4 t5 cx hfz hy2
  obtain ⟨TX, HTT⟩ : ∃ TX : ByteArray, Hid (TX = ⟨(P.data.toList.set y (P.data.toList.getD y 0 ^^^ m)).toArray⟩) := ⟨_, rfl⟩
  have hsame : w8 (P.data.toList.getD y 0 ^^^ m) = .int .u8 ((x0.toNat ^^^ m.toNat : Nat) : Int) := by rw [Hx0.out, ← UInt8.toNat_xor]; rfl
  have g0' := gb_set1 W11 bc y (.int .u8 ((x0.toNat ^^^ m.toNat : Nat) : Int))
  have r1 := Hr0.out.set_ y (.int .u8 ((x0.toNat ^^^ m.toNat : Nat) : Int))
  have hstr : (convert 30 9 (.slice (some ⟨bc, 0, none⟩) P.size cap)).run Tryz.prog (W11.setCell ⟨bc, y, none⟩ (.int .u8 ((x0.toNat ^^^ m.toNat : Nat) : Int))) = .ok (.string TX) (W11.setCell ⟨bc, y, none⟩ (.int .u8 ((x0.toNat ^^^ m.toNat : Nat) : Int))) := by
    rw [HTT.out]
    refine rowF_text r1 (by rw [List.length_set]; simp) (fun i hi => ?_) cap
    rw [Array.getElem?_setIfInBounds]
    by_cases hiy : y = i
    · subst hiy
      rw [if_pos rfl, if_pos (by have := HCs.out; omega), ← hsame, set_get _ _ _ (by simpa using hi)]
    · rw [if_neg hiy, HC.out i hi, List.getD_eq_getElem?_getD, List.getD_eq_getElem?_getD, List.getElem?_set_ne hiy]
  have HTne : Hid (TX.data.toList ≠ (recW rx0).enc) := fun e => by
    have hyl : y < P.data.toList.length := by simpa using Hy2.out
    rw [HTT.out, ← HPd.out] at e
    exact Hm.out (same_set _ y hyl m (by simpa using e))
  have HlT : Hid (TX.data.toList.length ≤ 1099511627776) := by show _ ≤ _; rw [HTT.out]; simp; have := HPsz.out; omega
  have HG12 : Hid (W0.grownBy (W11.setCell ⟨bc, y, none⟩ (.int .u8 ((x0.toNat ^^^ m.toNat : Nat) : Int))) none) := gb_none HGW10.out (gb_new Hg0.out g0' (Nat.le_of_eq Hbc.out))
  clear hsame g0' r1
  go_wp2_with fail
  refine (get_any TX _ HlT.out (HR.out.keep (gb_none HG.out HG12.out)).2.2).mono ?_
  rintro e v1 ⟨hres, k1⟩
  have Hk1 := Lib.hid (gb_none HG12.out k1)
  clear k1 hstr
  rcases hres with ⟨u, A7, c7, hp, rfl, hwl7, _⟩ | ⟨_, rfl⟩
  · have hne : u ≠ rx0 := rec_other HTne.out hp
    have HS7 := Lib.hid hwl7.wl
    have Hun := Lib.hid hne
    have Hum := Lib.hid hp.1
    have Hu8 : Hid (u.wraps.length ≤ 8) := rise_len hp.1.2.2 hp.1.2.1
    obtain ⟨b7, hb7⟩ : ∃ b7, v1.heap.size = b7 := ⟨_, rfl⟩
    have Hnm : Hid (W0.grownBy (v1.alloc (.cells #[.int .i64 u.seq, .string u.prev, .int .i64 u.kind, .int .i64 u.dev, .slice A7 u.wraps.length c7, .string u.tag] 26)) none ∧ Row (v1.alloc (.cells #[.int .i64 u.seq, .string u.prev, .int .i64 u.kind, .int .i64 u.dev, .slice A7 u.wraps.length c7, .string u.tag] 26)) b7 26 #[.int .i64 u.seq, .string u.prev, .int .i64 u.kind, .int .i64 u.dev, .slice A7 u.wraps.length c7, .string u.tag] ∧ WL (v1.alloc (.cells #[.int .i64 u.seq, .string u.prev, .int .i64 u.kind, .int .i64 u.dev, .slice A7 u.wraps.length c7, .string u.tag] 26)) A7 u.wraps.length u.wraps) := ⟨gb_alloc Hk1.out _, by rw [← hb7]; exact Row.new _ _ _, hwl7.wl.keep (gb_alloc (gb_refl _ _) _)⟩
    clear hp hwl7 hne
    go_upto_region 12 with fail
    refine Td.named (fun W' => W0.grownBy W' none ∧ Row W' b7 26 #[.int .i64 u.seq, .string u.prev, .int .i64 u.kind, .int .i64 u.dev, .slice A7 u.wraps.length c7, .string u.tag] ∧ WL W' A7 u.wraps.length u.wraps) Hnm.out ?_
    clear Hnm hb7
    rintro W13 ⟨k1, k2, k3⟩
    have HGW13 := Lib.hid k1
    have HR13 := Lib.hid k2
    have HS13 := Lib.hid k3
    obtain ⟨z0, z1, z2, z3, z4, z5⟩ := rec_row k2
    obtain ⟨⟨y0, y1, y2, y3, y4, y5⟩, _⟩ := HX.out W13 HGW13.out
    clear k1 k2 k3
    go_wp2_with fail
    refine (refSame_any u rx0 A7 RA0 c7 rc0 W13 HS13.out (HX.out W13 HGW13.out).2 (by have := Hu8.out; omega)).mono ?_
    intro e v2 hh
    obtain ⟨he, k2⟩ := hh.no Hun.out
    subst he
    have Hk2 := Lib.hid (gb_none HGW13.out k2)
    have HS2 := Lib.hid (HS13.out.keep k2)
    clear z0 z1 z2 z3 z4 z5 y0 y1 y2 y3 y4 y5
    obtain ⟨z0, z1, z2, z3, z4, z5⟩ := rec_row (HR13.out.kept k2 (by simp))
    clear hh k2
    go_wp2_with fail
    refine (refMay_any u A7 c7 v2 HS2.out (by have := Hu8.out; omega)).mono ?_
    intro e v3 hh
    obtain ⟨he, k3⟩ := hh.yes Hum.out
    subst he
    have Hk3 := Lib.hid (gb_none Hk2.out k3)
    clear hh k3 z0 z1 z2 z3 z4 z5
    go_wp2_with fail
    refine (HAw.out _ (gb_none HG.out Hk3.out)).mono ?_
    rintro e v9 ⟨rfl, k9⟩
    go_wp2_with fail
    go_ret
    exact ⟨rfl, gb_below (gb_none (gb_none HG.out Hk3.out) k9) (Nat.le_refl _)⟩
  · go_wp2_with fail
    refine (HAw.out _ (gb_none HG.out (gb_alloc Hk1.out (.cells #[.int .i64 0, .string ⟨#[]⟩, .int .i64 0, .int .i64 0, .slice none 0 0, .string ⟨#[]⟩] 26)))).mono ?_
    rintro e v9 ⟨rfl, k9⟩
    go_wp2_with fail
    go_ret
    exact ⟨rfl, gb_below (gb_none (gb_none HG.out (gb_alloc Hk1.out (.cells #[.int .i64 0, .string ⟨#[]⟩, .int .i64 0, .int .i64 0, .slice none 0 0, .string ⟨#[]⟩] 26))) k9) (Nat.le_refl _)⟩

theorem star : "*" ++ "errors.errorString" = "*errors.errorString" := by decide
theorem row_err (u : TypeId) (h : Tryz.prog.typeName? 3 u = some "*errors.errorString") : u = 168 :=
  typeName_ptr_named (nm := "errors.errorString") (by rw [star]; kernel_rfl) (by kernel_rfl) (by decide) u (by rw [star]; exact h)
theorem two0_1 {W : World} (h : laidMetH Tryz.prog Rows.memberBackRow.laid W) : Sn.Two W 0 1 := by
  have h4 : laidMet Tryz.prog [("deaddrop/member.errMany", Rows.laid_deaddrop_member_errMany), ("deaddrop/member.errRecord", Rows.laid_deaddrop_member_errRecord)] W := (laidMetH_iff.1 (laidMetH.filter (fun x => x.1 == "deaddrop/member.errMany" || x.1 == "deaddrop/member.errRecord") h)).1
  obtain ⟨a0, a1, s0, s1, c0, c1, t0, t1, hv0, hv1, hc0, hs0, hz0, hc1, hs1, hz1, hne, hb0, hb1⟩ := laid_sentinels2 h4 (g0 := 0) (g1 := 1) (ti := 45) (by kernel_rfl) (by kernel_rfl) (by kernel_rfl) (by kernel_rfl) Tryz.underlying45 row_err Tryz.underlying168 Tryz.underlying187 rfl rfl Tryz.underlying9 (by kernel_rfl) (by kernel_rfl)
  exact ⟨a0, a1, c0, c1, t0, t1, by simpa using World.var?_cell (g := 0) (by kernel_rfl) hv0 0, by simpa using World.var?_cell (g := 1) (by kernel_rfl) hv1 0, hne, hb0, hb1⟩
theorem two2_3 {W : World} (h : laidMetH Tryz.prog Rows.memberBackRow.laid W) : Sn.Two W 2 3 := by
  have h4 : laidMet Tryz.prog [("deaddrop/member.errSeq", Rows.laid_deaddrop_member_errSeq), ("deaddrop/member.errPrev", Rows.laid_deaddrop_member_errPrev)] W := (laidMetH_iff.1 (laidMetH.filter (fun x => x.1 == "deaddrop/member.errSeq" || x.1 == "deaddrop/member.errPrev") h)).1
  obtain ⟨a0, a1, s0, s1, c0, c1, t0, t1, hv0, hv1, hc0, hs0, hz0, hc1, hs1, hz1, hne, hb0, hb1⟩ := laid_sentinels2 h4 (g0 := 2) (g1 := 3) (ti := 45) (by kernel_rfl) (by kernel_rfl) (by kernel_rfl) (by kernel_rfl) Tryz.underlying45 row_err Tryz.underlying168 Tryz.underlying187 rfl rfl Tryz.underlying9 (by kernel_rfl) (by kernel_rfl)
  exact ⟨a0, a1, c0, c1, t0, t1, by simpa using World.var?_cell (g := 2) (by kernel_rfl) hv0 0, by simpa using World.var?_cell (g := 3) (by kernel_rfl) hv1 0, hne, hb0, hb1⟩
theorem two4_5 {W : World} (h : laidMetH Tryz.prog Rows.memberBackRow.laid W) : Sn.Two W 4 5 := by
  have h4 : laidMet Tryz.prog [("deaddrop/member.errFirst", Rows.laid_deaddrop_member_errFirst), ("deaddrop/member.errHave", Rows.laid_deaddrop_member_errHave)] W := (laidMetH_iff.1 (laidMetH.filter (fun x => x.1 == "deaddrop/member.errFirst" || x.1 == "deaddrop/member.errHave") h)).1
  obtain ⟨a0, a1, s0, s1, c0, c1, t0, t1, hv0, hv1, hc0, hs0, hz0, hc1, hs1, hz1, hne, hb0, hb1⟩ := laid_sentinels2 h4 (g0 := 4) (g1 := 5) (ti := 45) (by kernel_rfl) (by kernel_rfl) (by kernel_rfl) (by kernel_rfl) Tryz.underlying45 row_err Tryz.underlying168 Tryz.underlying187 rfl rfl Tryz.underlying9 (by kernel_rfl) (by kernel_rfl)
  exact ⟨a0, a1, c0, c1, t0, t1, by simpa using World.var?_cell (g := 4) (by kernel_rfl) hv0 0, by simpa using World.var?_cell (g := 5) (by kernel_rfl) hv1 0, hne, hb0, hb1⟩
theorem two6_7 {W : World} (h : laidMetH Tryz.prog Rows.memberBackRow.laid W) : Sn.Two W 6 7 := by
  have h4 : laidMet Tryz.prog [("deaddrop/member.errNone", Rows.laid_deaddrop_member_errNone), ("deaddrop/member.errStay", Rows.laid_deaddrop_member_errStay)] W := (laidMetH_iff.1 (laidMetH.filter (fun x => x.1 == "deaddrop/member.errNone" || x.1 == "deaddrop/member.errStay") h)).1
  obtain ⟨a0, a1, s0, s1, c0, c1, t0, t1, hv0, hv1, hc0, hs0, hz0, hc1, hs1, hz1, hne, hb0, hb1⟩ := laid_sentinels2 h4 (g0 := 6) (g1 := 7) (ti := 45) (by kernel_rfl) (by kernel_rfl) (by kernel_rfl) (by kernel_rfl) Tryz.underlying45 row_err Tryz.underlying168 Tryz.underlying187 rfl rfl Tryz.underlying9 (by kernel_rfl) (by kernel_rfl)
  exact ⟨a0, a1, c0, c1, t0, t1, by simpa using World.var?_cell (g := 6) (by kernel_rfl) hv0 0, by simpa using World.var?_cell (g := 7) (by kernel_rfl) hv1 0, hne, hb0, hb1⟩
theorem et : Tryz.prog.globalNamed "errors.errorType" = some 9 := by kernel_rfl
theorem rt : (Tryz.prog.cutTypes.find? (·.1 == "internal/reflectlite.rtype")).map (·.2) = some 126 := by kernel_rfl
theorem one_error : ((List.range 198).filter fun t => Tryz.prog.rowNamed t [101, 114, 114, 111, 114]) = [45] := by kernel_rfl
theorem how_many : Tryz.prog.types.size = 198 := by kernel_rfl
theorem handle : typeHandle Tryz.prog 45 = .pointer (some ⟨12, 45, none⟩) := by kernel_rfl
theorem errT {W : World} (h : laidMetH Tryz.prog Rows.memberBackRow.laid W) : W.cell? ⟨9, 0, none⟩ = some (.iface 126 (.agg #[.pointer (some ⟨12, 45, none⟩)])) := by
  have hm : ("errors.errorType", Rows.laid_errors_errorType) ∈ (Rows.memberBackRow.laid.filter fun x => x.2.handleName?.isSome) := List.mem_filter.2 ⟨List.Mem.tail _ (List.Mem.tail _ (List.Mem.head _)), by simp [DataW.handleName?, Rows.laid_errors_errorType]⟩
  obtain ⟨n, u, t, hn, hu, ht, hr, hc⟩ := (laidMetH_iff.1 h).2 _ hm
  obtain rfl := Option.some.inj hn
  obtain rfl := Option.some.inj (rt.symm.trans hu)
  have hin : t ∈ [45] := by
    rw [← one_error]
    exact List.mem_filter.2 ⟨List.mem_range.2 (how_many ▸ ht), hr⟩
  obtain rfl := List.mem_singleton.1 hin
  rw [handle] at hc
  have := World.var?_cell et hc 0
  simpa using this
theorem tabs {W : World} (h : laidMetH Tryz.prog Rows.memberBackRow.laid W) : Tabs W := by
  have gh1 : laidMet Tryz.prog [("deaddrop/sha.opening", Rows.laid_deaddrop_sha_opening)] W := (laidMetH_iff.1 (laidMetH.filter (fun x => x.1 == "deaddrop/sha.opening") h)).1
  have h1 : Lib.TabIs Tryz.prog W "deaddrop/sha.opening" .u32 [1779033703, 3144134277, 1013904242, 2773480762, 1359893119, 2600822924, 528734635, 1541459225] := Lib.tabIs_of_head (rest := []) (g := 8) (t := 96) (e := 59) (n := 8) (by kernel_rfl) (by kernel_rfl) Tryz.underlying96 Tryz.underlying59 (by kernel_rfl) (by kernel_rfl) gh1
  have gh2 : laidMet Tryz.prog [("deaddrop/sha.roundNumbers", Rows.laid_deaddrop_sha_roundNumbers)] W := (laidMetH_iff.1 (laidMetH.filter (fun x => x.1 == "deaddrop/sha.roundNumbers") h)).1
  have h2 : Lib.TabIs Tryz.prog W "deaddrop/sha.roundNumbers" .u32 [1116352408, 1899447441, 3049323471, 3921009573, 961987163, 1508970993, 2453635748, 2870763221, 3624381080, 310598401, 607225278, 1426881987, 1925078388, 2162078206, 2614888103, 3248222580, 3835390401, 4022224774, 264347078, 604807628, 770255983, 1249150122, 1555081692, 1996064986, 2554220882, 2821834349, 2952996808, 3210313671, 3336571891, 3584528711, 113926993, 338241895, 666307205, 773529912, 1294757372, 1396182291, 1695183700, 1986661051, 2177026350, 2456956037, 2730485921, 2820302411, 3259730800, 3345764771, 3516065817, 3600352804, 4094571909, 275423344, 430227734, 506948616, 659060556, 883997877, 958139571, 1322822218, 1537002063, 1747873779, 1955562222, 2024104815, 2227730452, 2361852424, 2428436474, 2756734187, 3204031479, 3329325298] := Lib.tabIs_of_head (rest := []) (g := 10) (t := 156) (e := 59) (n := 64) (by kernel_rfl) (by kernel_rfl) Tryz.underlying156 Tryz.underlying59 (by kernel_rfl) (by kernel_rfl) gh2
  have e1 : ∀ i, i < 8 → ([1779033703, 3144134277, 1013904242, 2773480762, 1359893119, 2600822924, 528734635, 1541459225] : List Int).getD i 0 = ((firstH.getD i 0).toNat : Int) := by decide
  have e2 : ∀ i, i < 64 → ([1116352408, 1899447441, 3049323471, 3921009573, 961987163, 1508970993, 2453635748, 2870763221, 3624381080, 310598401, 607225278, 1426881987, 1925078388, 2162078206, 2614888103, 3248222580, 3835390401, 4022224774, 264347078, 604807628, 770255983, 1249150122, 1555081692, 1996064986, 2554220882, 2821834349, 2952996808, 3210313671, 3336571891, 3584528711, 113926993, 338241895, 666307205, 773529912, 1294757372, 1396182291, 1695183700, 1986661051, 2177026350, 2456956037, 2730485921, 2820302411, 3259730800, 3345764771, 3516065817, 3600352804, 4094571909, 275423344, 430227734, 506948616, 659060556, 883997877, 958139571, 1322822218, 1537002063, 1747873779, 1955562222, 2024104815, 2227730452, 2361852424, 2428436474, 2756734187, 3204031479, 3329325298] : List Int).getD i 0 = ((konst.getD i 0).toNat : Int) := by decide +kernel
  have c1 : ∀ i, i < 8 → W.cell? ⟨8, i, none⟩ = some (w32 (firstH.getD i 0)) := fun i hi => by
    have := h1.cell (g := 8) (by kernel_rfl) i hi
    rw [e1 i hi] at this; exact this
  have c2 : ∀ i, i < 64 → W.cell? ⟨10, i, none⟩ = some (w32 (konst.getD i 0)) := fun i hi => by
    have := h2.cell (g := 10) (by kernel_rfl) i hi
    rw [e2 i hi] at this; exact this
  exact ⟨block_lt_of_cell (c2 0 (by decide)), c1, c2⟩

set_option maxRecDepth 100000 in
theorem contract (H : Type) (enc : TypeId × Value → H) (W : World) (base : Nat) (args : Array Value) (ds gs : List (DataW H)) (before : List MemPlace)
    (hval0 : ∀ (j : Nat) t v, Tryz.f6.params[j]? = some t → args[j]? = some v → Value.okWide Tryz.prog W .any base t v)
    (hW : DataW.Whole enc Tryz.prog Tryz.f6.params.toList Rows.memberBackSpec.vars false W args.toList ds gs before) (hL : laidMetH Tryz.prog Rows.memberBackRow.laid W) :
    Calls Tryz.prog 6 args W fun e W' => ∃ v, e = .returned v ∧ Rows.memberBackSpec.post enc Tryz.prog Tryz.f6 false true false false W args v W' := by
  have hval : ∀ (j : Nat) t v, Tryz.f6.params[j]? = some t → args[j]? = some v → Value.okWide Tryz.prog W .any base t v := hval0
  have hW' := hW
  obtain ⟨p, q, hA0, hV, rfl, hfz, hnd⟩ := hW
  have hA : DataW.TrodAll enc Tryz.prog W 0 (fun _ => true) true Tryz.f6.params.toList args.toList ds p := hA0
  rw [Tryz.params6] at hA hval
  obtain ⟨v0, vs0, d0, ds0, p0, q0, hargs, rfl, rfl, h0, r0⟩ := trodAll_cons hA
  obtain ⟨v1, vs1, d1, ds1, p1, q1, rfl, rfl, rfl, h1, r1⟩ := trodAll_cons r0
  obtain ⟨v2, vs2, d2, ds2, p2, q2, rfl, rfl, rfl, h2, r2⟩ := trodAll_cons r1
  obtain ⟨v3, vs3, d3, ds3, p3, q3, rfl, rfl, rfl, h3, r3⟩ := trodAll_cons r2
  obtain ⟨rfl, rfl, rfl⟩ := trodAll_nil r3
  obtain rfl : args = #[v0, v1, v2, v3] := by cases args; simp_all
  obtain ⟨rfl, rfl⟩ := trodVars_none hV
  have k0 := h0
  have lt0 : ∀ x ∈ p0, x.block < W.heap.size := by obtain ⟨m, hm⟩ := k0; exact DataW.trod_lt m _ _ _ hm
  obtain ⟨rx0, RA0, rc0, rfl, w0, c0⟩ := open_record (hval 0 26 v0 rfl rfl) h0
  obtain ⟨a1, rfl, rfl, rfl, w1⟩ := open_int Tryz.underlying41 (hval 1 41 v1 rfl rfl) h1
  obtain ⟨a2, rfl, rfl, rfl, w2⟩ := open_int Tryz.underlying41 (hval 2 41 v2 rfl rfl) h2
  obtain ⟨a3, rfl, rfl, rfl, w3⟩ := open_int Tryz.underlying5 (hval 3 5 v3 rfl rfl) h3
  clear hA0 hval0
  refine (walk rx0 RA0 rc0 a1 a2 a3 W w0 c0 w1 w2 w3 ⟨two0_1 hL, two2_3 hL, two4_5 hL, two6_7 hL⟩ (errT hL) (tabs hL)).mono fun e W' ⟨he, bel⟩ => ?_
  subst he
  exact ⟨_, rfl, _, _, _, [], _, [], hW', trodAll_mk1 (shut_bool Tryz.underlying4 _), (trodAll_cons_mk (Below.trod laidOut (by kernel_rfl) (of_decide_eq_true (by kernel_rfl)) k0 bel lt0) (trodAll_cons_mk (shut_int Tryz.underlying41 w1) (trodAll_cons_mk (shut_int Tryz.underlying41 w2) (trodAll_cons_mk (shut_int Tryz.underlying5 w3) trodAll_mk0)))), rfl, bel.frame _, fun h => by cases h⟩

def lay (cs : Array Value) : Obj → Obj
  | .cells _ t frozen => .cells cs t frozen
  | o => o
noncomputable def low : Nat := (World.holding Tryz.prog default ⟨#[], #[], []⟩).heap.size
noncomputable def laidWorld (os : Os) : World :=
  { World.holding Tryz.prog os ⟨#[.cells #[.string ⟨#[109, 111, 114, 101, 32, 116, 104, 97, 110, 32, 97, 32, 99, 104, 97, 105, 110, 32, 109, 97, 121, 32, 104, 97, 118, 101]⟩] 187, .cells #[.string ⟨#[105, 116, 32, 109, 97, 121, 32, 110, 111, 116, 32, 98, 101]⟩] 187, .cells #[.string ⟨#[110, 111, 116, 32, 116, 104, 101, 32, 111, 110, 101, 32, 98, 101, 104, 105, 110, 100, 32, 116, 104, 101, 32, 111, 110, 101, 32, 97, 104, 101, 97, 100]⟩] 187, .cells #[.string ⟨#[97, 110, 111, 116, 104, 101, 114, 32, 114, 101, 99, 111, 114, 100, 39, 115, 32, 104, 97, 115, 104, 32, 116, 104, 97, 110, 32, 116, 104, 97, 116, 32, 111, 102, 32, 116, 104, 101, 32, 111, 110, 101, 32, 97, 104, 101, 97, 100]⟩] 187, .cells #[.string ⟨#[116, 104, 101, 32, 102, 105, 114, 115, 116, 32, 114, 101, 99, 111, 114, 100, 32, 97, 100, 100, 115, 32, 100, 101, 118, 105, 99, 101, 32, 48]⟩] 187, .cells #[.string ⟨#[97, 100, 100, 101, 100, 32, 119, 104, 105, 108, 101, 32, 105, 116, 32, 105, 115, 32, 97, 32, 109, 101, 109, 98, 101, 114]⟩] 187, .cells #[.string ⟨#[114, 101, 118, 111, 107, 101, 100, 32, 119, 104, 105, 108, 101, 32, 105, 116, 32, 105, 115, 32, 110, 111, 32, 109, 101, 109, 98, 101, 114]⟩] 187, .cells #[.string ⟨#[105, 116, 32, 115, 116, 97, 121, 115, 32, 102, 111, 114, 32, 103, 111, 111, 100]⟩] 187], #[], []⟩ with heap := ((((((((((((World.holding Tryz.prog os ⟨#[.cells #[.string ⟨#[109, 111, 114, 101, 32, 116, 104, 97, 110, 32, 97, 32, 99, 104, 97, 105, 110, 32, 109, 97, 121, 32, 104, 97, 118, 101]⟩] 187, .cells #[.string ⟨#[105, 116, 32, 109, 97, 121, 32, 110, 111, 116, 32, 98, 101]⟩] 187, .cells #[.string ⟨#[110, 111, 116, 32, 116, 104, 101, 32, 111, 110, 101, 32, 98, 101, 104, 105, 110, 100, 32, 116, 104, 101, 32, 111, 110, 101, 32, 97, 104, 101, 97, 100]⟩] 187, .cells #[.string ⟨#[97, 110, 111, 116, 104, 101, 114, 32, 114, 101, 99, 111, 114, 100, 39, 115, 32, 104, 97, 115, 104, 32, 116, 104, 97, 110, 32, 116, 104, 97, 116, 32, 111, 102, 32, 116, 104, 101, 32, 111, 110, 101, 32, 97, 104, 101, 97, 100]⟩] 187, .cells #[.string ⟨#[116, 104, 101, 32, 102, 105, 114, 115, 116, 32, 114, 101, 99, 111, 114, 100, 32, 97, 100, 100, 115, 32, 100, 101, 118, 105, 99, 101, 32, 48]⟩] 187, .cells #[.string ⟨#[97, 100, 100, 101, 100, 32, 119, 104, 105, 108, 101, 32, 105, 116, 32, 105, 115, 32, 97, 32, 109, 101, 109, 98, 101, 114]⟩] 187, .cells #[.string ⟨#[114, 101, 118, 111, 107, 101, 100, 32, 119, 104, 105, 108, 101, 32, 105, 116, 32, 105, 115, 32, 110, 111, 32, 109, 101, 109, 98, 101, 114]⟩] 187, .cells #[.string ⟨#[105, 116, 32, 115, 116, 97, 121, 115, 32, 102, 111, 114, 32, 103, 111, 111, 100]⟩] 187], #[], []⟩).heap).modify 0 (lay #[.iface 168 (.pointer (some ⟨low, 0, none⟩))])).modify 1 (lay #[.iface 168 (.pointer (some ⟨low + 1, 0, none⟩))])).modify 2 (lay #[.iface 168 (.pointer (some ⟨low + 2, 0, none⟩))])).modify 3 (lay #[.iface 168 (.pointer (some ⟨low + 3, 0, none⟩))])).modify 4 (lay #[.iface 168 (.pointer (some ⟨low + 4, 0, none⟩))])).modify 5 (lay #[.iface 168 (.pointer (some ⟨low + 5, 0, none⟩))])).modify 6 (lay #[.iface 168 (.pointer (some ⟨low + 6, 0, none⟩))])).modify 7 (lay #[.iface 168 (.pointer (some ⟨low + 7, 0, none⟩))])).modify 9 (lay #[.iface 126 (.agg #[.pointer (some ⟨12, 45, none⟩)])])).modify 8 (lay #[.int .u32 1779033703, .int .u32 3144134277, .int .u32 1013904242, .int .u32 2773480762, .int .u32 1359893119, .int .u32 2600822924, .int .u32 528734635, .int .u32 1541459225])).modify 10 (lay #[.int .u32 1116352408, .int .u32 1899447441, .int .u32 3049323471, .int .u32 3921009573, .int .u32 961987163, .int .u32 1508970993, .int .u32 2453635748, .int .u32 2870763221, .int .u32 3624381080, .int .u32 310598401, .int .u32 607225278, .int .u32 1426881987, .int .u32 1925078388, .int .u32 2162078206, .int .u32 2614888103, .int .u32 3248222580, .int .u32 3835390401, .int .u32 4022224774, .int .u32 264347078, .int .u32 604807628, .int .u32 770255983, .int .u32 1249150122, .int .u32 1555081692, .int .u32 1996064986, .int .u32 2554220882, .int .u32 2821834349, .int .u32 2952996808, .int .u32 3210313671, .int .u32 3336571891, .int .u32 3584528711, .int .u32 113926993, .int .u32 338241895, .int .u32 666307205, .int .u32 773529912, .int .u32 1294757372, .int .u32 1396182291, .int .u32 1695183700, .int .u32 1986661051, .int .u32 2177026350, .int .u32 2456956037, .int .u32 2730485921, .int .u32 2820302411, .int .u32 3259730800, .int .u32 3345764771, .int .u32 3516065817, .int .u32 3600352804, .int .u32 4094571909, .int .u32 275423344, .int .u32 430227734, .int .u32 506948616, .int .u32 659060556, .int .u32 883997877, .int .u32 958139571, .int .u32 1322822218, .int .u32 1537002063, .int .u32 1747873779, .int .u32 1955562222, .int .u32 2024104815, .int .u32 2227730452, .int .u32 2361852424, .int .u32 2428436474, .int .u32 2756734187, .int .u32 3204031479, .int .u32 3329325298]) }
theorem laid_met (os : Os) : laidMetH Tryz.prog Rows.memberBackRow.laid ((laidWorld os).forCall (fun _ _ => 0) ⟨#[], #[.agg #[.int .i64 0, .string ⟨#[]⟩, .int .i64 0, .int .i64 0, .slice none 0 0, .string ⟨#[]⟩], .int .u16 0, .int .u16 0, .int .u8 0], []⟩).memory :=
  laidMetH_of_parts (laidMet_of_run' 8 (by kernel_rfl) (by kernel_rfl)) (by kernel_rfl)
theorem reads (os : Os) {H : Type} (enc : TypeId × Value → H) : ∃ places, DataW.whole enc Tryz.prog ((laidWorld os).forCall (fun _ _ => 0) ⟨#[], #[.agg #[.int .i64 0, .string ⟨#[]⟩, .int .i64 0, .int .i64 0, .slice none 0 0, .string ⟨#[]⟩], .int .u16 0, .int .u16 0, .int .u8 0], []⟩).memory Tryz.f6.params.toList Rows.memberBackSpec.vars false (show Array Value from #[.agg #[.int .i64 0, .string ⟨#[]⟩, .int .i64 0, .int .i64 0, .slice none 0 0, .string ⟨#[]⟩], .int .u16 0, .int .u16 0, .int .u8 0]).toList 8 = some ([.agg [.lit (.int .i64 0), .lit (.string []), .lit (.int .i64 0), .lit (.int .i64 0), .nil, .lit (.string [])], .lit (.int .u16 0), .lit (.int .u16 0), .lit (.int .u8 0)], [], places) :=
  ⟨[], by kernel_rfl⟩

set_option maxRecDepth 100000 in
theorem lifted (os : Os) (started : os.Started) (H : Type) (enc : TypeId × Value → H) (F : Stop.Interp) :
    ReturnsInHanded {} Tryz.checked os 6 .any ((OpenSpec.ofChange Rows.memberBackSpec).preRow enc Tryz.prog Tryz.f6 Rows.memberBackRow.domain false Rows.memberBackRow.laid) (((OpenSpec.ofChange Rows.memberBackSpec).at F).post enc Tryz.prog Tryz.f6 false true false false) := by
  obtain ⟨places, hx⟩ := reads os enc
  refine returnsInHanded_of_row (C := Tryz.checked) (s := OpenSpec.ofChange Rows.memberBackSpec) own started (by kernel_rfl) Tryz.func6
    (witness_row_at (enc := enc) (C := Tryz.checked) false (laidWorld os) #[.agg #[.int .i64 0, .string ⟨#[]⟩, .int .i64 0, .int .i64 0, .slice none 0 0, .string ⟨#[]⟩], .int .u16 0, .int .u16 0, .int .u8 0] rfl (by kernel_rfl) (by kernel_rfl) (by kernel_rfl)
      (OpenSpec.preRow_of_cond 8 hx (by kernel_rfl) (fun k hk => by cases hk) (by kernel_rfl) (laid_met os))) ?_
  intro W base args ds gs before hval hW _ _ _ hL _ _
  exact contract H enc W base args ds gs before hval hW hL

theorem said : Rows.MemberBackSaid :=
  OpenClaim.holds_of_cond 6 Tryz.f6 rfl rfl rfl rfl rfl rfl rfl ⟨rfl, rfl, rfl, rfl, rfl⟩ rfl rfl rfl rfl rfl (by kernel_rfl) Tryz.func6 (by kernel_rfl)
    (of_decide_eq_true (by kernel_rfl)) (by unfold Func.isWrapper; first | (rw [if_pos (by decide +kernel)]; kernel_rfl) | (rw [if_neg (by decide +kernel)]; exact ⟨rfl, rfl⟩))
    (fun os started H enc _ F => by rw [OpenClaim.pre_eq_preRow]; exact lifted os started H enc F)

theorem plain (f : FuncId) (fn : Func) (hf : Tryz.pinned.checked.prog.funcNamed "deaddrop/deaddroplaw15.MemberBack" = some f) (hfn : Tryz.pinned.checked.prog.funcs[f]? = some fn) :
    true = Tryz.pinned.checked.prog.looks [] ∧ ∀ (j : Nat) t, fn.params[j]? = some t → Tryz.pinned.checked.prog.wantsStandIn t = false := by
  obtain rfl : f = 6 := Option.some.inj ((show Tryz.prog.funcNamed "deaddrop/deaddroplaw15.MemberBack" = some 6 by kernel_rfl).symm.trans hf) |>.symm
  obtain rfl : fn = Tryz.f6 := (Option.some.inj (Tryz.func6.symm.trans hfn)).symm
  refine ⟨by kernel_rfl, fun j t ht => ?_⟩
  have hall : (Tryz.f6.params.toList.all fun u => !Tryz.prog.wantsStandIn u) = true := by kernel_rfl
  have hm : t ∈ Tryz.f6.params.toList := by simpa using Array.mem_of_getElem? ht
  exact (show Tryz.prog.wantsStandIn t = false by simpa using List.all_eq_true.1 hall t hm)

theorem card : Rows.MemberBackCardSaid :=
  Claim7.holds_tied_plain_at .later [] _ _ _ _ said (fun _ h => by cases h) (by kernel_rfl) (fun _ h => by cases h) memberBack_row_tie rfl ⟨rfl, rfl⟩ (by kernel_rfl) rfl plain (by kernel_rfl)
#print axioms card
end Go.Proofs.YtdlafgkiddhejaaGreatDoor.memberBack
