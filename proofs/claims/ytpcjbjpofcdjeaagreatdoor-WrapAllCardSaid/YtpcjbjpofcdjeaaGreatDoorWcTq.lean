/- Tags: the program's, the document's; the document's Head. Written by gen_wc1.py. A log with one record behind it: slices.Clone, with. Written by gen_wc1.py. -/
import Derived.Test.YtpcjbjpofcdjeaaGreatDoorTwq
import Derived.Test.YtpcjbjpofcdjeaaGreatDoorWcErrq
import Derived.Test.YtpcjbjpofcdjeaaGreatDoorWcMemq
import Derived.Test.YtpcjbjpofcdjeaaGreatDoorMbLawq
set_option linter.unusedVariables false
set_option maxHeartbeats 8000000
set_option maxRecDepth 100000
section
namespace Go.Proofs.YtpcjbjpofcdjeaaGreatDoor.Wc
open Go Go.RowKit Mm Td Vw Dt
open Mb Ro Hh We
attribute [local go_sem] Td.upon_value Td.upon_skip Td.upon_enter Td.upon_row Td.look_tmp Td.look_const Td.look_func Td.look_global
theorem pTag_any (key : ByteArray) (r : Rc) (A : Option Addr) (c : Nat) (w : World) (hw : WL w A r.wraps.length r.wraps) (hn : r.wraps.length ≤ 1099511627776) (hk : key.size ≤ 1048576) (hT : Tabs w) :
  Calls Tryz.prog 20 #[.string key, .agg (recCs r A c)] w fun e w' => e = .returned (.string (tagR key r)) ∧ Gn w w' := by
 obtain ⟨b0, hb0⟩ := nmd (w.heap.size)
 obtain ⟨W0, hW0⟩ := nmd (w.alloc (.cells (recCs r A c) 25))
 have hr0 : Row W0 b0 25 (recCs r A c) := by rw [← hW0, ← hb0]; exact Row.new _ _ _
 have g0 : Gn w W0 := by rw [← hW0]; exact gb_alloc (gb_refl _ _) _
 have HR0 := qj hr0
 have HG0 := qj g0
 have Hb0 : Hid (w.heap.size ≤ b0) := by show _ ≤ _; omega
 have HM : Hid (Calls Tryz.prog 51 #[.agg (recCs r A c)] W0 (BoolIs (MayR r) W0)) := Mb.may_any r A c W0 (hw.keep g0) hn
 have HP : Hid (∀ W, Gn w W → Calls Tryz.prog 53 #[.agg #[.int .i64 r.seq, .string r.prev, .int .i64 r.kind, .int .i64 r.dev, .slice A r.wraps.length c, .string ⟨#[]⟩]] W fun e w' => e = .returned (.string (recB (noTag r))) ∧ Gn W w') := fun W hW => Mb.put_any (noTag r) A c W (hw.keep hW) hn
 have HT := qj hT
 have Hk := qj hk
 have Hps : Hid ((recB (noTag r)).size ≤ 2000) := recB_size
 obtain ⟨y0, y1, y2, y3, y4, y5⟩ := rec_row hr0
 by_cases hm : MayR r
 ·have Hm := qj hm
  obtain ⟨P, hP⟩ := nmd (recB (noTag r))
  obtain ⟨K, hK⟩ := nmd (macB key P)
  have hKs : K.size = 32 := by rw [← hK]; exact macB_size _ _
  have k1 : (16 : Int) ≤ (K.size : Int) := by omega
  have k2 : 16 ≤ K.size := by omega
  have Hfin : Hid (tagR key r = K.extract 0 16) := by show _ = _; rw [tagR_yes hm, hP, hK]
  have HK9 := qj hK
  rw [hP] at HP Hps
  clear hm hw hn g0 hr0 hT hk hP hK hKs
  go_enter Tryz.func20, Tryz.ntmps20
  go_upto_region 1 with fail
  clear hW0 hb0
  go_upto_region 3 with (go_at_call 51; refine HM.out.mono ?_; rintro e w1 hh; obtain ⟨rfl, g1⟩ := hh.yes Hm.out; have Hg1 := qj g1; clear hh g1)
  have hr1 := HR0.out.kept Hg1.out (by simp)
  obtain ⟨y0, y1, y2, y3, y4, y5⟩ := rec_row hr1
  have q5 := hr1.free 5
  go_upto_region 4 with fail
  clear y0 y1 y2 y3 y4 y5 q5
  obtain ⟨W2, hW2⟩ := nmd (w1.setCell ⟨b0, 5, none⟩ (.string ⟨#[]⟩))
  have hr2 : Row W2 b0 25 #[.int .i64 r.seq, .string r.prev, .int .i64 r.kind, .int .i64 r.dev, .slice A r.wraps.length c, .string ⟨#[]⟩] := by rw [← hW2]; exact hr1.set_ 5 (.string ⟨#[]⟩)
  have hG2 : Gn w W2 := by rw [← hW2]; exact gb_new (gb_none HG0.out Hg1.out) (gb_set1 _ _ _ _) Hb0.out
  have HG2 := qj hG2
  rw [hW2]
  obtain ⟨y0, y1, y2, y3, y4, y5⟩ := rec_row (r := noTag r) hr2
  unfold noTag at y0 y1 y2 y3 y4 y5
  simp only at y0 y1 y2 y3 y4 y5
  clear hr1 hr2 hG2 hW2
  go_wp2_with fail
  refine (HP.out W2 HG2.out).mono ?_
  rintro e w3 ⟨rfl, g3⟩
  have HG3 := qj (gb_none HG2.out g3)
  clear g3 y0 y1 y2 y3 y4 y5
  go_wp2_with fail
  refine (mac_any key P _ 1 1 [P] _ (by have := Hk.out; omega) (by exact strs_one _ _) (catB_one _) (by decide) (fun h => by cases h) (fun x hx => by rw [List.mem_singleton.1 hx]; have := Hps.out; omega) (by exact HT.out.keep (gb_alloc HG3.out _) (by simp))).mono ?_
  rintro e w4 ⟨rfl, g4⟩
  have HG4 := qj (gb_none (gb_alloc HG3.out _) g4)
  rw [HK9.out]
  clear g4
  go_wp2_with fail
  go_ret
  exact ⟨by rw [Hfin.out]; rfl, HG4.out⟩
 ·have Hm := qj hm
  clear hm hw hn g0 hr0 hT hk
  go_enter Tryz.func20, Tryz.ntmps20
  go_upto_region 1 with fail
  clear hW0 hb0
  go_wp2_with fail
  refine HM.out.mono ?_
  rintro e w1 hh
  obtain ⟨rfl, g1⟩ := hh.no Hm.out
  have Hg1 := qj (gb_none HG0.out g1)
  clear hh g1
  go_wp2_with fail
  go_ret
  exact ⟨by rw [tagR_no Hm.out]; rfl, Hg1.out⟩
theorem refTag_any (key : ByteArray) (r : Rc) (A : Option Addr) (c : Nat) (w : World) (hw : WL w A r.wraps.length r.wraps) (hn : r.wraps.length ≤ 1099511627776) (hk : key.size ≤ 1048576) :
  Calls Tryz.prog 21 #[.string key, .agg (recCs r A c)] w fun e w' => e = .returned (.string (tagR key r)) ∧ Gn w w' := by
 obtain ⟨b0, hb0⟩ := nmd (w.heap.size)
 obtain ⟨W0, hW0⟩ := nmd (w.alloc (.cells (recCs r A c) 25))
 have hr0 : Row W0 b0 25 (recCs r A c) := by rw [← hW0, ← hb0]; exact Row.new _ _ _
 have g0 : Gn w W0 := by rw [← hW0]; exact gb_alloc (gb_refl _ _) _
 have HR0 := qj hr0
 have HG0 := qj g0
 have Hb0 : Hid (w.heap.size ≤ b0) := by show _ ≤ _; omega
 have HM : Hid (Calls Tryz.prog 54 #[.agg (recCs r A c)] W0 (BoolIs (MayR r) W0)) := refMay_any r A c W0 (hw.keep g0) hn
 have HP : Hid (∀ W, Gn w W → Calls Tryz.prog 56 #[.agg #[.int .i64 r.seq, .string r.prev, .int .i64 r.kind, .int .i64 r.dev, .slice A r.wraps.length c, .string ⟨#[]⟩]] W fun e w' => e = .returned (.string (recB (noTag r))) ∧ Gn W w') := fun W hW => refPut_any (noTag r) A c W (hw.keep hW) hn
 have HT : Hid True := trivial
 have Hk := qj hk
 have Hps : Hid ((recB (noTag r)).size ≤ 2000) := recB_size
 obtain ⟨y0, y1, y2, y3, y4, y5⟩ := rec_row hr0
 by_cases hm : MayR r
 ·have Hm := qj hm
  obtain ⟨P, hP⟩ := nmd (recB (noTag r))
  obtain ⟨K, hK⟩ := nmd (macB key P)
  have hKs : K.size = 32 := by rw [← hK]; exact macB_size _ _
  have k1 : (16 : Int) ≤ (K.size : Int) := by omega
  have k2 : 16 ≤ K.size := by omega
  have Hfin : Hid (tagR key r = K.extract 0 16) := by show _ = _; rw [tagR_yes hm, hP, hK]
  have HK9 := qj hK
  rw [hP] at HP Hps
  clear hm hw hn g0 hr0 hk hP hK hKs
  go_enter Tryz.func21, Tryz.ntmps21
  go_upto_region 1 with fail
  clear hW0 hb0
  go_upto_region 3 with (go_at_call 54; refine HM.out.mono ?_; rintro e w1 hh; obtain ⟨rfl, g1⟩ := hh.yes Hm.out; have Hg1 := qj g1; clear hh g1)
  have hr1 := HR0.out.kept Hg1.out (by simp)
  obtain ⟨y0, y1, y2, y3, y4, y5⟩ := rec_row hr1
  have q5 := hr1.free 5
  go_upto_region 4 with fail
  clear y0 y1 y2 y3 y4 y5 q5
  obtain ⟨W2, hW2⟩ := nmd (w1.setCell ⟨b0, 5, none⟩ (.string ⟨#[]⟩))
  have hr2 : Row W2 b0 25 #[.int .i64 r.seq, .string r.prev, .int .i64 r.kind, .int .i64 r.dev, .slice A r.wraps.length c, .string ⟨#[]⟩] := by rw [← hW2]; exact hr1.set_ 5 (.string ⟨#[]⟩)
  have hG2 : Gn w W2 := by rw [← hW2]; exact gb_new (gb_none HG0.out Hg1.out) (gb_set1 _ _ _ _) Hb0.out
  have HG2 := qj hG2
  rw [hW2]
  obtain ⟨y0, y1, y2, y3, y4, y5⟩ := rec_row (r := noTag r) hr2
  unfold noTag at y0 y1 y2 y3 y4 y5
  simp only at y0 y1 y2 y3 y4 y5
  clear hr1 hr2 hG2 hW2
  go_wp2_with fail
  refine (HP.out W2 HG2.out).mono ?_
  rintro e w3 ⟨rfl, g3⟩
  have HG3 := qj (gb_none HG2.out g3)
  clear g3 y0 y1 y2 y3 y4 y5
  go_wp2_with fail
  refine (refMac_any key P w3 (by have := Hk.out; omega) (by have := Hps.out; omega)).mono ?_
  rintro e w4 ⟨rfl, g4⟩
  have HG4 := qj (gb_none HG3.out g4)
  rw [HK9.out]
  clear g4
  go_wp2_with fail
  go_ret
  exact ⟨by rw [Hfin.out]; rfl, HG4.out⟩
 ·have Hm := qj hm
  clear hm hw hn g0 hr0 hk
  go_enter Tryz.func21, Tryz.ntmps21
  go_upto_region 1 with fail
  clear hW0 hb0
  go_wp2_with fail
  refine HM.out.mono ?_
  rintro e w1 hh
  obtain ⟨rfl, g1⟩ := hh.no Hm.out
  have Hg1 := qj (gb_none HG0.out g1)
  clear hh g1
  go_wp2_with fail
  go_ret
  exact ⟨by rw [tagR_no Hm.out]; rfl, Hg1.out⟩
end Go.Proofs.YtpcjbjpofcdjeaaGreatDoor.Wc
end
section
namespace Go.Proofs.YtpcjbjpofcdjeaaGreatDoor.Wc
open Go Go.RowKit Mm Td Vw Dt
open Mb Ro Hh We
attribute [local go_sem] Td.upon_value Td.upon_skip Td.upon_enter Td.upon_row Td.look_tmp Td.look_const Td.look_func Td.look_global
theorem nil_yes (n c : Nat) (W : World) : (binOp BinOp.eql 22 (.slice none n c) (.slice none 0 0)).run Tryz.prog W = .ok (.bool true) W := by kernel_rfl
theorem nil_no (a : Addr) (n c : Nat) (W : World) : (binOp BinOp.eql 22 (.slice (some a) n c) (.slice none 0 0)).run Tryz.prog W = .ok (.bool false) W := by kernel_rfl
theorem clone_rec (A : Option Addr) (n c : Nat) (l : List Rc) (w : World) (hl : LogL w A n l) (hn : n ≤ 1000000) (hc : n ≤ c) :
  Calls Tryz.prog 71 #[.slice A n c] w fun e w' => ∃ v B, e = .returned v ∧ w.heap.size ≤ B ∧ B ≤ w'.heap.size ∧ Copied w' B v l ∧ Gn w w' := by
 cases A with
 | none =>
  have h0 : n = 0 := by
   rcases Nat.eq_zero_or_pos n with h | h
   ·exact h
   ·obtain ⟨g, o, e, _⟩ := hl.2 h; cases e
  subst h0
  have He : Hid (l = []) := List.eq_nil_of_length_eq_zero hl.1
  have hnil := nil_yes 0 c
  clear hl hn hc
  go_enter Tryz.func71, Tryz.ntmps71
  go_wp2_with fail
  go_ret
  exact ⟨_, _, rfl, Nat.le_refl _, Nat.le_refl _, .inl ⟨He.out, none, rfl⟩, gb_refl _ _⟩
 | some a =>
  have g0 := gb_alloc (gb_refl w none) (.cells #[] 25)
  obtain ⟨v1, w1, hr, hcp, hg⟩ := run_copy (w := w.alloc (.cells #[] 25)) 22 22 rfl (some ⟨w.heap.size, 0, none⟩) (some a) n c l (hl.keep g0) hn hc
  obtain ⟨B, hB⟩ := nmd ((w.alloc (.cells #[] 25)).heap.size)
  have HB : Hid (w.heap.size ≤ B ∧ B ≤ w1.heap.size) := ⟨by rw [← hB]; exact g0.size, by rw [← hB]; exact hg.size⟩
  rw [hB] at hcp
  have Hr := qj hr
  have Hg : Hid (Gn w w1) := gb_none g0 hg
  obtain ⟨A1, m1, c1, rfl⟩ := hcp.slice
  have Hcp := qj hcp
  have hnil := nil_no a n c
  clear hl hn hc hr hcp hg hB g0
  go_enter Tryz.func71, Tryz.ntmps71
  go_wp2_with (at_builtin; go_must (refine Lib.wpList_append_run _ rfl (.tmp 5) (.tmp 6) 22 22 rfl _ _ rfl rfl _ _ Hr.out ?_))
  go_ret
  exact ⟨_, B, rfl, HB.out.1, HB.out.2, Hcp.out, Hg.out⟩
def copyR (B : Nat) (l : List Rc) : Td.Spec := fun W v => Copied W B v l ∧ B ≤ W.heap.size
theorem copyR_stays {B : Nat} {l : List Rc} : Stays (fun a b => Gn a b) (copyR B l) := fun _ _ _ k h => ⟨h.1.keep k, Nat.le_trans h.2 k.size⟩
def boxR (r : Rc) (A : Option Addr) (c : Nat) : Td.Spec := fun W v => ∃ b, v = .slice (some ⟨b, 0, none⟩) 1 1 ∧ Row W b 25 (recCs r A c)
theorem boxR_stays {r : Rc} {A : Option Addr} {c : Nat} : Stays (fun a b => Gn a b) (boxR r A c) := fun _ _ _ k ⟨b, e, h⟩ => ⟨b, e, h.kept k (by simp)⟩
def copyX (l : List Rc) (N : Nat) : Td.Spec := fun W v => ∃ B, N ≤ B ∧ B ≤ W.heap.size ∧ Copied W B v l
theorem copyX_stays {l : List Rc} {N : Nat} : Stays (fun a b => Gn a b) (copyX l N) := fun _ _ _ k ⟨B, h1, h2, h3⟩ => ⟨B, h1, Nat.le_trans h2 k.size, h3.keep k⟩
theorem with_any (A : Option Addr) (n c : Nat) (l : List Rc) (r : Rc) (RA : Option Addr) (rc : Nat) (w : World) (hl : LogL w A n l) (hn : n ≤ 1000000) (hc : n ≤ c) (hw : WL w RA r.wraps.length r.wraps) (hrc : r.wraps.length ≤ rc) :
  Calls Tryz.prog 39 #[.slice A n c, .agg (recCs r RA rc)] w fun e w' => ∃ A' c', e = .returned (.slice A' (n + 1) c') ∧ LogL w' A' (n + 1) (l ++ [r]) ∧ n + 1 ≤ c' ∧ Gn w w' := by
 obtain ⟨b0, hb0⟩ := nmd (w.heap.size)
 obtain ⟨W0, hW0⟩ := nmd (w.alloc (.cells (recCs r RA rc) 25))
 obtain ⟨G0, HX⟩ := rec_box hb0 hW0 hw
 have HG := qj G0
 have HY : Hid (∀ W, Gn W0 W → RecC0 W b0 r RA rc) := fun W hW => (HX.out W hW).1
 have HWL : Hid (∀ W, Gn W0 W → WL W RA r.wraps.length r.wraps) := fun W hW => (HX.out W hW).2
 have HC : Hid (∀ W, Gn W0 W → Calls Tryz.prog 71 #[.slice A n c] W fun e w' => ∃ v B, e = .returned v ∧ W.heap.size ≤ B ∧ B ≤ w'.heap.size ∧ Copied w' B v l ∧ Gn W w') := fun W hW => clone_rec A n c l W (hl.keep (gb_none G0 hW)) hn hc
 obtain ⟨N0, hN0⟩ := nmd (W0.heap.size)
 have HS : Hid (∀ W, Gn W0 W → N0 ≤ W.heap.size) := fun W hW => by rw [← hN0]; exact hW.size
 have HA : Hid (∀ B, N0 ≤ B → 0 < r.wraps.length → ∀ b, RA = some b → b.block < B) := fun B hB h0 b hb => by
  have := wl_lt (HWL.out W0 (gb_refl _ _)) h0 b hb
  omega
 have Hln : Hid (l.length = n) := hl.1
 have HN := qj hN0
 have Hn := qj hn
 have Hrc := qj hrc
 clear G0 hl hn hc hw hrc HX hN0
 go_enter Tryz.func39, Tryz.ntmps39
 go_upto_region 1 with fail
 clear hW0 hb0
 refine th_go 4 ?_
 refine th_h 0 ?_
 apply th_at copyX_stays
 ·intro W f hW hE h0 K hK; have e5 := hE.of 0 5; clear hE h0; refine yes_f ?_; go_simp; refine (HC.out W hW).mono ?_; rintro e w1' ⟨v9, B9, rfl, hB, hB2, hcp, g'⟩; exact ⟨_, rfl, hK _ _ g' ⟨B9, Nat.le_trans (HS.out W hW) hB, hB2, hcp⟩⟩
 apply th_is
 ·intro W f hW hE h0 K hK; have e3 := h0.of 3; clear hE h0; refine yes_f ?_; obtain ⟨y0, y1, y2, y3, y4, y5⟩ := HY.out W hW; go_simp; exact kK hK
 apply th_at boxR_stays
 ·intro W f hW hE h0 K hK; have e7 := hE.of 0 7; clear hE h0; refine yes_f ?_; go_simp; exact hK _ _ (gb_alloc (gb_refl _ _) _) ⟨_, rfl, Row.new _ _ _⟩
 refine th_nil fun W f hW hA => ?_
 simp only [List.take_succ_cons, List.take_zero, List.drop_succ_cons, List.drop_zero, lexIn, Act.put, List.setIfInBounds_toArray, List.set_cons_zero, List.set_cons_succ]
 have e6 := hA 2 (some 6) _ rfl
 have e8 := hA 0 (some 8) _ rfl
 clear hA
 obtain ⟨B9, hB1, hB2, hcp⟩ := e6
 obtain ⟨b8, e8, hr8⟩ := e8
 obtain ⟨v9, w9, hrun, hlr, hgr⟩ := run_more 22 B9 (f 6) l hcp (by have := Hln.out; have := Hn.out; omega) hB2 b8 1 r RA rc (rec_row hr8) (HWL.out W hW) Hrc.out (HA.out B9 hB1)
 have HR9 := qj hrun
 have Hg9 : Hid (Gn w w9) := gb_none HG.out (hgr W0 (by rw [HN.out]; exact hB1) hW)
 obtain ⟨A9, c9, rfl, hlog, hle⟩ := hlr.log
 have e9 : (l ++ [r]).length = n + 1 := by rw [List.length_append, Hln.out]; rfl
 rw [e9] at hlog hle HR9
 have Hlog := qj hlog
 have Hle := qj hle
 clear hcp hr8 hrun hlr hgr hlog hle e9
 refine Lib.wpList_append_run _ rfl (.tmp 6) (.tmp 8) 22 22 rfl _ _ rfl e8 _ _ HR9.out ?_
 go_wp2_with fail
 go_ret
 exact ⟨_, _, rfl, Hlog.out, Hle.out, Hg9.out⟩
end Go.Proofs.YtpcjbjpofcdjeaaGreatDoor.Wc
end
