/- The document's Head. Written by gen_wc5.py. -/
import Derived.Test.YtpcjbjpofcdjeaaGreatDoorWcErr
import Derived.Test.YtpcjbjpofcdjeaaGreatDoorWcMem
set_option linter.unusedVariables false
set_option maxHeartbeats 8000000
set_option maxRecDepth 100000
namespace Go.Proofs.YtpcjbjpofcdjeaaGreatDoor.Wc
open Go Go.RowKit Mm Td Vw Dt
open Mb Ro Hh We
attribute [local go_sem] Td.upon_value Td.upon_skip Td.upon_enter Td.upon_row Td.look_tmp Td.look_const Td.look_func Td.look_global
theorem refHead_any (r : Rc) (A : Option Addr) (c : Nat) (w : World) (hw : WL w A r.wraps.length r.wraps) (hn : r.wraps.length ≤ 1099511627776) :
  Calls Tryz.prog 44 #[.agg #[.int .i64 r.seq, .string r.prev, .int .i64 r.kind, .int .i64 r.dev, .slice A r.wraps.length c, .string r.tag]] w fun e w' => e = .returned (.string (Mb.headB r)) ∧ w.grownBy w' none := by
 by_cases hm : MayR r
 ·have HB := Lib.hid (headB_bytes hm)
  rw [HB.out]
  have Hs : Hid ((headW r).enc.length ≤ 1099511627776) := by have := head_short hm; show _ ≤ _; omega
  obtain ⟨b0, hb0⟩ := nmd (w.heap.size)
  obtain ⟨W0, hW0⟩ := nmd (w.alloc (.cells #[.int .i64 r.seq, .string r.prev, .int .i64 r.kind, .int .i64 r.dev, .slice A r.wraps.length c, .string r.tag] 25))
  obtain ⟨G0, HX⟩ := rec_box hb0 hW0 hw
  have HG := Lib.hid G0
  have Hn := Lib.hid hn
  obtain ⟨⟨y0, y1, y2, y3, y4, y5⟩, hwl⟩ := HX.out W0 (gb_refl _ _)
  have HM := Lib.hid (refMay_any r A c W0 hwl hn)
  clear G0 hw hn hwl
  go_enter Tryz.func44, Tryz.ntmps44
  go_upto_region 1 with fail
  clear hW0 hb0
  go_wp2_with fail
  refine HM.out.mono ?_
  intro e w1 hh
  obtain ⟨he, g1⟩ := hh.yes hm
  subst he
  have Hg1 := Lib.hid g1
  clear hh g1 y0 y1 y2 y3 y4 y5
  go_upto_region 3 with fail
  apply wp_region_told (le := fun a b => a.grownBy b none) [isV _, isV _, isV _, isV _, isV _, isV _, isV _, isV _, isV _, isV _, isV _, isV _, nV 4 0 [nW r.seq, nW r.kind, nW r.dev, tW r.prev], wireV 0 [nW r.seq, nW r.kind, nW r.dev, tW r.prev], isV _, isV _]
  case hn => rfl
  case hm => kernel_rfl
  case hB => kernel_rfl
  case ht => exact fun _ _ _ h k => gb_none h k
  case hw => exact gb_drew (gb_refl _ _)
  apply told_is
  ·intro W f hW hE h0 K hK; have e1 := h0.of 1; clear hE h0; refine yes_f ?_; go_simp; exact kK hK
  apply told_is
  ·intro W f hW hE h0 K hK; have e6 := hE.of 0 6; clear hE h0; refine yes_f ?_; obtain ⟨⟨c0, c1, c2, c3, c4, c5⟩, _⟩ := HX.out W (gb_none Hg1.out hW); go_simp; exact kK hK
  apply told_is
  ·intro W f hW hE h0 K hK; have e7 := hE.of 0 7; clear hE h0; refine yes_f ?_; go_simp; refine (num1_any r.seq W).mono ?_; rintro e w1' ⟨rfl, g'⟩; exact ⟨_, rfl, hK _ _ g' rfl⟩
  apply told_is
  ·intro W f hW hE h0 K hK; have e1 := h0.of 1; clear hE h0; refine yes_f ?_; go_simp; exact kK hK
  apply told_is
  ·intro W f hW hE h0 K hK; have e9 := hE.of 0 9; clear hE h0; refine yes_f ?_; obtain ⟨⟨c0, c1, c2, c3, c4, c5⟩, _⟩ := HX.out W (gb_none Hg1.out hW); go_simp; exact kK hK
  apply told_is
  ·intro W f hW hE h0 K hK; have e10 := hE.of 0 10; clear hE h0; refine yes_f ?_; go_simp; refine (num1_any r.kind W).mono ?_; rintro e w1' ⟨rfl, g'⟩; exact ⟨_, rfl, hK _ _ g' rfl⟩
  apply told_is
  ·intro W f hW hE h0 K hK; have e1 := h0.of 1; clear hE h0; refine yes_f ?_; go_simp; exact kK hK
  apply told_is
  ·intro W f hW hE h0 K hK; have e12 := hE.of 0 12; clear hE h0; refine yes_f ?_; obtain ⟨⟨c0, c1, c2, c3, c4, c5⟩, _⟩ := HX.out W (gb_none Hg1.out hW); go_simp; exact kK hK
  apply told_is
  ·intro W f hW hE h0 K hK; have e13 := hE.of 0 13; clear hE h0; refine yes_f ?_; go_simp; refine (num1_any r.dev W).mono ?_; rintro e w1' ⟨rfl, g'⟩; exact ⟨_, rfl, hK _ _ g' rfl⟩
  apply told_is
  ·intro W f hW hE h0 K hK; have e1 := h0.of 1; clear hE h0; refine yes_f ?_; go_simp; exact kK hK
  apply told_is
  ·intro W f hW hE h0 K hK; have e15 := hE.of 0 15; clear hE h0; refine yes_f ?_; obtain ⟨⟨c0, c1, c2, c3, c4, c5⟩, _⟩ := HX.out W (gb_none Hg1.out hW); go_simp; exact kK hK
  apply told_is
  ·intro W f hW hE h0 K hK; have e16 := hE.of 0 16; clear hE h0; refine yes_f ?_; go_simp; refine (text1_any r.prev W).mono ?_; rintro e w1' ⟨rfl, g'⟩; exact ⟨_, rfl, hK _ _ g' rfl⟩
  apply told_at nV_stays
  ·intro W f hW hE h0 K hK; have e8 := hE.of 9 8; have e11 := hE.of 6 11; have e14 := hE.of 3 14; have e17 := hE.of 0 17; clear hE h0; refine yes_f ?_; go_simp; exact hK _ _ (gb_alloc (gb_refl _ _) _) ⟨_, rfl, (hl_head W r.seq r.kind r.dev r.prev).low (Nat.zero_le _)⟩
  apply told_at wireV_stays
  ·intro W f hW hE h0 K hK; have e18 := hE 0 18 _ rfl (by kernel_rfl); clear hE h0; refine yes_f ?_; obtain ⟨g3, e18, h1⟩ := e18; go_simp; refine (list1_any (some ⟨g3, 0, none⟩) 4 4 W).mono ?_; rintro e w1' ⟨rfl, g'⟩; exact ⟨_, rfl, hK _ _ g' ⟨_, _, _, rfl, h1.kept g'⟩⟩
  apply told_is
  ·intro W f hW hE h0 K hK; have e19 := hE 0 19 _ rfl (by kernel_rfl); clear hE h0; refine yes_f ?_; obtain ⟨A2, n2, c2', e19, h1⟩ := e19; go_simp; refine (putwire_all (headW r) _ W h1 Hs.out).mono ?_; rintro e w1' ⟨rfl, g'⟩; exact ⟨_, rfl, hK _ _ g' rfl⟩
  apply told_is
  ·intro W f hW hE h0 K hK; have e20 := hE.of 0 20; clear hE h0; refine yes_f ?_; go_simp; exact kK hK
  intro W f hW hA
  simp only [lexIn, Act.put, List.setIfInBounds_toArray, List.set_cons_zero, List.set_cons_succ]
  have e2 : f 2 = _ := hA 0 (some 2) _ rfl
  rw [e2]
  clear hA
  have Hg3 := Lib.hid (gb_none HG.out (gb_none Hg1.out hW))
  clear hW
  go_wp2_with fail
  go_ret
  exact ⟨rfl, Hg3.out⟩
 ·rw [headB_no hm]
  obtain ⟨b0, hb0⟩ := nmd (w.heap.size)
  obtain ⟨W0, hW0⟩ := nmd (w.alloc (.cells #[.int .i64 r.seq, .string r.prev, .int .i64 r.kind, .int .i64 r.dev, .slice A r.wraps.length c, .string r.tag] 25))
  obtain ⟨G0, HX⟩ := rec_box hb0 hW0 hw
  have HG := Lib.hid G0
  have Hn := Lib.hid hn
  obtain ⟨⟨y0, y1, y2, y3, y4, y5⟩, hwl⟩ := HX.out W0 (gb_refl _ _)
  have HM := Lib.hid (refMay_any r A c W0 hwl hn)
  clear G0 hw hn hwl
  go_enter Tryz.func44, Tryz.ntmps44
  go_upto_region 1 with fail
  clear hW0 hb0
  go_wp2_with fail
  refine HM.out.mono ?_
  intro e w1 hh
  obtain ⟨he, g1⟩ := hh.no hm
  subst he
  have Hg1 := Lib.hid (gb_none HG.out g1)
  clear hh g1
  go_wp2_with fail
  go_ret
  exact ⟨rfl, Hg1.out⟩
end Go.Proofs.YtpcjbjpofcdjeaaGreatDoor.Wc
