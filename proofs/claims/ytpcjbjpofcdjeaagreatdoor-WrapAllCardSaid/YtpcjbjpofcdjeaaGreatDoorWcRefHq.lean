/- The document's Head. Written by gen_wc5.py. -/
import Derived.Test.YtpcjbjpofcdjeaaGreatDoorTwq
import Derived.Test.YtpcjbjpofcdjeaaGreatDoorWcErrq
import Derived.Test.YtpcjbjpofcdjeaaGreatDoorWcMemq
set_option linter.unusedVariables false
set_option maxHeartbeats 8000000
set_option maxRecDepth 100000
namespace Go.Proofs.YtpcjbjpofcdjeaaGreatDoor.Wc
open Go Go.RowKit Mm Td Vw Dt
open Mb Ro Hh We
attribute [local go_sem] Td.upon_value Td.upon_skip Td.upon_enter Td.upon_row Td.look_tmp Td.look_const Td.look_func Td.look_global
theorem refHead_any (r : Rc) (A : Option Addr) (c : Nat) (w : World) (hw : WL w A r.wraps.length r.wraps) (hn : r.wraps.length ≤ 1099511627776) :
  Calls Tryz.prog 44 #[.agg (recCs r A c)] w fun e w' => e = .returned (.string (Mb.headB r)) ∧ Gn w w' := by
 by_cases hm : MayR r
 ·have HB := qj (headB_bytes hm)
  rw [HB.out]
  have Hs : Hid ((headW r).enc.length ≤ 1099511627776) := by have := head_short hm; show _ ≤ _; omega
  obtain ⟨b0, hb0⟩ := nmd (w.heap.size)
  obtain ⟨W0, hW0⟩ := nmd (w.alloc (.cells (recCs r A c) 25))
  obtain ⟨G0, HX⟩ := rec_box hb0 hW0 hw
  have HG := qj G0
  have Hn := qj hn
  obtain ⟨⟨y0, y1, y2, y3, y4, y5⟩, hwl⟩ := HX.out W0 (gb_refl _ _)
  have HM := qj (refMay_any r A c W0 hwl hn)
  clear G0 hw hn hwl
  go_enter Tryz.func44, Tryz.ntmps44
  go_upto_region 1 with fail
  clear hW0 hb0
  go_wp2_with fail
  refine HM.out.mono ?_
  intro e w1 hh
  obtain ⟨he, g1⟩ := hh.yes hm
  subst he
  have Hg1 := qj g1
  clear hh g1 y0 y1 y2 y3 y4 y5
  go_upto_region 3 with fail
  refine tw_go ?_
  refine tw_h 1 ?_
  apply tw_xe 0 6
  ·intro W f hW e6 K hK; obtain ⟨⟨c0, c1, c2, c3, c4, c5⟩, _⟩ := HX.out W (gb_none Hg1.out hW); go_simp; exact kK hK
  apply tw_xe 0 7
  ·intro W f hW e7 K hK; go_simp; exact ck (num1_any r.seq W) hK
  refine tw_h 1 ?_
  apply tw_xe 0 9
  ·intro W f hW e9 K hK; obtain ⟨⟨c0, c1, c2, c3, c4, c5⟩, _⟩ := HX.out W (gb_none Hg1.out hW); go_simp; exact kK hK
  apply tw_xe 0 10
  ·intro W f hW e10 K hK; go_simp; exact ck (num1_any r.kind W) hK
  refine tw_h 1 ?_
  apply tw_xe 0 12
  ·intro W f hW e12 K hK; obtain ⟨⟨c0, c1, c2, c3, c4, c5⟩, _⟩ := HX.out W (gb_none Hg1.out hW); go_simp; exact kK hK
  apply tw_xe 0 13
  ·intro W f hW e13 K hK; go_simp; exact ck (num1_any r.dev W) hK
  refine tw_h 1 ?_
  apply tw_xe 0 15
  ·intro W f hW e15 K hK; obtain ⟨⟨c0, c1, c2, c3, c4, c5⟩, _⟩ := HX.out W (gb_none Hg1.out hW); go_simp; exact kK hK
  apply tw_xe 0 16
  ·intro W f hW e16 K hK; go_simp; exact ck (text1_any r.prev W) hK
  apply tw_at nV_stays
  ·intro W f hW hE h0 K hK; have e8 := hE.of 9 8; have e11 := hE.of 6 11; have e14 := hE.of 3 14; have e17 := hE.of 0 17; clear hE h0; refine yes_f ?_; go_simp; exact hK _ _ (gb_alloc (gb_refl _ _) _) ⟨_, rfl, (hl_head W r.seq r.kind r.dev r.prev).low (Nat.zero_le _)⟩
  apply tw_at wireV_stays
  ·intro W f hW hE h0 K hK; have e18 := hE 0 18 _ rfl (by kernel_rfl); clear hE h0; refine yes_f ?_; obtain ⟨g3, e18, h1⟩ := e18; go_simp; refine (list1_any (some ⟨g3, 0, none⟩) 4 4 W).mono ?_; rintro e w1' ⟨rfl, g'⟩; exact ⟨_, rfl, hK _ _ g' ⟨_, _, _, rfl, h1.kept g'⟩⟩
  apply tw_is
  ·intro W f hW hE h0 K hK; have e19 := hE 0 19 _ rfl (by kernel_rfl); clear hE h0; refine yes_f ?_; obtain ⟨A2, n2, c2', e19, h1⟩ := e19; go_simp; exact ck (putwire_all (headW r) _ W h1 Hs.out) hK
  refine tw_e 0 20 ?_
  refine tw_nil fun W f hW hA => ?_
  have e2 : f 2 = _ := hA 0 (some 2) _ rfl
  rw [e2]
  clear hA
  have Hg3 := qj (gb_none HG.out (gb_none Hg1.out hW))
  clear hW
  go_wp2_with fail
  go_ret
  exact ⟨rfl, Hg3.out⟩
 ·rw [headB_no hm]
  obtain ⟨b0, hb0⟩ := nmd (w.heap.size)
  obtain ⟨W0, hW0⟩ := nmd (w.alloc (.cells (recCs r A c) 25))
  obtain ⟨G0, HX⟩ := rec_box hb0 hW0 hw
  have HG := qj G0
  have Hn := qj hn
  obtain ⟨⟨y0, y1, y2, y3, y4, y5⟩, hwl⟩ := HX.out W0 (gb_refl _ _)
  have HM := qj (refMay_any r A c W0 hwl hn)
  clear G0 hw hn hwl
  go_enter Tryz.func44, Tryz.ntmps44
  go_upto_region 1 with fail
  clear hW0 hb0
  go_wp2_with fail
  refine HM.out.mono ?_
  intro e w1 hh
  obtain ⟨he, g1⟩ := hh.no hm
  subst he
  have Hg1 := qj (gb_none HG.out g1)
  clear hh g1
  go_wp2_with fail
  go_ret
  exact ⟨rfl, Hg1.out⟩
end Go.Proofs.YtpcjbjpofcdjeaaGreatDoor.Wc
