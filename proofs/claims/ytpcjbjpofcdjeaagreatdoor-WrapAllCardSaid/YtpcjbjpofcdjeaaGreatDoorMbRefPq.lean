/- The document's PutRecord, Hash. Written by gen_mbrefp.py. -/
import Derived.Test.YtpcjbjpofcdjeaaGreatDoorTwq
import Derived.Test.YtpcjbjpofcdjeaaGreatDoorMbRq
set_option linter.unusedVariables false
set_option maxHeartbeats 40000000
set_option maxRecDepth 100000
namespace Go.Proofs.YtpcjbjpofcdjeaaGreatDoor.Mb
open Go Go.RowKit Mm Td Vw Dt
attribute [local go_sem] Td.upon_value Td.upon_skip Td.upon_enter Td.upon_row Td.look_tmp Td.look_const Td.look_func Td.look_global
theorem refPut_any (r : Rc) (A : Option Addr) (c : Nat) (w : World) (hw : WL w A r.wraps.length r.wraps) (hn : r.wraps.length ≤ 1099511627776) :
  Calls Tryz.prog 56 #[.agg (recCs r A c)] w fun e w' => e = .returned (.string (recB r)) ∧ Gn w w' := by
 by_cases hm : MayR r
 ·have HB := qj (recB_bytes hm)
  rw [HB.out]
  have Hs : Hid ((recW r).enc.length ≤ 1099511627776) := by have := rec_short hm; show _ ≤ _; omega
  have Hn8 : Hid (r.wraps.length ≤ 8) := rise_len hm.2.2 hm.2.1
  obtain ⟨iW, hi, hz, hs4, hb56⟩ := wire_parts
  have Hi := qj hi
  have Hz := qj hz
  have Hs4 := qj hs4
  have Hb56 := qj hb56
  clear hi hz hs4 hb56
  obtain ⟨b0, hb0⟩ := nmd (w.heap.size)
  obtain ⟨W0, hW0⟩ := nmd (w.alloc (.cells (recCs r A c) 25))
  obtain ⟨G0, HX⟩ := rec_box hb0 hW0 hw
  have HG := qj G0
  have Hn := qj hn
  obtain ⟨⟨y0, y1, y2, y3, y4, y5⟩, hwl⟩ := HX.out W0 (gb_refl _ _)
  have HM := qj (refMay_any r A c W0 hwl hn)
  clear G0 hw hn hwl
  go_enter Tryz.func56, Tryz.ntmps56
  go_upto_region 1 with fail
  clear hW0 hb0
  go_wp2_with fail
  refine HM.out.mono ?_
  intro e w1 hh
  obtain ⟨he, g1⟩ := hh.yes hm
  subst he
  have Hgw1 := qj (gb_none HG.out g1)
  replace HX : Hid (∀ W, Gn w1 W → RecC0 W b0 r A c ∧ WL W A r.wraps.length r.wraps) := fun W hW => HX.out W (gb_none g1 hW)
  clear hh g1 y0 y1 y2 y3 y4 y5 HM
  obtain ⟨n, hnn⟩ := nmd (r.wraps.length)
  have Hnn := qj hnn
  replace Hn8 : Hid (n ≤ 8) := hnn ▸ Hn8.out
  clear hnn
  go_wp2_with fail
  go_loopw [3, 4] (fun rv iv wr => ∃ (k : Nat) (ps : List (Wr × Value)) (u : Value), u = rv ∧ k ≤ n ∧ iv = .int .i64 k ∧ Hid (Own w1.heap.size rv ps wr) ∧ Hid (ps.length = k ∧ ps.map Prod.fst = (r.wraps.take k).map wrapW) ∧ Hid (∀ q ∈ ps, HP wr (Off rv) q.2 q.1.l) ∧ Gn w1 wr) (fun _ iv _ => n - (intOf iv).toNat)
  case atStart => exact ⟨0, [], _, rfl, Nat.zero_le _, rfl, Own.nil _ _, ⟨rfl, rfl⟩, fun q hq => (by cases hq), gb_refl _ _⟩
  case round =>
   obtain ⟨k, ps, u, rfl, hk, rfl, Ho, Hmm, Hps, hg⟩ := hrel
   obtain ⟨⟨_, _, _, _, y4, _⟩, hWL⟩ := HX.out wr hg
   rw [Hnn.out] at y4 hWL
   by_cases hlt : k < n
   ·have d1 : decide (k < n) = true := decide_eq_true hlt
    have d2 : decide ((k : Int) < (n : Int)) = true := dcT
    obtain ⟨gB, oB, rfl, hgB, _⟩ := hWL.2 (by omega)
    obtain ⟨x, hx⟩ : ∃ x, r.wraps[k]? = some x := ⟨_, List.getElem?_eq_getElem (by rw [hWL.1]; exact hlt)⟩
    have hxx := (wl_of hWL hx).2
    have HXx : Hid (∀ W, Gn wr W → WAt W gB (oB + k * 2) x) := fun W hW => hxx.kept hgB hW (by simp)
    have HBk : Hid ((k : Int) < (n : Int)) := by show _ < _; omega
    have Hg := qj hg
    have Hlt := qj hlt
    have Hlen : Hid (ps.length ≤ 10000) := by have h1 := Hmm.out.1; have h2 := Hn8.out; show _ ≤ _; omega
    have Hnx : Hid ((ps ++ [(lW [nW x.d, tW x.box], Value.nilIface)]).map Prod.fst = (r.wraps.take (k + 1)).map wrapW) := by
     show _ = _
     rw [List.map_append, Hmm.out.2, List.take_add_one, hx, List.map_append]; rfl
    have Ht1 : Hid (IntKind.i64.wrap ((k : Int) + 1) = ((k + 1 : Nat) : Int)) := by show _ = _; rw [IntKind.wrap_i64]; have := Hn8.out; omega
    clear hk hlt hx hgB hxx hg hWL
    go_upto_region 7 with fail
    clear d1 d2 y4
    refine th_go 18 ?_
    refine th_h 3 ?_
    refine th_h 1 ?_
    apply th_is
    ·intro W f hW hE h0 K hK; have e16 := hE.of 0 16; clear hE h0; refine yes_f ?_; obtain ⟨⟨_, _, _, _, hy4, _⟩, _⟩ := HX.out W (gb_none Hg.out hW); rw [Hnn.out] at hy4; go_simp; exact kK hK
    refine th_h 4 ?_
    apply th_is
    ·intro W f hW hE h0 K hK; have e17 := hE.of 1 17; have e18 := hE.of 0 18; clear hE h0; refine yes_f ?_; have b0 := HBk.out; go_simp; exact kK hK
    refine th_e 0 19 ?_
    apply th_is
    ·intro W f hW hE h0 K hK; have e20 := hE.of 0 20; clear hE h0; refine yes_f ?_; obtain ⟨x0, x1⟩ := HXx.out W hW; go_simp; exact kK hK
    apply th_is
    ·intro W f hW hE h0 K hK; have e21 := hE.of 0 21; clear hE h0; refine yes_f ?_; go_simp; exact ck (num1_any x.d W) hK
    refine th_h 1 ?_
    apply th_is
    ·intro W f hW hE h0 K hK; have e23 := hE.of 0 23; clear hE h0; refine yes_f ?_; obtain ⟨⟨_, _, _, _, hy4, _⟩, _⟩ := HX.out W (gb_none Hg.out hW); rw [Hnn.out] at hy4; go_simp; exact kK hK
    refine th_h 4 ?_
    apply th_is
    ·intro W f hW hE h0 K hK; have e24 := hE.of 1 24; have e25 := hE.of 0 25; clear hE h0; refine yes_f ?_; have b0 := HBk.out; go_simp; exact kK hK
    refine th_e 0 26 ?_
    apply th_is
    ·intro W f hW hE h0 K hK; have e27 := hE.of 0 27; clear hE h0; refine yes_f ?_; obtain ⟨x0, x1⟩ := HXx.out W hW; go_simp; exact kK hK
    apply th_is
    ·intro W f hW hE h0 K hK; have e28 := hE.of 0 28; clear hE h0; refine yes_f ?_; go_simp; exact ck (text1_any x.box W) hK
    apply th_at nV_stays
    ·intro W f hW hE h0 K hK; have e22 := hE.of 7 22; have e29 := hE.of 0 29; clear hE h0; refine yes_f ?_; go_simp; exact hK _ _ (gb_alloc (gb_refl _ _) _) ⟨_, rfl, (hl_pair W x.d x.box).low hW.size⟩
    apply th_at wireV_stays
    ·intro W f hW hE h0 K hK; have e30 := hE 0 30 _ rfl (by kernel_rfl); clear hE h0; refine yes_f ?_; obtain ⟨g3, e30, h1⟩ := e30; go_simp; refine (list1_any (some ⟨g3, 0, none⟩) 2 2 W).mono ?_; rintro e w1' ⟨rfl, g'⟩; exact ⟨_, rfl, hK _ _ g' ⟨_, _, _, rfl, h1.kept g'⟩⟩
    apply th_at rowV_stays
    ·intro W f hW hE h0 K hK; have e31 := hE 0 31 _ rfl (by kernel_rfl); clear hE h0; refine yes_f ?_; obtain ⟨A2, n2, c2', e31, h1⟩ := e31; go_simp; exact hK _ _ (gb_alloc (gb_refl _ _) _) ⟨_, A2, n2, c2', rfl, Row.new _ _ _, h1.kept (gb_alloc (gb_refl _ _) _)⟩
    refine th_nil fun W f hW hA => ?_
    simp only [List.take_succ_cons, List.take_zero, List.drop_succ_cons, List.drop_zero, lexIn, Act.put, List.setIfInBounds_toArray, List.set_cons_zero, List.set_cons_succ]
    have e15 : f 15 = _ := hA 17 (some 15) _ rfl
    rw [e15]
    have e32 := hA 0 (some 32) _ rfl
    clear hA
    obtain ⟨gn, A2, n2, c2', e32, hrn, hh⟩ := e32
    rw [e32]
    have Hgw : Hid (Gn w1 W) := gb_none Hg.out hW
    have Ho2 : Hid (Own w1.heap.size u ps W) := Ho.out.kept hW
    have Hps2 : Hid (∀ q ∈ ps, HP W (Off u) q.2 q.1.l) := fun q hq => ((Hps.out q hq).kept hW)
    have Hoff : Hid (∀ i, u.ownBlock = some i → i < wr.heap.size) := fun i e => (Ho.out.lt i e).2
    have Hhh := qj hh
    have Hrn := qj hrn
    have hgs : w1.heap.size ≤ W.heap.size := Hgw.out.size
    clear hW hrn hh
    refine wpList_append_own_at _ rfl (.tmp 15) (.tmp 32) 105 rfl w1.heap.size 107 iW (.agg #[.int .i64 0, .int .i64 0, .string ⟨#[]⟩, .slice none 0 0]) 4 56 Tryz.underlying105 Hi.out Hz.out Hs4.out Hb56.out rfl (by decide) _ ps.length _ rfl Ho2.out ⟨gn, 0, none⟩ 1 1 [.int .i64 3, .int .i64 0, .string ⟨#[]⟩, .slice A2 n2 c2'] rfl rfl (World.news_of_block (cs := #[.int .i64 3, .int .i64 0, .string ⟨#[]⟩, .slice A2 n2 c2']) (t := 107) (fr := (0, 0)) Hrn.out) (one4 _ _ _ _ _ _) (by have := Hlen.out; simp only [maxLen]; omega) (by have := Hlen.out; omega) hgs ?_
    intro v' w' own' grow' _ hat
    obtain ⟨vA, vn, vc, rfl⟩ := own_slice4 own'
    have Hown : Hid (Own w1.heap.size (.slice vA vn vc) (ps ++ [(lW [nW x.d, tW x.box], .slice A2 n2 c2')]) w') := by
     show World.ownsRow _ _ _ _ _ _ _
     rw [flat_snoc, List.length_append]
     exact own'
    have Hg3 : Hid (Gn w1 w') := gb_step Hgw.out grow' (fun i e => .inr (Ho2.out.lt i e).1)
    have Hps3 : Hid (∀ q ∈ ps ++ [(lW [nW x.d, tW x.box], Value.slice A2 n2 c2')], HP w' (Off (.slice vA vn vc)) q.2 q.1.l) := by
     intro q hq
     rcases List.mem_append.1 hq with hq | hq
     ·exact HP.after (Hps2.out q hq) grow' hat
     ·rw [List.mem_singleton.1 hq]
      refine HP.after (u := u) ?_ grow' hat
      exact (HP.of Hhh.out).keep (Nat.le_refl _) (fun g hB hl => ⟨rfl, fun e => by have := Hoff.out g e.symm; omega⟩)
    clear own' grow' hat
    have t1 := Ht1.out
    go_wp2_with fail
    go_roundw
    case rel => exact ⟨k + 1, ps ++ [(lW [nW x.d, tW x.box], .slice A2 n2 c2')], _, rfl, by have := Hlt.out; omega, rfl, Hown, ⟨by rw [List.length_append, Hmm.out.1]; rfl, by rw [← Hnx.out, List.map_append, List.map_append]; rfl⟩, Hps3, Hg3.out⟩
    case measure => simp [intOf]; have := Hlt.out; omega
   ·have hkn : k = n := by omega
    subst hkn
    have d1 : decide (k < k) = false := by simp
    have d2 : decide ((k : Int) < (k : Int)) = false := by simp
    obtain ⟨A1, c1, rfl⟩ := Ho.out.slice
    have hfin : ps.map Prod.fst = r.wraps.map wrapW := by rw [Hmm.out.2, List.take_of_length_le (by rw [Hnn.out]; exact Nat.le_refl _)]
    have hll : ps.length = k := Hmm.out.1
    have HLr : Hid (HL wr 0 (.slice A1 k c1) (r.wraps.map wrapW)) := by
     have h := Ho.out.list (by have h1 := Hmm.out.1; have h2 := Hn8.out; omega) (fun q hq => (Hps.out q hq).list)
     rw [hfin, hll] at h
     exact h
    rw [hll]
    have Hg := qj hg
    clear hk hlt hfin hll Hps Ho hg hWL
    go_upto_region 8 with fail
    clear d1 d2 y4
    refine tw_go ?_
    refine tw_h 1 ?_
    apply tw_xe 0 34
    ·intro W f hW e34 K hK; obtain ⟨⟨c0, c1, c2, c3, c4, c5⟩, _⟩ := HX.out W (gb_none Hg.out hW); go_simp; exact kK hK
    apply tw_xe 0 35
    ·intro W f hW e35 K hK; go_simp; exact ck (num1_any r.seq W) hK
    refine tw_h 1 ?_
    apply tw_xe 0 37
    ·intro W f hW e37 K hK; obtain ⟨⟨c0, c1, c2, c3, c4, c5⟩, _⟩ := HX.out W (gb_none Hg.out hW); go_simp; exact kK hK
    apply tw_xe 0 38
    ·intro W f hW e38 K hK; go_simp; exact ck (text1_any r.prev W) hK
    refine tw_h 1 ?_
    apply tw_xe 0 40
    ·intro W f hW e40 K hK; obtain ⟨⟨c0, c1, c2, c3, c4, c5⟩, _⟩ := HX.out W (gb_none Hg.out hW); go_simp; exact kK hK
    apply tw_xe 0 41
    ·intro W f hW e41 K hK; go_simp; exact ck (num1_any r.kind W) hK
    refine tw_h 1 ?_
    apply tw_xe 0 43
    ·intro W f hW e43 K hK; obtain ⟨⟨c0, c1, c2, c3, c4, c5⟩, _⟩ := HX.out W (gb_none Hg.out hW); go_simp; exact kK hK
    apply tw_xe 0 44
    ·intro W f hW e44 K hK; go_simp; exact ck (num1_any r.dev W) hK
    refine tw_h 3 ?_
    apply tw_at wireV_stays
    ·intro W f hW hE h0 K hK; have e46 := hE.of 0 46; clear hE h0; refine yes_f ?_; go_simp; refine (list1_any A1 k c1 W).mono ?_; rintro e w1' ⟨rfl, g'⟩; exact ⟨_, rfl, hK _ _ g' ⟨A1, k, c1, rfl, HLr.out.kept (gb_none hW g')⟩⟩
    refine tw_h 1 ?_
    apply tw_xe 0 48
    ·intro W f hW e48 K hK; obtain ⟨⟨c0, c1, c2, c3, c4, c5⟩, _⟩ := HX.out W (gb_none Hg.out hW); go_simp; exact kK hK
    apply tw_xe 0 49
    ·intro W f hW e49 K hK; go_simp; exact ck (text1_any r.tag W) hK
    apply tw_at nV_stays
    ·intro W f hW hE h0 K hK; have e36 := hE.of 14 36; have e39 := hE.of 11 39; have e42 := hE.of 8 42; have e45 := hE.of 5 45; have e47 := hE 3 47 _ rfl (by kernel_rfl); have e50 := hE.of 0 50; clear hE h0; refine yes_f ?_; obtain ⟨A2, n2, c2', e47, h47⟩ := e47; go_simp; exact hK _ _ (gb_alloc (gb_refl _ _) _) ⟨_, rfl, hl_rec W 0 r _ A2 n2 c2' (Nat.zero_le _) h47⟩
    apply tw_at wireV_stays
    ·intro W f hW hE h0 K hK; have e51 := hE 0 51 _ rfl (by kernel_rfl); clear hE h0; refine yes_f ?_; obtain ⟨g3, e51, h1⟩ := e51; go_simp; refine (list1_any (some ⟨g3, 0, none⟩) 6 6 W).mono ?_; rintro e w1' ⟨rfl, g'⟩; exact ⟨_, rfl, hK _ _ g' ⟨_, _, _, rfl, h1.kept g'⟩⟩
    apply tw_is
    ·intro W f hW hE h0 K hK; have e52 := hE 0 52 _ rfl (by kernel_rfl); clear hE h0; refine yes_f ?_; obtain ⟨A2, n2, c2', e52, h1⟩ := e52; go_simp; exact ck (putwire_all (recW r) _ W h1 Hs.out) hK
    refine tw_e 0 53 ?_
    refine tw_nil fun W f hW hA => ?_
    have e2 : f 2 = _ := hA 0 (some 2) _ rfl
    rw [e2]
    clear hA
    have HgE := qj (gb_none Hgw1.out (gb_none Hg.out hW))
    clear hW
    go_wp2_with fail
    go_ret
    exact ⟨rfl, HgE.out⟩
 ·rw [recB_no hm]
  obtain ⟨b0, hb0⟩ := nmd (w.heap.size)
  obtain ⟨W0, hW0⟩ := nmd (w.alloc (.cells (recCs r A c) 25))
  obtain ⟨G0, HX⟩ := rec_box hb0 hW0 hw
  have HG := qj G0
  have Hn := qj hn
  obtain ⟨⟨y0, y1, y2, y3, y4, y5⟩, hwl⟩ := HX.out W0 (gb_refl _ _)
  have HM := qj (refMay_any r A c W0 hwl hn)
  clear G0 hw hn hwl
  go_enter Tryz.func56, Tryz.ntmps56
  go_upto_region 1 with fail
  clear hW0 hb0
  go_wp2_with fail
  refine HM.out.mono ?_
  intro e w1 hh
  obtain ⟨he, g1⟩ := hh.no hm
  subst he
  have Hg1 := qj (gb_none HG.out g1)
  clear hh g1
  go_wp2_with fail
  go_ret
  exact ⟨rfl, Hg1.out⟩
theorem refHash_any (r : Rc) (A : Option Addr) (c : Nat) (w : World) (hw : WL w A r.wraps.length r.wraps) (hn : r.wraps.length ≤ 1099511627776) :
  Calls Tryz.prog 33 #[.agg (recCs r A c)] w fun e w' => e = .returned (.string (hashB r)) ∧ Gn w w' := by
 have HP : Hid (∀ W, Gn w W → Calls Tryz.prog 56 #[.agg (recCs r A c)] W fun e w' => e = .returned (.string (recB r)) ∧ Gn W w') := fun W hW => refPut_any r A c W (hw.keep hW) hn
 obtain ⟨Q, hQ⟩ := nmd (recB r)
 have HQs : Hid (Q.size ≤ 1099511627776) := by rw [← hQ]; have := recB_size (r := r); show _ ≤ _; omega
 have HE : Hid (Hh.sumB Q = hashB r) := by rw [← hQ]; rfl
 have HS9 : Hid (∀ W, Calls Tryz.prog 59 #[.string Q] W fun e w' => e = .returned (.string (Hh.sumB Q)) ∧ Gn W w') := fun W => Hh.refSum_any Q W HQs.out
 rw [hQ] at HP
 clear hw hn hQ
 go_enter Tryz.func33, Tryz.ntmps33
 go_wp2_with fail
 refine (HP.out _ (gb_alloc (gb_refl _ _) _)).mono ?_
 rintro e w1 ⟨rfl, g1⟩
 have Hg1 := qj (gb_none (gb_alloc (gb_refl w none) _) g1)
 clear g1
 go_wp2_with fail
 refine (HS9.out _).mono ?_
 rintro e w2 ⟨rfl, g2⟩
 rw [HE.out]
 have Hg2 := qj (gb_none Hg1.out g2)
 clear g2
 go_wp2_with fail
 go_ret
 exact ⟨rfl, Hg2.out⟩
end Go.Proofs.YtpcjbjpofcdjeaaGreatDoor.Mb
