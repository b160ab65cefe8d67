/- Records as bytes, as the program makes them. Written by gen_mbput.py. -/
import Derived.Test.YtpcjbjpofcdjeaaGreatDoorTwq
import Derived.Test.YtpcjbjpofcdjeaaGreatDoorMbMayq
set_option linter.unusedVariables false
set_option maxHeartbeats 8000000
set_option maxRecDepth 100000
namespace Go.Proofs.YtpcjbjpofcdjeaaGreatDoor.Mb
open Go Go.RowKit Mm Td Vw Dt
attribute [local go_sem] Td.upon_value Td.upon_skip Td.upon_enter Td.upon_row Td.look_tmp Td.look_const Td.look_func Td.look_global
theorem part_list {w : World} {g n k : Nat} {l : List Wr} {ys : List Wr} {A : Option Addr} {m c : Nat} (h : Part w g l n k) (hk : k < n) (hx : l[k]? = some (lW ys)) (hv : HL w (g + 1) (.slice A m c) ys) :
  Part ((((w.setCell ⟨g, k * 4, none⟩ (.int .i64 3)).setCell ⟨g, k * 4 + 1, none⟩ (.int .i64 0)).setCell ⟨g, k * 4 + 2, none⟩ (.string ⟨#[]⟩)).setCell ⟨g, k * 4 + 3, none⟩ (.slice A m c)) g l n (k + 1) := by
 have h2 := h.more (v := .slice A m c) (gb_refl _ _) (fun cs hr => hr) hk hx (show HL w (g + 1) (.slice A m c) (lW ys).l from hv)
 unfold lW at h2
 simpa only [Wr.k_mk, Wr.n_mk, Wr.s_mk, Wr.l_mk] using h2
theorem wrapsWire_any (A : Option Addr) (n c : Nat) (l : List Wp) (w : World) (hl : WL w A n l) (hn : n ≤ 1099511627776) : Calls Tryz.prog 135 #[.slice A n c] w (ListV (l.map wrapW) w) := by
 obtain ⟨h0, hh0⟩ := nmd (w.heap.size)
 obtain ⟨W0, hW0⟩ := nmd (w.alloc (.cells #[.int .i64 0, .int .i64 0, .string ⟨#[]⟩, .slice none 0 0] 107))
 have G0 : Gn w W0 := by rw [← hW0]; exact gb_alloc (gb_refl _ _) _
 have hS0 : W0.heap.size = h0 + 1 := by rw [← hW0, World.size_alloc, hh0]
 have HR0 : Hid (Row W0 h0 107 #[.int .i64 0, .int .i64 0, .string ⟨#[]⟩, .slice none 0 0]) := by rw [← hW0, ← hh0]; exact Row.new _ _ _
 have Hh0 : Hid (w.heap.size ≤ h0) := by show _ ≤ _; omega
 have HG := qj G0
 have Hl := qj (hl.keep G0)
 have hlen : (l.map wrapW).length = n := by rw [List.length_map]; exact hl.1
 have Hlen := qj hlen
 have Hn := qj hn
 have hmk := makeW_at n hn
 have HS0 := qj hS0
 have HP0 := qj (Part.new W0 (l.map wrapW) n _ (madeW_size n))
 have hg0 := gb_alloc (gb_refl W0 none) (.cells (madeW n) 107)
 have Hg0 := qj hg0
 rw [hS0] at HP0
 clear G0 hl hS0 hlen hn hg0
 go_enter Tryz.func135, Tryz.ntmps135
 go_upto_region 1 with fail
 clear hW0 hh0
 have hS0 := HS0.out
 go_wp2_with fail
 clear hS0
 go_loopw [11] (fun i wr => ∃ k : Nat, k ≤ n ∧ i = .int .i64 k ∧ Hid (Part wr (h0 + 1) (l.map wrapW) n k) ∧ Gn W0 wr) (fun i _ => n - (intOf i).toNat)
 case atStart => exact ⟨0, Nat.zero_le _, rfl, HP0, Hg0.out⟩
 case round =>
  obtain ⟨k, hk, rfl, Hp, hg⟩ := hrel
  clear hmk
  by_cases hlt : k < n
  ·have d3 : decide (k < n) = true := decide_eq_true hlt
   have d4 : decide ((k : Int) < (n : Int)) = true := dcT
   have bk : (k : Int) < (n : Int) := by omega
   have hWL := Hl.out.keep hg
   obtain ⟨g, o, rfl, hgl, _⟩ := hWL.2 (by omega)
   obtain ⟨x, hx⟩ : ∃ x, l[k]? = some x := ⟨_, List.getElem?_eq_getElem (by rw [Hl.out.1]; exact hlt)⟩
   obtain ⟨_, z0, z1⟩ := wl_of hWL hx
   have Hx : Hid ((l.map wrapW)[k]? = some (lW [nW x.d, tW x.box])) := by show _ = _; rw [List.getElem?_map, hx]; rfl
   have t1 : IntKind.i64.wrap ((k : Int) + 1) = ((k + 1 : Nat) : Int) := by rw [IntKind.wrap_i64]; have := Hn.out; omega
   have Hlt := qj hlt
   clear hx hWL hk hlt
   go_upto_region 5 with fail
   obtain ⟨W4, hW4⟩ := nmd (wr.alloc (.cells #[.int .i64 x.d, .string x.box] 70))
   have hb4 : WAt W4 wr.heap.size 0 x := by rw [← hW4]; exact wbox
   have hs4 : wr.heap.size < W4.heap.size := by rw [← hW4]; simp
   have g4 : Gn wr W4 := by rw [← hW4]; exact gb_alloc (gb_refl _ _) _
   have HR : Hid (∀ W, Gn W4 W → WAt W wr.heap.size 0 x) := fun W hW => hb4.kept hs4 hW (by simp)
   have Hg4 : Hid (Gn W0 W4) := gb_none hg g4
   have Hp4 : Hid (Part W4 (h0 + 1) (l.map wrapW) n k) := Hp.out.kept g4
   have HS : Hid (∀ W, Gn W4 W → h0 + 1 + 1 ≤ W.heap.size) := fun W hW => (Hp4.out.kept hW).lt
   rw [hW4]
   clear hW4 hb4 hs4 g4 z0 z1 hgl hg
   generalize wr.heap.size = D4 at *
   refine tw_tail 11 ?_
   refine tw_h 3 ?_
   refine tw_h 4 ?_
   refine tw_h 5 ?_
   apply tw_xe 0 18
   ·intro W f hW e18 K hK; obtain ⟨hc0, hc1⟩ := HR.out W hW; go_simp; exact kK hK
   apply tw_xe 0 19
   ·intro W f hW e19 K hK; go_simp; exact ck (num_any x.d W) hK
   refine tw_h 5 ?_
   apply tw_xe 0 21
   ·intro W f hW e21 K hK; obtain ⟨hc0, hc1⟩ := HR.out W hW; go_simp; exact kK hK
   apply tw_xe 0 22
   ·intro W f hW e22 K hK; go_simp; exact ck (text_any x.box W) hK
   apply tw_at nV_stays
   ·intro W f hW hE h0 K hK; have e20 := hE.of 3 20; have e23 := hE.of 0 23; clear hE h0; refine yes_f ?_; go_simp; exact hK _ _ (gb_alloc (gb_refl _ _) _) ⟨_, rfl, (hl_pair W x.d x.box).low (HS.out W hW)⟩
   apply tw_at wireV_stays
   ·intro W f hW hE h0 K hK; have e24 := hE 0 24 _ rfl (by kernel_rfl); clear hE h0; refine yes_f ?_; obtain ⟨g3, e24, h1⟩ := e24; go_simp; refine (list_any [nW x.d, tW x.box] _ W (h1.low (Nat.zero_le _))).mono ?_; rintro e w1' ⟨A2, c2', rfl, h1', g'⟩; exact ⟨_, rfl, hK _ _ g' ⟨A2, _, c2', rfl, h1'.low (HS.out W hW)⟩⟩
   refine tw_ee 9 16 8 17 ?_
   refine tw_nil fun W f hW hA => ?_
   have e25 := hA 1 (some 25) _ rfl
   have e26 : f 26 = _ := hA 0 (some 26) _ rfl
   rw [e26]
   clear hA
   obtain ⟨A4, n4, c4, e25, hl4⟩ := e25
   obtain ⟨A5, c5, hv⟩ := hl4.slice
   cases hv
   rw [e25]
   have hp2 := Hp4.out.kept hW
   obtain ⟨⟨v0, p0⟩, f0⟩ := hp2.room (j := k * 4) (by have := Hlt.out; omega)
   obtain ⟨⟨v1, p1⟩, f1⟩ := hp2.room (j := k * 4 + 1) (by have := Hlt.out; omega)
   obtain ⟨⟨v2, p2⟩, f2⟩ := hp2.room (j := k * 4 + 2) (by have := Hlt.out; omega)
   obtain ⟨⟨v3, p3⟩, f3⟩ := hp2.room (j := k * 4 + 3) (by have := Hlt.out; omega)
   have Hl4 := qj hl4
   have HgW := qj hW
   have Hp2 := qj hp2
   clear hl4 hW hp2
   rw [ends_is]
   go_simp
   go_wp2_with fail
   go_roundw
   case rel =>
    refine ⟨k + 1, by have := Hlt.out; omega, rfl, ?_, ?_⟩
    ·exact part_list Hp2.out Hlt.out Hx.out Hl4.out
    ·exact gb_new4 (Nat.le_of_eq HS0.out) (gb_none Hg4.out HgW.out)
   case measure => simp [intOf]; have := Hlt.out; omega
  ·have hkn : k = n := by omega
   subst hkn
   have d3 : decide (k < k) = false := by simp
   have d4 : decide ((k : Int) < (k : Int)) = false := by simp
   have Hd : Hid (HL wr (h0 + 1) (.slice (some ⟨h0 + 1, 0, none⟩) k k) (l.map wrapW)) := by
    have h := Hp.out.done Hlen.out.symm (Nat.le_refl _) (by rw [Hlen.out]; exact Hn.out) (h0 + 1) (Nat.le_refl _) k
    rw [Hlen.out] at h
    exact h
   have HgW := qj hg
   clear hlt hk hg
   go_wp2_with fail
   refine (list_any (l.map wrapW) _ _ (Hd.out.low (Nat.zero_le _))).mono ?_
   rintro e w2 ⟨A4, c4, rfl, hl, g2⟩
   have hW := gb_none HgW.out g2
   clear g2
   obtain ⟨n4, hn4⟩ := nmd ((l.map wrapW).length)
   simp only [Wr.l_mk, Wr.k_mk, Wr.n_mk, Wr.s_mk, hn4] at hl ⊢
   replace hl := hl.low (Nat.le_of_lt Hp.out.lt)
   have hr := HR0.out.kept hW (by simp)
   have q0 := hr.free 0
   have q1 := hr.free 1
   have q2 := hr.free 2
   have q3 := hr.free 3
   have u0 := hr.at_ (i := 0) rfl
   have u1 := hr.at_ (i := 1) rfl
   have u2 := hr.at_ (i := 2) rfl
   have u3 := hr.at_ (i := 3) rfl
   have Hx := qj ((((hr.set_ 0 (.int .i64 3)).set_ 1 (.int .i64 0)).set_ 2 (.string ⟨#[]⟩)).set_ 3 (.slice A4 n4 c4))
   have kk : w2.grownBy ((((w2.setCell ⟨h0, 0, none⟩ (.int .i64 3)).setCell ⟨h0, 1, none⟩ (.int .i64 0)).setCell ⟨h0, 2, none⟩ (.string ⟨#[]⟩)).setCell ⟨h0, 3, none⟩ (.slice A4 n4 c4)) (some h0) := gb_then (gb_then (gb_then (gb_set1 _ _ _ _) (gb_set1 _ _ _ _)) (gb_set1 _ _ _ _)) (gb_set1 _ _ _ _)
   have Hl2 := qj ((hl.grown kk (fun i e => by cases e; exact Nat.lt_succ_self _)).low (show w.heap.size ≤ h0 + 1 by have := Hh0.out; omega))
   have Hgg := qj (gb_new (gb_none HG.out hW) kk Hh0.out)
   clear kk hl hW
   clear hn4
   go_wp2_with fail
   obtain ⟨A5, c5, hv⟩ := Hl2.out.slice
   cases hv
   exact bodyPost_ret (results_cell_row rfl _ _ h0 107 _ (0, 0) _ rfl Hx.out Tryz.underlying107 rfl (by kernel_rfl)) rfl ⟨A4, c4, rfl, Hl2.out, Hgg.out⟩
theorem recordWire_any (r : Rc) (A : Option Addr) (c : Nat) (w : World) (hw : WL w A r.wraps.length r.wraps) (hn : r.wraps.length ≤ 1099511627776) : Calls Tryz.prog 96 #[.agg (recCs r A c)] w (ListV (recL r) w) := by
 obtain ⟨b0, hb0⟩ := nmd (w.heap.size)
 obtain ⟨h0, hh0⟩ := nmd (b0 + 1)
 obtain ⟨W0, hW0⟩ := nmd ((w.alloc (.cells (recCs r A c) 25)).alloc (.cells #[.int .i64 0, .int .i64 0, .string ⟨#[]⟩, .slice none 0 0] 107))
 have G0 : Gn w W0 := by rw [← hW0]; exact gb_alloc (gb_alloc (gb_refl _ _) _) _
 have HR0 : Hid (Row W0 h0 107 #[.int .i64 0, .int .i64 0, .string ⟨#[]⟩, .slice none 0 0]) := by
  rw [← hW0, ← hh0, ← hb0]
  have h := Row.new (w.alloc (.cells (recCs r A c) 25)) 107 #[.int .i64 0, .int .i64 0, .string ⟨#[]⟩, .slice none 0 0]
  rw [World.size_alloc] at h
  exact h
 have HRb0 : Hid (Row W0 b0 25 (recCs r A c)) := by rw [← hW0, ← hb0]; exact (Row.new _ _ _).alloc _
 have Hh0 : Hid (w.heap.size ≤ h0) := by show _ ≤ _; omega
 have HS : Hid (∀ W, Gn W0 W → h0 + 1 ≤ W.heap.size) := fun W hW => (HR0.out.kept hW (by simp)).lt
 have HX : Hid (∀ W, Gn W0 W → RecC0 W b0 r A c ∧ WL W A r.wraps.length r.wraps) := fun W hW => ⟨rec_row (HRb0.out.kept hW (by simp)), hw.keep (gb_none G0 hW)⟩
 have HG := qj G0
 have Hn := qj hn
 clear G0 hw hn
 go_enter Tryz.func96, Tryz.ntmps96
 go_upto_region 1 with fail
 clear hW0 hh0 hb0
 refine tw_tail 20 ?_
 refine tw_h 1 ?_
 apply tw_xe 0 3
 ·intro W f hW e3 K hK; obtain ⟨⟨c0, c1, c2, c3, c4, c5⟩, _⟩ := HX.out W hW; go_simp; exact kK hK
 apply tw_xe 0 4
 ·intro W f hW e4 K hK; go_simp; exact ck (num_any r.seq W) hK
 refine tw_h 1 ?_
 apply tw_xe 0 6
 ·intro W f hW e6 K hK; obtain ⟨⟨c0, c1, c2, c3, c4, c5⟩, _⟩ := HX.out W hW; go_simp; exact kK hK
 apply tw_xe 0 7
 ·intro W f hW e7 K hK; go_simp; exact ck (text_any r.prev W) hK
 refine tw_h 1 ?_
 apply tw_xe 0 9
 ·intro W f hW e9 K hK; obtain ⟨⟨c0, c1, c2, c3, c4, c5⟩, _⟩ := HX.out W hW; go_simp; exact kK hK
 apply tw_xe 0 10
 ·intro W f hW e10 K hK; go_simp; exact ck (num_any r.kind W) hK
 refine tw_h 1 ?_
 apply tw_xe 0 12
 ·intro W f hW e12 K hK; obtain ⟨⟨c0, c1, c2, c3, c4, c5⟩, _⟩ := HX.out W hW; go_simp; exact kK hK
 apply tw_xe 0 13
 ·intro W f hW e13 K hK; go_simp; exact ck (num_any r.dev W) hK
 refine tw_h 1 ?_
 apply tw_xe 0 15
 ·intro W f hW e15 K hK; obtain ⟨⟨c0, c1, c2, c3, c4, c5⟩, _⟩ := HX.out W hW; go_simp; exact kK hK
 apply tw_at wireV_stays
 ·intro W f hW hE h0 K hK; have e16 := hE.of 0 16; clear hE h0; refine yes_f ?_; go_simp; refine (wrapsWire_any A r.wraps.length c r.wraps W (HX.out W hW).2 Hn.out).mono ?_; rintro e w1' ⟨A2, c2', rfl, h1', g'⟩; exact ⟨_, rfl, hK _ _ g' ⟨A2, _, c2', rfl, h1'.low (HS.out W hW)⟩⟩
 refine tw_h 1 ?_
 apply tw_xe 0 18
 ·intro W f hW e18 K hK; obtain ⟨⟨c0, c1, c2, c3, c4, c5⟩, _⟩ := HX.out W hW; go_simp; exact kK hK
 apply tw_xe 0 19
 ·intro W f hW e19 K hK; go_simp; exact ck (text_any r.tag W) hK
 apply tw_at nV_stays
 ·intro W f hW hE h0 K hK; have e5 := hE.of 15 5; have e8 := hE.of 12 8; have e11 := hE.of 9 11; have e14 := hE.of 6 14; have e17 := hE 3 17 _ rfl (by kernel_rfl); have e20 := hE.of 0 20; clear hE h0; refine yes_f ?_; obtain ⟨A1, n1, c1', e17, h17⟩ := e17; go_simp; exact hK _ _ (gb_alloc (gb_refl _ _) _) ⟨_, rfl, hl_rec W (h0 + 1) r _ A1 n1 c1' (HS.out W hW) h17⟩
 apply tw_at wireV_stays
 ·intro W f hW hE h0 K hK; have e21 := hE 0 21 _ rfl (by kernel_rfl); clear hE h0; refine yes_f ?_; obtain ⟨g3, e21, h1⟩ := e21; go_simp; refine (list_any (recL r) _ W (h1.low (Nat.zero_le _))).mono ?_; rintro e w1' ⟨A2, c2', rfl, h1', g'⟩; exact ⟨_, rfl, hK _ _ g' ⟨A2, _, c2', rfl, h1'.low (HS.out W hW)⟩⟩
 refine tw_nil fun W f hW hA => ?_
 have e22 := hA 0 (some 22) _ rfl
 clear hA
 obtain ⟨A4, n4, c4, e22, hl⟩ := e22
 rw [e22]
 have hr := HR0.out.kept hW (by simp)
 have q0 := hr.free 0
 have q1 := hr.free 1
 have q2 := hr.free 2
 have q3 := hr.free 3
 have u0 := hr.at_ (i := 0) rfl
 have u1 := hr.at_ (i := 1) rfl
 have u2 := hr.at_ (i := 2) rfl
 have u3 := hr.at_ (i := 3) rfl
 have Hx := qj ((((hr.set_ 0 (.int .i64 3)).set_ 1 (.int .i64 0)).set_ 2 (.string ⟨#[]⟩)).set_ 3 (.slice A4 n4 c4))
 have kk : W.grownBy ((((W.setCell ⟨h0, 0, none⟩ (.int .i64 3)).setCell ⟨h0, 1, none⟩ (.int .i64 0)).setCell ⟨h0, 2, none⟩ (.string ⟨#[]⟩)).setCell ⟨h0, 3, none⟩ (.slice A4 n4 c4)) (some h0) := gb_then (gb_then (gb_then (gb_set1 _ _ _ _) (gb_set1 _ _ _ _)) (gb_set1 _ _ _ _)) (gb_set1 _ _ _ _)
 have Hl2 := qj ((hl.grown kk (fun i e => by cases e; exact Nat.lt_succ_self _)).low (show w.heap.size ≤ h0 + 1 by have := Hh0.out; omega))
 have Hgg := qj (gb_new (gb_none HG.out hW) kk Hh0.out)
 clear kk hl hW
 rw [ends_is]
 go_simp
 clear q0 q1 q2 q3 u0 u1 u2 u3 hr
 go_wp2_with fail
 obtain ⟨A5, c5, hv⟩ := Hl2.out.slice
 cases hv
 exact bodyPost_ret (results_cell_row rfl _ _ h0 107 _ (0, 0) _ rfl Hx.out Tryz.underlying107 rfl (by kernel_rfl)) rfl ⟨A4, c4, rfl, Hl2.out, Hgg.out⟩
theorem put_any (r : Rc) (A : Option Addr) (c : Nat) (w : World) (hw : WL w A r.wraps.length r.wraps) (hn : r.wraps.length ≤ 1099511627776) :
  Calls Tryz.prog 53 #[.agg (recCs r A c)] w fun e w' => e = .returned (.string (recB r)) ∧ Gn w w' := by
 by_cases hm : MayR r
 ·have HB := qj (recB_bytes hm)
  rw [HB.out]
  have Hs : Hid ((recW r).enc.length ≤ 1099511627776) := by have := rec_short hm; show _ ≤ _; omega
  obtain ⟨b0, hb0⟩ := nmd (w.heap.size)
  obtain ⟨W0, hW0⟩ := nmd (w.alloc (.cells (recCs r A c) 25))
  obtain ⟨G0, HX⟩ := rec_box hb0 hW0 hw
  have HG := qj G0
  have Hn := qj hn
  obtain ⟨⟨y0, y1, y2, y3, y4, y5⟩, hwl⟩ := HX.out W0 (gb_refl _ _)
  have HM := may_any r A c W0 hwl hn
  have HM := qj HM
  clear G0 hw hn hwl
  go_enter Tryz.func53, Tryz.ntmps53
  go_upto_region 1 with fail
  clear hW0 hb0
  go_wp2_with fail
  refine HM.out.mono ?_
  intro e w1 hh
  obtain ⟨he, g1⟩ := hh.yes hm
  subst he
  have Hg1 := qj g1
  clear hh y0 y1 y2 y3 y4 y5
  obtain ⟨⟨y0, y1, y2, y3, y4, y5⟩, _⟩ := HX.out w1 g1
  clear g1
  go_wp2_with fail
  refine (recordWire_any r A c _ (HX.out w1 Hg1.out).2 Hn.out).mono ?_
  rintro e w2 ⟨A2, c2, rfl, hl, g2⟩
  have Hg2 := qj (gb_none Hg1.out g2)
  have HP := qj (put_all (recW r) _ w2 (hl.low (Nat.zero_le _)) Hs.out)
  clear hl g2
  go_wp2_with fail
  refine HP.out.mono ?_
  rintro e w3 ⟨rfl, g3⟩
  have Hg3 := qj (gb_none HG.out (gb_none Hg2.out g3))
  clear g3
  go_wp2_with fail
  go_ret
  exact ⟨rfl, Hg3.out⟩
 ·rw [recB_no hm]
  obtain ⟨b0, hb0⟩ := nmd (w.heap.size)
  obtain ⟨W0, hW0⟩ := nmd (w.alloc (.cells (recCs r A c) 25))
  obtain ⟨G0, HX⟩ := rec_box hb0 hW0 hw
  have HG := qj G0
  have Hn := qj hn
  obtain ⟨⟨y0, y1, y2, y3, y4, y5⟩, hwl⟩ := HX.out W0 (gb_refl _ _)
  have HM := may_any r A c W0 hwl hn
  have HM := qj HM
  clear G0 hw hn hwl
  go_enter Tryz.func53, Tryz.ntmps53
  go_upto_region 1 with fail
  clear hW0 hb0
  go_wp2_with fail
  refine HM.out.mono ?_
  intro e w1 hh
  obtain ⟨he, g1⟩ := hh.no hm
  subst he
  have Hg1 := qj (gb_none HG.out g1)
  clear hh g1
  go_wp2_with fail
  go_ret
  exact ⟨rfl, Hg1.out⟩
theorem head_any (r : Rc) (A : Option Addr) (c : Nat) (w : World) (hw : WL w A r.wraps.length r.wraps) (hn : r.wraps.length ≤ 1099511627776) :
  Calls Tryz.prog 66 #[.agg (recCs r A c)] w fun e w' => e = .returned (.string (headB r)) ∧ Gn w w' := by
 by_cases hm : MayR r
 ·have HB := qj (headB_bytes hm)
  rw [HB.out]
  have Hs : Hid ((headW r).enc.length ≤ 1099511627776) := by have := head_short hm; show _ ≤ _; omega
  obtain ⟨b0, hb0⟩ := nmd (w.heap.size)
  obtain ⟨W0, hW0⟩ := nmd (w.alloc (.cells (recCs r A c) 25))
  obtain ⟨G0, HX⟩ := rec_box hb0 hW0 hw
  have HG := qj G0
  have Hn := qj hn
  obtain ⟨⟨y0, y1, y2, y3, y4, y5⟩, hwl⟩ := HX.out W0 (gb_refl _ _)
  have HM := may_any r A c W0 hwl hn
  have HM := qj HM
  clear G0 hw hn hwl
  go_enter Tryz.func66, Tryz.ntmps66
  go_upto_region 1 with fail
  clear hW0 hb0
  go_wp2_with fail
  refine HM.out.mono ?_
  intro e w1 hh
  obtain ⟨he, g1⟩ := hh.yes hm
  subst he
  have Hg1 := qj g1
  clear hh y0 y1 y2 y3 y4 y5
  obtain ⟨⟨y0, y1, y2, y3, y4, y5⟩, _⟩ := HX.out w1 g1
  clear g1
  go_upto_region 3 with fail
  clear y0 y1 y2 y3 y4 y5
  refine tw_go ?_
  refine tw_h 1 ?_
  apply tw_xe 0 6
  ·intro W f hW e6 K hK; obtain ⟨⟨c0, c1, c2, c3, c4, c5⟩, _⟩ := HX.out W (gb_none Hg1.out hW); go_simp; exact kK hK
  apply tw_xe 0 7
  ·intro W f hW e7 K hK; go_simp; exact ck (num_any r.seq W) hK
  refine tw_h 1 ?_
  apply tw_xe 0 9
  ·intro W f hW e9 K hK; obtain ⟨⟨c0, c1, c2, c3, c4, c5⟩, _⟩ := HX.out W (gb_none Hg1.out hW); go_simp; exact kK hK
  apply tw_xe 0 10
  ·intro W f hW e10 K hK; go_simp; exact ck (num_any r.kind W) hK
  refine tw_h 1 ?_
  apply tw_xe 0 12
  ·intro W f hW e12 K hK; obtain ⟨⟨c0, c1, c2, c3, c4, c5⟩, _⟩ := HX.out W (gb_none Hg1.out hW); go_simp; exact kK hK
  apply tw_xe 0 13
  ·intro W f hW e13 K hK; go_simp; exact ck (num_any r.dev W) hK
  refine tw_h 1 ?_
  apply tw_xe 0 15
  ·intro W f hW e15 K hK; obtain ⟨⟨c0, c1, c2, c3, c4, c5⟩, _⟩ := HX.out W (gb_none Hg1.out hW); go_simp; exact kK hK
  apply tw_xe 0 16
  ·intro W f hW e16 K hK; go_simp; exact ck (text_any r.prev W) hK
  apply tw_at nV_stays
  ·intro W f hW hE h0 K hK; have e8 := hE.of 9 8; have e11 := hE.of 6 11; have e14 := hE.of 3 14; have e17 := hE.of 0 17; clear hE h0; refine yes_f ?_; go_simp; exact hK _ _ (gb_alloc (gb_refl _ _) _) ⟨_, rfl, (hl_head W r.seq r.kind r.dev r.prev).low (Nat.zero_le _)⟩
  apply tw_at wireV_stays
  ·intro W f hW hE h0 K hK; have e18 := hE 0 18 _ rfl (by kernel_rfl); clear hE h0; refine yes_f ?_; obtain ⟨g3, e18, h1⟩ := e18; go_simp; refine (list_any [nW r.seq, nW r.kind, nW r.dev, tW r.prev] _ W h1).mono ?_; rintro e w1' ⟨A2, c2', rfl, h1', g'⟩; exact ⟨_, rfl, hK _ _ g' ⟨A2, _, c2', rfl, h1'.low (Nat.zero_le _)⟩⟩
  apply tw_is
  ·intro W f hW hE h0 K hK; have e19 := hE 0 19 _ rfl (by kernel_rfl); clear hE h0; refine yes_f ?_; obtain ⟨A2, n2, c2', e19, h1⟩ := e19; go_simp; exact ck (put_all (headW r) _ W h1 Hs.out) hK
  refine tw_e 0 20 ?_
  refine tw_nil fun W f hW hA => ?_
  have e2 : f 2 = _ := hA 0 (some 2) _ rfl
  rw [e2]
  clear hA
  have Hg3 := qj (gb_none HG.out (gb_none Hg1.out hW))
  clear hW
  go_wp2_with fail
  go_ret
  exact ⟨rfl, Hg3.out⟩
 ·rw [headB_no hm]
  obtain ⟨b0, hb0⟩ := nmd (w.heap.size)
  obtain ⟨W0, hW0⟩ := nmd (w.alloc (.cells (recCs r A c) 25))
  obtain ⟨G0, HX⟩ := rec_box hb0 hW0 hw
  have HG := qj G0
  have Hn := qj hn
  obtain ⟨⟨y0, y1, y2, y3, y4, y5⟩, hwl⟩ := HX.out W0 (gb_refl _ _)
  have HM := may_any r A c W0 hwl hn
  have HM := qj HM
  clear G0 hw hn hwl
  go_enter Tryz.func66, Tryz.ntmps66
  go_upto_region 1 with fail
  clear hW0 hb0
  go_wp2_with fail
  refine HM.out.mono ?_
  intro e w1 hh
  obtain ⟨he, g1⟩ := hh.no hm
  subst he
  have Hg1 := qj (gb_none HG.out g1)
  clear hh g1
  go_wp2_with fail
  go_ret
  exact ⟨rfl, Hg1.out⟩
theorem strs1 (w : World) (p : ByteArray) : Hh.Strs (w.alloc (.cells #[.string p] 9)) (some ⟨w.heap.size, 0, none⟩) 1 [p] := by
 refine ⟨rfl, fun _ => ⟨w.heap.size, 0, rfl, by simp, fun i hi => ?_⟩⟩
 obtain rfl : i = 0 := by omega
 exact cell_of_row _ _ 0 #[.string p] 9 (0, 0) (heap_alloc_new _ _)
theorem cat1 (p : ByteArray) : Hh.catB [p] = p.data.toList := by simp [Hh.catB]
theorem small1 {p : ByteArray} (h : p.size ≤ 2000) : ∀ i, i < 1 → (([p] : List ByteArray).getD i ByteArray.empty).size ≤ 9223372036854775807 := fun i hi => by
 obtain rfl : i = 0 := by omega
 show p.size ≤ _
 omega
theorem hash_any (r : Rc) (A : Option Addr) (c : Nat) (w : World) (hw : WL w A r.wraps.length r.wraps) (hn : r.wraps.length ≤ 1099511627776) (hT : Hh.Tabs w) :
  Calls Tryz.prog 64 #[.agg (recCs r A c)] w fun e w' => e = .returned (.string (hashB r)) ∧ Gn w w' := by
 have HP : Hid (∀ W, Gn w W → Calls Tryz.prog 53 #[.agg (recCs r A c)] W fun e w' => e = .returned (.string (recB r)) ∧ Gn W w') := fun W hW => put_any r A c W (hw.keep hW) hn
 obtain ⟨Q, hQ⟩ := nmd (recB r)
 have HQs : Hid (Q.size ≤ 2000) := by rw [← hQ]; exact recB_size
 have HE : Hid ((⟨(Wd.shaS (Hh.catB [Q])).toArray⟩ : ByteArray) = hashB r) := by
  show _ = _
  rw [Hh.sum_text [Q] Q (cat1 Q), ← hQ]; rfl
 have HT := qj hT
 rw [hQ] at HP
 clear hw hn hT hQ
 go_enter Tryz.func64, Tryz.ntmps64
 go_wp2_with fail
 refine (HP.out _ (gb_alloc (gb_refl _ _) _)).mono ?_
 rintro e w1 ⟨rfl, g1⟩
 have Hg1 := qj (gb_none (gb_alloc (gb_refl w none) _) g1)
 clear g1
 go_wp2_with fail
 refine (Hh.sum_any _ 1 1 [Q] _ (by decide) (small1 HQs.out) (by exact strs1 _ _) (by exact HT.out.keep (gb_alloc Hg1.out _) (by simp))).mono ?_
 rintro e w2 ⟨rfl, g2⟩
 rw [HE.out]
 have Hg2 := qj (gb_none (gb_alloc Hg1.out _) g2)
 clear g2
 go_wp2_with fail
 go_ret
 exact ⟨rfl, Hg2.out⟩
end Go.Proofs.YtpcjbjpofcdjeaaGreatDoor.Mb
