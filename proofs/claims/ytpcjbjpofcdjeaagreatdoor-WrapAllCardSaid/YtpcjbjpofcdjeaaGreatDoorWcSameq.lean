/- The document's SameLog, Unwrap. Written by gen_wc7.py. -/
import Derived.Test.YtpcjbjpofcdjeaaGreatDoorTwq
import Derived.Test.YtpcjbjpofcdjeaaGreatDoorWcKeysq
import Derived.Test.YtpcjbjpofcdjeaaGreatDoorWcRefHq
set_option linter.unusedVariables false
set_option maxHeartbeats 8000000
set_option maxRecDepth 100000
namespace Go.Proofs.YtpcjbjpofcdjeaaGreatDoor.Wc
open Go Go.RowKit Mm Td Vw Dt
open Mb Ro
attribute [local go_sem] Td.upon_value Td.upon_skip Td.upon_enter Td.upon_row Td.look_tmp Td.look_const Td.look_func Td.look_global
theorem rc_kept {w : World} {g o : Nat} {r : Rc} (h : RcAt w g o r) (hg : g < w.heap.size) : ∃ A c, ∀ W, Gn w W → (W.cell? ⟨g, o, none⟩ = some (.int .i64 r.seq) ∧ W.cell? ⟨g, o + 1, none⟩ = some (.string r.prev) ∧ W.cell? ⟨g, o + 2, none⟩ = some (.int .i64 r.kind) ∧ W.cell? ⟨g, o + 3, none⟩ = some (.int .i64 r.dev) ∧ W.cell? ⟨g, o + 4, none⟩ = some (.slice A r.wraps.length c) ∧ W.cell? ⟨g, o + 5, none⟩ = some (.string r.tag)) ∧ WL W A r.wraps.length r.wraps := by
 obtain ⟨A, c, z0, z1, z2, z3, z4, z5, hwl, _⟩ := h
 refine ⟨A, c, fun W hW => ⟨?_, hwl.keep hW⟩⟩
 have hb := hW.block g hg (by simp)
 exact ⟨(World.cell?_of_block (a := ⟨g, _, none⟩) hb).trans z0, (World.cell?_of_block (a := ⟨g, _, none⟩) hb).trans z1, (World.cell?_of_block (a := ⟨g, _, none⟩) hb).trans z2, (World.cell?_of_block (a := ⟨g, _, none⟩) hb).trans z3, (World.cell?_of_block (a := ⟨g, _, none⟩) hb).trans z4, (World.cell?_of_block (a := ⟨g, _, none⟩) hb).trans z5⟩
theorem take_snocR {l : List Rc} {k : Nat} {x : Rc} (hx : l[k]? = some x) : l.take (k + 1) = l.take k ++ [x] := by rw [List.take_add_one, hx]; rfl
theorem refSameLog_any (A B : Option Addr) (n c m d : Nat) (p q : List Rc) (w : World) (ha : LogL w A n p) (hb : LogL w B m q) (hn : n ≤ 1099511627776) (hp : ∀ r ∈ p, r.wraps.length ≤ 1099511627776) :
  Calls Tryz.prog 22 #[.slice A n c, .slice B m d] w (BoolIs (p = q) w) := by
 have Ha := qj ha
 have Hb := qj hb
 have Hp := qj hp
 have Hn := qj hn
 clear ha hb hp hn
 by_cases hnm : n = m
 ·subst hnm
  have e0 : ((n : Int) != (n : Int)) = false := by simp
  go_enter Tryz.func22, Tryz.ntmps22
  go_wp2_with fail
  clear e0
  go_loopw [5] (fun i wr => ∃ k : Nat, k ≤ n ∧ i = .int .i64 k ∧ Hid (p.take k = q.take k) ∧ Gn w wr) (fun i _ => n - (intOf i).toNat)
  case atStart => exact ⟨0, Nat.zero_le _, rfl, by show _ = _; rfl, gb_refl _ _⟩
  case round =>
   obtain ⟨k, hk, rfl, HK, hg⟩ := hrel
   by_cases hlt : k < n
   ·have d1 : decide (k < n) = true := decide_eq_true hlt
    have d2 : decide ((k : Int) < (n : Int)) = true := dcT
    have HB : Hid ((k : Int) < (n : Int)) := by show _ < _; omega
    have hA := Ha.out.keep hg
    have hB := Hb.out.keep hg
    obtain ⟨g, o, rfl, hgl, _⟩ := hA.2 (by omega)
    obtain ⟨g', o', rfl, hgl', _⟩ := hB.2 (by omega)
    obtain ⟨x, hx⟩ : ∃ x, p[k]? = some x := ⟨_, List.getElem?_eq_getElem (by rw [Ha.out.1]; exact hlt)⟩
    obtain ⟨y, hy⟩ : ∃ y, q[k]? = some y := ⟨_, List.getElem?_eq_getElem (by rw [Hb.out.1]; exact hlt)⟩
    obtain ⟨XA, xc, hX⟩ := rc_kept (log_rec hA hx).2 hgl
    obtain ⟨YA, yc, hY⟩ := rc_kept (log_rec hB hy).2 hgl'
    have hxl := Hp.out x (List.mem_of_getElem? hx)
    have HX : Hid (∀ W, Gn wr W → (W.cell? ⟨g, o + k * 6, none⟩ = some (.int .i64 x.seq) ∧ W.cell? ⟨g, o + k * 6 + 1, none⟩ = some (.string x.prev) ∧ W.cell? ⟨g, o + k * 6 + 2, none⟩ = some (.int .i64 x.kind) ∧ W.cell? ⟨g, o + k * 6 + 3, none⟩ = some (.int .i64 x.dev) ∧ W.cell? ⟨g, o + k * 6 + 4, none⟩ = some (.slice XA x.wraps.length xc) ∧ W.cell? ⟨g, o + k * 6 + 5, none⟩ = some (.string x.tag)) ∧ W.cell? ⟨g', o' + k * 6, none⟩ = some (.int .i64 y.seq) ∧ W.cell? ⟨g', o' + k * 6 + 1, none⟩ = some (.string y.prev) ∧ W.cell? ⟨g', o' + k * 6 + 2, none⟩ = some (.int .i64 y.kind) ∧ W.cell? ⟨g', o' + k * 6 + 3, none⟩ = some (.int .i64 y.dev) ∧ W.cell? ⟨g', o' + k * 6 + 4, none⟩ = some (.slice YA y.wraps.length yc) ∧ W.cell? ⟨g', o' + k * 6 + 5, none⟩ = some (.string y.tag)) := fun W hW => ⟨(hX W hW).1, (hY W hW).1⟩
    obtain ⟨b, hb⟩ : ∃ b : Bool, (b = true ↔ x = y) := by
     by_cases h : x = y
     ·exact ⟨true, by simp [h]⟩
     ·exact ⟨false, by simp [h]⟩
    have HQ : Hid (∀ W, Gn wr W → Calls Tryz.prog 18 #[.agg (recCs x XA xc), .agg (recCs y YA yc)] W fun e w' => e = .returned (.bool b) ∧ Gn W w') := fun W hW => (refSame_any x y XA YA xc yc W (hX W hW).2 (hY W hW).2 hxl).mono fun e w' h => by
     by_cases hxy : x = y
     ·rw [hb.2 hxy]; exact h.yes hxy
     ·rw [show b = false from by cases b with | false => rfl | true => exact absurd (hb.1 rfl) hxy]; exact h.no hxy
    have Hx := qj hx
    have Hy := qj hy
    have Hbb := qj hb
    have Hlt := qj hlt
    clear hA hB hx hy hgl hgl' hX hY hxl hb hk hlt
    go_upto_region 6 with fail
    clear d1 d2
    refine tw_go ?_
    refine tw_h 0 ?_
    refine tw_h 5 ?_
    apply tw_xee 1 17 0 18
    ·intro W f hW ⟨e17, e18⟩ K hK; have bk := HB.out; go_simp; exact kK hK
    apply tw_xe 0 19
    ·intro W f hW e19 K hK; obtain ⟨⟨z0, z1, z2, z3, z4, z5⟩, _⟩ := HX.out W hW; go_simp; exact kK hK
    refine tw_h 1 ?_
    refine tw_h 5 ?_
    apply tw_xee 1 21 0 22
    ·intro W f hW ⟨e21, e22⟩ K hK; have bk := HB.out; go_simp; exact kK hK
    apply tw_xe 0 23
    ·intro W f hW e23 K hK; obtain ⟨_, z0, z1, z2, z3, z4, z5⟩ := HX.out W hW; go_simp; exact kK hK
    apply tw_xee 4 20 0 24
    ·intro W f hW ⟨e20, e24⟩ K hK; go_simp; exact ck (HQ.out W hW) hK
    refine tw_e 0 25 ?_
    refine tw_nil fun W f hW hA => ?_
    have e26 : f 26 = _ := hA 0 (some 26) _ rfl
    rw [e26]
    clear hA
    have Hw := qj (gb_none hg hW)
    clear hW
    cases b with
    | true =>
     have Hnext : Hid (p.take (k + 1) = q.take (k + 1)) := by show _ = _; rw [take_snocR Hx.out, take_snocR Hy.out, HK.out, Hbb.out.1 rfl]
     have b8 := Hn.out
     have b9 := Hlt.out
     go_wp2_with fail
     go_roundw
     case rel => exact ⟨k + 1, by have := Hlt.out; omega, by go_num, Hnext, Hw.out⟩
     case measure => simp [intOf]; have := Hlt.out; omega
    | false =>
     have Hno : Hid (p ≠ q) := fun h => by
      have h1 := Hx.out
      rw [h, Hy.out] at h1
      exact absurd (Hbb.out.2 (Option.some.inj h1).symm) (by decide)
     go_wp2_with fail
     go_ret
     exact .of_no Hno.out Hw.out
   ·have hkn : k = n := by omega
    subst hkn
    have d1 : decide (k < k) = false := by simp
    have d2 : decide ((k : Int) < (k : Int)) = false := by simp
    have He : Hid (p = q) := by
     show p = q
     have h := HK.out
     rwa [List.take_of_length_le (by rw [Ha.out.1]; exact Nat.le_refl _), List.take_of_length_le (by rw [Hb.out.1]; exact Nat.le_refl _)] at h
    go_wp2_with fail
    go_ret
    exact .of_yes He.out hg
 ·have e0 : ((n : Int) != (m : Int)) = true := by rw [bne_iff_ne]; omega
  have Hno : Hid (p ≠ q) := fun h => hnm (by rw [← Ha.out.1, ← Hb.out.1, h])
  clear hnm
  go_enter Tryz.func22, Tryz.ntmps22
  go_wp2_with fail
  go_ret
  exact .of_no Hno.out (gb_refl _ _)
def ptrV (N : Nat) (T : TypeId) (cs : Array Value) : Td.Spec := fun W v => ∃ b, v = .pointer (some ⟨b, 0, none⟩) ∧ N ≤ b ∧ Row W b T cs
theorem ptrV_stays {N : Nat} {T : TypeId} {cs : Array Value} : Stays (fun a b => Gn a b) (ptrV N T cs) := fun _ _ _ k ⟨b, e, h, hr⟩ => ⟨b, e, h, hr.kept k (by simp)⟩
theorem refUnwrap_any (own : ByteArray) (r : Rc) (A : Option Addr) (c : Nat) (d : Int) (w : World) (hw : WL w A r.wraps.length r.wraps) (hn : r.wraps.length ≤ 1099511627776) (hbx : ∀ x ∈ r.wraps, x.box.size ≤ 1099511627776) (ho : own.size ≤ 1048576) :
  Calls Tryz.prog 15 #[.string own, .agg (recCs r A c), .int .i64 d] w fun x w' => x = .returned (.agg #[.string ((unwrapR own r d).getD ⟨#[]⟩), .bool (unwrapR own r d).isSome]) ∧ Gn w w' := by
 obtain ⟨a0, ha0⟩ := nmd (w.heap.size)
 obtain ⟨b0, hb0⟩ := nmd (a0 + 1)
 obtain ⟨W0, hW0⟩ := nmd ((w.alloc (.cells (recCs r A c) 25)).alloc (.cells #[.string ⟨#[]⟩, .bool false] 41))
 have g0 : Gn w W0 := by rw [← hW0]; exact gb_alloc (gb_alloc (gb_refl _ _) _) _
 have hr0 : Row W0 a0 25 (recCs r A c) := by rw [← hW0, ← ha0]; exact (Row.new _ _ _).alloc _
 have hr1 : Row W0 b0 41 #[.string ⟨#[]⟩, .bool false] := by
  rw [← hW0, ← hb0, ← ha0]
  have h := Row.new (w.alloc (.cells (recCs r A c) 25)) 41 #[.string ⟨#[]⟩, .bool false]
  rwa [World.size_alloc] at h
 have HY : Hid (∀ W, Gn W0 W → RecC0 W a0 r A c) := fun W hW => rec_row (hr0.kept hW (by simp))
 have HB : Hid (∀ W, Gn W0 W → Row W b0 41 #[.string ⟨#[]⟩, .bool false]) := fun W hW => hr1.kept hW (by simp)
 have HBl : Hid (b0 < W0.heap.size) := hr1.lt
 have Hb0 : Hid (w.heap.size ≤ b0) := by show _ ≤ _; omega
 have HWl : Hid (∀ W, Gn W0 W → WL W A r.wraps.length r.wraps) := fun W hW => hw.keep (gb_none g0 hW)
 have HG := qj g0
 have HWrA : Hid (∀ W, Calls Tryz.prog 42 #[.string own] W fun e w' => e = .returned (.string (Ky.wrapB own)) ∧ Gn W w') := fun W => Ky.refWrap_any own W ho
 have HNcA : Hid (∀ W, Calls Tryz.prog 43 #[.int .i64 r.seq] W fun e w' => e = .returned (.string (Ky.nonceB r.seq)) ∧ Gn W w') := fun W => Ky.refNonce_any r.seq W
 have HHeA : Hid (∀ W, Gn W0 W → Calls Tryz.prog 44 #[.agg (recCs r A c)] W fun e w' => e = .returned (.string (Mb.headB r)) ∧ Gn W w') := fun W hW => refHead_any r A c W (HWl.out W hW) hn
 have HOpA : Hid (∀ x W, x ∈ r.wraps → Calls Tryz.prog 46 #[.string (Ky.wrapB own), .string (Ky.nonceB r.seq), .string (Mb.headB r), .string x.box] W fun e w' => e = .returned (.agg #[.string ((unboxR own r x.box).getD ⟨#[]⟩), .bool (unboxR own r x.box).isSome]) ∧ Gn W w') := fun x W hx => Bx.refOpen_any _ _ _ _ W (Nat.le_trans (head_size r) (by decide)) (Nat.le_trans (hbx x hx) (by decide))
 obtain ⟨n, hnn⟩ := nmd (r.wraps.length)
 have Hnn := qj hnn
 have Hn : Hid (n ≤ 1099511627776) := by show _ ≤ _; omega
 clear g0 hr0 hr1 hw hn hbx ho hnn
 generalize Ky.wrapB own = P9 at *
 generalize Ky.nonceB r.seq = N9 at *
 generalize Mb.headB r = H9 at *
 go_enter Tryz.func15, Tryz.ntmps15
 go_upto_region 1 with fail
 clear hW0 hb0 ha0
 go_wp2_with fail
 go_loopw [7] (fun i wr => ∃ k : Nat, k ≤ n ∧ i = .int .i64 k ∧ Hid (firstW (r.wraps.take k) d = none) ∧ Gn W0 wr) (fun i _ => n - (intOf i).toNat)
 case atStart => exact ⟨0, Nat.zero_le _, rfl, rfl, gb_refl _ _⟩
 case round =>
  obtain ⟨k, hk, rfl, HK, hg⟩ := hrel
  obtain ⟨y0, y1, y2, y3, y4, y5⟩ := HY.out wr hg
  rw [Hnn.out] at y4
  have Hgg := qj (gb_none HG.out hg)
  by_cases hlt : k < n
  ·have d1 : decide (k < n) = true := decide_eq_true hlt
   have d2 : decide ((k : Int) < (n : Int)) = true := dcT
   have HBk : Hid ((k : Int) < (n : Int)) := by show _ < _; omega
   have bk := HBk.out
   have hWL := HWl.out wr hg
   rw [Hnn.out] at hWL
   obtain ⟨g, oo, rfl, hgl, _⟩ := hWL.2 (by omega)
   obtain ⟨x, hx⟩ : ∃ x, r.wraps[k]? = some x := ⟨_, List.getElem?_eq_getElem (by rw [hWL.1]; omega)⟩
   obtain ⟨_, h0, h1⟩ := wl_of hWL hx
   have HZ : Hid (∀ W, Gn wr W → W.cell? ⟨g, oo + k * 2 + 1, none⟩ = some (.string x.box)) := fun W hW => ((wl_of hWL hx).2.kept hgl hW (by simp)).2
   have Hx := qj hx
   have Hlt := qj hlt
   clear hWL hx hgl hk
   by_cases he : x.d = d
   ·have t1 : (x.d == d) = true := by rw [he]; exact beq_self_eq_true _
    have t2 : (x.d != d) = false := by rw [bne, t1]; rfl
    have HE : Hid (unwrapR own r d = keyS (unboxR own r x.box)) := unwrap_some (first_found HK.out Hx.out he)
    obtain ⟨N0, hN0⟩ := nmd (wr.heap.size)
    have HS : Hid (∀ W, Gn wr W → N0 ≤ W.heap.size) := fun W hW => by rw [← hN0]; exact hW.size
    have Hbn : Hid (b0 < N0) := by show _ < _; rw [← hN0]; exact Nat.lt_of_lt_of_le HBl.out hg.size
    have Hwn : Hid (w.heap.size ≤ N0) := by show _ ≤ _; rw [← hN0]; exact Hgg.out.size
    have HOpx := HOpA.out x
    have HYx := qj fun W (hW : Gn wr W) => HY.out W (gb_none hg hW)
    have HBx := qj fun W (hW : Gn wr W) => HB.out W (gb_none hg hW)
    have HHe := qj fun W (hW : Gn wr W) => HHeA.out W (gb_none hg hW)
    have HWr := qj fun W (_ : Gn wr W) => HWrA.out W
    have HNc := qj fun W (_ : Gn wr W) => HNcA.out W
    have HOp := qj fun W (_ : Gn wr W) => HOpx W (List.mem_of_getElem? Hx.out)
    obtain ⟨o9, ho9⟩ := nmd (unboxR own r x.box)
    rw [ho9] at HE HOp
    clear he hlt HOpx HY HB HHeA HWrA HNcA HOpA HWl ho9 hN0
    have HY := HYx
    clear HYx
    go_upto_region 5 with fail
    clear d1 d2 t1 t2 h0 h1 y0 y1 y2 y3 y4 y5 bk
    refine tw_tail 15 ?_
    refine tw_h 0 ?_
    apply tw_xe 0 24
    ·intro W f hW e24 K hK; go_simp; exact ck (HWr.out W hW) hK
    refine tw_h 4 ?_
    apply tw_xe 0 26
    ·intro W f hW e26 K hK; obtain ⟨y0, y1, y2, y3, y4, y5⟩ := HY.out W hW; go_simp; exact kK hK
    apply tw_xe 0 27
    ·intro W f hW e27 K hK; go_simp; exact ck (HNc.out W hW) hK
    apply tw_xh 4
    ·intro W f hW e4 K hK; obtain ⟨y0, y1, y2, y3, y4, y5⟩ := HY.out W hW; go_simp; exact kK hK
    apply tw_xe 0 29
    ·intro W f hW e29 K hK; go_simp; exact ck (HHe.out W hW) hK
    refine tw_h 4 ?_
    apply tw_xe 0 31
    ·intro W f hW e31 K hK; obtain ⟨y0, y1, y2, y3, y4, y5⟩ := HY.out W hW; rw [Hnn.out] at y4; go_simp; exact kK hK
    refine tw_h 7 ?_
    apply tw_xee 1 32 0 33
    ·intro W f hW ⟨e32, e33⟩ K hK; have bk := HBk.out; go_simp; exact kK hK
    refine tw_e 0 34 ?_
    apply tw_xe 0 35
    ·intro W f hW e35 K hK; have z1 := HZ.out W hW; go_simp; exact kK hK
    apply tw_is
    ·intro W f hW hE h0 K hK; have e25 := hE.of 11 25; have e28 := hE.of 8 28; have e30 := hE.of 6 30; have e36 := hE.of 0 36; clear hE h0; refine yes_f ?_; go_simp; exact ck (HOp.out W hW) hK
    apply tw_at ptrV_stays
    ·intro W f hW hE h0 K hK; clear hE h0; refine yes_f ?_; go_simp; exact hK _ _ (gb_alloc (gb_refl _ _) _) ⟨_, rfl, HS.out W hW, Row.new _ _ _⟩
    refine tw_nil fun W f hW hA => ?_
    have e8 := hA 0 (some 8) _ rfl
    have e37 : f 37 = _ := hA 1 (some 37) _ rfl
    rw [e37]
    clear hA
    obtain ⟨b8, e8, hb8, hr8⟩ := e8
    have u0 : W.cell? ⟨b8, 0, none⟩ = some (.string ⟨#[]⟩) := hr8.at_ (i := 0) rfl
    have u1 : W.cell? ⟨b8, 1, none⟩ = some (.bool false) := hr8.at_ (i := 1) rfl
    have p0 := hr8.free 0
    have p1 := hr8.free 1
    have hr9 := (hr8.set_ 0 (.string (o9.getD ⟨#[]⟩))).set_ 1 (.bool o9.isSome)
    have hne : b0 ≠ b8 := by have := Hbn.out; omega
    have hrb := ((HBx.out W hW).far (a := ⟨b8, 0, none⟩) hne (.string (o9.getD ⟨#[]⟩))).far (a := ⟨b8, 1, none⟩) hne (.bool o9.isSome)
    obtain ⟨W6, hW6⟩ := nmd ((W.setCell ⟨b8, 0, none⟩ (.string (o9.getD ⟨#[]⟩))).setCell ⟨b8, 1, none⟩ (.bool o9.isSome))
    have HG6 : Hid (Gn w W6) := by
     rw [← hW6]
     exact gb_new (gb_new (gb_none Hgg.out hW) (gb_set1 _ _ _ _) (by have := Hwn.out; omega)) (gb_set1 _ _ _ _) (by have := Hwn.out; omega)
    rw [hW6] at hr9 hrb
    have HW6 := qj hW6
    have HR := qj hrb
    have HR8 := qj hr9
    rw [e8, ends_is]
    clear hr8 hr9 hrb hb8 hW hW6 hne e8
    go_simp
    rw [HW6.out]
    clear u0 u1 p0 p1 HW6
    have y0 : W6.cell? ⟨b8, 0, none⟩ = some (.string (o9.getD ⟨#[]⟩)) := HR8.out.at_ (i := 0) rfl
    have y1 : W6.cell? ⟨b8, 1, none⟩ = some (.bool o9.isSome) := HR8.out.at_ (i := 1) rfl
    have c0 := HR.out.at_ (i := 0) rfl
    have c1 := HR.out.at_ (i := 1) rfl
    have f0 := HR.out.free 0
    have f1 := HR.out.free 1
    cases o9 with
    | none =>
     go_wp2_with fail
     have HB4 := (HR.out.set_ 0 (.string ⟨#[]⟩)).set_ 1 (.bool false)
     have q0 := HB4.at_ (i := 0) rfl
     have q1 := HB4.at_ (i := 1) rfl
     refine bodyPost_ret (v := .agg #[.string ⟨#[]⟩, .bool false]) (by simp [results, Tryz.results15, go_sem, q0, q1]) rfl ?_
     exact ⟨by rw [HE.out]; rfl, gb_new (gb_new HG6.out (gb_set1 _ _ _ _) Hb0.out) (gb_set1 _ _ _ _) Hb0.out⟩
    | some K9 =>
     by_cases h32 : K9.size = 32
     ·have t3 : ((K9.size : Int) == 32) = true := eq_yes (by omega)
      have t4 : ((K9.size : Int) != 32) = false := by rw [bne, t3]; rfl
      have HE2 : Hid (unwrapR own r d = some K9) := HE.out.trans (keyS_some h32)
      clear h32
      go_wp2_with fail
      have HB4 := (HR.out.set_ 0 (.string K9)).set_ 1 (.bool true)
      have q0 := HB4.at_ (i := 0) rfl
      have q1 := HB4.at_ (i := 1) rfl
      refine bodyPost_ret (v := .agg #[.string K9, .bool true]) (by simp [results, Tryz.results15, go_sem, q0, q1]) rfl ?_
      exact ⟨by rw [HE2.out]; rfl, gb_new (gb_new HG6.out (gb_set1 _ _ _ _) Hb0.out) (gb_set1 _ _ _ _) Hb0.out⟩
     ·have t3 : ((K9.size : Int) == 32) = false := eq_no (by omega)
      have t4 : ((K9.size : Int) != 32) = true := by rw [bne, t3]; rfl
      have HE2 : Hid (unwrapR own r d = none) := HE.out.trans (keyS_no h32)
      clear h32
      go_wp2_with fail
      have HB4 := (HR.out.set_ 0 (.string ⟨#[]⟩)).set_ 1 (.bool false)
      have q0 := HB4.at_ (i := 0) rfl
      have q1 := HB4.at_ (i := 1) rfl
      refine bodyPost_ret (v := .agg #[.string ⟨#[]⟩, .bool false]) (by simp [results, Tryz.results15, go_sem, q0, q1]) rfl ?_
      exact ⟨by rw [HE2.out]; rfl, gb_new (gb_new HG6.out (gb_set1 _ _ _ _) Hb0.out) (gb_set1 _ _ _ _) Hb0.out⟩
   ·have t1 : (x.d == d) = false := by rw [beq_eq_false_iff_ne]; exact he
    have t2 : (x.d != d) = true := by rw [bne, t1]; rfl
    have HN := qj (first_next HK.out Hx.out he)
    clear he
    have b8 := Hn.out
    go_wp2_with fail
    go_roundw
    case rel => exact ⟨k + 1, by omega, by go_num, HN.out, hg⟩
    case measure => simp [intOf]; omega
  ·have hkn : k = n := by omega
   subst hkn
   have d1 : decide (k < k) = false := by simp
   have d2 : decide ((k : Int) < (k : Int)) = false := by simp
   have HE : Hid (unwrapR own r d = none) := unwrap_none (first_end HK.out Hnn.out)
   have HR := qj (HB.out wr hg)
   have c0 := HR.out.at_ (i := 0) rfl
   have c1 := HR.out.at_ (i := 1) rfl
   have f0 := HR.out.free 0
   have f1 := HR.out.free 1
   go_wp2_with fail
   have HB4 := (HR.out.set_ 0 (.string ⟨#[]⟩)).set_ 1 (.bool false)
   have q0 := HB4.at_ (i := 0) rfl
   have q1 := HB4.at_ (i := 1) rfl
   refine bodyPost_ret (v := .agg #[.string ⟨#[]⟩, .bool false]) (by simp [results, Tryz.results15, go_sem, q0, q1]) rfl ?_
   exact ⟨by rw [HE.out]; rfl, gb_new (gb_new Hgg.out (gb_set1 _ _ _ _) Hb0.out) (gb_set1 _ _ _ _) Hb0.out⟩
end Go.Proofs.YtpcjbjpofcdjeaaGreatDoor.Wc
