/- What a wrap opens to: the program's. Written by gen_wc4.py. -/
import Derived.Test.YtpcjbjpofcdjeaaGreatDoorTwq
import Derived.Test.YtpcjbjpofcdjeaaGreatDoorWcSq
set_option linter.unusedVariables false
set_option maxHeartbeats 8000000
set_option maxRecDepth 100000
namespace Go.Proofs.YtpcjbjpofcdjeaaGreatDoor.Wc
open Go Go.RowKit Mm Td Vw Dt
open Mb Ro Hh We
attribute [local go_sem] Td.upon_value Td.upon_skip Td.upon_enter Td.upon_row Td.look_tmp Td.look_const Td.look_func Td.look_global
theorem clos_any (x : Mb.Wp) (bd : Nat) (d : Int) (w : World) (hd : w.cell? ⟨bd, 0, none⟩ = some (.int .i64 d)) :
  Calls Tryz.prog 82 #[.agg #[.int .i64 x.d, .string x.box], .pointer (some ⟨bd, 0, none⟩)] w fun e w' => e = .returned (.bool (x.d == d)) ∧ Gn w w' := by
 have h1 : (w.alloc (.cells #[.int .i64 x.d, .string x.box] 70)).cell? ⟨bd, 0, none⟩ = some (.int .i64 d) := (World.cell?_of_block (a := ⟨bd, 0, none⟩) ((gb_alloc (gb_refl w none) _).block bd (block_lt_of_cell hd) (by simp))).trans hd
 clear hd
 go_enter Tryz.func82, Tryz.ntmps82
 go_wp2_with fail
 go_ret
 exact ⟨rfl, gb_alloc (gb_refl _ _) _⟩
def FirstIs (l : List Mb.Wp) (d : Int) (i : Int) : Prop := (i = -1 ∧ firstW l d = none) ∨ ∃ (k : Nat) (x : Mb.Wp), i = k ∧ l[k]? = some x ∧ firstW l d = some x
theorem find_at : ∀ (l : List Mb.Wp) (d : Int) (k : Nat) (x : Mb.Wp), l[k]? = some x → x.d = d → (∀ j y, j < k → l[j]? = some y → y.d ≠ d) → firstW l d = some x
 | [], _, _, _, h, _, _ => by simp at h
 | y :: l, d, 0, x, h, e, _ => by
  obtain rfl : y = x := by simpa using h
  exact List.find?_cons_of_pos (by simpa using e)
 | y :: l, d, k + 1, x, h, e, hn => by
  have h1 := hn 0 y (by omega) rfl
  have ih := find_at l d k x (by simpa using h) e (fun j z hj hz => hn (j + 1) z (by omega) (by simpa using hz))
  unfold firstW at ih ⊢
  rw [List.find?_cons_of_neg (by simpa using h1)]
  exact ih
theorem idx_any (A : Option Addr) (n c : Nat) (l : List Mb.Wp) (d : Int) (bd : Nat) (w : World) (hl : WL w A n l) (hn : n ≤ 1099511627776) (hd : w.cell? ⟨bd, 0, none⟩ = some (.int .i64 d)) :
  Calls Tryz.prog 81 #[.slice A n c, (.func (.func 82) #[] #[.pointer (some ⟨bd, 0, none⟩)])] w fun e w' => ∃ i, e = .returned (.int .i64 i) ∧ FirstIs l d i ∧ Gn w w' := by
 have Hl := qj hl
 have HF : Hid (∀ (W : World) (x : Mb.Wp), Gn w W → Calls Tryz.prog 82 #[.agg #[.int .i64 x.d, .string x.box], .pointer (some ⟨bd, 0, none⟩)] W fun e w' => e = .returned (.bool (x.d == d)) ∧ Gn W w') := fun W x hW => clos_any x bd d W ((World.cell?_of_block (a := ⟨bd, 0, none⟩) (hW.block bd (block_lt_of_cell hd) (by simp))).trans hd)
 have Hn := qj hn
 clear hl hd hn
 go_enter Tryz.func81, Tryz.ntmps81
 go_wp2_with fail
 go_loopw [8] (fun i wr => ∃ k : Nat, k ≤ n ∧ i = .int .i64 k ∧ Hid (∀ j y, j < k → l[j]? = some y → y.d ≠ d) ∧ Gn w wr) (fun i _ => n - (intOf i).toNat)
 case atStart => exact ⟨0, Nat.zero_le _, rfl, fun j y h => absurd h (by omega), gb_refl _ _⟩
 case round =>
  obtain ⟨k, hk, rfl, H0, hg⟩ := hrel
  have Hg := qj hg
  by_cases hlt : k < n
  ·have d1 : decide (k < n) = true := decide_eq_true hlt
   have d2 : decide ((k : Int) < (n : Int)) = true := dcT
   have bk : (k : Int) < (n : Int) := by omega
   have t1 : IntKind.i64.wrap ((k : Int) + 1) = ((k + 1 : Nat) : Int) := by rw [IntKind.wrap_i64]; have := Hn.out; omega
   have hWL := Hl.out.keep hg
   obtain ⟨g, o, rfl, hgl, _⟩ := hWL.2 (by omega)
   obtain ⟨x, hx⟩ : ∃ x, l[k]? = some x := ⟨_, List.getElem?_eq_getElem (by rw [Hl.out.1]; exact hlt)⟩
   obtain ⟨_, h0, h1⟩ := wl_of hWL hx
   have Hx := qj hx
   have Hlt := qj hlt
   clear hWL hx hgl hg hlt hk
   go_wp2_with fail
   refine (HF.out _ x Hg.out).mono ?_
   rintro e w1 ⟨rfl, g1⟩
   have Hg1 := qj (gb_none Hg.out g1)
   clear g1
   by_cases hq : x.d = d
   ·have q1 : (x.d == d) = true := eq_yes hq
    have hE : Hid (FirstIs l d k) := .inr ⟨k, x, rfl, Hx.out, find_at l d k x Hx.out hq H0.out⟩
    rw [q1]
    clear hq
    go_wp2_with fail
    go_ret
    exact ⟨_, rfl, hE.out, Hg1.out⟩
   ·have q1 : (x.d == d) = false := eq_no hq
    have Hq := qj hq
    rw [q1]
    clear hq
    go_wp2_with fail
    go_roundw
    case rel => exact ⟨k + 1, Hlt.out, by go_num, fun j y hj hy => by
     by_cases e : j = k
     ·subst e
      have h := Hx.out
      rw [hy] at h
      obtain rfl := Option.some.inj h
      exact Hq.out
     ·exact H0.out j y (by omega) hy, Hg1.out⟩
    case measure => simp [intOf]; have := Hlt.out; omega
  ·obtain rfl : k = n := by omega
   have d1 : decide (k < k) = false := by simp
   have d2 : decide ((k : Int) < (k : Int)) = false := by simp
   have hE : Hid (FirstIs l d (-1)) := .inl ⟨rfl, List.find?_eq_none.2 fun x hx => by
    obtain ⟨j, hj⟩ := List.getElem?_of_mem hx
    have := H0.out j x (by have := (List.getElem?_eq_some_iff.1 hj).1; rw [Hl.out.1] at this; exact this) hj
    simpa using this⟩
   clear hlt hg
   go_wp2_with fail
   go_ret
   exact ⟨_, rfl, hE.out, Hg.out⟩
def OpenIs (o : Option ByteArray) (w : World) (e : Ending) (w' : World) : Prop := (∃ v, e = .returned (.tuple #[.string ((o).getD ⟨#[]⟩), v]) ∧ (((o) ≠ none ∧ v = .nilIface) ∨ ((o) = none ∧ Tells 1 v 9))) ∧ Gn w w'
theorem opened_any (own : ByteArray) (r : Rc) (A : Option Addr) (c : Nat) (dev : Int) (w : World) (hw : WL w A r.wraps.length r.wraps) (hn : r.wraps.length ≤ 1099511627776) (hbx : ∀ x ∈ r.wraps, x.box.size ≤ 1099511627776) (ho : own.size ≤ 1048576) (hR : AllR w) :
  Calls Tryz.prog 45 #[.string own, .agg (recCs r A c), .int .i64 dev] w (OpenIs (unwrapR own r dev) w) := by
 obtain ⟨b0, hb0⟩ := nmd (w.heap.size)
 obtain ⟨W0, hW0⟩ := nmd ((w.alloc (.cells (recCs r A c) 25)).alloc (.cells #[.int .i64 dev] 3))
 have g0 : Gn w W0 := by rw [← hW0]; exact gb_alloc (gb_alloc (gb_refl _ _) _) _
 have hra : Row W0 b0 25 (recCs r A c) := by rw [← hW0, ← hb0]; exact (Row.new w _ _).alloc _
 have hrb : Row W0 (b0 + 1) 3 #[.int .i64 dev] := by
  have e : (w.alloc (.cells (recCs r A c) 25)).heap.size = b0 + 1 := by rw [World.size_alloc, hb0]
  rw [← hW0, ← e]; exact Row.new _ _ _
 have HY : Hid (∀ W, Gn W0 W → RecC0 W b0 r A c) := fun W hW => rec_row (hra.kept hW (by simp))
 have HD : Hid (∀ W, Gn W0 W → W.cell? ⟨b0 + 1, 0, none⟩ = some (.int .i64 dev)) := fun W hW => (hrb.kept hW (by simp)).at_ (i := 0) rfl
 have HG := qj g0
 have HI : Hid (Calls Tryz.prog 81 #[.slice A r.wraps.length c, (.func (.func 82) #[] #[.pointer (some ⟨b0 + 1, 0, none⟩)])] W0 fun e w' => ∃ i, e = .returned (.int .i64 i) ∧ FirstIs r.wraps dev i ∧ Gn W0 w') := idx_any A r.wraps.length c r.wraps dev (b0 + 1) W0 (hw.keep g0) hn (HD.out W0 (gb_refl _ _))
 have HWr : Hid (∀ W, Gn W0 W → Calls Tryz.prog 67 #[.string own] W fun e w' => e = .returned (.string (Ky.wrapB own)) ∧ Gn W w') := fun W hW => Ky.pWrap_any own W ho (hR.1.keep (gb_none g0 hW))
 have HNc : Hid (∀ W, Gn W0 W → Calls Tryz.prog 65 #[.int .i64 r.seq] W fun e w' => e = .returned (.string (Ky.nonceB r.seq)) ∧ Gn W w') := fun W hW => Ky.pNonce_any r.seq W
 have HHe : Hid (∀ W, Gn W0 W → Calls Tryz.prog 66 #[.agg (recCs r A c)] W fun e w' => e = .returned (.string (Mb.headB r)) ∧ Gn W w') := fun W hW => Mb.head_any r A c W (hw.keep (gb_none g0 hW)) hn
 have HOpA : Hid (∀ x W, x ∈ r.wraps → Gn W0 W → Calls Tryz.prog 83 #[.string (Ky.wrapB own), .string (Ky.nonceB r.seq), .string (Mb.headB r), .string x.box] W fun e w' => e = .returned (.tuple #[.string ((unboxR own r x.box).getD ⟨#[]⟩), .bool (unboxR own r x.box).isSome]) ∧ Gn W w') := fun x W hx hW => Bx.open_any _ _ _ _ W (by have := head_size r; omega) (by have := hbx x hx; omega) (hR.1.1.keep (gb_none g0 hW) (by simp)) (hR.2.1.keep (gb_none g0 hW))
 have HL := qj hw
 obtain ⟨n, hnn⟩ := nmd (r.wraps.length)
 have Hnn := qj hnn
 have Hn := qj hn
 have ht0 : decide ((-1 : Int) < 0) = true := by decide
 clear g0 hw hn hbx ho hR hra hrb hnn
 generalize Ky.wrapB own = P9 at *
 generalize Ky.nonceB r.seq = N9 at *
 generalize Mb.headB r = H9 at *
 go_enter Tryz.func45, Tryz.ntmps45
 go_upto_region 1 with fail
 clear hW0 hb0
 obtain ⟨y0, y1, y2, y3, y4, y5⟩ := HY.out W0 (gb_refl _ _)
 go_upto_region 2 with (go_at_call 81; refine HI.out.mono ?_; rintro e w1 ⟨i, rfl, hi, g1⟩; have Hg1 := qj g1; clear g1)
 clear y0 y1 y2 y3 y4 y5 HI
 rcases hi with ⟨rfl, hf⟩ | ⟨k, x, rfl, hx, hf⟩
 ·have HE : Hid (unwrapR own r dev = none) := unwrap_none hf
  have z5 := HD.out w1 Hg1.out
  clear hf
  go_wp2_with fail
  refine (refuse_any _ _ _ _).mono ?_
  rintro e _ ⟨rfl, rfl⟩
  go_wp2_with fail
  exact bodyPost_ret (results_tmp2 rfl _ _ _) rfl ⟨⟨_, by rw [HE.out]; rfl, .inr ⟨HE.out, Tells.new (Nat.le_refl _) _ _ (by decide)⟩⟩, gb_none HG.out Hg1.out⟩
 ·have HE : Hid (unwrapR own r dev = keyS (unboxR own r x.box)) := unwrap_some hf
  have hxm := List.mem_of_getElem? hx
  have hkn : k < n := by have := (List.getElem?_eq_some_iff.1 hx).1; have := Hnn.out; omega
  have ht1 : decide ((k : Int) < 0) = false := dcF
  have HOp0 := HOpA.out x
  obtain ⟨g, oo, hA, hgl, hwx⟩ := wl_at (HL.out.keep HG.out) hx
  subst hA
  have HY' := qj fun W (hW : Gn w1 W) => HY.out W (gb_none Hg1.out hW)
  have HZ : Hid (∀ W, Gn w1 W → W.cell? ⟨g, oo + k * 2 + 1, none⟩ = some (.string x.box)) := fun W hW => (hwx.kept hgl (gb_none Hg1.out hW) (by simp)).2
  have HWr' := qj fun W (hW : Gn w1 W) => HWr.out W (gb_none Hg1.out hW)
  have HNc' := qj fun W (hW : Gn w1 W) => HNc.out W (gb_none Hg1.out hW)
  have HHe' := qj fun W (hW : Gn w1 W) => HHe.out W (gb_none Hg1.out hW)
  have HOp' := qj fun W (hW : Gn w1 W) => HOp0 W hxm (gb_none Hg1.out hW)
  have Hbk : Hid ((k : Int) < (r.wraps.length : Int)) := by have := Hnn.out; show _ < _; omega
  clear HY HWr HNc HHe HOpA HOp0 hf hx hxm hkn hgl hwx
  have HY := HY'
  have HWr := HWr'
  have HNc := HNc'
  have HHe := HHe'
  have HOp := HOp'
  clear HY' HWr' HNc' HHe' HOp'
  obtain ⟨o9, ho9⟩ := nmd (unboxR own r x.box)
  rw [ho9] at HE HOp
  clear ho9
  go_upto_region 4 with fail
  clear ht0 ht1
  refine tw_go ?_
  refine tw_h 0 ?_
  apply tw_xe 0 20
  ·intro W f hW e20 K hK; go_simp; exact ck (HWr.out W hW) hK
  refine tw_h 4 ?_
  apply tw_xe 0 22
  ·intro W f hW e22 K hK; obtain ⟨y0, y1, y2, y3, y4, y5⟩ := HY.out W hW; go_simp; exact kK hK
  apply tw_xe 0 23
  ·intro W f hW e23 K hK; go_simp; exact ck (HNc.out W hW) hK
  apply tw_xh 4
  ·intro W f hW e4 K hK; obtain ⟨y0, y1, y2, y3, y4, y5⟩ := HY.out W hW; go_simp; exact kK hK
  apply tw_xe 0 25
  ·intro W f hW e25 K hK; go_simp; exact ck (HHe.out W hW) hK
  refine tw_h 4 ?_
  apply tw_xe 0 27
  ·intro W f hW e27 K hK; obtain ⟨y0, y1, y2, y3, y4, y5⟩ := HY.out W hW; go_simp; exact kK hK
  refine tw_h 8 ?_
  apply tw_xee 1 28 0 29
  ·intro W f hW ⟨e28, e29⟩ K hK; have bk := Hbk.out; go_simp; exact kK hK
  refine tw_e 0 30 ?_
  apply tw_xe 0 31
  ·intro W f hW e31 K hK; have z1 := HZ.out W hW; go_simp; exact kK hK
  apply tw_is
  ·intro W f hW hE h0 K hK; have e21 := hE.of 11 21; have e24 := hE.of 8 24; have e26 := hE.of 6 26; have e32 := hE.of 0 32; clear hE h0; refine yes_f ?_; go_simp; exact ck (HOp.out W hW) hK
  refine tw_e 0 33 ?_
  refine tw_e 0 19 ?_
  refine tw_e 1 19 ?_
  refine tw_e 1 34 ?_
  refine tw_e 1 35 ?_
  refine tw_nil fun W f hW hA => ?_
  have e9 : f 9 = _ := hA 1 (some 9) _ rfl
  rw [e9]
  have e10 : f 10 = _ := hA 0 (some 10) _ rfl
  rw [e10]
  clear hA
  have Hg2 := qj (gb_none HG.out (gb_none Hg1.out hW))
  clear hW HY HWr HNc HHe HOp HZ
  cases o9 with
  | none =>
   have HE2 : Hid (unwrapR own r dev = none) := by show _ = _; rw [HE.out]; rfl
   go_wp2_with fail
   refine (refuse_any _ _ _ _).mono ?_
   rintro e _ ⟨rfl, rfl⟩
   go_wp2_with fail
   exact bodyPost_ret (results_tmp2 rfl _ _ _) rfl ⟨⟨_, by rw [HE2.out]; rfl, .inr ⟨HE2.out, Tells.new (Nat.le_refl _) _ _ (by decide)⟩⟩, Hg2.out⟩
  | some q =>
   by_cases hq : q.size = 32
   ·have HE2 : Hid (unwrapR own r dev = some q) := by show _ = _; rw [HE.out, keyS_some hq]
    have e1 : ((q.size : Int) == 32) = true := eq_yes (by omega)
    have e2 : ((q.size : Int) != 32) = false := by rw [bne, e1]; rfl
    clear hq
    go_wp2_with fail
    exact bodyPost_ret (results_tmp2 rfl _ _ _) rfl ⟨⟨_, by rw [HE2.out]; rfl, .inl ⟨by rw [HE2.out]; simp, rfl⟩⟩, Hg2.out⟩
   ·have HE2 : Hid (unwrapR own r dev = none) := by show _ = _; rw [HE.out, keyS_no hq]
    have e1 : ((q.size : Int) == 32) = false := eq_no (by omega)
    have e2 : ((q.size : Int) != 32) = true := by rw [bne, e1]; rfl
    clear hq
    go_wp2_with fail
    refine (refuse_any _ _ _ _).mono ?_
    rintro e _ ⟨rfl, rfl⟩
    go_wp2_with fail
    exact bodyPost_ret (results_tmp2 rfl _ _ _) rfl ⟨⟨_, by rw [HE2.out]; rfl, .inr ⟨HE2.out, Tells.new (Nat.le_refl _) _ _ (by decide)⟩⟩, Hg2.out⟩
theorem pOpen_any (own : ByteArray) (r : Rc) (A : Option Addr) (c : Nat) (dev : Int) (w : World) (hw : WL w A r.wraps.length r.wraps) (hn : r.wraps.length ≤ 1099511627776) (hbx : ∀ x ∈ r.wraps, x.box.size ≤ 1099511627776) (ho : own.size ≤ 1048576) (hR : AllR w) :
  Calls Tryz.prog 14 #[.string own, .agg (recCs r A c), .int .i64 dev] w fun e w' => e = .returned (.tuple #[.string ((unwrapR own r dev).getD ⟨#[]⟩), .bool (unwrapR own r dev).isSome]) ∧ Gn w w' := by
 obtain ⟨b0, hb0⟩ := nmd (w.heap.size)
 obtain ⟨W0, hW0⟩ := nmd (w.alloc (.cells (recCs r A c) 25))
 obtain ⟨G0, HX⟩ := rec_box hb0 hW0 hw
 obtain ⟨⟨y0, y1, y2, y3, y4, y5⟩, hwl⟩ := HX.out W0 (gb_refl _ _)
 have HO := qj (opened_any own r A c dev W0 hwl hn hbx ho (hR.keep G0))
 have HG := qj G0
 obtain ⟨o9, ho9⟩ := nmd (unwrapR own r dev)
 rw [ho9] at HO ⊢
 clear G0 hw hn hbx ho hR HX hwl ho9
 go_enter Tryz.func14, Tryz.ntmps14
 go_upto_region 1 with fail
 clear hW0 hb0
 go_wp2_with fail
 refine HO.out.mono ?_
 rintro e w1 ⟨⟨v, rfl, hv⟩, g1⟩
 have Hg1 := qj (gb_none HG.out g1)
 clear g1 HO y0 y1 y2 y3 y4 y5
 rcases hv with ⟨h1, rfl⟩ | ⟨rfl, h1⟩
 ·obtain ⟨q, rfl⟩ : ∃ q, o9 = some q := by
   cases o9 with
   | none => exact absurd rfl h1
   | some q => exact ⟨q, rfl⟩
  clear h1
  go_upto_region 2 with fail
  refine tw_go ?_
  refine tw_h 8 ?_
  refine tw_h 9 ?_
  refine tw_e 0 18 ?_
  refine tw_e 2 17 ?_
  refine tw_e 1 19 ?_
  refine tw_nil fun W f hW hA => ?_
  have e6 : f 6 = _ := hA 1 (some 6) _ rfl
  rw [e6]
  have e7 : f 7 = _ := hA 0 (some 7) _ rfl
  rw [e7]
  clear hA
  go_wp2_with fail
  exact bodyPost_ret (results_tmp2 rfl _ _ _) rfl ⟨rfl, gb_none Hg1.out hW⟩
 ·obtain ⟨t0, p0, rfl⟩ := h1.iface (by decide)
  clear h1
  go_upto_region 2 with fail
  refine tw_go ?_
  refine tw_h 8 ?_
  refine tw_h 9 ?_
  refine tw_e 0 18 ?_
  refine tw_e 2 17 ?_
  refine tw_e 1 19 ?_
  refine tw_nil fun W f hW hA => ?_
  have e6 : f 6 = _ := hA 1 (some 6) _ rfl
  rw [e6]
  have e7 : f 7 = _ := hA 0 (some 7) _ rfl
  rw [e7]
  clear hA
  go_wp2_with fail
  exact bodyPost_ret (results_tmp2 rfl _ _ _) rfl ⟨rfl, gb_none Hg1.out hW⟩
end Go.Proofs.YtpcjbjpofcdjeaaGreatDoor.Wc
