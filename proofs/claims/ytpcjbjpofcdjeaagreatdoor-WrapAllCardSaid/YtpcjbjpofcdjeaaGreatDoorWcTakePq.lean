/- The program's checks of a record that comes, and the keys that it brings. Written by gen_wc9.py. -/
import Derived.Test.YtpcjbjpofcdjeaaGreatDoorWcTq
import Derived.Test.YtpcjbjpofcdjeaaGreatDoorTwq
import Derived.Test.YtpcjbjpofcdjeaaGreatDoorWcOpenq
import Derived.Test.YtpcjbjpofcdjeaaGreatDoorWcDeedq
import Derived.Test.YtpcjbjpofcdjeaaGreatDoorWcSameq
set_option linter.unusedVariables false
set_option maxHeartbeats 8000000
set_option maxRecDepth 100000
namespace Go.Proofs.YtpcjbjpofcdjeaaGreatDoor.Wc
open Go Go.RowKit Mm Td Vw Dt
open Mb Ro Hh We
attribute [local go_sem] Td.upon_value Td.upon_skip Td.upon_enter Td.upon_row Td.look_tmp Td.look_const Td.look_func Td.look_global
theorem had_any (A K : Option Addr) (n c m kc : Nat) (l : List Rc) (ks : List Mb.Wp) (w : World) (hl : LogL w A n l) (hb : ∀ r ∈ l, r.wraps.length ≤ 1099511627776) (hk : WL w K m ks) (hm : m ≤ 999999) (hT : Tabs w) (hE : Me.MErrs w) :
  Calls Tryz.prog 84 #[.slice A n c, .slice K m kc] w fun e w' => (∃ v k, e = .returned v ∧ Tells 1 v k ∧ ((k = 0 ∧ ChainR l ∧ RiseW ks) ∨ (k = 1 ∧ ¬ (ChainR l ∧ RiseW ks)))) ∧ Gn w w' := by
 have HC : Hid (Calls Tryz.prog 62 #[.slice A n c] w (BoolIs (ChainR l) w)) := check_log A n c l w hl hb hT hE
 have Hk := qj hk
 have Hm := qj hm
 clear hl hb hk hm hT hE
 go_enter Tryz.func84, Tryz.ntmps84
 go_wp2_with fail
 refine HC.out.mono ?_
 intro e w1 hh
 by_cases hck : ChainR l
 ·obtain ⟨rfl, g1⟩ := hh.yes hck
  have Hck := qj hck
  clear hh hck HC
  go_wp2_with fail
  go_loopw [15] (fun i wr => ∃ k : Nat, k ≤ m ∧ i = .int .i64 k ∧ Hid (RiseW (ks.take k)) ∧ Gn w wr) (fun i _ => m - (intOf i).toNat)
  case atStart => exact ⟨0, Nat.zero_le _, rfl, (fun i a b _ h => by have := (List.getElem?_eq_some_iff.1 h).1; rw [List.length_take] at this; omega), g1⟩
  case round =>
   obtain ⟨k, hk, rfl, HK, hg⟩ := hrel
   by_cases hlt : k < m
   ·have d1 : decide (k < m) = true := decide_eq_true hlt
    have d2 : decide ((k : Int) < (m : Int)) = true := dcT
    have hWL := Hk.out.keep hg
    obtain ⟨g, o, rfl, hgl, _⟩ := hWL.2 (by omega)
    obtain ⟨y, hy⟩ : ∃ y, ks[k]? = some y := ⟨_, List.getElem?_eq_getElem (by rw [hWL.1]; exact hlt)⟩
    obtain ⟨_, h0, h1⟩ := wl_of hWL hy
    obtain ⟨b6, hb6⟩ := nmd (wr.heap.size)
    obtain ⟨W1, hW1⟩ := nmd (wr.alloc (.cells #[.int .i64 y.d, .string y.box] 31))
    have HBx : Hid (∀ W, Gn W1 W → Row W b6 31 #[.int .i64 y.d, .string y.box]) := fun W hW => by
     have h : Row W1 b6 31 #[.int .i64 y.d, .string y.box] := by rw [← hW1, ← hb6]; exact Row.new _ _ _
     exact h.kept hW (by simp)
    have HgW1 : Hid (Gn wr W1) := by rw [← hW1]; exact gb_alloc (gb_refl _ _) _
    have bk : (k : Int) < (m : Int) := by omega
    have HW1 := qj hW1
    clear hW1
    have Hg := qj hg
    have Hy := qj hy
    have Hlt := qj hlt
    have HWL := qj hWL
    have Hgl := qj hgl
    clear hWL hgl hk hlt hg hy
    go_upto_region 6 with fail
    rw [HW1.out]
    clear d1 d2 h0 h1 hb6 HW1 bk
    have h3 : k = 0 ∨ (∃ j x, k = j + 1 ∧ ks[j]? = some x ∧ x.d < y.d) ∨ ∃ j x, k = j + 1 ∧ ks[j]? = some x ∧ y.d ≤ x.d := by
     by_cases hk0 : k = 0
     ·exact .inl hk0
     ·obtain ⟨j, hj⟩ : ∃ j, k = j + 1 := ⟨k - 1, by omega⟩
      obtain ⟨x, hx⟩ : ∃ x, ks[j]? = some x := ⟨_, List.getElem?_eq_getElem (by rw [HWL.out.1]; have := Hlt.out; omega)⟩
      by_cases hxy : x.d < y.d
      ·exact .inr (.inl ⟨j, x, hj, hx, hxy⟩)
      ·exact .inr (.inr ⟨j, x, hj, hx, by omega⟩)
    rcases h3 with hk0 | ⟨j, x, hj, hx, hxy⟩ | ⟨j, x, hj, hx, hxy⟩
    case' inl =>
     have d3 : decide (0 < k) = false := dcF
     have d4 : decide ((0 : Int) < (k : Int)) = false := dcF
     have HN : Hid (RiseW (ks.take (k + 1))) := by subst hk0; exact rise_one ks
     clear hk0
    case' inr.inl =>
     have v1 : decide (y.d ≤ x.d) = false := dcF
     have HN : Hid (RiseW (ks.take (k + 1))) := by rw [hj]; exact rise_next (by rw [← hj]; exact HK.out) hx (by rw [← hj]; exact Hy.out) hxy
     have d3 : decide (0 < k) = true := dcT
     have d4 : decide ((0 : Int) < (k : Int)) = true := dcT
     have HX : Hid (∀ W, Gn W1 W → W.cell? ⟨g, o + j * 2, none⟩ = some (.int .i64 x.d)) := fun W hW => ((wl_of HWL.out hx).2.kept Hgl.out (gb_none HgW1.out hW) (by simp)).1
     have HJ : Hid (IntKind.i64.wrap ((k : Int) - 1) = (j : Int) ∧ 0 ≤ (j : Int) ∧ (j : Int) < (m : Int)) := ⟨by rw [IntKind.wrap_i64]; have := Hlt.out; have := Hm.out; omega, by omega, by have := Hlt.out; omega⟩
     clear hj hx hxy
    case' inr.inr =>
     have v1 : decide (y.d ≤ x.d) = true := decide_eq_true hxy
     have HF : Hid (¬ RiseW ks) := fun h => by have := h j x y hx (by rw [← hj]; exact Hy.out); omega
     have d3 : decide (0 < k) = true := dcT
     have d4 : decide ((0 : Int) < (k : Int)) = true := dcT
     have HX : Hid (∀ W, Gn W1 W → W.cell? ⟨g, o + j * 2, none⟩ = some (.int .i64 x.d)) := fun W hW => ((wl_of HWL.out hx).2.kept Hgl.out (gb_none HgW1.out hW) (by simp)).1
     have HJ : Hid (IntKind.i64.wrap ((k : Int) - 1) = (j : Int) ∧ 0 ≤ (j : Int) ∧ (j : Int) < (m : Int)) := ⟨by rw [IntKind.wrap_i64]; have := Hlt.out; have := Hm.out; omega, by omega, by have := Hlt.out; omega⟩
     clear hj hx hxy
    all_goals
     refine tw_go ?_
     refine tw_h 5 ?_
     refine tw_e 0 20 ?_
     refine tw_e 0 21 ?_
     first | refine tw_no 0 ?_ | refine tw_gh 0 22 6 ?_
     first | refine tw_no 1 ?_ | (apply tw_is; · intro W f hW hE h0 K hK; have e23 := hE.of 0 23; have e22 := hE.of 1 22; clear hE h0; refine yes_g e22 ?_; have z6 := (HBx.out W hW).at_ (i := 0) rfl; go_simp; exact kK hK)
     first | refine tw_no 2 ?_ | refine tw_gh 2 22 1 ?_
     first | refine tw_no 3 ?_ | refine tw_gh 3 22 5 ?_
     first | refine tw_no 4 ?_ | (apply tw_is; · intro W f hW hE h0 K hK; have e26 := hE.of 0 26; have e22 := hE.of 4 22; clear hE h0; refine yes_g e22 ?_; obtain ⟨tj, bk0, bk⟩ := HJ.out; go_simp; exact kK hK)
     first | refine tw_no 5 ?_ | (apply tw_is; · intro W f hW hE h0 K hK; have e25 := hE.of 2 25; have e27 := hE.of 0 27; have e22 := hE.of 5 22; clear hE h0; refine yes_g e22 ?_; obtain ⟨tj, bk0, bk⟩ := HJ.out; go_simp; exact kK hK)
     first | refine tw_no 6 ?_ | refine tw_ge 6 22 0 28 ?_
     first | refine tw_no 7 ?_ | (apply tw_is; · intro W f hW hE h0 K hK; have e29 := hE.of 0 29; have e22 := hE.of 7 22; clear hE h0; refine yes_g e22 ?_; have z7 := HX.out W hW; go_simp; exact kK hK)
     first | refine tw_no 8 ?_ | (apply tw_is; · intro W f hW hE h0 K hK; have e24 := hE.of 6 24; have e30 := hE.of 0 30; have e22 := hE.of 8 22; clear hE h0; refine yes_g e22 ?_; go_simp; exact kK hK)
     refine tw_ee 9 22 0 31 ?_
     refine tw_nil fun W f hW hA => ?_
     have e32 : f 32 = _ := hA 0 (some 32) _ rfl
     rw [e32]
     clear hA
     have Hw := qj (gb_none (gb_none Hg.out HgW1.out) hW)
     clear hW
     first | (have hf := HF.out; clear hf; go_wp2_with fail; refine (refuse_any _ _ _ _).mono ?_; rintro e _ ⟨rfl, rfl⟩; go_wp2_with fail; go_ret; exact ⟨⟨_, 1, rfl, Tells.new (Nat.le_refl _) _ _ (by decide), .inr ⟨rfl, fun h => HF.out h.2⟩⟩, Hw.out⟩) | (have b8 := Hm.out; have b9 := Hlt.out; go_wp2_with fail; go_roundw; (case rel => exact ⟨k + 1, by have := Hlt.out; omega, by go_num, HN, Hw.out⟩); (case measure => simp [intOf]; have := Hlt.out; omega))
   ·have hkm : m = k := by omega
    subst hkm
    have d1 : decide (m < m) = false := by simp
    have d2 : decide ((m : Int) < (m : Int)) = false := by simp
    have He : Hid (RiseW ks) := by
     have h := HK.out
     rwa [List.take_of_length_le (by rw [Hk.out.1]; exact Nat.le_refl _)] at h
    go_wp2_with fail
    go_ret
    exact ⟨⟨_, 0, rfl, .none _, .inl ⟨rfl, Hck.out, He.out⟩⟩, hg⟩
 ·obtain ⟨rfl, g1⟩ := hh.no hck
  have HF : Hid (¬ ChainR l) := hck
  have Hw := qj g1
  clear hh hck HC g1
  go_wp2_with fail
  refine (refuse_any _ _ _ _).mono ?_
  rintro e _ ⟨rfl, rfl⟩
  go_wp2_with fail
  go_ret
  exact ⟨⟨_, 1, rfl, Tells.new (Nat.le_refl _) _ _ (by decide), .inr ⟨rfl, fun h => HF.out h.1⟩⟩, Hw.out⟩
open Classical in
noncomputable def nextE (l : List Rc) (r : Rc) : Int := if 1 ≤ r.seq ∧ r.seq ≤ l.length then (if l[(r.seq - 1).toNat]? = some r then 10 else 11) else if (l.length : Int) + 1 < r.seq then 6 else if ¬ ChainR (l ++ [r]) then 11 else 0
theorem nextE_same {l : List Rc} {r : Rc} (h1 : 1 ≤ r.seq ∧ r.seq ≤ l.length) (h2 : l[(r.seq - 1).toNat]? = some r) : nextE l r = 10 := by unfold nextE; rw [if_pos h1, if_pos h2]
theorem nextE_fork {l : List Rc} {r : Rc} (h1 : 1 ≤ r.seq ∧ r.seq ≤ l.length) (h2 : l[(r.seq - 1).toNat]? ≠ some r) : nextE l r = 11 := by unfold nextE; rw [if_pos h1, if_neg h2]
theorem nextE_early {l : List Rc} {r : Rc} (h1 : (l.length : Int) + 1 < r.seq) : nextE l r = 6 := by unfold nextE; rw [if_neg (by omega), if_pos h1]
theorem nextE_other {l : List Rc} {r : Rc} (h1 : ¬ (1 ≤ r.seq ∧ r.seq ≤ l.length)) (h2 : ¬ (l.length : Int) + 1 < r.seq) (h3 : ¬ ChainR (l ++ [r])) : nextE l r = 11 := by unfold nextE; rw [if_neg h1, if_neg h2, if_pos h3]
theorem nextE_ok {l : List Rc} {r : Rc} (h1 : ¬ (1 ≤ r.seq ∧ r.seq ≤ l.length)) (h2 : ¬ (l.length : Int) + 1 < r.seq) (h3 : ChainR (l ++ [r])) : nextE l r = 0 := by unfold nextE; rw [if_neg h1, if_neg h2, if_neg (fun k => k h3)]
theorem nextE_zero {l : List Rc} {r : Rc} (h : nextE l r = 0) : ¬ (1 ≤ r.seq ∧ r.seq ≤ l.length) ∧ ¬ (l.length : Int) + 1 < r.seq ∧ ChainR (l ++ [r]) := by
 unfold nextE at h
 split at h
 ·split at h <;> cases h
 ·split at h
  ·cases h
  ·split at h
   ·cases h
   ·rename_i h1 h2 h3
    exact ⟨h1, h2, Classical.not_not.1 h3⟩
theorem take_nextE {l : List Rc} {ks : List Mb.Wp} {own : ByteArray} {id : Int} {r : Rc} (h : ChainR l ∧ RiseW ks) (h0 : nextE l r ≠ 0) : takeE l ks own id r = nextE l r := by
 unfold nextE takeE at *
 rw [if_neg (fun k => k h)]
 by_cases h1 : 1 ≤ r.seq ∧ r.seq ≤ l.length
 ·rw [if_pos h1, if_pos h1]
 ·rw [if_neg h1] at h0 ⊢
  rw [if_neg h1]
  by_cases h2 : (l.length : Int) + 1 < r.seq
  ·rw [if_pos h2, if_pos h2]
  ·rw [if_neg h2] at h0 ⊢
   rw [if_neg h2]
   by_cases h3 : ChainR (l ++ [r])
   ·rw [if_neg (fun k => k h3)] at h0; exact absurd rfl h0
   ·rw [if_pos h3, if_pos h3]
theorem next_any (A RA : Option Addr) (n c rc : Nat) (l : List Rc) (r : Rc) (w : World) (hl : LogL w A n l) (hn : n ≤ 999999) (hc : n ≤ c) (hb : ∀ x ∈ l, x.wraps.length ≤ 1099511627776) (hw : WL w RA r.wraps.length r.wraps) (hrn : r.wraps.length ≤ 1099511627776) (hrc : r.wraps.length ≤ rc) (hT : Tabs w) (hE : Me.MErrs w) :
  Calls Tryz.prog 85 #[.slice A n c, .agg (recCs r RA rc)] w fun e w' => (∃ v, e = .returned v ∧ Tells 1 v (nextE l r)) ∧ Gn w w' := by
 obtain ⟨b0, hb0⟩ := nmd (w.heap.size)
 obtain ⟨W0, hW0⟩ := nmd (w.alloc (.cells (recCs r RA rc) 25))
 obtain ⟨G0, HX⟩ := rec_box hb0 hW0 hw
 obtain ⟨⟨y0, y1, y2, y3, y4, y5⟩, hwl⟩ := HX.out W0 (gb_refl _ _)
 have HG := qj G0
 have Hn := qj hn
 have Hln : Hid (l.length = n) := hl.1
 have HWi := qj (with_any A n c l r RA rc W0 (hl.keep G0) (by omega) hc hwl hrc)
 have HCk : Hid (∀ A' c' W, LogL W A' (n + 1) (l ++ [r]) → Gn W0 W → Calls Tryz.prog 62 #[.slice A' (n + 1) c'] W (BoolIs (ChainR (l ++ [r])) W)) := fun A' c' W h1 g => check_log A' (n + 1) c' (l ++ [r]) W h1 (fun x hx => (List.mem_append.1 hx).elim (hb x) fun h => by rw [List.mem_singleton.1 h]; exact hrn) (hT.keep (gb_none G0 g) (fun _ h => by cases h)) (hE.keep (gb_none G0 g))
 have HLg : Hid (∀ W, Gn W0 W → LogL W A n l) := fun W hW => hl.keep (gb_none G0 hW)
 have HSm : Hid (∀ (x : Rc) XA xc W, x ∈ l → WL W XA x.wraps.length x.wraps → Gn W0 W → Calls Tryz.prog 123 #[.agg (recCs x XA xc), .agg (recCs r RA rc)] W (BoolIs (x = r) W)) := fun x XA xc W hx h1 g => same_any x r XA RA xc rc W h1 (hwl.keep g) (hb x hx)
 have tw : IntKind.i64.wrap ((n : Int) + 1) = (n : Int) + 1 := by rw [IntKind.wrap_i64]; omega
 clear hl hn hc hb hw hrn hrc hT hE G0 hwl
 go_enter Tryz.func85, Tryz.ntmps85
 go_upto_region 1 with fail
 clear hW0 hb0
 by_cases h1 : 1 ≤ r.seq
 ·have e1 : decide (1 ≤ r.seq) = true := decide_eq_true h1
  by_cases h2 : r.seq ≤ (n : Int)
  ·have e2 : decide (r.seq ≤ (n : Int)) = true := decide_eq_true h2
   obtain ⟨j, hj⟩ : ∃ j : Nat, r.seq = (j : Int) + 1 := ⟨(r.seq - 1).toNat, by omega⟩
   have Hs1 : Hid (1 ≤ r.seq ∧ r.seq ≤ l.length) := by rw [Hln.out]; exact ⟨h1, h2⟩
   have HJ : Hid (IntKind.i64.wrap (r.seq - 1) = (j : Int) ∧ 0 ≤ (j : Int) ∧ (j : Int) < (n : Int)) := ⟨by rw [IntKind.wrap_i64]; have := Hn.out; omega, by omega, by omega⟩
   have hA := HLg.out W0 (gb_refl _ _)
   obtain ⟨g, o, rfl, hgl, _⟩ := hA.2 (by omega)
   obtain ⟨x, hx⟩ : ∃ x, l[j]? = some x := ⟨_, List.getElem?_eq_getElem (by rw [Hln.out]; omega)⟩
   obtain ⟨XA, xc, hX⟩ := rc_kept (log_rec hA hx).2 hgl
   have HXr : Hid (∀ W, Gn W0 W → W.cell? ⟨g, o + j * 6, none⟩ = some (.int .i64 x.seq) ∧ W.cell? ⟨g, o + j * 6 + 1, none⟩ = some (.string x.prev) ∧ W.cell? ⟨g, o + j * 6 + 2, none⟩ = some (.int .i64 x.kind) ∧ W.cell? ⟨g, o + j * 6 + 3, none⟩ = some (.int .i64 x.dev) ∧ W.cell? ⟨g, o + j * 6 + 4, none⟩ = some (.slice XA x.wraps.length xc) ∧ W.cell? ⟨g, o + j * 6 + 5, none⟩ = some (.string x.tag)) := fun W hW => (hX W hW).1
   obtain ⟨b, hbq⟩ : ∃ b : Bool, (b = true ↔ x = r) := by
    by_cases h : x = r
    ·exact ⟨true, by simp [h]⟩
    ·exact ⟨false, by simp [h]⟩
   have HQ : Hid (∀ V, Gn W0 V → Calls Tryz.prog 123 #[.agg (recCs x XA xc), .agg (recCs r RA rc)] V fun e w' => e = .returned (.bool b) ∧ Gn V w') := fun V hV => (HSm.out x XA xc V (List.mem_of_getElem? hx) (hX V hV).2 hV).mono fun e w' h => by
    by_cases hxy : x = r
    ·rw [hbq.2 hxy]; exact h.yes hxy
    ·rw [show b = false from by cases b with | false => rfl | true => exact absurd (hbq.1 rfl) hxy]; exact h.no hxy
   have Hs2 : Hid (l[(r.seq - 1).toNat]? = some x) := by
    have h3 : (r.seq - 1).toNat = j := by omega
    show _ = _
    rw [h3]; exact hx
   have Hb := qj hbq
   clear hA hgl hX hx hbq h1 h2 hj tw HSm HCk HWi HLg
   go_upto_region 2 with fail
   clear e1 e2 y0 y1 y2 y3 y4 y5
   refine tw_go ?_
   refine tw_h 0 ?_
   refine tw_h 3 ?_
   apply tw_xe 0 17
   ·intro W f hW e17 K hK; obtain ⟨⟨y0, y1, y2, y3, y4, y5⟩, _⟩ := HX.out W hW; go_simp; exact kK hK
   apply tw_xe 0 18
   ·intro W f hW e18 K hK; obtain ⟨tj, bk0, bk⟩ := HJ.out; go_simp; exact kK hK
   apply tw_xee 3 16 0 19
   ·intro W f hW ⟨e16, e19⟩ K hK; obtain ⟨tj, bk0, bk⟩ := HJ.out; go_simp; exact kK hK
   apply tw_xe 0 20
   ·intro W f hW e20 K hK; obtain ⟨z0, z1, z2, z3, z4, z5⟩ := HXr.out W hW; go_simp; exact kK hK
   apply tw_xh 3
   ·intro W f hW e3 K hK; obtain ⟨⟨y0, y1, y2, y3, y4, y5⟩, _⟩ := HX.out W hW; go_simp; exact kK hK
   apply tw_xee 1 21 0 22
   ·intro W f hW ⟨e21, e22⟩ K hK; go_simp; exact ck (HQ.out W hW) hK
   refine tw_nil fun W f hW hA => ?_
   have e23 : f 23 = _ := hA 0 (some 23) _ rfl
   rw [e23]
   clear hA
   have Hw := qj (gb_none HG.out hW)
   obtain ⟨⟨y0, y1, y2, y3, y4, y5⟩, _⟩ := HX.out W hW
   clear hW
   cases b with
   | true =>
    have HE : Hid (nextE l r = 10) := nextE_same Hs1.out (by rw [Hs2.out]; exact congrArg some (by first | exact Hb.out.1 rfl | exact Hb.out))
    clear Hb
    go_wp2_with fail
    refine (refuse_any _ _ _ _).mono ?_
    rintro e _ ⟨rfl, rfl⟩
    go_wp2_with fail
    go_ret
    exact ⟨⟨_, rfl, by rw [HE.out]; exact Tells.new (Nat.le_refl _) _ _ (by decide)⟩, Hw.out⟩
   | false =>
    have HE : Hid (nextE l r = 11) := nextE_fork Hs1.out (by rw [Hs2.out]; exact fun e => by have := Hb.out.2 (Option.some.inj e); cases this)
    clear Hb
    go_wp2_with fail
    refine (refuse_any _ _ _ _).mono ?_
    rintro e _ ⟨rfl, rfl⟩
    go_wp2_with fail
    go_ret
    exact ⟨⟨_, rfl, by rw [HE.out]; exact Tells.new (Nat.le_refl _) _ _ (by decide)⟩, Hw.out⟩
  ·have e2 : decide (r.seq ≤ (n : Int)) = false := decide_eq_false h2
   by_cases h3 : (n : Int) + 1 < r.seq
   ·have e3 : decide ((n : Int) + 1 < r.seq) = true := decide_eq_true h3
    have HE : Hid (nextE l r = 6) := nextE_early (by rw [Hln.out]; exact h3)
    clear h1 h2 h3
    go_wp2_with fail
    refine (refuse_any _ _ _ _).mono ?_
    rintro e _ ⟨rfl, rfl⟩
    go_wp2_with fail
    go_ret
    exact ⟨⟨_, rfl, by rw [HE.out]; exact Tells.new (Nat.le_refl _) _ _ (by decide)⟩, HG.out⟩
   ·have e3 : decide ((n : Int) + 1 < r.seq) = false := decide_eq_false h3
    have H1 : Hid (¬ (1 ≤ r.seq ∧ r.seq ≤ l.length)) := by rw [Hln.out]; exact fun h => h2 h.2
    have H2 : Hid (r.seq ≤ (l.length : Int) + 1) := by rw [Hln.out]; show _ ≤ _; omega
    clear h1 h2 h3
    go_wp2_with fail
    refine HWi.out.mono ?_
    rintro e w2 ⟨A2, c2, rfl, hl2, hc2, g2⟩
    have HC2 := qj (HCk.out A2 c2 w2 hl2 g2)
    have Hg2 := qj (gb_none HG.out g2)
    clear hl2 hc2 g2 HWi y0 y1 y2 y3 y4 y5
    go_wp2_with fail
    refine HC2.out.mono ?_
    intro e w3 hh
    by_cases hck : ChainR (l ++ [r])
    ·obtain ⟨rfl, g3⟩ := hh.yes hck
     have HE : Hid (nextE l r = 0) := nextE_ok H1.out (by have := H2.out; omega) hck
     have Hw := qj (gb_none Hg2.out g3)
     clear hh hck HC2 g3
     go_wp2_with fail
     go_ret
     exact ⟨⟨_, rfl, by rw [HE.out]; exact .none _⟩, Hw.out⟩
    ·obtain ⟨rfl, g3⟩ := hh.no hck
     have HE : Hid (nextE l r = 11) := nextE_other H1.out (by have := H2.out; omega) hck
     have Hw := qj (gb_none Hg2.out g3)
     clear hh hck HC2 g3
     go_wp2_with fail
     refine (refuse_any _ _ _ _).mono ?_
     rintro e _ ⟨rfl, rfl⟩
     go_wp2_with fail
     go_ret
     exact ⟨⟨_, rfl, by rw [HE.out]; exact Tells.new (Nat.le_refl _) _ _ (by decide)⟩, Hw.out⟩
 ·have e1 : decide (1 ≤ r.seq) = false := decide_eq_false h1
  have e3 : decide ((n : Int) + 1 < r.seq) = false := dcF
  have H1 : Hid (¬ (1 ≤ r.seq ∧ r.seq ≤ l.length)) := fun h => h1 h.1
  have H2 : Hid (r.seq ≤ (l.length : Int) + 1) := by rw [Hln.out]; show _ ≤ _; omega
  clear h1
  go_wp2_with fail
  refine HWi.out.mono ?_
  rintro e w2 ⟨A2, c2, rfl, hl2, hc2, g2⟩
  have HC2 := qj (HCk.out A2 c2 w2 hl2 g2)
  have Hg2 := qj (gb_none HG.out g2)
  clear hl2 hc2 g2 HWi y0 y1 y2 y3 y4 y5
  go_wp2_with fail
  refine HC2.out.mono ?_
  intro e w3 hh
  by_cases hck : ChainR (l ++ [r])
  ·obtain ⟨rfl, g3⟩ := hh.yes hck
   have HE : Hid (nextE l r = 0) := nextE_ok H1.out (by have := H2.out; omega) hck
   have Hw := qj (gb_none Hg2.out g3)
   clear hh hck HC2 g3
   go_wp2_with fail
   go_ret
   exact ⟨⟨_, rfl, by rw [HE.out]; exact .none _⟩, Hw.out⟩
  ·obtain ⟨rfl, g3⟩ := hh.no hck
   have HE : Hid (nextE l r = 11) := nextE_other H1.out (by have := H2.out; omega) hck
   have Hw := qj (gb_none Hg2.out g3)
   clear hh hck HC2 g3
   go_wp2_with fail
   refine (refuse_any _ _ _ _).mono ?_
   rintro e _ ⟨rfl, rfl⟩
   go_wp2_with fail
   go_ret
   exact ⟨⟨_, rfl, by rw [HE.out]; exact Tells.new (Nat.le_refl _) _ _ (by decide)⟩, Hw.out⟩
theorem tagged_any (K RA : Option Addr) (m kc rc : Nat) (ks : List Mb.Wp) (r : Rc) (w : World) (hk : WL w K m ks) (hm : m ≤ 999999) (hks : ∀ x ∈ ks, x.box.size ≤ 1048576) (hw : WL w RA r.wraps.length r.wraps) (hrn : r.wraps.length ≤ 1099511627776) (hsq : 1 ≤ r.seq ∧ r.seq ≤ 1000000) (htg : r.tag.size ≤ 9223372036854775807) (hT : Tabs w) :
  Calls Tryz.prog 86 #[.slice K m kc, .agg (recCs r RA rc)] w fun e w' => (∃ v k, e = .returned v ∧ Tells 1 v k ∧ ((k = 0 ∧ ∀ x ∈ ks, x.d = r.seq - 1 → r.tag = tagR x.box r) ∨ (k = 9 ∧ ∃ x ∈ ks, x.d = r.seq - 1 ∧ r.tag ≠ tagR x.box r))) ∧ Gn w w' := by
 obtain ⟨b0, hb0⟩ := nmd (w.heap.size)
 obtain ⟨W0, hW0⟩ := nmd (w.alloc (.cells (recCs r RA rc) 25))
 obtain ⟨G0, HX⟩ := rec_box hb0 hW0 hw
 have HG := qj G0
 have Hk := qj (hk.keep G0)
 have Hm := qj hm
 have Hks := qj hks
 obtain ⟨q, hq⟩ := nmd (r.seq - 1)
 have HTq : Hid (IntKind.i64.wrap (r.seq - 1) = q) := by show _ = _; rw [IntKind.wrap_i64]; omega
 have HTgA : Hid (∀ k W, k.size ≤ 1048576 → Gn W0 W → Calls Tryz.prog 20 #[.string k, .agg (recCs r RA rc)] W fun e w' => e = .returned (.string (tagR k r)) ∧ Gn W w') := fun k W h hW => pTag_any k r RA rc W (hw.keep (gb_none G0 hW)) hrn h (hT.keep (gb_none G0 hW) (fun _ h => by cases h))
 have HEqA : Hid (∀ t W, Calls Tryz.prog 124 #[.string r.tag, .string t] W fun e w' => e = .returned (.bool (Hh.eqB r.tag t)) ∧ Gn W w') := fun t W => Hh.equal_any r.tag t W htg
 rw [hq]
 clear hk hm hks hw hrn hsq htg hT G0 hq
 go_enter Tryz.func86, Tryz.ntmps86
 go_upto_region 1 with fail
 clear hW0 hb0
 go_wp2_with fail
 go_loopw [9] (fun i wr => ∃ k : Nat, k ≤ m ∧ i = .int .i64 k ∧ Hid (∀ x ∈ ks.take k, x.d = q → r.tag = tagR x.box r) ∧ Gn W0 wr) (fun i _ => m - (intOf i).toNat)
 case atStart => exact ⟨0, Nat.zero_le _, rfl, (fun x hx => by simp at hx), gb_refl _ _⟩
 case round =>
  obtain ⟨k, hk, rfl, HK, hg⟩ := hrel
  by_cases hlt : k < m
  ·have d1 : decide (k < m) = true := decide_eq_true hlt
   have d2 : decide ((k : Int) < (m : Int)) = true := dcT
   have hWL := Hk.out.keep hg
   obtain ⟨g, o, rfl, hgl, _⟩ := hWL.2 (by omega)
   obtain ⟨y, hy⟩ : ∃ y, ks[k]? = some y := ⟨_, List.getElem?_eq_getElem (by rw [hWL.1]; exact hlt)⟩
   obtain ⟨_, h0, h1⟩ := wl_of hWL hy
   obtain ⟨b6, hb6⟩ := nmd (wr.heap.size)
   obtain ⟨W1, hW1⟩ := nmd (wr.alloc (.cells #[.int .i64 y.d, .string y.box] 31))
   have HBx : Hid (∀ W, Gn W1 W → Row W b6 31 #[.int .i64 y.d, .string y.box]) := fun W hW => by
    have h : Row W1 b6 31 #[.int .i64 y.d, .string y.box] := by rw [← hW1, ← hb6]; exact Row.new _ _ _
    exact h.kept hW (by simp)
   have HgW1 : Hid (Gn wr W1) := by rw [← hW1]; exact gb_alloc (gb_refl _ _) _
   have bk : (k : Int) < (m : Int) := by omega
   have HW1 := qj hW1
   clear hW1
   have Hgw := qj (gb_none HG.out (gb_none hg HgW1.out))
   have Hg1 := qj (gb_none hg HgW1.out)
   have Hy := qj hy
   have Hlt := qj hlt
   have HTg := qj fun W (hW : Gn W1 W) => HTgA.out y.box W (Hks.out y (List.mem_of_getElem? hy)) (gb_none Hg1.out hW)
   obtain ⟨T9, hT9⟩ := nmd (tagR y.box r)
   rw [hT9] at HTg
   have HEq := qj fun W (_ : Gn W1 W) => HEqA.out T9 W
   have Hnx : Hid ((y.d = q → r.tag = T9) → ∀ x ∈ ks.take (k + 1), x.d = q → r.tag = tagR x.box r) := fun h x hx hd => by
    rw [take_snoc hy] at hx
    rcases List.mem_append.1 hx with h1 | h1
    ·exact HK.out x h1 hd
    ·rw [List.mem_singleton.1 h1] at hd ⊢
     rw [hT9]; exact h hd
   have Hbad : Hid (y.d = q → r.tag ≠ T9 → ∃ x ∈ ks, x.d = q ∧ r.tag ≠ tagR x.box r) := fun h1 h2 => ⟨y, List.mem_of_getElem? hy, h1, by rw [hT9]; exact h2⟩
   clear hWL hgl hk hlt hg hy HK hT9
   go_upto_region 4 with fail
   rw [HW1.out]
   clear d1 d2 h0 h1 hb6 HW1 bk
   have h3 : (y.d = q ∧ r.tag = T9) ∨ (y.d = q ∧ r.tag ≠ T9) ∨ y.d ≠ q := by
    by_cases hd : y.d = q
    ·by_cases hT : r.tag = T9
     ·exact .inl ⟨hd, hT⟩
     ·exact .inr (.inl ⟨hd, hT⟩)
    ·exact .inr (.inr hd)
   rcases h3 with ⟨hd, hT⟩ | ⟨hd, hT⟩ | hd
   case' inl =>
    have v1 : (y.d == q) = true := by rw [hd]; exact beq_self_eq_true _
    have v2 : Hh.eqB r.tag T9 = true := decide_eq_true hT
    have HN := qj (Hnx.out fun _ => hT)
    clear hd hT
   case' inr.inl =>
    have v1 : (y.d == q) = true := by rw [hd]; exact beq_self_eq_true _
    have v2 : Hh.eqB r.tag T9 = false := decide_eq_false hT
    have HF := qj (Hbad.out hd hT)
    clear hd hT
   case' inr.inr =>
    have v1 : (y.d == q) = false := by rw [beq_eq_false_iff_ne]; exact hd
    have HN := qj (Hnx.out fun h => absurd h hd)
    clear hd
   all_goals
    clear Hnx Hbad
    refine tw_go ?_
    refine tw_h 6 ?_
    apply tw_xe 0 13
    ·intro W f hW e13 K hK; have z6 := (HBx.out W hW).at_ (i := 0) rfl; go_simp; exact kK hK
    refine tw_h 3 ?_
    apply tw_xe 0 15
    ·intro W f hW e15 K hK; obtain ⟨⟨y0, y1, y2, y3, y4, y5⟩, _⟩ := HX.out W (gb_none Hg1.out hW); go_simp; exact kK hK
    apply tw_xe 0 16
    ·intro W f hW e16 K hK; have tq := HTq.out; go_simp; exact kK hK
    refine tw_ee 3 14 0 17 ?_
    refine tw_e 0 18 ?_
    first | refine tw_no 0 ?_ | refine tw_gh 0 19 3 ?_
    first | refine tw_no 1 ?_ | (apply tw_is; · intro W f hW hE h0 K hK; have e20 := hE.of 0 20; have e19 := hE.of 1 19; clear hE h0; refine yes_g e19 ?_; obtain ⟨⟨y0, y1, y2, y3, y4, y5⟩, _⟩ := HX.out W (gb_none Hg1.out hW); go_simp; exact kK hK)
    first | refine tw_no 2 ?_ | refine tw_gh 2 19 6 ?_
    first | refine tw_no 3 ?_ | (apply tw_is; · intro W f hW hE h0 K hK; have e22 := hE.of 0 22; have e19 := hE.of 3 19; clear hE h0; refine yes_g e19 ?_; have z7 := (HBx.out W hW).at_ (i := 1) rfl; go_simp; exact kK hK)
    first | refine tw_no 4 ?_ | (apply tw_is; · intro W f hW hE h0 K hK; have e3 := h0.of 3; have e19 := hE.of 4 19; clear hE h0; refine yes_g e19 ?_; obtain ⟨⟨y0, y1, y2, y3, y4, y5⟩, _⟩ := HX.out W (gb_none Hg1.out hW); go_simp; exact kK hK)
    first | refine tw_no 5 ?_ | (apply tw_is; · intro W f hW hE h0 K hK; have e23 := hE.of 1 23; have e24 := hE.of 0 24; have e19 := hE.of 5 19; clear hE h0; refine yes_g e19 ?_; go_simp; refine (HTg.out W hW).mono ?_; rintro e w1' ⟨rfl, g'⟩; exact ⟨_, rfl, hK _ _ g' rfl⟩)
    first | refine tw_no 6 ?_ | (apply tw_is; · intro W f hW hE h0 K hK; have e21 := hE.of 4 21; have e25 := hE.of 0 25; have e19 := hE.of 6 19; clear hE h0; refine yes_g e19 ?_; go_simp; refine (HEq.out W hW).mono ?_; rintro e w1' ⟨rfl, g'⟩; exact ⟨_, rfl, hK _ _ g' rfl⟩)
    first | refine tw_no 7 ?_ | refine tw_ge 7 19 0 26 ?_
    refine tw_ee 8 19 0 27 ?_
    refine tw_nil fun W f hW hA => ?_
    have e28 : f 28 = _ := hA 0 (some 28) _ rfl
    rw [e28]
    clear hA
    have Hw := qj (gb_none Hgw.out hW)
    have Hw0 := qj (gb_none Hg1.out hW)
    have z6 := (HBx.out W hW).at_ (i := 0) rfl
    clear hW
    first | (have hf := HF.out; clear hf; go_wp2_with fail; refine (refuse_any _ _ _ _).mono ?_; rintro e _ ⟨rfl, rfl⟩; go_wp2_with fail; go_ret; exact ⟨⟨_, 9, rfl, Tells.new (Nat.le_refl _) _ _ (by decide), .inr ⟨rfl, HF.out⟩⟩, Hw.out⟩) | (have b8 := Hm.out; have b9 := Hlt.out; clear z6; go_wp2_with fail; go_roundw; (case rel => exact ⟨k + 1, by have := Hlt.out; omega, by go_num, HN, Hw0.out⟩); (case measure => simp [intOf]; have := Hlt.out; omega))
  ·have hkm : m = k := by omega
   subst hkm
   have d1 : decide (m < m) = false := by simp
   have d2 : decide ((m : Int) < (m : Int)) = false := by simp
   have He : Hid (∀ x ∈ ks, x.d = q → r.tag = tagR x.box r) := by
    have h := HK.out
    rwa [List.take_of_length_le (by rw [Hk.out.1]; exact Nat.le_refl _)] at h
   have Hw := qj (gb_none HG.out hg)
   go_wp2_with fail
   go_ret
   exact ⟨⟨_, 0, rfl, .none _, .inl ⟨rfl, He.out⟩⟩, Hw.out⟩
end Go.Proofs.YtpcjbjpofcdjeaaGreatDoor.Wc
