/- The program's copies of a log and of keys. Written by gen_wc10.py. -/
import Derived.Test.YtpcjbjpofcdjeaaGreatDoorTwq
import Derived.Test.YtpcjbjpofcdjeaaGreatDoorWcTakeRq
import Derived.Test.YtpcjbjpofcdjeaaGreatDoorWcLogq
set_option linter.unusedVariables false
set_option maxHeartbeats 16000000
set_option maxRecDepth 100000
namespace Go.Proofs.YtpcjbjpofcdjeaaGreatDoor.Wc
open Go Go.RowKit Mm Td Vw Dt
open Mb Ro Hh We
attribute [local go_sem] Td.upon_value Td.upon_skip Td.upon_enter Td.upon_row Td.look_tmp Td.look_const Td.look_func Td.look_global
def keyW (x : Mb.Wp) : Td.Spec := fun W v => ∃ b, v = .slice (some ⟨b, 0, none⟩) 1 1 ∧ Row W b 31 #[.int .i64 x.d, .string x.box]
theorem keyW_stays {x : Mb.Wp} : Stays (fun a b => Gn a b) (keyW x) := fun _ _ _ k ⟨b, e, h⟩ => ⟨b, e, h.kept k (by simp)⟩
theorem keyW_wl {W : World} {b : Nat} {x : Mb.Wp} (h : Row W b 31 #[.int .i64 x.d, .string x.box]) : WL W (some ⟨b, 0, none⟩) 1 [x] := by
 refine ⟨rfl, fun _ => ⟨b, 0, rfl, h.lt, fun i y hy => ?_⟩⟩
 match i, hy with
 | 0, hy =>
  cases hy
  exact ⟨h.at_ (i := 0) rfl, h.at_ (i := 1) rfl⟩
theorem copyKeys_any (K : Option Addr) (m kc : Nat) (ks : List Mb.Wp) (w : World) (hk : WL w K m ks) (hm : m ≤ 999999) (hks : ∀ x ∈ ks, x.box.size ≤ 281474976710656) :
  Calls Tryz.prog 49 #[.slice K m kc] w fun e w' => ∃ v, e = .returned v ∧ CopiedK w' w.heap.size v ks ∧ Gn w w' := by
 have Hk := qj hk
 have Hm := qj hm
 have Hks := qj hks
 have Hlk : Hid (ks.length = m) := hk.1
 clear hk hm hks
 go_enter Tryz.func49, Tryz.ntmps49
 go_wp2_with fail
 go_loopw [3, 8] (fun lv iv wr => ∃ k : Nat, k ≤ m ∧ iv = .int .i64 k ∧ Hid (CopiedK wr w.heap.size lv (ks.take k)) ∧ Gn w wr) (fun _ iv _ => m - (intOf iv).toNat)
 case atStart => exact ⟨0, Nat.zero_le _, rfl, .inl ⟨rfl, none, rfl⟩, gb_refl _ _⟩
 case round =>
  obtain ⟨k, hk, rfl, HC, hg⟩ := hrel
  obtain ⟨lA, ln, lc, rfl⟩ := HC.out.slice
  by_cases hlt : k < m
  ·have d1 : decide (k < m) = true := decide_eq_true hlt
   have d2 : decide ((k : Int) < (m : Int)) = true := dcT
   have hWL := Hk.out.keep hg
   obtain ⟨g, o, hAe, hgl, _⟩ := hWL.2 (by omega)
   subst hAe
   obtain ⟨y, hy⟩ : ∃ y, ks[k]? = some y := ⟨_, List.getElem?_eq_getElem (by rw [hWL.1]; exact hlt)⟩
   obtain ⟨_, h0, h1⟩ := wl_of hWL hy
   obtain ⟨b6, hb6⟩ := nmd (wr.heap.size)
   obtain ⟨W1, hW1⟩ := nmd (wr.alloc (.cells #[.int .i64 y.d, .string y.box] 31))
   have HBx : Hid (∀ W, Gn W1 W → Row W b6 31 #[.int .i64 y.d, .string y.box]) := fun W hW => by
    have h : Row W1 b6 31 #[.int .i64 y.d, .string y.box] := by rw [← hW1, ← hb6]; exact Row.new _ _ _
    exact h.kept hW (by simp)
   have HgW1 : Hid (Gn wr W1) := by rw [← hW1]; exact gb_alloc (gb_refl _ _) _
   have bk : (k : Int) < (m : Int) := by omega
   have HW1 := qj hW1
   have Hy := qj hy
   have Hlt := qj hlt
   have Hg := qj hg
   have HCl := qj fun W (_ : Gn W1 W) => clone_any y.box W (Hks.out y (List.mem_of_getElem? hy))
   have tk : IntKind.i64.wrap ((k : Int) + 1) = ((k + 1 : Nat) : Int) := by rw [IntKind.wrap_i64]; have := Hm.out; omega
   clear hWL hgl hk hlt hg hy hW1
   go_upto_region 5 with fail
   rw [HW1.out]
   clear d1 d2 h0 h1 hb6 HW1 bk
   refine th_go 8 ?_
   refine th_h 3 ?_
   refine th_h 5 ?_
   apply th_is
   ·intro W f hW hE h0 K hK; have e13 := hE.of 0 13; clear hE h0; refine yes_f ?_; have z6 := (HBx.out W hW).at_ (i := 0) rfl; go_simp; exact kK hK
   refine th_h 5 ?_
   apply th_is
   ·intro W f hW hE h0 K hK; have e15 := hE.of 0 15; clear hE h0; refine yes_f ?_; have z7 := (HBx.out W hW).at_ (i := 1) rfl; go_simp; exact kK hK
   apply th_is
   ·intro W f hW hE h0 K hK; have e16 := hE.of 0 16; clear hE h0; refine yes_f ?_; go_simp; exact ck (HCl.out W hW) hK
   apply th_is
   ·intro W f hW hE h0 K hK; have e14 := hE.of 3 14; have e17 := hE.of 0 17; clear hE h0; refine yes_f ?_; go_simp; exact kK hK
   apply th_at keyW_stays
   ·intro W f hW hE h0 K hK; have e18 := hE.of 0 18; clear hE h0; refine yes_f ?_; go_simp; exact hK _ _ (gb_alloc (gb_refl _ _) _) ⟨_, rfl, Row.new _ _ _⟩
   refine th_nil fun W f hW hA => ?_
   simp only [List.take_succ_cons, List.take_zero, List.drop_succ_cons, List.drop_zero, lexIn, Act.put, List.setIfInBounds_toArray, List.set_cons_zero, List.set_cons_succ]
   have e12 : f 12 = _ := hA 7 (some 12) _ rfl
   rw [e12]
   have e19 := hA 0 (some 19) _ rfl
   clear hA
   obtain ⟨b9, e19, hr9⟩ := e19
   have hgw := gb_none HgW1.out hW
   obtain ⟨v', w', hr, hc', hu⟩ := run_keys (w := W) 26 w.heap.size (.slice lA ln lc) (ks.take k) (HC.out.keep hgw) (by rw [List.length_take]; have := Hm.out; have := Hlk.out; omega) (gb_none Hg.out hgw).size (some ⟨b9, 0, none⟩) 1 1 [y] (keyW_wl hr9) (by decide) (Nat.le_refl _)
   rw [← take_snoc Hy.out] at hc'
   have HC' := qj hc'
   have Hg' := qj (hu w (Nat.le_refl _) (gb_none Hg.out hgw))
   have Hr := qj hr
   obtain ⟨v1, v2, v3, rfl⟩ := hc'.slice
   clear hr hc' hu hgw hW hr9
   refine Lib.wpList_append_run _ rfl (.tmp 12) (.tmp 19) 26 26 rfl _ _ rfl e19 _ _ Hr.out ?_
   clear e19 Hr
   go_wp2_with fail
   go_roundw
   case rel => exact ⟨k + 1, Hlt.out, by go_num, HC', Hg'.out⟩
   case measure => simp [intOf]; have := Hlt.out; omega
  ·have hkm : m = k := by omega
   subst hkm
   have d1 : decide (m < m) = false := by simp
   have d2 : decide ((m : Int) < (m : Int)) = false := by simp
   have HF : Hid (CopiedK wr w.heap.size (.slice lA ln lc) ks) := by
    have h := HC.out
    rwa [List.take_of_length_le (by rw [Hlk.out]; exact Nat.le_refl _)] at h
   go_wp2_with fail
   go_ret
   exact ⟨_, rfl, HF.out, hg⟩
theorem copies_any (A : Option Addr) (n c : Nat) (l : List Rc) (w : World) (hl : LogL w A n l) (hn : n ≤ 999999) (hb : ∀ x ∈ l, x.wraps.length ≤ 999999 ∧ x.prev.size ≤ 281474976710656 ∧ x.tag.size ≤ 281474976710656 ∧ ∀ z ∈ x.wraps, z.box.size ≤ 281474976710656) :
  Calls Tryz.prog 48 #[.slice A n c] w fun e w' => ∃ A' c', e = .returned (.slice A' n c') ∧ LogL w' A' n l ∧ n ≤ c' ∧ Gn w w' := by
 have Hl := qj hl
 have Hn := qj hn
 have Hb := qj hb
 have Hln : Hid (l.length = n) := hl.1
 obtain ⟨i0, hi0, hz0, hz1, hz2⟩ := wrap_parts
 have Hi0 := qj hi0
 have Hz0 := qj hz0
 have Hz1 := qj hz1
 have Hz2 := qj hz2
 clear hl hn hb hi0 hz0 hz1 hz2
 go_enter Tryz.func48, Tryz.ntmps48
 go_wp2_with fail
 go_loopw [3, 11] (fun lv iv wr => ∃ k : Nat, k ≤ n ∧ iv = .int .i64 k ∧ Hid (LR wr (fun g => some g ≠ lv.ownBlock) w.heap.size lv (l.take k)) ∧ Hid (Gn w wr)) (fun _ iv _ => n - (intOf iv).toNat)
 case atStart => exact ⟨0, Nat.zero_le _, rfl, LR.nil _ _ _, gb_refl _ _⟩
 case round =>
  obtain ⟨k, hk, rfl, HL, Hg0⟩ := hrel
  obtain ⟨lA, ln, lc, rfl⟩ := HL.out.slice
  by_cases hlt : k < n
  ·have d1 : decide (k < n) = true := decide_eq_true hlt
   have d2 : decide ((k : Int) < (n : Int)) = true := dcT
   have hA := Hl.out.keep Hg0.out
   obtain ⟨g, o, hAe, hgl, _⟩ := hA.2 (by omega)
   subst hAe
   obtain ⟨x, hx⟩ : ∃ x, l[k]? = some x := ⟨_, List.getElem?_eq_getElem (by rw [Hln.out]; exact hlt)⟩
   obtain ⟨XA, xc, hX⟩ := rc_kept (log_rec hA hx).2 hgl
   obtain ⟨⟨s0, s1, s2, s3, s4, s5⟩, _⟩ := hX wr (gb_refl _ _)
   obtain ⟨hx1, hx2, hx3, hx4⟩ := Hb.out x (List.mem_of_getElem? hx)
   have tk : IntKind.i64.wrap ((k : Int) + 1) = ((k + 1 : Nat) : Int) := by rw [IntKind.wrap_i64]; have := Hn.out; omega
   have bk : (k : Int) < (n : Int) := by omega
   obtain ⟨b5, hb5⟩ := nmd (wr.heap.size)
   obtain ⟨W1, hW1⟩ := nmd (wr.alloc (.cells (recCs x XA xc) 25))
   have HRx : Hid (∀ W, Gn W1 W → Row W b5 25 (recCs x XA xc)) := fun W hW => by
    have h : Row W1 b5 25 (recCs x XA xc) := by rw [← hW1, ← hb5]; exact Row.new _ _ _
    exact h.kept hW (by simp)
   have HgW1 : Hid (Gn wr W1) := by rw [← hW1]; exact gb_alloc (gb_refl _ _) _
   have Hb5 : Hid (wr.heap.size ≤ b5 ∧ b5 < W1.heap.size) := ⟨Nat.le_of_eq hb5, (HRx.out W1 (gb_refl _ _)).lt⟩
   have HXw : Hid (∀ W, Gn wr W → WL W XA x.wraps.length x.wraps) := fun W hW => (hX W hW).2
   have HC1 := qj fun W (_ : Gn W1 W) => clone_any x.prev W hx2
   have HC5 := qj fun W (_ : Gn W1 W) => clone_any x.tag W hx3
   have HZ4 := qj hx4
   have Hx1 := qj hx1
   have HW1 := qj hW1
   have Hx := qj hx
   have Hlt := qj hlt
   clear hA hgl hX hx hx1 hx2 hx3 hx4 hk hlt hW1
   go_upto_region 5 with fail
   rw [HW1.out]
   clear d1 d2 s0 s1 s2 s3 s4 s5 hb5 HW1 bk
   refine th_go 7 ?_
   refine th_h 5 ?_
   apply th_is
   ·intro W f hW hE h0 K hK; have e15 := hE.of 0 15; clear hE h0; refine yes_f ?_; have c1 := (HRx.out W hW).at_ (i := 1) rfl; go_simp; exact kK hK
   apply th_is
   ·intro W f hW hE h0 K hK; have e16 := hE.of 0 16; clear hE h0; refine yes_f ?_; go_simp; exact ck (HC1.out W hW) hK
   refine th_h 5 ?_
   apply th_is
   ·intro W f hW hE h0 K hK; have e18 := hE.of 0 18; clear hE h0; refine yes_f ?_; have c5 := (HRx.out W hW).at_ (i := 5) rfl; go_simp; exact kK hK
   apply th_is
   ·intro W f hW hE h0 K hK; have e19 := hE.of 0 19; clear hE h0; refine yes_f ?_; go_simp; exact ck (HC5.out W hW) hK
   refine th_h 5 ?_
   refine th_nil fun W f hW hA => ?_
   simp only [List.take_succ_cons, List.take_zero, List.drop_succ_cons, List.drop_zero, lexIn, Act.put, List.setIfInBounds_toArray, List.set_cons_zero, List.set_cons_succ]
   have e17 : f 17 = _ := hA 4 (some 17) _ rfl
   rw [e17]
   have e20 : f 20 = _ := hA 1 (some 20) _ rfl
   rw [e20]
   have e21 : f 21 = _ := hA 0 (some 21) _ rfl
   rw [e21]
   clear hA
   have hr5 := HRx.out W hW
   have u1 : W.cell? ⟨b5, 1, none⟩ = some (.string x.prev) := hr5.at_ (i := 1) rfl
   have u5 : W.cell? ⟨b5, 5, none⟩ = some (.string x.tag) := hr5.at_ (i := 5) rfl
   have p1 := hr5.free 1
   have p5 := hr5.free 5
   obtain ⟨p, hp⟩ := nmd (x.wraps.length)
   obtain ⟨W5, hW5⟩ := nmd ((W.setCell ⟨b5, 1, none⟩ (.string x.prev)).setCell ⟨b5, 5, none⟩ (.string x.tag))
   have HR5 : Hid (Row W5 b5 25 #[.int .i64 x.seq, .string x.prev, .int .i64 x.kind, .int .i64 x.dev, .slice XA p xc, .string x.tag]) := by rw [← hW5, ← hp]; exact (hr5.set_ 1 _).set_ 5 _
   have HG5 : Hid (Gn wr W5) := by rw [← hW5]; exact gb_new (gb_new (gb_none HgW1.out hW) (gb_set1 _ _ _ _) Hb5.out.1) (gb_set1 _ _ _ _) Hb5.out.1
   have Hb55 : Hid (b5 < W5.heap.size) := HR5.out.lt
   have HW5 := qj hW5
   have Hp := qj hp
   clear hr5 hW hW5 hp HRx HC1 HC5 HgW1
   go_upto_region 6 with fail
   rw [HW5.out]
   clear u1 u5 p1 p5 HW5
   have y4 : W5.cell? ⟨b5, 4, none⟩ = some (.slice XA p xc) := HR5.out.at_ (i := 4) rfl
   go_wp2_with fail
   clear y4
   have HXp : Hid (∀ W, Gn wr W → WL W XA p x.wraps) := by rw [← Hp.out]; exact HXw
   have Hp9 : Hid (p ≤ 999999) := by rw [← Hp.out]; exact Hx1.out
   clear HXw Hx1
   generalize wr = wo at *
   go_loopw [6, 26] (fun uv iv wq => ∃ j : Nat, j ≤ p ∧ iv = .int .i64 j ∧ Hid (wq.ownsRow W5.heap.size 70 2 uv j (wv (x.wraps.take j))) ∧ Hid (Gn W5 wq)) (fun _ iv _ => p - (intOf iv).toNat)
   case atStart => exact ⟨0, Nat.zero_le _, rfl, World.ownsRow_nil _ _ _ _, gb_refl _ _⟩
   case round =>
    obtain ⟨j, hj, rfl, HV, Hgq⟩ := hrel
    obtain ⟨uA, un, uc, rfl⟩ := own_sl HV.out
    by_cases hlt : j < p
    ·have hg := gb_none HG5.out Hgq.out
     have d1 : decide (j < p) = true := decide_eq_true hlt
     have d2 : decide ((j : Int) < (p : Int)) = true := dcT
     have hWL := HXp.out wr (gb_none HG5.out Hgq.out)
     obtain ⟨g, o, hAe, hgl, _⟩ := hWL.2 (by omega)
     subst hAe
     obtain ⟨y, hy⟩ : ∃ y, x.wraps[j]? = some y := ⟨_, List.getElem?_eq_getElem (by rw [hWL.1]; exact hlt)⟩
     obtain ⟨_, h0, h1⟩ := wl_of hWL hy
     obtain ⟨b6, hb6⟩ := nmd (wr.heap.size)
     obtain ⟨W1, hW1⟩ := nmd (wr.alloc (.cells #[.int .i64 y.d, .string y.box] 70))
     have HBx : Hid (∀ W, Gn W1 W → Row W b6 70 #[.int .i64 y.d, .string y.box]) := fun W hW => by
      have h : Row W1 b6 70 #[.int .i64 y.d, .string y.box] := by rw [← hW1, ← hb6]; exact Row.new _ _ _
      exact h.kept hW (by simp)
     have HgW1 : Hid (Gn wr W1) := by rw [← hW1]; exact gb_alloc (gb_refl _ _) _
     have bk : (j : Int) < (p : Int) := by omega
     have HW1 := qj hW1
     have Hy := qj hy
     have Hlt := qj hlt
     have Hg := qj hg
     have HCl := qj fun W (_ : Gn W1 W) => clone_any y.box W (HZ4.out y (List.mem_of_getElem? hy))
     have tj : IntKind.i64.wrap ((j : Int) + 1) = ((j + 1 : Nat) : Int) := by rw [IntKind.wrap_i64]; have := Hp9.out; omega
     clear hWL hgl hj hlt hg hy hW1
     go_upto_region 10 with fail
     rw [HW1.out]
     clear d1 d2 h0 h1 hb6 HW1 bk
     refine th_go 8 ?_
     refine th_h 6 ?_
     refine th_h 8 ?_
     apply th_is
     ·intro W f hW hE h0 K hK; have e31 := hE.of 0 31; clear hE h0; refine yes_f ?_; have z6 := (HBx.out W hW).at_ (i := 0) rfl; go_simp; exact kK hK
     refine th_h 8 ?_
     apply th_is
     ·intro W f hW hE h0 K hK; have e33 := hE.of 0 33; clear hE h0; refine yes_f ?_; have z7 := (HBx.out W hW).at_ (i := 1) rfl; go_simp; exact kK hK
     apply th_is
     ·intro W f hW hE h0 K hK; have e34 := hE.of 0 34; clear hE h0; refine yes_f ?_; go_simp; exact ck (HCl.out W hW) hK
     apply th_is
     ·intro W f hW hE h0 K hK; have e32 := hE.of 3 32; have e35 := hE.of 0 35; clear hE h0; refine yes_f ?_; go_simp; exact kK hK
     apply th_at boxW_stays
     ·intro W f hW hE h0 K hK; have e36 := hE.of 0 36; clear hE h0; refine yes_f ?_; go_simp; exact hK _ _ (gb_alloc (gb_refl _ _) _) ⟨_, rfl, Row.new _ _ _⟩
     refine th_nil fun W f hW hA => ?_
     simp only [List.take_succ_cons, List.take_zero, List.drop_succ_cons, List.drop_zero, lexIn, Act.put, List.setIfInBounds_toArray, List.set_cons_zero, List.set_cons_succ]
     have e30 : f 30 = _ := hA 7 (some 30) _ rfl
     rw [e30]
     have e37 := hA 0 (some 37) _ rfl
     clear hA
     obtain ⟨b9, e37, hr9⟩ := e37
     have hgw := gb_none HgW1.out hW
     have HO2 := qj (own_keep HV.out hgw)
     have HGw := qj (gb_none Hgq.out hgw)
     have Hp99 := Hp9.out
     have Hlt9 := Hlt.out
     refine wpList_append_own_at _ rfl (.tmp 30) (.tmp 37) 23 rfl W5.heap.size 70 i0 (.agg #[.int .i64 0, .string ⟨#[]⟩]) 2 24 Tryz.underlying23 Hi0.out Hz0.out Hz1.out Hz2.out rfl (by decide) (.slice uA un uc) j (wv (x.wraps.take j)) rfl HO2.out ⟨b9, 0, none⟩ 1 1 (wv1 y) e37 rfl (one_list hr9) (wv1_one _) (by simp only [maxLen]; omega) (by omega) HGw.out.size fun v6 w6 own6 hg6 _ _ => ?_
     have own7 : Hid (w6.ownsRow W5.heap.size 70 2 v6 (j + 1) (wv (x.wraps.take (j + 1)))) := by
      rw [take_snoc Hy.out, wv_append]
      exact own6
     have HG7 : Hid (Gn W5 w6) := gb_step HGw.out hg6 fun i e => .inr (own_far6 HO2.out i e).1
     obtain ⟨V6, n6, c6, rfl⟩ := own_sl own7.out
     clear own6 hg6 hr9 hgw hW e37 HO2 HGw
     go_wp2_with fail
     go_roundw
     case rel => exact ⟨j + 1, Hlt.out, by go_num, own7, HG7⟩
     case measure => simp [intOf]; have := Hlt.out; omega
    ·have hjp : p = j := by omega
     subst hjp
     have d1 : decide (p < p) = false := by simp
     have d2 : decide ((p : Int) < (p : Int)) = false := by simp
     have hv9 := HV.out
     rw [List.take_of_length_le (by rw [Hp.out]; exact Nat.le_refl _)] at hv9
     obtain ⟨WA, wc', hwe, hwl, hwc, hwf⟩ := own_wl_far hv9 Hp.out
     cases hwe
     have hr9 := HR5.out.kept Hgq.out (by simp)
     have u4 : wr.cell? ⟨b5, 4, none⟩ = some (.slice XA p xc) := hr9.at_ (i := 4) rfl
     have p4 := hr9.free 4
     obtain ⟨W9, hW9⟩ := nmd (wr.setCell ⟨b5, 4, none⟩ (.slice uA p uc))
     have HR9 : Hid (Row W9 b5 25 #[.int .i64 x.seq, .string x.prev, .int .i64 x.kind, .int .i64 x.dev, .slice uA p uc, .string x.tag]) := by rw [← hW9]; exact hr9.set_ 4 _
     have HG9 : Hid (Gn wo W9) := by rw [← hW9]; exact gb_new (gb_none HG5.out Hgq.out) (gb_set1 _ _ _ _) Hb5.out.1
     have HWL9 : Hid (WL W9 uA p x.wraps ∧ p ≤ uc ∧ ∀ a, uA = some a → W5.heap.size ≤ a.block) := ⟨by rw [← hW9]; exact wl_kept hwl (gb_set1 _ _ _ _) fun _ a ha e => by have h1 := hwf a ha; have h2 := Option.some.inj e; have := Hb55.out; omega, hwc, hwf⟩
     clear hv9 hwl hwc hwf hr9 hj hlt
     go_upto_region 13 with fail
     clear u4 p4 d1 d2 hW9
     have y0 : W9.cell? ⟨b5, 0, none⟩ = some (.int .i64 x.seq) := HR9.out.at_ (i := 0) rfl
     have y1 : W9.cell? ⟨b5, 1, none⟩ = some (.string x.prev) := HR9.out.at_ (i := 1) rfl
     have y2 : W9.cell? ⟨b5, 2, none⟩ = some (.int .i64 x.kind) := HR9.out.at_ (i := 2) rfl
     have y3 : W9.cell? ⟨b5, 3, none⟩ = some (.int .i64 x.dev) := HR9.out.at_ (i := 3) rfl
     have y4 : W9.cell? ⟨b5, 4, none⟩ = some (.slice uA p uc) := HR9.out.at_ (i := 4) rfl
     have y5 : W9.cell? ⟨b5, 5, none⟩ = some (.string x.tag) := HR9.out.at_ (i := 5) rfl
     have g4 := gb_alloc (gb_refl W9 none) (.cells #[.int .i64 x.seq, .string x.prev, .int .i64 x.kind, .int .i64 x.dev, .slice uA p uc, .string x.tag] 25)
     have hrc9 : RecC0 (W9.alloc (.cells #[.int .i64 x.seq, .string x.prev, .int .i64 x.kind, .int .i64 x.dev, .slice uA p uc, .string x.tag] 25)) W9.heap.size x uA uc := by
      have h := rec_row (r := x) (A := uA) (c := uc) (T := 25) (b := W9.heap.size) (w := W9.alloc (.cells #[.int .i64 x.seq, .string x.prev, .int .i64 x.kind, .int .i64 x.dev, .slice uA p uc, .string x.tag] 25)) (by unfold recCs; rw [Hp.out]; exact Row.new _ _ _)
      exact h
     have hfar := HL.out.far
     have hsz9 := HG9.out.size
     have h55 := HG5.out.size
     obtain ⟨v5, w5, hr5, hl5, hg5, hob⟩ := run_rec (w := W9.alloc (.cells #[.int .i64 x.seq, .string x.prev, .int .i64 x.kind, .int .i64 x.dev, .slice uA p uc, .string x.tag] 25)) 22 (fun g => some g ≠ Value.ownBlock (.slice lA ln lc) ∧ g < W9.heap.size + 1) w.heap.size (.slice lA ln lc) (l.take k) (((HL.out.keep HG9.out).keep g4).more (fun g h1 h2 => ⟨h2, by rw [World.size_alloc] at h1; exact h1⟩)) (by rw [List.length_take]; have := Hn.out; have := Hln.out; omega) (by rw [World.size_alloc]; have := (gb_none Hg0.out HG9.out).size; omega) (fun g h => h.1) W9.heap.size 1 x uA uc hrc9 (by rw [Hp.out]; exact HWL9.out.1.keep g4) (by rw [Hp.out]; exact HWL9.out.2.1) (fun h0 a ha => ⟨fun e => by have h1 := HWL9.out.2.2 a ha; have h2 := (hfar a.block e.symm).2; omega, by have h1 := wl_lt HWL9.out.1 (by rw [← Hp.out]; exact h0) a ha; omega⟩)
     rw [← take_snocR Hx.out] at hl5
     have HL6 : Hid (LR w5 (fun g => some g ≠ v5.ownBlock) w.heap.size v5 (l.take (k + 1))) := hl5.more fun g _ h => by
      rcases hob with h1 | h1
      ·rw [h1]; exact h.1
      ·rw [h1, World.size_alloc]; intro e; have := Option.some.inj e; have := h.2; omega
     have HG6 : Hid (Gn w w5) := gb_step (gb_none (gb_none Hg0.out HG9.out) g4) hg5 fun i e => .inr (hfar i e).1
     have Hr5 := qj hr5
     obtain ⟨V5, n5, c5, rfl⟩ := hl5.slice
     clear hrc9 hr5 hl5 hg5 hob g4 hfar hsz9 h55
     go_wp2_with (at_builtin; go_must (refine Lib.wpList_append_run _ rfl (.tmp 42) (.tmp 44) 22 22 rfl _ _ rfl rfl _ _ Hr5.out ?_))
     go_roundw
     case rel => exact ⟨k + 1, Hlt.out, by go_num, HL6, HG6⟩
     case measure => simp [intOf]; have := Hlt.out; omega
  ·have hkn : n = k := by omega
   subst hkn
   have d1 : decide (n < n) = false := by simp
   have d2 : decide ((n : Int) < (n : Int)) = false := by simp
   have hl9 := HL.out
   rw [List.take_of_length_le (by rw [Hln.out]; exact Nat.le_refl _)] at hl9
   obtain ⟨A9, c9, he9, hlog, hcp⟩ := hl9.log
   rw [Hln.out] at he9 hlog hcp
   cases he9
   have HF : Hid (LogL wr lA n l ∧ n ≤ lc) := ⟨hlog, hcp⟩
   clear hl9 hlog hcp
   go_wp2_with fail
   go_ret
   exact ⟨_, _, rfl, HF.out.1, HF.out.2, Hg0.out⟩
end Go.Proofs.YtpcjbjpofcdjeaaGreatDoor.Wc
