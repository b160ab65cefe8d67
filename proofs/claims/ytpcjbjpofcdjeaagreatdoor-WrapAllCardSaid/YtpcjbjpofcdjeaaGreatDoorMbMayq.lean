/- Which records may be, as the program tells it. Written by gen_mbmay.py. -/
import Derived.Test.YtpcjbjpofcdjeaaGreatDoorTwq
import Derived.Test.YtpcjbjpofcdjeaaGreatDoorMbWq
set_option linter.unusedVariables false
set_option maxHeartbeats 40000000
set_option maxRecDepth 100000
namespace Go.Proofs.YtpcjbjpofcdjeaaGreatDoor.Mb
open Go Go.RowKit Mm Td Vw Dt
attribute [local go_sem] Td.upon_value Td.upon_skip Td.upon_enter Td.upon_row Td.look_tmp Td.look_const Td.look_func Td.look_global
theorem eq_yes {a b : Int} (h : a = b) : (a == b) = true := by rw [h]; exact beq_self_eq_true _
theorem eq_no {a b : Int} (h : a ≠ b) : (a == b) = false := by rw [beq_eq_false_iff_ne]; exact h
theorem isKind_any (k : Int) (w : World) : Calls Tryz.prog 89 #[.int .i64 k] w fun e w' => e = .returned (.bool (decide (k = 1 ∨ k = 2))) ∧ w = w' := by
 by_cases h1 : k = 1
 ·have q1 := eq_yes h1
  have HE : Hid (decide (k = 1 ∨ k = 2) = true) := by show _ = _; exact decide_eq_true (.inl h1)
  rw [HE.out]
  clear h1
  go_enter Tryz.func89, Tryz.ntmps89
  go_wp2_with fail
  go_ret
  exact ⟨rfl, rfl⟩
 ·have q1 := eq_no h1
  obtain ⟨q, hq⟩ := nmd ((k == 2))
  have HE : Hid (decide (k = 1 ∨ k = 2) = q) := by
   show _ = _
   rw [← hq]
   by_cases h2 : k = 2
   ·rw [eq_yes h2, decide_eq_true (.inr h2)]
   ·rw [eq_no h2, decide_eq_false (fun h => h.elim h1 h2)]
  rw [HE.out]
  clear h1
  go_enter Tryz.func89, Tryz.ntmps89
  go_wp2_with fail
  go_ret
  exact ⟨rfl, rfl⟩
theorem isDev_any (k : Int) (w : World) : Calls Tryz.prog 90 #[.int .i64 k] w fun e w' => e = .returned (.bool (decide (0 ≤ k ∧ k < 8))) ∧ w = w' := by
 by_cases h1 : 0 ≤ k
 ·have q1 : decide (0 ≤ k) = true := decide_eq_true h1
  obtain ⟨q, hq⟩ := nmd (decide (k < 8))
  have HE : Hid (decide (0 ≤ k ∧ k < 8) = q) := by
   show _ = _
   rw [← hq]
   by_cases h2 : k < 8
   ·rw [decide_eq_true h2, decide_eq_true ⟨h1, h2⟩]
   ·rw [decide_eq_false h2, decide_eq_false (fun h => h2 h.2)]
  rw [HE.out]
  clear h1
  go_enter Tryz.func90, Tryz.ntmps90
  go_wp2_with fail
  go_ret
  exact ⟨rfl, rfl⟩
 ·have q1 : decide (0 ≤ k) = false := decide_eq_false h1
  have HE : Hid (decide (0 ≤ k ∧ k < 8) = false) := by show _ = _; exact decide_eq_false (fun h => h1 h.1)
  rw [HE.out]
  clear h1
  go_enter Tryz.func90, Tryz.ntmps90
  go_wp2_with fail
  go_ret
  exact ⟨rfl, rfl⟩
theorem mayHang_any (sq kd dv : Int) (pv tg : ByteArray) (A : Option Addr) (n c : Nat) (w : World) : Calls Tryz.prog 88 #[.agg #[.int .i64 sq, .string pv, .int .i64 kd, .int .i64 dv, .slice A n c, .string tg]] w (BoolIs (pv.size = 32 ∨ sq = 1 ∧ pv.size = 0) w) := by
 by_cases h1 : pv.size = 32
 ·have q1 : ((pv.size : Int) == 32) = true := eq_yes (by omega)
  have HE : Hid (pv.size = 32 ∨ sq = 1 ∧ pv.size = 0) := .inl h1
  clear h1
  go_enter Tryz.func88, Tryz.ntmps88
  go_wp2_with fail
  go_ret
  exact .of_yes HE.out (gb_alloc (gb_refl _ _) _)
 ·have q1 : ((pv.size : Int) == 32) = false := eq_no (by omega)
  by_cases h2 : sq = 1
  ·have q2 := eq_yes h2
   by_cases h3 : pv.size = 0
   ·have q3 := str_none h3
    have HE : Hid (pv.size = 32 ∨ sq = 1 ∧ pv.size = 0) := .inr ⟨h2, h3⟩
    clear h1 h2 h3
    go_enter Tryz.func88, Tryz.ntmps88
    go_wp2_with fail
    go_ret
    exact .of_yes HE.out (gb_alloc (gb_refl _ _) _)
   ·have q3 := str_some h3
    have HE : Hid (¬ (pv.size = 32 ∨ sq = 1 ∧ pv.size = 0)) := fun h => h.elim h1 (fun h => h3 h.2)
    clear h1 h2 h3
    go_enter Tryz.func88, Tryz.ntmps88
    go_wp2_with fail
    go_ret
    exact .of_no HE.out (gb_alloc (gb_refl _ _) _)
  ·have q2 := eq_no h2
   have HE : Hid (¬ (pv.size = 32 ∨ sq = 1 ∧ pv.size = 0)) := fun h => h.elim h1 (fun h => h2 h.1)
   clear h1 h2
   go_enter Tryz.func88, Tryz.ntmps88
   go_wp2_with fail
   go_ret
   exact .of_no HE.out (gb_alloc (gb_refl _ _) _)
def WrapsOk (l : List Wp) : Prop := (∀ w ∈ l, RightW w) ∧ RiseW l
theorem take_snoc {l : List Wp} {k : Nat} {x : Wp} (hx : l[k]? = some x) : l.take (k + 1) = l.take k ++ [x] := by rw [List.take_add_one, hx]; rfl
theorem last_take {l : List Wp} {j : Nat} {z : Wp} (hz : l[j]? = some z) : (l.take (j + 1)).getLast? = some z := by rw [take_snoc hz, List.getLast?_concat]
theorem wraps_nil {l : List Wp} : WrapsOk (l.take 0) := ⟨fun w h => by simp at h, rise_nil⟩
theorem wraps_next {l : List Wp} {k : Nat} {x : Wp} (h : WrapsOk (l.take k)) (hx : l[k]? = some x) (hr : RightW x) (hp : ∀ j z, k = j + 1 → l[j]? = some z → z.d < x.d) : WrapsOk (l.take (k + 1)) := by
 rw [take_snoc hx]
 refine ⟨fun w hw => ?_, rise_snoc.2 ⟨h.2, fun a ha => ?_⟩⟩
 ·rcases List.mem_append.1 hw with h1 | h1
  ·exact h.1 w h1
  ·rw [List.mem_singleton.1 h1]; exact hr
 ·cases k with
  | zero => simp at ha
  | succ j =>
   obtain ⟨z, hz⟩ : ∃ z, l[j]? = some z := ⟨_, List.getElem?_eq_getElem (by have := (List.getElem?_eq_some_iff.1 hx).1; omega)⟩
   rw [last_take hz] at ha
   obtain rfl := Option.some.inj ha
   exact hp j z rfl hz
theorem wraps_bad {l : List Wp} {k : Nat} {x : Wp} (hx : l[k]? = some x) (hr : ¬ RightW x) : ¬ WrapsOk l := fun h => hr (h.1 x (List.mem_of_getElem? hx))
theorem wraps_fall {l : List Wp} {j : Nat} {z x : Wp} (hz : l[j]? = some z) (hx : l[j + 1]? = some x) (h : x.d ≤ z.d) : ¬ WrapsOk l := fun k => by
 have := k.2 j z x hz hx
 omega
theorem wraps_all {l : List Wp} {n : Nat} (h : WrapsOk (l.take n)) (hn : l.length = n) : WrapsOk l := by rwa [List.take_of_length_le (by omega)] at h
theorem wbox {w : World} {x : Wp} {t : TypeId} : WAt (w.alloc (.cells #[.int .i64 x.d, .string x.box] t)) w.heap.size 0 x := ⟨(Row.new w t _).at_ (i := 0) rfl, (Row.new w t _).at_ (i := 1) rfl⟩
theorem wl_of {w : World} {g o n : Nat} {l : List Wp} (h : WL w (some ⟨g, o, none⟩) n l) {i : Nat} {x : Wp} (hx : l[i]? = some x) : g < w.heap.size ∧ WAt w g (o + i * 2) x := by
 obtain ⟨g', o', e, hg, hc⟩ := wl_at h hx
 cases e
 exact ⟨hg, hc⟩
theorem at_last {l : List Wp} {j : Nat} {z : Wp} {d : Int} (hz : l[j]? = some z) (h : z.d < d) : ∀ i y, j + 1 = i + 1 → l[i]? = some y → y.d < d := fun i y e hy => by
 obtain rfl : j = i := by omega
 rw [hz] at hy
 obtain rfl := Option.some.inj hy
 exact h
theorem box_size {l : List Wp} {k : Nat} {x : Wp} (h : WrapsOk (l.take k)) (hx : l[k]? = some x) (ho : 0 ≤ x.d ∧ x.d < 8) (hp : ∀ j z, k = j + 1 → l[j]? = some z → z.d < x.d) :
  (decide (200 < x.box.size) = false ∧ decide ((200 : Int) < (x.box.size : Int)) = false ∧ Hid (WrapsOk (l.take (k + 1)))) ∨ (decide (200 < x.box.size) = true ∧ decide ((200 : Int) < (x.box.size : Int)) = true ∧ Hid (¬ WrapsOk l)) := by
 by_cases hs : x.box.size ≤ 200
 ·exact .inl ⟨decide_eq_false (by omega), decide_eq_false (by omega), wraps_next h hx ⟨ho.1, ho.2, hs⟩ hp⟩
 ·exact .inr ⟨decide_eq_true (by omega), decide_eq_true (by omega), wraps_bad hx (fun h => hs h.2.2)⟩
theorem mayWrap_any (A : Option Addr) (n c : Nat) (l : List Wp) (w : World) (hl : WL w A n l) (hn : n ≤ 1099511627776) :
  Calls Tryz.prog 91 #[.slice A n c] w (BoolIs (WrapsOk l) w) := by
 have Hl := qj hl
 have Hn := qj hn
 clear hl hn
 go_enter Tryz.func91, Tryz.ntmps91
 go_wp2_with fail
 go_loopw [7] (fun i wr => ∃ k : Nat, k ≤ n ∧ i = .int .i64 k ∧ Hid (WrapsOk (l.take k)) ∧ Gn w wr) (fun i _ => n - (intOf i).toNat)
 case atStart => exact ⟨0, Nat.zero_le _, rfl, wraps_nil, gb_refl _ _⟩
 case round =>
  obtain ⟨k, hk, rfl, HX, hg⟩ := hrel
  by_cases hlt : k < n
  ·have d1 : decide (k < n) = true := decide_eq_true hlt
   have d2 : decide ((k : Int) < (n : Int)) = true := dcT
   have bk : (k : Int) < (n : Int) := by omega
   have t1 : IntKind.i64.wrap ((k : Int) + 1) = ((k + 1 : Nat) : Int) := by rw [IntKind.wrap_i64]; have := Hn.out; omega
   have hWL := Hl.out.keep hg
   obtain ⟨g, o, rfl, hgl, _⟩ := hWL.2 (by omega)
   obtain ⟨x, hx⟩ : ∃ x, l[k]? = some x := ⟨_, List.getElem?_eq_getElem (by rw [Hl.out.1]; exact hlt)⟩
   obtain ⟨_, h0, h1⟩ := wl_of hWL hx
   have HWL := qj hWL
   have Hx := qj hx
   have Hlt := qj hlt
   clear hWL hx hlt hk
   go_upto_region 4 with fail
   obtain ⟨W4, hW4⟩ := nmd (wr.alloc (.cells #[.int .i64 x.d, .string x.box] 70))
   have hb4 : WAt W4 wr.heap.size 0 x := by rw [← hW4]; exact wbox
   have hs4 : wr.heap.size < W4.heap.size := by rw [← hW4]; simp
   have g4 : Gn wr W4 := by rw [← hW4]; exact gb_alloc (gb_refl _ _) _
   have HR : Hid (∀ W, Gn W4 W → WAt W wr.heap.size 0 x) := fun W hW => hb4.kept hs4 hW (by simp)
   have HWL4 : Hid (WL W4 (some ⟨g, o, none⟩) n l) := HWL.out.keep g4
   have Hg4 : Hid (Gn w W4) := gb_none hg g4
   rw [hW4]
   clear hW4 hb4 hs4 g4 h0 h1 hgl
   generalize wr.heap.size = D4 at *
   by_cases ho : 0 ≤ x.d ∧ x.d < 8
   case' neg =>
    have so : decide (0 ≤ x.d ∧ x.d < 8) = false := decide_eq_false ho
    have HF : Hid (¬ WrapsOk l) := wraps_bad Hx.out (fun h => ho ⟨h.1, h.2.1⟩)
    clear ho
   case' pos =>
    have so : decide (0 ≤ x.d ∧ x.d < 8) = true := decide_eq_true ho
    have Hod := qj ho
    clear ho
    rcases k with _ | j
    case' zero => have HP : Hid (∀ j z, (0 : Nat) = j + 1 → l[j]? = some z → z.d < x.d) := fun j z e _ => (by cases e)
    case' succ =>
     obtain ⟨z, hz⟩ : ∃ z, l[j]? = some z := ⟨_, List.getElem?_eq_getElem (by have := Hl.out.1; have := Hlt.out; omega)⟩
     have HZ : Hid (∀ W, Gn W4 W → WAt W g (o + j * 2) z) := fun W hW => (wl_of HWL4.out hz).2.kept (wl_of HWL4.out hz).1 hW (by simp)
     have Hz := qj hz
     have z1 : ((j + 1 : Nat) : Int) - 1 = (j : Int) := by omega
     have z2 : (j : Int) < (n : Int) := by have := Hlt.out; omega
     have z3 : IntKind.i64.wrap (((j + 1 : Nat) : Int) - 1) = (j : Int) := by rw [IntKind.wrap_i64]; have := Hlt.out; have := Hn.out; omega
     have z5 : IntKind.i64.wrap (j : Int) = (j : Int) := by rw [IntKind.wrap_i64]; have := Hlt.out; have := Hn.out; omega
     have z4 : decide (0 < j + 1) = true := by simp
     clear hz
     by_cases hzx : z.d < x.d
     case' neg =>
      have v1 : decide (x.d ≤ z.d) = true := dcT
      have HF : Hid (¬ WrapsOk l) := wraps_fall Hz.out Hx.out (by omega)
      clear hzx
     case' pos =>
      have v1 : decide (x.d ≤ z.d) = false := dcF
      have HP := qj (at_last Hz.out hzx)
      clear hzx
   all_goals try (replace HP := HP.out; rcases box_size HX.out Hx.out Hod.out HP with ⟨s1, s2, HN⟩ | ⟨s1, s2, HF⟩)
   all_goals
    refine tw_go ?_
    refine tw_h 4 ?_
    apply tw_xe 0 12
    ·intro W f hW e12 K hK; obtain ⟨hc0, hc1⟩ := HR.out W hW; go_simp; exact kK hK
    apply tw_xe 0 13
    ·intro W f hW e13 K hK; go_simp; refine (isDev_any x.d W).mono ?_; rintro e w1' ⟨rfl, rfl⟩; exact ⟨_, rfl, hK _ _ (gb_refl _ _) rfl⟩
    refine tw_e 0 14 ?_
    refine tw_e 0 15 ?_
    first | refine tw_no 0 ?_ | refine tw_gh 0 16 3 ?_
    first | refine tw_no 1 ?_ | refine tw_ge 1 16 0 17 ?_
    first | refine tw_no 2 ?_ | refine tw_ge 2 16 0 18 ?_
    first | refine tw_no 0 ?_ | refine tw_gh 0 19 4 ?_
    first | refine tw_no 1 ?_ | (apply tw_is; · intro W f hW hE h0 K hK; have e20 := hE.of 0 20; have e19 := hE.of 1 19; clear hE h0; refine yes_g e19 ?_; obtain ⟨hc0, hc1⟩ := HR.out W hW; go_simp; exact kK hK)
    first | refine tw_no 2 ?_ | refine tw_gh 2 19 0 ?_
    first | refine tw_no 3 ?_ | refine tw_gh 3 19 3 ?_
    first | refine tw_no 4 ?_ | refine tw_ge 4 19 0 23 ?_
    first | refine tw_no 5 ?_ | (apply tw_is; · intro W f hW hE h0 K hK; have e22 := hE.of 2 22; have e24 := hE.of 0 24; have e19 := hE.of 5 19; clear hE h0; refine yes_g e19 ?_; go_simp; exact kK hK)
    first | refine tw_no 6 ?_ | refine tw_ge 6 19 0 25 ?_
    first | refine tw_no 7 ?_ | (apply tw_is; · intro W f hW hE h0 K hK; have e26 := hE.of 0 26; have e19 := hE.of 7 19; clear hE h0; refine yes_g e19 ?_; obtain ⟨hc0, hc1⟩ := HZ.out W hW; go_simp; exact kK hK)
    first | refine tw_no 8 ?_ | (apply tw_is; · intro W f hW hE h0 K hK; have e21 := hE.of 6 21; have e27 := hE.of 0 27; have e19 := hE.of 8 19; clear hE h0; refine yes_g e19 ?_; go_simp; exact kK hK)
    first | refine tw_no 12 ?_ | (apply tw_is; · intro W f hW hE h0 K hK; have e19 := hE.of 9 19; have e28 := hE.of 0 28; have e16 := hE.of 12 16; clear hE h0; refine yes_g e16 ?_; go_simp; exact kK hK)
    refine tw_ee 13 16 0 29 ?_
    refine tw_e 0 30 ?_
    first | refine tw_no 0 ?_ | refine tw_gh 0 31 4 ?_
    first | refine tw_no 1 ?_ | (apply tw_is; · intro W f hW hE h0 K hK; have e32 := hE.of 0 32; have e31 := hE.of 1 31; clear hE h0; refine yes_g e31 ?_; obtain ⟨hc0, hc1⟩ := HR.out W hW; go_simp; exact kK hK)
    first | refine tw_no 2 ?_ | refine tw_ge 2 31 0 33 ?_
    first | refine tw_no 3 ?_ | refine tw_ge 3 31 0 34 ?_
    refine tw_ee 4 31 0 35 ?_
    refine tw_nil fun W f hW hA => ?_
    have e36 : f 36 = _ := hA 0 (some 36) _ rfl
    rw [e36]
    clear hA
    have Hw := qj hW
    clear hW
    first | (have hf := HF.out; clear hf; go_wp2_with fail; go_ret; exact .of_no HF.out (gb_none Hg4.out Hw.out)) | (have b9 := Hlt.out; have b8 := Hn.out; go_wp2_with fail; go_roundw; (case rel => first | exact ⟨0 + 1, by have := Hlt.out; omega, rfl, HN.out, gb_none Hg4.out Hw.out⟩ | exact ⟨j + 1 + 1, by have := Hlt.out; omega, by go_num, HN.out, gb_none Hg4.out Hw.out⟩); (case measure => simp [intOf]; have := Hlt.out; omega))
  ·have hkn : k = n := by omega
   subst hkn
   have d1 : decide (k < k) = false := by simp
   have d2 : decide ((k : Int) < (k : Int)) = false := by simp
   have He : Hid (WrapsOk l) := wraps_all HX.out Hl.out.1
   go_wp2_with fail
   go_ret
   exact .of_yes He.out hg
theorem may_any (r : Rc) (A : Option Addr) (c : Nat) (w : World) (hw : WL w A r.wraps.length r.wraps) (hn : r.wraps.length ≤ 1099511627776) :
  Calls Tryz.prog 51 #[.agg (recCs r A c)] w (BoolIs (MayR r) w) := by
 by_cases h1 : 1 ≤ r.seq
 ·have q1 : decide (1 ≤ r.seq) = true := decide_eq_true h1
  by_cases h2 : r.seq ≤ 1048576
  ·have q2 : decide (r.seq ≤ 1048576) = true := decide_eq_true h2
   by_cases h3 : r.prev.size = 32 ∨ r.seq = 1 ∧ r.prev.size = 0
   ·by_cases h4 : r.kind = 1 ∨ r.kind = 2
    ·have q4 : decide (r.kind = 1 ∨ r.kind = 2) = true := decide_eq_true h4
     by_cases h5 : 0 ≤ r.dev ∧ r.dev < 8
     ·have q5 : decide (0 ≤ r.dev ∧ r.dev < 8) = true := decide_eq_true h5
      by_cases h6 : WrapsOk r.wraps
      ·by_cases h7 : r.tag.size = 0
       ·have q7 := str_none h7
        have HE : Hid (MayR r) := ⟨⟨h1, h2, h3, h4, h5.1, h5.2, .inr h7⟩, h6⟩
        obtain ⟨b0, hb0⟩ := nmd (w.heap.size)
        obtain ⟨W0, hW0⟩ := nmd (w.alloc (.cells (recCs r A c) 25))
        obtain ⟨G0, HX⟩ := rec_box hb0 hW0 hw
        have HG := qj G0
        obtain ⟨⟨y0, y1, y2, y3, y4, y5⟩, _⟩ := HX.out W0 (gb_refl _ _)
        clear G0 hw
        go_enter Tryz.func51, Tryz.ntmps51
        go_upto_region 1 with fail
        clear hW0 hb0
        go_wp2_with fail
        refine (mayHang_any r.seq r.kind r.dev r.prev r.tag A r.wraps.length c _).mono ?_
        intro e w1 hh
        obtain ⟨he, g1⟩ := hh.yes h3
        subst he
        clear hh
        have Hg1 := qj g1
        clear g1 y0 y1 y2 y3 y4 y5
        obtain ⟨⟨y0, y1, y2, y3, y4, y5⟩, _⟩ := HX.out w1 Hg1.out
        go_wp2_with fail
        refine (isKind_any r.kind _).mono ?_
        rintro e _ ⟨rfl, rfl⟩
        go_wp2_with fail
        refine (isDev_any r.dev _).mono ?_
        rintro e _ ⟨rfl, rfl⟩
        go_wp2_with fail
        refine (mayWrap_any A r.wraps.length c r.wraps _ (HX.out w1 Hg1.out).2 hn).mono ?_
        intro e w2 hh
        obtain ⟨he, g2⟩ := hh.yes h6
        subst he
        clear hh
        have Hg2 := qj (gb_none Hg1.out g2)
        clear g2 y0 y1 y2 y3 y4 y5
        obtain ⟨⟨y0, y1, y2, y3, y4, y5⟩, _⟩ := HX.out w2 Hg2.out
        go_wp2_with fail
        go_ret
        exact .of_yes HE.out (gb_none HG.out Hg2.out)
       ·have q7 := str_some h7
        by_cases h8 : r.tag.size = 16
        ·have q8 : ((r.tag.size : Int) == 16) = true := eq_yes (by omega)
         have HE : Hid (MayR r) := ⟨⟨h1, h2, h3, h4, h5.1, h5.2, .inl h8⟩, h6⟩
         obtain ⟨b0, hb0⟩ := nmd (w.heap.size)
         obtain ⟨W0, hW0⟩ := nmd (w.alloc (.cells (recCs r A c) 25))
         obtain ⟨G0, HX⟩ := rec_box hb0 hW0 hw
         have HG := qj G0
         obtain ⟨⟨y0, y1, y2, y3, y4, y5⟩, _⟩ := HX.out W0 (gb_refl _ _)
         clear G0 hw
         go_enter Tryz.func51, Tryz.ntmps51
         go_upto_region 1 with fail
         clear hW0 hb0
         go_wp2_with fail
         refine (mayHang_any r.seq r.kind r.dev r.prev r.tag A r.wraps.length c _).mono ?_
         intro e w1 hh
         obtain ⟨he, g1⟩ := hh.yes h3
         subst he
         clear hh
         have Hg1 := qj g1
         clear g1 y0 y1 y2 y3 y4 y5
         obtain ⟨⟨y0, y1, y2, y3, y4, y5⟩, _⟩ := HX.out w1 Hg1.out
         go_wp2_with fail
         refine (isKind_any r.kind _).mono ?_
         rintro e _ ⟨rfl, rfl⟩
         go_wp2_with fail
         refine (isDev_any r.dev _).mono ?_
         rintro e _ ⟨rfl, rfl⟩
         go_wp2_with fail
         refine (mayWrap_any A r.wraps.length c r.wraps _ (HX.out w1 Hg1.out).2 hn).mono ?_
         intro e w2 hh
         obtain ⟨he, g2⟩ := hh.yes h6
         subst he
         clear hh
         have Hg2 := qj (gb_none Hg1.out g2)
         clear g2 y0 y1 y2 y3 y4 y5
         obtain ⟨⟨y0, y1, y2, y3, y4, y5⟩, _⟩ := HX.out w2 Hg2.out
         go_wp2_with fail
         go_ret
         exact .of_yes HE.out (gb_none HG.out Hg2.out)
        ·have q8 : ((r.tag.size : Int) == 16) = false := eq_no (by omega)
         have HE : Hid (¬ MayR r) := fun h => h.1.2.2.2.2.2.2.elim h8 h7
         obtain ⟨b0, hb0⟩ := nmd (w.heap.size)
         obtain ⟨W0, hW0⟩ := nmd (w.alloc (.cells (recCs r A c) 25))
         obtain ⟨G0, HX⟩ := rec_box hb0 hW0 hw
         have HG := qj G0
         obtain ⟨⟨y0, y1, y2, y3, y4, y5⟩, _⟩ := HX.out W0 (gb_refl _ _)
         clear G0 hw
         go_enter Tryz.func51, Tryz.ntmps51
         go_upto_region 1 with fail
         clear hW0 hb0
         go_wp2_with fail
         refine (mayHang_any r.seq r.kind r.dev r.prev r.tag A r.wraps.length c _).mono ?_
         intro e w1 hh
         obtain ⟨he, g1⟩ := hh.yes h3
         subst he
         clear hh
         have Hg1 := qj g1
         clear g1 y0 y1 y2 y3 y4 y5
         obtain ⟨⟨y0, y1, y2, y3, y4, y5⟩, _⟩ := HX.out w1 Hg1.out
         go_wp2_with fail
         refine (isKind_any r.kind _).mono ?_
         rintro e _ ⟨rfl, rfl⟩
         go_wp2_with fail
         refine (isDev_any r.dev _).mono ?_
         rintro e _ ⟨rfl, rfl⟩
         go_wp2_with fail
         refine (mayWrap_any A r.wraps.length c r.wraps _ (HX.out w1 Hg1.out).2 hn).mono ?_
         intro e w2 hh
         obtain ⟨he, g2⟩ := hh.yes h6
         subst he
         clear hh
         have Hg2 := qj (gb_none Hg1.out g2)
         clear g2 y0 y1 y2 y3 y4 y5
         obtain ⟨⟨y0, y1, y2, y3, y4, y5⟩, _⟩ := HX.out w2 Hg2.out
         go_wp2_with fail
         go_ret
         exact .of_no HE.out (gb_none HG.out Hg2.out)
      ·have HE : Hid (¬ MayR r) := fun h => h6 h.2
       obtain ⟨b0, hb0⟩ := nmd (w.heap.size)
       obtain ⟨W0, hW0⟩ := nmd (w.alloc (.cells (recCs r A c) 25))
       obtain ⟨G0, HX⟩ := rec_box hb0 hW0 hw
       have HG := qj G0
       obtain ⟨⟨y0, y1, y2, y3, y4, y5⟩, _⟩ := HX.out W0 (gb_refl _ _)
       clear G0 hw
       go_enter Tryz.func51, Tryz.ntmps51
       go_upto_region 1 with fail
       clear hW0 hb0
       go_wp2_with fail
       refine (mayHang_any r.seq r.kind r.dev r.prev r.tag A r.wraps.length c _).mono ?_
       intro e w1 hh
       obtain ⟨he, g1⟩ := hh.yes h3
       subst he
       clear hh
       have Hg1 := qj g1
       clear g1 y0 y1 y2 y3 y4 y5
       obtain ⟨⟨y0, y1, y2, y3, y4, y5⟩, _⟩ := HX.out w1 Hg1.out
       go_wp2_with fail
       refine (isKind_any r.kind _).mono ?_
       rintro e _ ⟨rfl, rfl⟩
       go_wp2_with fail
       refine (isDev_any r.dev _).mono ?_
       rintro e _ ⟨rfl, rfl⟩
       go_wp2_with fail
       refine (mayWrap_any A r.wraps.length c r.wraps _ (HX.out w1 Hg1.out).2 hn).mono ?_
       intro e w2 hh
       obtain ⟨he, g2⟩ := hh.no h6
       subst he
       clear hh
       have Hg2 := qj (gb_none Hg1.out g2)
       clear g2 y0 y1 y2 y3 y4 y5
       obtain ⟨⟨y0, y1, y2, y3, y4, y5⟩, _⟩ := HX.out w2 Hg2.out
       go_wp2_with fail
       go_ret
       exact .of_no HE.out (gb_none HG.out Hg2.out)
     ·have q5 : decide (0 ≤ r.dev ∧ r.dev < 8) = false := decide_eq_false h5
      have HE : Hid (¬ MayR r) := fun h => h5 ⟨h.1.2.2.2.2.1, h.1.2.2.2.2.2.1⟩
      obtain ⟨b0, hb0⟩ := nmd (w.heap.size)
      obtain ⟨W0, hW0⟩ := nmd (w.alloc (.cells (recCs r A c) 25))
      obtain ⟨G0, HX⟩ := rec_box hb0 hW0 hw
      have HG := qj G0
      obtain ⟨⟨y0, y1, y2, y3, y4, y5⟩, _⟩ := HX.out W0 (gb_refl _ _)
      clear G0 hw
      go_enter Tryz.func51, Tryz.ntmps51
      go_upto_region 1 with fail
      clear hW0 hb0
      go_wp2_with fail
      refine (mayHang_any r.seq r.kind r.dev r.prev r.tag A r.wraps.length c _).mono ?_
      intro e w1 hh
      obtain ⟨he, g1⟩ := hh.yes h3
      subst he
      clear hh
      have Hg1 := qj g1
      clear g1 y0 y1 y2 y3 y4 y5
      obtain ⟨⟨y0, y1, y2, y3, y4, y5⟩, _⟩ := HX.out w1 Hg1.out
      go_wp2_with fail
      refine (isKind_any r.kind _).mono ?_
      rintro e _ ⟨rfl, rfl⟩
      go_wp2_with fail
      refine (isDev_any r.dev _).mono ?_
      rintro e _ ⟨rfl, rfl⟩
      go_wp2_with fail
      go_ret
      exact .of_no HE.out (gb_none HG.out Hg1.out)
    ·have q4 : decide (r.kind = 1 ∨ r.kind = 2) = false := decide_eq_false h4
     have HE : Hid (¬ MayR r) := fun h => h4 h.1.2.2.2.1
     obtain ⟨b0, hb0⟩ := nmd (w.heap.size)
     obtain ⟨W0, hW0⟩ := nmd (w.alloc (.cells (recCs r A c) 25))
     obtain ⟨G0, HX⟩ := rec_box hb0 hW0 hw
     have HG := qj G0
     obtain ⟨⟨y0, y1, y2, y3, y4, y5⟩, _⟩ := HX.out W0 (gb_refl _ _)
     clear G0 hw
     go_enter Tryz.func51, Tryz.ntmps51
     go_upto_region 1 with fail
     clear hW0 hb0
     go_wp2_with fail
     refine (mayHang_any r.seq r.kind r.dev r.prev r.tag A r.wraps.length c _).mono ?_
     intro e w1 hh
     obtain ⟨he, g1⟩ := hh.yes h3
     subst he
     clear hh
     have Hg1 := qj g1
     clear g1 y0 y1 y2 y3 y4 y5
     obtain ⟨⟨y0, y1, y2, y3, y4, y5⟩, _⟩ := HX.out w1 Hg1.out
     go_wp2_with fail
     refine (isKind_any r.kind _).mono ?_
     rintro e _ ⟨rfl, rfl⟩
     go_wp2_with fail
     go_ret
     exact .of_no HE.out (gb_none HG.out Hg1.out)
   ·have HE : Hid (¬ MayR r) := fun h => h3 h.1.2.2.1
    obtain ⟨b0, hb0⟩ := nmd (w.heap.size)
    obtain ⟨W0, hW0⟩ := nmd (w.alloc (.cells (recCs r A c) 25))
    obtain ⟨G0, HX⟩ := rec_box hb0 hW0 hw
    have HG := qj G0
    obtain ⟨⟨y0, y1, y2, y3, y4, y5⟩, _⟩ := HX.out W0 (gb_refl _ _)
    clear G0 hw
    go_enter Tryz.func51, Tryz.ntmps51
    go_upto_region 1 with fail
    clear hW0 hb0
    go_wp2_with fail
    refine (mayHang_any r.seq r.kind r.dev r.prev r.tag A r.wraps.length c _).mono ?_
    intro e w1 hh
    obtain ⟨he, g1⟩ := hh.no h3
    subst he
    clear hh
    have Hg1 := qj g1
    clear g1 y0 y1 y2 y3 y4 y5
    obtain ⟨⟨y0, y1, y2, y3, y4, y5⟩, _⟩ := HX.out w1 Hg1.out
    go_wp2_with fail
    go_ret
    exact .of_no HE.out (gb_none HG.out Hg1.out)
  ·have q2 : decide (r.seq ≤ 1048576) = false := decide_eq_false h2
   have HE : Hid (¬ MayR r) := fun h => h2 h.1.2.1
   obtain ⟨b0, hb0⟩ := nmd (w.heap.size)
   obtain ⟨W0, hW0⟩ := nmd (w.alloc (.cells (recCs r A c) 25))
   obtain ⟨G0, HX⟩ := rec_box hb0 hW0 hw
   have HG := qj G0
   obtain ⟨⟨y0, y1, y2, y3, y4, y5⟩, _⟩ := HX.out W0 (gb_refl _ _)
   clear G0 hw
   go_enter Tryz.func51, Tryz.ntmps51
   go_upto_region 1 with fail
   clear hW0 hb0
   go_wp2_with fail
   go_ret
   exact .of_no HE.out (HG.out)
 ·have q1 : decide (1 ≤ r.seq) = false := decide_eq_false h1
  have HE : Hid (¬ MayR r) := fun h => h1 h.1.1
  obtain ⟨b0, hb0⟩ := nmd (w.heap.size)
  obtain ⟨W0, hW0⟩ := nmd (w.alloc (.cells (recCs r A c) 25))
  obtain ⟨G0, HX⟩ := rec_box hb0 hW0 hw
  have HG := qj G0
  obtain ⟨⟨y0, y1, y2, y3, y4, y5⟩, _⟩ := HX.out W0 (gb_refl _ _)
  clear G0 hw
  go_enter Tryz.func51, Tryz.ntmps51
  go_upto_region 1 with fail
  clear hW0 hb0
  go_wp2_with fail
  go_ret
  exact .of_no HE.out (HG.out)
end Go.Proofs.YtpcjbjpofcdjeaaGreatDoor.Mb
