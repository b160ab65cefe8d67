/- tail.check, tail.take: what goes on with a chain. Written by gen_mbchk.py. -/
import Derived.Test.YtpcjbjpofcdjeaaGreatDoorTwq
import Derived.Test.YtpcjbjpofcdjeaaGreatDoorMbPutq
import Derived.Test.YtpcjbjpofcdjeaaGreatDoorMbEq
import Derived.Test.YtpcjbjpofcdjeaaGreatDoorTdMq
set_option linter.unusedVariables false
set_option maxHeartbeats 40000000
set_option maxRecDepth 100000
namespace Go.Proofs.YtpcjbjpofcdjeaaGreatDoor.Mb
open Go Go.RowKit Mm Td Vw Dt
open Me
attribute [local go_sem] Td.upon_value Td.upon_skip Td.upon_enter Td.upon_row Td.look_tmp Td.look_const Td.look_func Td.look_global
noncomputable def tailCs (l : List Rc) : Array Value := #[.int .i64 ((l).length : Int), .string (lastH l), .bool (memL l 0), .bool (memL l 1), .bool (memL l 2), .bool (memL l 3), .bool (memL l 4), .bool (memL l 5), .bool (memL l 6), .bool (memL l 7)]
theorem tail_at {w : World} {b d : Nat} {l : List Rc} (h : Row w b 177 (tailCs l)) (hd : d < 8) : w.cell? ⟨b, 2 + d, none⟩ = some (.bool (memL l (d : Int))) := by
 refine h.at_ ?_
 match d, hd with
 | 0, _ => rfl
 | 1, _ => rfl
 | 2, _ => rfl
 | 3, _ => rfl
 | 4, _ => rfl
 | 5, _ => rfl
 | 6, _ => rfl
 | 7, _ => rfl
theorem tail_next {l : List Rc} {r : Rc} {d : Nat} (hd : d < 8) (hr : r.dev = (d : Int)) (hs : r.seq = (l.length : Int) + 1) : (((tailCs l).setIfInBounds 0 (.int .i64 r.seq)).setIfInBounds 1 (.string (hashB r))).setIfInBounds (2 + d) (.bool (decide (r.kind = 1))) = tailCs (l ++ [r]) := by
 have e0 : (((l ++ [r]).length : Nat) : Int) = r.seq := by rw [List.length_append, hs]; rfl
 have e1 : lastH (l ++ [r]) = hashB r := lastH_snoc l r
 unfold tailCs
 rw [e0, e1]
 match d, hd, hr with
 | 0, _, hr =>
  have hr : r.dev = 0 := hr
  rw [show memL (l ++ [r]) 0 = decide (r.kind = 1) from by rw [memL_snoc, hr]; rfl]
  rw [show memL (l ++ [r]) 1 = memL l 1 from by rw [memL_snoc, hr]; rfl]
  rw [show memL (l ++ [r]) 2 = memL l 2 from by rw [memL_snoc, hr]; rfl]
  rw [show memL (l ++ [r]) 3 = memL l 3 from by rw [memL_snoc, hr]; rfl]
  rw [show memL (l ++ [r]) 4 = memL l 4 from by rw [memL_snoc, hr]; rfl]
  rw [show memL (l ++ [r]) 5 = memL l 5 from by rw [memL_snoc, hr]; rfl]
  rw [show memL (l ++ [r]) 6 = memL l 6 from by rw [memL_snoc, hr]; rfl]
  rw [show memL (l ++ [r]) 7 = memL l 7 from by rw [memL_snoc, hr]; rfl]
  rfl
 | 1, _, hr =>
  have hr : r.dev = 1 := hr
  rw [show memL (l ++ [r]) 0 = memL l 0 from by rw [memL_snoc, hr]; rfl]
  rw [show memL (l ++ [r]) 1 = decide (r.kind = 1) from by rw [memL_snoc, hr]; rfl]
  rw [show memL (l ++ [r]) 2 = memL l 2 from by rw [memL_snoc, hr]; rfl]
  rw [show memL (l ++ [r]) 3 = memL l 3 from by rw [memL_snoc, hr]; rfl]
  rw [show memL (l ++ [r]) 4 = memL l 4 from by rw [memL_snoc, hr]; rfl]
  rw [show memL (l ++ [r]) 5 = memL l 5 from by rw [memL_snoc, hr]; rfl]
  rw [show memL (l ++ [r]) 6 = memL l 6 from by rw [memL_snoc, hr]; rfl]
  rw [show memL (l ++ [r]) 7 = memL l 7 from by rw [memL_snoc, hr]; rfl]
  rfl
 | 2, _, hr =>
  have hr : r.dev = 2 := hr
  rw [show memL (l ++ [r]) 0 = memL l 0 from by rw [memL_snoc, hr]; rfl]
  rw [show memL (l ++ [r]) 1 = memL l 1 from by rw [memL_snoc, hr]; rfl]
  rw [show memL (l ++ [r]) 2 = decide (r.kind = 1) from by rw [memL_snoc, hr]; rfl]
  rw [show memL (l ++ [r]) 3 = memL l 3 from by rw [memL_snoc, hr]; rfl]
  rw [show memL (l ++ [r]) 4 = memL l 4 from by rw [memL_snoc, hr]; rfl]
  rw [show memL (l ++ [r]) 5 = memL l 5 from by rw [memL_snoc, hr]; rfl]
  rw [show memL (l ++ [r]) 6 = memL l 6 from by rw [memL_snoc, hr]; rfl]
  rw [show memL (l ++ [r]) 7 = memL l 7 from by rw [memL_snoc, hr]; rfl]
  rfl
 | 3, _, hr =>
  have hr : r.dev = 3 := hr
  rw [show memL (l ++ [r]) 0 = memL l 0 from by rw [memL_snoc, hr]; rfl]
  rw [show memL (l ++ [r]) 1 = memL l 1 from by rw [memL_snoc, hr]; rfl]
  rw [show memL (l ++ [r]) 2 = memL l 2 from by rw [memL_snoc, hr]; rfl]
  rw [show memL (l ++ [r]) 3 = decide (r.kind = 1) from by rw [memL_snoc, hr]; rfl]
  rw [show memL (l ++ [r]) 4 = memL l 4 from by rw [memL_snoc, hr]; rfl]
  rw [show memL (l ++ [r]) 5 = memL l 5 from by rw [memL_snoc, hr]; rfl]
  rw [show memL (l ++ [r]) 6 = memL l 6 from by rw [memL_snoc, hr]; rfl]
  rw [show memL (l ++ [r]) 7 = memL l 7 from by rw [memL_snoc, hr]; rfl]
  rfl
 | 4, _, hr =>
  have hr : r.dev = 4 := hr
  rw [show memL (l ++ [r]) 0 = memL l 0 from by rw [memL_snoc, hr]; rfl]
  rw [show memL (l ++ [r]) 1 = memL l 1 from by rw [memL_snoc, hr]; rfl]
  rw [show memL (l ++ [r]) 2 = memL l 2 from by rw [memL_snoc, hr]; rfl]
  rw [show memL (l ++ [r]) 3 = memL l 3 from by rw [memL_snoc, hr]; rfl]
  rw [show memL (l ++ [r]) 4 = decide (r.kind = 1) from by rw [memL_snoc, hr]; rfl]
  rw [show memL (l ++ [r]) 5 = memL l 5 from by rw [memL_snoc, hr]; rfl]
  rw [show memL (l ++ [r]) 6 = memL l 6 from by rw [memL_snoc, hr]; rfl]
  rw [show memL (l ++ [r]) 7 = memL l 7 from by rw [memL_snoc, hr]; rfl]
  rfl
 | 5, _, hr =>
  have hr : r.dev = 5 := hr
  rw [show memL (l ++ [r]) 0 = memL l 0 from by rw [memL_snoc, hr]; rfl]
  rw [show memL (l ++ [r]) 1 = memL l 1 from by rw [memL_snoc, hr]; rfl]
  rw [show memL (l ++ [r]) 2 = memL l 2 from by rw [memL_snoc, hr]; rfl]
  rw [show memL (l ++ [r]) 3 = memL l 3 from by rw [memL_snoc, hr]; rfl]
  rw [show memL (l ++ [r]) 4 = memL l 4 from by rw [memL_snoc, hr]; rfl]
  rw [show memL (l ++ [r]) 5 = decide (r.kind = 1) from by rw [memL_snoc, hr]; rfl]
  rw [show memL (l ++ [r]) 6 = memL l 6 from by rw [memL_snoc, hr]; rfl]
  rw [show memL (l ++ [r]) 7 = memL l 7 from by rw [memL_snoc, hr]; rfl]
  rfl
 | 6, _, hr =>
  have hr : r.dev = 6 := hr
  rw [show memL (l ++ [r]) 0 = memL l 0 from by rw [memL_snoc, hr]; rfl]
  rw [show memL (l ++ [r]) 1 = memL l 1 from by rw [memL_snoc, hr]; rfl]
  rw [show memL (l ++ [r]) 2 = memL l 2 from by rw [memL_snoc, hr]; rfl]
  rw [show memL (l ++ [r]) 3 = memL l 3 from by rw [memL_snoc, hr]; rfl]
  rw [show memL (l ++ [r]) 4 = memL l 4 from by rw [memL_snoc, hr]; rfl]
  rw [show memL (l ++ [r]) 5 = memL l 5 from by rw [memL_snoc, hr]; rfl]
  rw [show memL (l ++ [r]) 6 = decide (r.kind = 1) from by rw [memL_snoc, hr]; rfl]
  rw [show memL (l ++ [r]) 7 = memL l 7 from by rw [memL_snoc, hr]; rfl]
  rfl
 | 7, _, hr =>
  have hr : r.dev = 7 := hr
  rw [show memL (l ++ [r]) 0 = memL l 0 from by rw [memL_snoc, hr]; rfl]
  rw [show memL (l ++ [r]) 1 = memL l 1 from by rw [memL_snoc, hr]; rfl]
  rw [show memL (l ++ [r]) 2 = memL l 2 from by rw [memL_snoc, hr]; rfl]
  rw [show memL (l ++ [r]) 3 = memL l 3 from by rw [memL_snoc, hr]; rfl]
  rw [show memL (l ++ [r]) 4 = memL l 4 from by rw [memL_snoc, hr]; rfl]
  rw [show memL (l ++ [r]) 5 = memL l 5 from by rw [memL_snoc, hr]; rfl]
  rw [show memL (l ++ [r]) 6 = memL l 6 from by rw [memL_snoc, hr]; rfl]
  rw [show memL (l ++ [r]) 7 = decide (r.kind = 1) from by rw [memL_snoc, hr]; rfl]
  rfl
def CheckT (l : List Rc) (kind dev : Int) : Prop := (l.length = 0 → kind = 1 ∧ dev = 0) ∧ (kind = 1 → memL l dev = false) ∧ (kind = 2 → memL l dev = true ∧ dev ≠ 0)
def Err0 (w : World) (v : Value) : Prop := ∃ (a : Addr) (c : Array Value) (t : TypeId), w.heap[a.block]? = some (.cells c t (0, 0)) ∧ v = .iface 251 (.pointer (some a))
def Err1 (w : World) (v : Value) : Prop := ∃ (a : Addr) (c : Array Value) (t : TypeId), w.heap[a.block]? = some (.cells c t (0, 0)) ∧ (v = .iface 251 (.pointer (some a)) ∨ ∃ x y, v = refV x y a)
theorem Err0.keep {w w' : World} {v : Value} (h : Err0 w v) (k : Gn w w') : Err0 w' v := by
 obtain ⟨a, c, t, h1, h2⟩ := h
 exact ⟨a, c, t, (k.block _ (Array.getElem?_eq_some_iff.1 h1).1 (by simp)).trans h1, h2⟩
theorem Err1.keep {w w' : World} {v : Value} (h : Err1 w v) (k : Gn w w') : Err1 w' v := by
 obtain ⟨a, c, t, h1, h2⟩ := h
 exact ⟨a, c, t, (k.block _ (Array.getElem?_eq_some_iff.1 h1).1 (by simp)).trans h1, h2⟩
theorem Err1.iface {w : World} {v : Value} (h : Err1 w v) : ∃ t p, v = .iface t p := by
 obtain ⟨a, c, t, _, rfl | ⟨x, y, rfl⟩⟩ := h
 ·exact ⟨_, _, rfl⟩
 ·exact ⟨_, _, rfl⟩
theorem Err1.wrap {w : World} {v : Value} (h : Err1 w v) (x : ByteArray) (y : Int) : ErrN w (.iface 175 (.agg #[.string x, .int .i64 y, v])) := by
 obtain ⟨a, c, t, hb, rfl | ⟨x1, y1, rfl⟩⟩ := h
 ·exact ⟨a, c, t, hb, .inl ⟨x, y, rfl⟩⟩
 ·exact ⟨a, c, t, hb, .inr ⟨x, y, x1, y1, rfl⟩⟩
theorem check_any (b : Nat) (l : List Rc) (kd : Int) (d : Nat) (hd : d < 8) (hk : kd = 1 ∨ kd = 2) (w : World) (hr : Row w b 177 (tailCs l)) (hE : MErrs w) :
  Calls Tryz.prog 163 #[.pointer (some ⟨b, 0, none⟩), .int .i64 kd, .int .i64 (d : Int)] w fun e w' => ((CheckT l kd (d : Int) ∧ e = .returned .nilIface) ∨ (¬ CheckT l kd (d : Int) ∧ ∃ v, e = .returned v ∧ Err0 w' v)) ∧ Gn w w' := by
 obtain ⟨N, hN⟩ := nmd (l.length)
 obtain ⟨mb, hmb⟩ := nmd (memL l (d : Int))
 have Hyd : Hid (∀ W, Gn w W → W.cell? ⟨b, 2 + d, none⟩ = some (.bool mb)) := fun W hW => by rw [← hmb]; exact tail_at (hr.kept hW (by simp)) hd
 have Hy0 : Hid (∀ W, Gn w W → W.cell? ⟨b, 0, none⟩ = some (.int .i64 (N : Int))) := fun W hW => by rw [← hN]; exact (hr.kept hW (by simp)).at_ (i := 0) rfl
 have HNl := qj hN
 have Hmb := qj hmb
 have HN0 : Hid (N = 0 → memL l (d : Int) = false) := fun e => by rw [List.length_eq_zero_iff.1 (hN.trans e)]; rfl
 have Hk2 := qj hk
 have HE := qj hE
 have bk : (d : Int) < 8 := by omega
 clear hN hmb hr hE hk hd
 go_enter Tryz.func163, Tryz.ntmps163
 go_upto_region 1 with fail
 refine tw_go ?_
 refine tw_h 1 ?_
 refine tw_e 0 9 ?_
 refine tw_h 0 ?_
 refine tw_h 2 ?_
 refine tw_e 1 11 ?_
 refine tw_e 0 13 ?_
 refine tw_ee 0 14 2 12 ?_
 apply tw_xe 0 15
 ·intro W f hW e15 K hK; have yd := Hyd.out W hW; go_simp; exact kK hK
 refine tw_e 6 10 ?_
 refine tw_e 1 16 ?_
 refine tw_nil fun W f hW hA => ?_
 have e7 : f 7 = _ := hA 1 (some 7) _ rfl
 rw [e7]
 have e8 : f 8 = _ := hA 0 (some 8) _ rfl
 rw [e8]
 clear hA
 clear bk
 have y0 := Hy0.out W hW
 by_cases h0 : N = 0
 ·have f0 : ((N : Int) == 0) = true := eq_yes (by omega)
  have f0b : (N == 0) = true := by simpa using h0
  by_cases h1 : kd = 1
  ·have f1 : (kd == 1) = true := eq_yes h1
   by_cases h2 : d = 0
   ·have f2 : ((d : Int) == 0) = true := eq_yes (by omega)
    have f2n : ((d : Int) != 0) = false := by rw [bne, f2]; rfl
    have f2b : (d == 0) = true := by simpa using h2
    have f2c : (d != 0) = false := by rw [bne, f2b]; rfl
    cases mb with
    | true =>
     exact absurd (Hmb.out.symm.trans (HN0.out h0)) (by decide)
    | false =>
     have HS : Hid (CheckT l kd (d : Int)) := ⟨fun _ => ⟨h1, by omega⟩, fun _ => Hmb.out, fun e => absurd (h1.symm.trans e) (by decide)⟩
     clear h0 h1 h2
     go_wp2_with fail
     go_ret
     exact ⟨.inl ⟨HS.out, rfl⟩, hW⟩
   ·have f2 : ((d : Int) == 0) = false := eq_no (by omega)
    have f2n : ((d : Int) != 0) = true := by rw [bne, f2]; rfl
    have f2b : (d == 0) = false := by simpa using h2
    have f2c : (d != 0) = true := by rw [bne, f2b]; rfl
    have HF : Hid (¬ CheckT l kd (d : Int)) := fun h => h2 (by have := (h.1 (HNl.out.trans h0)).2; omega)
    obtain ⟨ea, ec, et, ek, eb⟩ := (HE.out.keep hW).2.2.2.2.1
    have Heb := qj eb
    clear eb h0 h1 h2
    go_wp2_with fail
    go_ret
    exact ⟨.inr ⟨HF.out, _, rfl, ea, ec, et, Heb.out, rfl⟩, hW⟩
  ·have f1 : (kd == 1) = false := eq_no h1
   have HF : Hid (¬ CheckT l kd (d : Int)) := fun h => h1 (h.1 (HNl.out.trans h0)).1
   obtain ⟨ea, ec, et, ek, eb⟩ := (HE.out.keep hW).2.2.2.2.1
   have Heb := qj eb
   clear eb h0 h1
   go_wp2_with fail
   go_ret
   exact ⟨.inr ⟨HF.out, _, rfl, ea, ec, et, Heb.out, rfl⟩, hW⟩
 ·have f0 : ((N : Int) == 0) = false := eq_no (by omega)
  have f0b : (N == 0) = false := by simpa using h0
  by_cases h1 : kd = 1
  ·have f1 : (kd == 1) = true := eq_yes h1
   cases mb with
   | true =>
    have HF : Hid (¬ CheckT l kd (d : Int)) := fun h => absurd (Hmb.out.symm.trans (h.2.1 h1)) (by decide)
    obtain ⟨ea, ec, et, ek, eb⟩ := (HE.out.keep hW).2.2.2.2.2.1
    have Heb := qj eb
    clear eb h0 h1
    go_wp2_with fail
    go_ret
    exact ⟨.inr ⟨HF.out, _, rfl, ea, ec, et, Heb.out, rfl⟩, hW⟩
   | false =>
    have HS : Hid (CheckT l kd (d : Int)) := ⟨fun e => absurd (HNl.out.symm.trans e) h0, fun _ => Hmb.out, fun e => absurd (h1.symm.trans e) (by decide)⟩
    clear h0 h1
    go_wp2_with fail
    go_ret
    exact ⟨.inl ⟨HS.out, rfl⟩, hW⟩
  ·have f1 : (kd == 1) = false := eq_no h1
   cases mb with
   | true =>
    by_cases h2 : d = 0
    ·have f2 : ((d : Int) == 0) = true := eq_yes (by omega)
     have f2n : ((d : Int) != 0) = false := by rw [bne, f2]; rfl
     have f2b : (d == 0) = true := by simpa using h2
     have f2c : (d != 0) = false := by rw [bne, f2b]; rfl
     have HF : Hid (¬ CheckT l kd (d : Int)) := fun h => (h.2.2 (Hk2.out.resolve_left h1)).2 (by omega)
     obtain ⟨ea, ec, et, ek, eb⟩ := (HE.out.keep hW).2.2.2.2.2.2.2
     have Heb := qj eb
     clear eb h0 h1 h2
     go_wp2_with fail
     go_ret
     exact ⟨.inr ⟨HF.out, _, rfl, ea, ec, et, Heb.out, rfl⟩, hW⟩
    ·have f2 : ((d : Int) == 0) = false := eq_no (by omega)
     have f2n : ((d : Int) != 0) = true := by rw [bne, f2]; rfl
     have f2b : (d == 0) = false := by simpa using h2
     have f2c : (d != 0) = true := by rw [bne, f2b]; rfl
     have HS : Hid (CheckT l kd (d : Int)) := ⟨fun e => absurd (HNl.out.symm.trans e) h0, fun e => absurd e h1, fun _ => ⟨Hmb.out, by omega⟩⟩
     clear h0 h1 h2
     go_wp2_with fail
     go_ret
     exact ⟨.inl ⟨HS.out, rfl⟩, hW⟩
   | false =>
    have HF : Hid (¬ CheckT l kd (d : Int)) := fun h => absurd (Hmb.out.symm.trans (h.2.2 (Hk2.out.resolve_left h1)).1) (by decide)
    obtain ⟨ea, ec, et, ek, eb⟩ := (HE.out.keep hW).2.2.2.2.2.2.1
    have Heb := qj eb
    clear eb h0 h1
    go_wp2_with fail
    go_ret
    exact ⟨.inr ⟨HF.out, _, rfl, ea, ec, et, Heb.out, rfl⟩, hW⟩
theorem take_no1 (b : Nat) (l : List Rc) (r : Rc) (RA : Option Addr) (rc : Nat) (w : World) (hr : Row w b 177 (tailCs l)) (hw : ∀ W, w.grownBy W (some b) → WL W RA r.wraps.length r.wraps) (hE : ∀ W, w.grownBy W (some b) → MErrs W) (hn : r.wraps.length ≤ 1099511627776) (hl : l.length ≤ 1000) (hm : ¬ MayR r) :
  Calls Tryz.prog 137 #[.pointer (some ⟨b, 0, none⟩), .agg (recCs r RA rc)] w fun e w' => (∃ v, e = .returned v ∧ Err1 w' v) ∧ Gn w w' := by
 obtain ⟨b1, hb1⟩ := nmd (w.heap.size)
 obtain ⟨W0, hW0⟩ := nmd (w.alloc (.cells (recCs r RA rc) 25))
 have G0 : Gn w W0 := by rw [← hW0]; exact gb_alloc (gb_refl _ _) _
 have hr1 : Row W0 b1 25 (recCs r RA rc) := by rw [← hW0, ← hb1]; exact Row.new _ _ _
 have hbn : b ≠ b1 := by have := hr.lt; omega
 have HX : Hid (∀ W, W0.grownBy W (some b) → RecC0 W b1 r RA rc) := fun W hW => rec_row (hr1.kept hW (by simpa using Ne.symm hbn))
 have HG := qj G0
 have HR : Hid (Row W0 b 177 (tailCs l)) := hr.kept G0 (by simp)
 have HWL : Hid (∀ W, W0.grownBy W (some b) → WL W RA r.wraps.length r.wraps) := fun W hW => hw W (gb_then (gb_none (gb_refl _ _) G0) hW)
 have HE : Hid (∀ W, W0.grownBy W (some b) → MErrs W) := fun W hW => hE W (gb_then (gb_none (gb_refl _ _) G0) hW)
 have Hn := qj hn
 obtain ⟨N, hN⟩ := nmd (l.length)
 have HNl := qj hN
 have HY : Hid (∀ W, Gn W0 W → W.cell? ⟨b, 0, none⟩ = some (.int .i64 (N : Int)) ∧ W.cell? ⟨b, 1, none⟩ = some (.string (lastH l))) := fun W hW => by
  have k := HR.out.kept hW (by simp)
  exact ⟨by rw [← hN]; exact k.at_ (i := 0) rfl, k.at_ (i := 1) rfl⟩
 have Ht1 : Hid (IntKind.i64.wrap ((N : Int) + 1) = (N : Int) + 1) := by show _ = _; rw [IntKind.wrap_i64]; omega
 have HM := qj (may_any r RA rc W0 (HWL.out W0 (gb_refl _ _)) hn)
 obtain ⟨z0, z1, z2, z3, z4, z5⟩ := HX.out W0 (gb_refl _ _)
 have Hm := qj hm
 clear G0 hr1 hbn hr hw hE hn hN hm hl
 go_enter Tryz.func137, Tryz.ntmps137
 go_upto_region 1 with fail
 clear hW0 hb1
 go_wp2_with fail
 refine HM.out.mono ?_
 intro e w1 hh
 obtain ⟨he, g1⟩ := hh.no Hm.out
 subst he
 have Hg1 := qj g1
 clear hh g1 z0 z1 z2 z3 z4 z5
 obtain ⟨ea, ec, et, ek, eb⟩ := (HE.out w1 (gb_none (gb_refl _ _) Hg1.out)).2.1
 have Heb := qj eb
 clear eb
 go_wp2_with fail
 go_ret
 exact ⟨⟨_, rfl, ea, ec, et, Heb.out, .inl rfl⟩, gb_none HG.out Hg1.out⟩
theorem take_no2 (b : Nat) (l : List Rc) (r : Rc) (RA : Option Addr) (rc : Nat) (w : World) (hr : Row w b 177 (tailCs l)) (hw : ∀ W, w.grownBy W (some b) → WL W RA r.wraps.length r.wraps) (hE : ∀ W, w.grownBy W (some b) → MErrs W) (hn : r.wraps.length ≤ 1099511627776) (hl : l.length ≤ 1000) (hm : MayR r) (hs : ¬ r.seq = (l.length : Int) + 1) :
  Calls Tryz.prog 137 #[.pointer (some ⟨b, 0, none⟩), .agg (recCs r RA rc)] w fun e w' => (∃ v, e = .returned v ∧ Err1 w' v) ∧ Gn w w' := by
 obtain ⟨b1, hb1⟩ := nmd (w.heap.size)
 obtain ⟨W0, hW0⟩ := nmd (w.alloc (.cells (recCs r RA rc) 25))
 have G0 : Gn w W0 := by rw [← hW0]; exact gb_alloc (gb_refl _ _) _
 have hr1 : Row W0 b1 25 (recCs r RA rc) := by rw [← hW0, ← hb1]; exact Row.new _ _ _
 have hbn : b ≠ b1 := by have := hr.lt; omega
 have HX : Hid (∀ W, W0.grownBy W (some b) → RecC0 W b1 r RA rc) := fun W hW => rec_row (hr1.kept hW (by simpa using Ne.symm hbn))
 have HG := qj G0
 have HR : Hid (Row W0 b 177 (tailCs l)) := hr.kept G0 (by simp)
 have HWL : Hid (∀ W, W0.grownBy W (some b) → WL W RA r.wraps.length r.wraps) := fun W hW => hw W (gb_then (gb_none (gb_refl _ _) G0) hW)
 have HE : Hid (∀ W, W0.grownBy W (some b) → MErrs W) := fun W hW => hE W (gb_then (gb_none (gb_refl _ _) G0) hW)
 have Hn := qj hn
 obtain ⟨N, hN⟩ := nmd (l.length)
 have HNl := qj hN
 have HY : Hid (∀ W, Gn W0 W → W.cell? ⟨b, 0, none⟩ = some (.int .i64 (N : Int)) ∧ W.cell? ⟨b, 1, none⟩ = some (.string (lastH l))) := fun W hW => by
  have k := HR.out.kept hW (by simp)
  exact ⟨by rw [← hN]; exact k.at_ (i := 0) rfl, k.at_ (i := 1) rfl⟩
 have Ht1 : Hid (IntKind.i64.wrap ((N : Int) + 1) = (N : Int) + 1) := by show _ = _; rw [IntKind.wrap_i64]; omega
 have HM := qj (may_any r RA rc W0 (HWL.out W0 (gb_refl _ _)) hn)
 obtain ⟨z0, z1, z2, z3, z4, z5⟩ := HX.out W0 (gb_refl _ _)
 have Hm := qj hm
 rw [hN] at hs
 have s2e : (r.seq == (N : Int) + 1) = false := eq_no hs
 have s2n : (r.seq != (N : Int) + 1) = true := by rw [bne, s2e]; rfl
 clear G0 hr1 hbn hr hw hE hn hN hm hs hl
 go_enter Tryz.func137, Tryz.ntmps137
 go_upto_region 1 with fail
 clear hW0 hb1
 go_wp2_with fail
 refine HM.out.mono ?_
 intro e w1 hh
 obtain ⟨he, g1⟩ := hh.yes Hm.out
 subst he
 have Hg1 := qj g1
 clear hh g1 z0 z1 z2 z3 z4 z5
 go_upto_region 3 with fail
 refine tw_go ?_
 refine tw_h 3 ?_
 apply tw_xe 0 12
 ·intro W f hW e12 K hK; obtain ⟨z0, z1, z2, z3, z4, z5⟩ := HX.out W (gb_none (gb_refl _ _) (gb_none Hg1.out hW)); go_simp; exact kK hK
 refine tw_h 0 ?_
 refine tw_e 0 14 ?_
 refine tw_e 0 15 ?_
 apply tw_xe 0 16
 ·intro W f hW e16 K hK; obtain ⟨y0, y1⟩ := HY.out W (gb_none Hg1.out hW); go_simp; exact kK hK
 apply tw_xe 0 17
 ·intro W f hW e17 K hK; have t1 := Ht1.out; go_simp; exact kK hK
 refine tw_ee 5 13 0 18 ?_
 refine tw_e 0 19 ?_
 refine tw_nil fun W f hW hA => ?_
 have e11 : f 11 = _ := hA 0 (some 11) _ rfl
 rw [e11]
 clear hA
 have Hg3 := qj (gb_none Hg1.out hW)
 clear hW
 generalize W = w3 at *
 obtain ⟨ea, ec, et, ek, eb⟩ := (HE.out w3 (gb_none (gb_refl _ _) Hg3.out)).2.2.1
 have Heb := qj eb
 clear eb
 obtain ⟨z0, z1, z2, z3, z4, z5⟩ := HX.out w3 (gb_none (gb_refl _ _) Hg3.out)
 go_wp2_with fail
 go_ret
 exact ⟨⟨_, rfl, ea, ec, et, Heb.out, .inr ⟨_, _, rfl⟩⟩, gb_none HG.out Hg3.out⟩
theorem take_no3 (b : Nat) (l : List Rc) (r : Rc) (RA : Option Addr) (rc : Nat) (w : World) (hr : Row w b 177 (tailCs l)) (hw : ∀ W, w.grownBy W (some b) → WL W RA r.wraps.length r.wraps) (hE : ∀ W, w.grownBy W (some b) → MErrs W) (hn : r.wraps.length ≤ 1099511627776) (hl : l.length ≤ 1000) (hm : MayR r) (hs : r.seq = (l.length : Int) + 1) (hp : ¬ r.prev = lastH l) :
  Calls Tryz.prog 137 #[.pointer (some ⟨b, 0, none⟩), .agg (recCs r RA rc)] w fun e w' => (∃ v, e = .returned v ∧ Err1 w' v) ∧ Gn w w' := by
 obtain ⟨b1, hb1⟩ := nmd (w.heap.size)
 obtain ⟨W0, hW0⟩ := nmd (w.alloc (.cells (recCs r RA rc) 25))
 have G0 : Gn w W0 := by rw [← hW0]; exact gb_alloc (gb_refl _ _) _
 have hr1 : Row W0 b1 25 (recCs r RA rc) := by rw [← hW0, ← hb1]; exact Row.new _ _ _
 have hbn : b ≠ b1 := by have := hr.lt; omega
 have HX : Hid (∀ W, W0.grownBy W (some b) → RecC0 W b1 r RA rc) := fun W hW => rec_row (hr1.kept hW (by simpa using Ne.symm hbn))
 have HG := qj G0
 have HR : Hid (Row W0 b 177 (tailCs l)) := hr.kept G0 (by simp)
 have HWL : Hid (∀ W, W0.grownBy W (some b) → WL W RA r.wraps.length r.wraps) := fun W hW => hw W (gb_then (gb_none (gb_refl _ _) G0) hW)
 have HE : Hid (∀ W, W0.grownBy W (some b) → MErrs W) := fun W hW => hE W (gb_then (gb_none (gb_refl _ _) G0) hW)
 have Hn := qj hn
 obtain ⟨N, hN⟩ := nmd (l.length)
 have HNl := qj hN
 have HY : Hid (∀ W, Gn W0 W → W.cell? ⟨b, 0, none⟩ = some (.int .i64 (N : Int)) ∧ W.cell? ⟨b, 1, none⟩ = some (.string (lastH l))) := fun W hW => by
  have k := HR.out.kept hW (by simp)
  exact ⟨by rw [← hN]; exact k.at_ (i := 0) rfl, k.at_ (i := 1) rfl⟩
 have Ht1 : Hid (IntKind.i64.wrap ((N : Int) + 1) = (N : Int) + 1) := by show _ = _; rw [IntKind.wrap_i64]; omega
 have HM := qj (may_any r RA rc W0 (HWL.out W0 (gb_refl _ _)) hn)
 obtain ⟨z0, z1, z2, z3, z4, z5⟩ := HX.out W0 (gb_refl _ _)
 have Hm := qj hm
 rw [hN] at hs
 have s2e : (r.seq == (N : Int) + 1) = true := eq_yes hs
 have s2n : (r.seq != (N : Int) + 1) = false := by rw [bne, s2e]; rfl
 have s3e : (r.prev.toList == (lastH l).toList) = false := str_ne hp
 have s3n : (r.prev.toList != (lastH l).toList) = true := by rw [bne, s3e]; rfl
 clear G0 hr1 hbn hr hw hE hn hN hm hs hp hl
 go_enter Tryz.func137, Tryz.ntmps137
 go_upto_region 1 with fail
 clear hW0 hb1
 go_wp2_with fail
 refine HM.out.mono ?_
 intro e w1 hh
 obtain ⟨he, g1⟩ := hh.yes Hm.out
 subst he
 have Hg1 := qj g1
 clear hh g1 z0 z1 z2 z3 z4 z5
 go_upto_region 3 with fail
 refine tw_go ?_
 refine tw_h 3 ?_
 apply tw_xe 0 12
 ·intro W f hW e12 K hK; obtain ⟨z0, z1, z2, z3, z4, z5⟩ := HX.out W (gb_none (gb_refl _ _) (gb_none Hg1.out hW)); go_simp; exact kK hK
 refine tw_h 0 ?_
 refine tw_e 0 14 ?_
 refine tw_e 0 15 ?_
 apply tw_xe 0 16
 ·intro W f hW e16 K hK; obtain ⟨y0, y1⟩ := HY.out W (gb_none Hg1.out hW); go_simp; exact kK hK
 apply tw_xe 0 17
 ·intro W f hW e17 K hK; have t1 := Ht1.out; go_simp; exact kK hK
 refine tw_ee 5 13 0 18 ?_
 refine tw_e 0 19 ?_
 refine tw_nil fun W f hW hA => ?_
 have e11 : f 11 = _ := hA 0 (some 11) _ rfl
 rw [e11]
 clear hA
 have Hg3 := qj (gb_none Hg1.out hW)
 clear hW
 generalize W = w3 at *
 go_upto_region 5 with fail
 refine tw_go ?_
 refine tw_h 3 ?_
 apply tw_xe 0 26
 ·intro W f hW e26 K hK; obtain ⟨z0, z1, z2, z3, z4, z5⟩ := HX.out W (gb_none (gb_refl _ _) (gb_none Hg3.out hW)); go_simp; exact kK hK
 refine tw_h 0 ?_
 refine tw_e 0 28 ?_
 refine tw_e 0 29 ?_
 apply tw_xe 0 30
 ·intro W f hW e30 K hK; obtain ⟨y0, y1⟩ := HY.out W (gb_none Hg3.out hW); go_simp; exact kK hK
 refine tw_ee 4 27 0 31 ?_
 refine tw_e 0 32 ?_
 refine tw_nil fun W f hW hA => ?_
 have e25 : f 25 = _ := hA 0 (some 25) _ rfl
 rw [e25]
 clear hA
 have Hg5 := qj (gb_none Hg3.out hW)
 clear hW
 generalize W = w5 at *
 obtain ⟨z0, z1, z2, z3, z4, z5⟩ := HX.out w5 (gb_none (gb_refl _ _) Hg5.out)
 obtain ⟨ea, ec, et, ek, eb⟩ := (HE.out w5 (gb_none (gb_refl _ _) Hg5.out)).2.2.2.1
 have Heb := qj eb
 clear eb
 go_wp2_with fail
 go_ret
 exact ⟨⟨_, rfl, ea, ec, et, Heb.out, .inr ⟨_, _, rfl⟩⟩, gb_none HG.out Hg5.out⟩
theorem take_no4 (b : Nat) (l : List Rc) (r : Rc) (RA : Option Addr) (rc : Nat) (w : World) (hr : Row w b 177 (tailCs l)) (hw : ∀ W, w.grownBy W (some b) → WL W RA r.wraps.length r.wraps) (hE : ∀ W, w.grownBy W (some b) → MErrs W) (hn : r.wraps.length ≤ 1099511627776) (hl : l.length ≤ 1000) (hm : MayR r) (hs : r.seq = (l.length : Int) + 1) (hp : r.prev = lastH l) (hct : ¬ CheckT l r.kind r.dev) :
  Calls Tryz.prog 137 #[.pointer (some ⟨b, 0, none⟩), .agg (recCs r RA rc)] w fun e w' => (∃ v, e = .returned v ∧ Err1 w' v) ∧ Gn w w' := by
 obtain ⟨b1, hb1⟩ := nmd (w.heap.size)
 obtain ⟨W0, hW0⟩ := nmd (w.alloc (.cells (recCs r RA rc) 25))
 have G0 : Gn w W0 := by rw [← hW0]; exact gb_alloc (gb_refl _ _) _
 have hr1 : Row W0 b1 25 (recCs r RA rc) := by rw [← hW0, ← hb1]; exact Row.new _ _ _
 have hbn : b ≠ b1 := by have := hr.lt; omega
 have HX : Hid (∀ W, W0.grownBy W (some b) → RecC0 W b1 r RA rc) := fun W hW => rec_row (hr1.kept hW (by simpa using Ne.symm hbn))
 have HG := qj G0
 have HR : Hid (Row W0 b 177 (tailCs l)) := hr.kept G0 (by simp)
 have HWL : Hid (∀ W, W0.grownBy W (some b) → WL W RA r.wraps.length r.wraps) := fun W hW => hw W (gb_then (gb_none (gb_refl _ _) G0) hW)
 have HE : Hid (∀ W, W0.grownBy W (some b) → MErrs W) := fun W hW => hE W (gb_then (gb_none (gb_refl _ _) G0) hW)
 have Hn := qj hn
 obtain ⟨N, hN⟩ := nmd (l.length)
 have HNl := qj hN
 have HY : Hid (∀ W, Gn W0 W → W.cell? ⟨b, 0, none⟩ = some (.int .i64 (N : Int)) ∧ W.cell? ⟨b, 1, none⟩ = some (.string (lastH l))) := fun W hW => by
  have k := HR.out.kept hW (by simp)
  exact ⟨by rw [← hN]; exact k.at_ (i := 0) rfl, k.at_ (i := 1) rfl⟩
 have Ht1 : Hid (IntKind.i64.wrap ((N : Int) + 1) = (N : Int) + 1) := by show _ = _; rw [IntKind.wrap_i64]; omega
 have HM := qj (may_any r RA rc W0 (HWL.out W0 (gb_refl _ _)) hn)
 obtain ⟨z0, z1, z2, z3, z4, z5⟩ := HX.out W0 (gb_refl _ _)
 obtain ⟨d, hd⟩ : ∃ d : Nat, r.dev = (d : Int) := ⟨r.dev.toNat, by have := hm.1.2.2.2.2.1; omega⟩
 have hd8 : d < 8 := by have := hm.1.2.2.2.2.2.1; omega
 have HC : Hid (∀ W, Gn W0 W → Calls Tryz.prog 163 #[.pointer (some ⟨b, 0, none⟩), .int .i64 r.kind, .int .i64 r.dev] W fun e w' => ((CheckT l r.kind r.dev ∧ e = .returned .nilIface) ∨ (¬ CheckT l r.kind r.dev ∧ ∃ v, e = .returned v ∧ Err0 w' v)) ∧ Gn W w') := fun W hW => by
  rw [hd]
  exact check_any b l r.kind d hd8 hm.1.2.2.2.1 W (HR.out.kept hW (by simp)) (HE.out W (gb_none (gb_refl _ _) hW))
 have Hm := qj hm
 have Hct := qj hct
 rw [hN] at hs
 have s2e : (r.seq == (N : Int) + 1) = true := eq_yes hs
 have s2n : (r.seq != (N : Int) + 1) = false := by rw [bne, s2e]; rfl
 have s3e : (r.prev.toList == (lastH l).toList) = true := str_eq hp
 have s3n : (r.prev.toList != (lastH l).toList) = false := by rw [bne, s3e]; rfl
 clear G0 hr1 hbn hr hw hE hn hN hm hs hp hct hd hd8 hl
 go_enter Tryz.func137, Tryz.ntmps137
 go_upto_region 1 with fail
 clear hW0 hb1
 go_wp2_with fail
 refine HM.out.mono ?_
 intro e w1 hh
 obtain ⟨he, g1⟩ := hh.yes Hm.out
 subst he
 have Hg1 := qj g1
 clear hh g1 z0 z1 z2 z3 z4 z5
 go_upto_region 3 with fail
 refine tw_go ?_
 refine tw_h 3 ?_
 apply tw_xe 0 12
 ·intro W f hW e12 K hK; obtain ⟨z0, z1, z2, z3, z4, z5⟩ := HX.out W (gb_none (gb_refl _ _) (gb_none Hg1.out hW)); go_simp; exact kK hK
 refine tw_h 0 ?_
 refine tw_e 0 14 ?_
 refine tw_e 0 15 ?_
 apply tw_xe 0 16
 ·intro W f hW e16 K hK; obtain ⟨y0, y1⟩ := HY.out W (gb_none Hg1.out hW); go_simp; exact kK hK
 apply tw_xe 0 17
 ·intro W f hW e17 K hK; have t1 := Ht1.out; go_simp; exact kK hK
 refine tw_ee 5 13 0 18 ?_
 refine tw_e 0 19 ?_
 refine tw_nil fun W f hW hA => ?_
 have e11 : f 11 = _ := hA 0 (some 11) _ rfl
 rw [e11]
 clear hA
 have Hg3 := qj (gb_none Hg1.out hW)
 clear hW
 generalize W = w3 at *
 go_upto_region 5 with fail
 refine tw_go ?_
 refine tw_h 3 ?_
 apply tw_xe 0 26
 ·intro W f hW e26 K hK; obtain ⟨z0, z1, z2, z3, z4, z5⟩ := HX.out W (gb_none (gb_refl _ _) (gb_none Hg3.out hW)); go_simp; exact kK hK
 refine tw_h 0 ?_
 refine tw_e 0 28 ?_
 refine tw_e 0 29 ?_
 apply tw_xe 0 30
 ·intro W f hW e30 K hK; obtain ⟨y0, y1⟩ := HY.out W (gb_none Hg3.out hW); go_simp; exact kK hK
 refine tw_ee 4 27 0 31 ?_
 refine tw_e 0 32 ?_
 refine tw_nil fun W f hW hA => ?_
 have e25 : f 25 = _ := hA 0 (some 25) _ rfl
 rw [e25]
 clear hA
 have Hg5 := qj (gb_none Hg3.out hW)
 clear hW
 generalize W = w5 at *
 obtain ⟨z0, z1, z2, z3, z4, z5⟩ := HX.out w5 (gb_none (gb_refl _ _) Hg5.out)
 go_wp2_with fail
 refine (HC.out w5 Hg5.out).mono ?_
 rintro e w6 ⟨hres, g6⟩
 rcases hres with ⟨h1, _⟩ | ⟨_, v, rfl, hv⟩
 ·exact absurd h1 Hct.out
 obtain ⟨ea, ec, et, eb, rfl⟩ := hv
 have Heb := qj eb
 have Hg6 := qj (gb_none Hg5.out g6)
 clear eb g6 z0 z1 z2 z3 z4 z5
 obtain ⟨z0, z1, z2, z3, z4, z5⟩ := HX.out w6 (gb_none (gb_refl _ _) Hg6.out)
 go_wp2_with fail
 go_ret
 exact ⟨⟨_, rfl, ea, ec, et, Heb.out, .inr ⟨_, _, rfl⟩⟩, gb_none HG.out Hg6.out⟩
theorem tail_get (l : List Rc) (d : Nat) (hd : d < 8) : (tailCs l)[2 + d]? = some (.bool (memL l (d : Int))) := by
 match d, hd with
 | 0, _ => rfl
 | 1, _ => rfl
 | 2, _ => rfl
 | 3, _ => rfl
 | 4, _ => rfl
 | 5, _ => rfl
 | 6, _ => rfl
 | 7, _ => rfl
theorem take_yes (b : Nat) (l : List Rc) (r : Rc) (RA : Option Addr) (rc : Nat) (w : World) (hr : Row w b 177 (tailCs l)) (hw : ∀ W, w.grownBy W (some b) → WL W RA r.wraps.length r.wraps) (hE : ∀ W, w.grownBy W (some b) → MErrs W) (hn : r.wraps.length ≤ 1099511627776) (hl : l.length ≤ 1000) (hT : ∀ W, w.grownBy W (some b) → Hh.Tabs W) (hm : MayR r) (hs : r.seq = (l.length : Int) + 1) (hp : r.prev = lastH l) (hct : CheckT l r.kind r.dev) :
  Calls Tryz.prog 137 #[.pointer (some ⟨b, 0, none⟩), .agg (recCs r RA rc)] w fun e w' => e = .returned .nilIface ∧ Row w' b 177 (tailCs (l ++ [r])) ∧ w.grownBy w' (some b) := by
 obtain ⟨b1, hb1⟩ := nmd (w.heap.size)
 obtain ⟨W0, hW0⟩ := nmd (w.alloc (.cells (recCs r RA rc) 25))
 have G0 : Gn w W0 := by rw [← hW0]; exact gb_alloc (gb_refl _ _) _
 have hr1 : Row W0 b1 25 (recCs r RA rc) := by rw [← hW0, ← hb1]; exact Row.new _ _ _
 have hbn : b ≠ b1 := by have := hr.lt; omega
 have HX : Hid (∀ W, W0.grownBy W (some b) → RecC0 W b1 r RA rc) := fun W hW => rec_row (hr1.kept hW (by simpa using Ne.symm hbn))
 have HG := qj G0
 have HR : Hid (Row W0 b 177 (tailCs l)) := hr.kept G0 (by simp)
 have HWL : Hid (∀ W, W0.grownBy W (some b) → WL W RA r.wraps.length r.wraps) := fun W hW => hw W (gb_then (gb_none (gb_refl _ _) G0) hW)
 have HE : Hid (∀ W, W0.grownBy W (some b) → MErrs W) := fun W hW => hE W (gb_then (gb_none (gb_refl _ _) G0) hW)
 have Hn := qj hn
 obtain ⟨N, hN⟩ := nmd (l.length)
 have HNl := qj hN
 have HY : Hid (∀ W, Gn W0 W → W.cell? ⟨b, 0, none⟩ = some (.int .i64 (N : Int)) ∧ W.cell? ⟨b, 1, none⟩ = some (.string (lastH l))) := fun W hW => by
  have k := HR.out.kept hW (by simp)
  exact ⟨by rw [← hN]; exact k.at_ (i := 0) rfl, k.at_ (i := 1) rfl⟩
 have Ht1 : Hid (IntKind.i64.wrap ((N : Int) + 1) = (N : Int) + 1) := by show _ = _; rw [IntKind.wrap_i64]; omega
 have HM := qj (may_any r RA rc W0 (HWL.out W0 (gb_refl _ _)) hn)
 obtain ⟨z0, z1, z2, z3, z4, z5⟩ := HX.out W0 (gb_refl _ _)
 have HTb : Hid (∀ W, W0.grownBy W (some b) → Hh.Tabs W) := fun W hW => hT W (gb_then (gb_none (gb_refl _ _) G0) hW)
 obtain ⟨d, hd⟩ : ∃ d : Nat, r.dev = (d : Int) := ⟨r.dev.toNat, by have := hm.1.2.2.2.2.1; omega⟩
 have hd8 : d < 8 := by have := hm.1.2.2.2.2.2.1; omega
 have HC : Hid (∀ W, Gn W0 W → Calls Tryz.prog 163 #[.pointer (some ⟨b, 0, none⟩), .int .i64 r.kind, .int .i64 r.dev] W fun e w' => ((CheckT l r.kind r.dev ∧ e = .returned .nilIface) ∨ (¬ CheckT l r.kind r.dev ∧ ∃ v, e = .returned v ∧ Err0 w' v)) ∧ Gn W w') := fun W hW => by
  rw [hd]
  exact check_any b l r.kind d hd8 hm.1.2.2.2.1 W (HR.out.kept hW (by simp)) (HE.out W (gb_none (gb_refl _ _) hW))
 have Hm := qj hm
 have Hct := qj hct
 have Hd := qj hd
 have Hd8 := qj hd8
 have Hsq := qj hs
 rw [hN] at hs
 have s2e : (r.seq == (N : Int) + 1) = true := eq_yes hs
 have s2n : (r.seq != (N : Int) + 1) = false := by rw [bne, s2e]; rfl
 have s3e : (r.prev.toList == (lastH l).toList) = true := str_eq hp
 have s3n : (r.prev.toList != (lastH l).toList) = false := by rw [bne, s3e]; rfl
 clear G0 hr1 hbn hr hw hE hn hN hm hs hp hct hd hd8 hl hT
 go_enter Tryz.func137, Tryz.ntmps137
 go_upto_region 1 with fail
 clear hW0 hb1
 go_wp2_with fail
 refine HM.out.mono ?_
 intro e w1 hh
 obtain ⟨he, g1⟩ := hh.yes Hm.out
 subst he
 have Hg1 := qj g1
 clear hh g1 z0 z1 z2 z3 z4 z5
 go_upto_region 3 with fail
 refine tw_go ?_
 refine tw_h 3 ?_
 apply tw_xe 0 12
 ·intro W f hW e12 K hK; obtain ⟨z0, z1, z2, z3, z4, z5⟩ := HX.out W (gb_none (gb_refl _ _) (gb_none Hg1.out hW)); go_simp; exact kK hK
 refine tw_h 0 ?_
 refine tw_e 0 14 ?_
 refine tw_e 0 15 ?_
 apply tw_xe 0 16
 ·intro W f hW e16 K hK; obtain ⟨y0, y1⟩ := HY.out W (gb_none Hg1.out hW); go_simp; exact kK hK
 apply tw_xe 0 17
 ·intro W f hW e17 K hK; have t1 := Ht1.out; go_simp; exact kK hK
 refine tw_ee 5 13 0 18 ?_
 refine tw_e 0 19 ?_
 refine tw_nil fun W f hW hA => ?_
 have e11 : f 11 = _ := hA 0 (some 11) _ rfl
 rw [e11]
 clear hA
 have Hg3 := qj (gb_none Hg1.out hW)
 clear hW
 generalize W = w3 at *
 go_upto_region 5 with fail
 refine tw_go ?_
 refine tw_h 3 ?_
 apply tw_xe 0 26
 ·intro W f hW e26 K hK; obtain ⟨z0, z1, z2, z3, z4, z5⟩ := HX.out W (gb_none (gb_refl _ _) (gb_none Hg3.out hW)); go_simp; exact kK hK
 refine tw_h 0 ?_
 refine tw_e 0 28 ?_
 refine tw_e 0 29 ?_
 apply tw_xe 0 30
 ·intro W f hW e30 K hK; obtain ⟨y0, y1⟩ := HY.out W (gb_none Hg3.out hW); go_simp; exact kK hK
 refine tw_ee 4 27 0 31 ?_
 refine tw_e 0 32 ?_
 refine tw_nil fun W f hW hA => ?_
 have e25 : f 25 = _ := hA 0 (some 25) _ rfl
 rw [e25]
 clear hA
 have Hg5 := qj (gb_none Hg3.out hW)
 clear hW
 generalize W = w5 at *
 obtain ⟨z0, z1, z2, z3, z4, z5⟩ := HX.out w5 (gb_none (gb_refl _ _) Hg5.out)
 go_wp2_with fail
 refine (HC.out w5 Hg5.out).mono ?_
 rintro e w6 ⟨hres, g6⟩
 rcases hres with ⟨_, rfl⟩ | ⟨h1, _⟩
 rotate_left
 ·exact absurd Hct.out h1
 have Hg6 := qj (gb_none Hg5.out g6)
 clear g6 z0 z1 z2 z3 z4 z5
 obtain ⟨z0, z1, z2, z3, z4, z5⟩ := HX.out w6 (gb_none (gb_refl _ _) Hg6.out)
 have HR6 := qj (HR.out.kept Hg6.out (by simp))
 have v0 : w6.cell? ⟨b, 0, none⟩ = some (.int .i64 (N : Int)) := (HY.out w6 Hg6.out).1
 have v1 : w6.frozen? ⟨b, 0, none⟩ = false := HR6.out.free 0
 have HR7 := qj (HR6.out.set_ 0 (.int .i64 r.seq))
 have Hg7 : Hid (W0.grownBy (w6.setCell ⟨b, 0, none⟩ (.int .i64 r.seq)) (some b)) := gb_then (gb_none (gb_refl _ _) Hg6.out) (gb_set1 _ _ _ _)
 go_upto_region 11 with fail
 clear v0 v1 z0 z1 z2 z3 z4 z5
 obtain ⟨w7, hw7⟩ := nmd (w6.setCell ⟨b, 0, none⟩ (.int .i64 r.seq))
 rw [hw7] at HR7 Hg7 ⊢
 clear hw7
 obtain ⟨z0, z1, z2, z3, z4, z5⟩ := HX.out w7 Hg7.out
 have HHa := qj (hash_any r RA rc w7 (HWL.out w7 Hg7.out) Hn.out (HTb.out w7 Hg7.out))
 go_wp2_with fail
 refine HHa.out.mono ?_
 rintro e w8 ⟨rfl, g8⟩
 have HR8 := qj (HR7.out.kept g8 (by simp))
 have Hg8 := qj (gb_none Hg7.out g8)
 clear g8 z0 z1 z2 z3 z4 z5 HHa
 have v0 : w8.cell? ⟨b, 1, none⟩ = some (.string (lastH l)) := HR8.out.at_ (i := 1) rfl
 have v1 : w8.frozen? ⟨b, 1, none⟩ = false := HR8.out.free 1
 have HR9 := qj (HR8.out.set_ 1 (.string (hashB r)))
 have Hgb0 : Hid (W0.grownBy (w8.setCell ⟨b, 1, none⟩ (.string (hashB r))) (some b)) := gb_then Hg8.out (gb_set1 _ _ _ _)
 go_upto_region 12 with fail
 clear v0 v1
 obtain ⟨w9, hw9⟩ := nmd (w8.setCell ⟨b, 1, none⟩ (.string (hashB r)))
 rw [hw9] at HR9 Hgb0 ⊢
 have Hgb := Hgb0
 clear hw9 Hgb0
 have bk : (d : Int) < 8 := by have := Hd8.out; omega
 refine th_go 9 ?_
 refine th_h 0 ?_
 refine th_h 3 ?_
 apply th_is
 ·intro W f hW hE h0 K hK; have e63 := hE.of 0 63; clear hE h0; refine yes_f ?_; obtain ⟨z0, z1, z2, z3, z4, z5⟩ := HX.out W (gb_none Hgb.out hW); rw [Hd.out] at z3; go_simp; exact kK hK
 refine th_h 3 ?_
 apply th_is
 ·intro W f hW hE h0 K hK; have e65 := hE.of 0 65; clear hE h0; refine yes_f ?_; obtain ⟨z0, z1, z2, z3, z4, z5⟩ := HX.out W (gb_none Hgb.out hW); rw [Hd.out] at z3; go_simp; exact kK hK
 refine th_e 0 66 ?_
 refine th_e 5 62 ?_
 refine th_e 0 68 ?_
 apply th_is
 ·intro W f hW hE h0 K hK; have e69 := hE.of 0 69; have e64 := hE.of 5 64; clear hE h0; refine yes_f ?_; go_simp; exact kK hK
 refine th_nil fun W f hW hA => ?_
 simp only [List.take_succ_cons, List.take_zero, List.drop_succ_cons, List.drop_zero, lexIn, Act.put, List.setIfInBounds_toArray, List.set_cons_zero, List.set_cons_succ]
 have e67 : f 67 = _ := hA 3 (some 67) _ rfl
 rw [e67]
 have e70 : f 70 = _ := hA 0 (some 70) _ rfl
 rw [e70]
 clear hA
 clear bk
 obtain ⟨qk, hqk⟩ := nmd ((r.kind == 1))
 have Hqk : Hid (decide (r.kind = 1) = qk) := by
  show _ = _
  rw [← hqk]
  by_cases h : r.kind = 1
  ·rw [eq_yes h, decide_eq_true h]
  ·rw [eq_no h, decide_eq_false h]
 have HRw := qj (HR9.out.kept hW (by simp))
 have v0 : W.cell? ⟨b, 2 + d, none⟩ = some (.bool (memL l (d : Int))) := by
  rw [HRw.out.get]
  have h0 := tail_get l d Hd8.out
  rw [Array.getElem?_setIfInBounds, if_neg (by omega), Array.getElem?_setIfInBounds, if_neg (by omega)]
  exact h0
 have v1 : W.frozen? ⟨b, 2 + d, none⟩ = false := HRw.out.free (2 + d)
 have HRz : Hid (Row (W.setCell ⟨b, 2 + d, none⟩ (.bool qk)) b 177 (tailCs (l ++ [r]))) := by
  have h0 := HRw.out.set_ (2 + d) (.bool qk)
  rw [← Hqk.out, tail_next Hd8.out Hd.out Hsq.out] at h0
  rw [← Hqk.out]
  exact h0
 have Hgz : Hid (w.grownBy (W.setCell ⟨b, 2 + d, none⟩ (.bool qk)) (some b)) := gb_then (gb_none (gb_refl _ _) HG.out) (gb_then (gb_none Hgb.out hW) (gb_set1 _ _ _ _))
 clear hW
 go_wp2_with fail
 go_ret
 exact ⟨rfl, HRz.out, Hgz.out⟩
end Go.Proofs.YtpcjbjpofcdjeaaGreatDoor.Mb
