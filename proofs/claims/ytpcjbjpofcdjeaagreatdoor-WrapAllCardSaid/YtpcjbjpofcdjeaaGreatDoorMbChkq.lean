/- checkChain, Check. Written by gen_mbchk2.py. -/
import Derived.Test.YtpcjbjpofcdjeaaGreatDoorMbTailq
set_option linter.unusedVariables false
set_option maxHeartbeats 16000000
set_option maxRecDepth 100000
namespace Go.Proofs.YtpcjbjpofcdjeaaGreatDoor.Mb
open Go Go.RowKit Mm Td Vw Dt
open Me
attribute [local go_sem] Td.upon_value Td.upon_skip Td.upon_enter Td.upon_row Td.look_tmp Td.look_const Td.look_func Td.look_global
theorem tail_zero : tailCs [] = #[.int .i64 0, .string ⟨#[]⟩, .bool false, .bool false, .bool false, .bool false, .bool false, .bool false, .bool false, .bool false] := rfl
theorem zero_tail (W : World) : (zeroValue 177).run Tryz.prog W = .ok (.agg #[.int .i64 0, .string ⟨#[]⟩, .bool false, .bool false, .bool false, .bool false, .bool false, .bool false, .bool false, .bool false]) W := by kernel_rfl
theorem log_rec {w : World} {g o n : Nat} {l : List Rc} (h : LogL w (some ⟨g, o, none⟩) n l) {i : Nat} {r : Rc} (hr : l[i]? = some r) : g < w.heap.size ∧ RcAt w g (o + i * 6) r := by
 obtain ⟨g', o', e, hg, hc⟩ := log_at h hr
 cases e
 exact ⟨hg, hc⟩
theorem take_rec {l : List Rc} {k : Nat} {r : Rc} (h : l[k]? = some r) : l.take (k + 1) = l.take k ++ [r] := by rw [List.take_add_one, h]; rfl
theorem step_good {l : List Rc} {k : Nat} {r : Rc} (hr : l[k]? = some r) (hg : GoodR (l.take k)) (hm : MayR r) (hs : r.seq = ((l.take k).length : Int) + 1) (hp : r.prev = lastH (l.take k)) (hc : CheckT (l.take k) r.kind r.dev) : GoodR (l.take (k + 1)) := by
 refine good_upto hr hg ⟨hm, hs, hp, fun e => hc.1 (by rw [e]; rfl), fun h1 => ?_, fun h2 => ?_⟩
 ·rw [good_mem hg]; exact hc.2.1 h1
 ·rw [good_mem hg]; exact hc.2.2 h2
theorem good_step {l : List Rc} {k : Nat} {r : Rc} (hr : l[k]? = some r) (h : GoodR l) : MayR r ∧ r.seq = ((l.take k).length : Int) + 1 ∧ r.prev = lastH (l.take k) ∧ CheckT (l.take k) r.kind r.dev := by
 have hs := h k r hr
 have hg := good_take h k
 refine ⟨hs.1, hs.2.1, hs.2.2.1, fun e => hs.2.2.2.1 (List.length_eq_zero_iff.1 e), fun h1 => ?_, fun h2 => ?_⟩
 ·rw [← good_mem hg]; exact hs.2.2.2.2.1 h1
 ·rw [← good_mem hg]; exact hs.2.2.2.2.2 h2
theorem take_no (b : Nat) (l : List Rc) (r : Rc) (RA : Option Addr) (rc : Nat) (w : World) (hr : Row w b 177 (tailCs l)) (hw : ∀ W, w.grownBy W (some b) → WL W RA r.wraps.length r.wraps) (hE : ∀ W, w.grownBy W (some b) → MErrs W) (hn : r.wraps.length ≤ 1099511627776) (hl : l.length ≤ 1000) (h : ¬ (MayR r ∧ r.seq = (l.length : Int) + 1 ∧ r.prev = lastH l ∧ CheckT l r.kind r.dev)) :
  Calls Tryz.prog 137 #[.pointer (some ⟨b, 0, none⟩), .agg (recCs r RA rc)] w fun e w' => (∃ v, e = .returned v ∧ Err1 w' v) ∧ Gn w w' := by
 by_cases h1 : MayR r
 ·by_cases h2 : r.seq = (l.length : Int) + 1
  ·by_cases h3 : r.prev = lastH l
   ·exact take_no4 b l r RA rc w hr hw hE hn hl h1 h2 h3 (fun h4 => h ⟨h1, h2, h3, h4⟩)
   ·exact take_no3 b l r RA rc w hr hw hE hn hl h1 h2 h3
  ·exact take_no2 b l r RA rc w hr hw hE hn hl h1 h2
 ·exact take_no1 b l r RA rc w hr hw hE hn hl h1
theorem checkChain_any (A : Option Addr) (n c : Nat) (l : List Rc) (w : World) (hl : LogL w A n l) (hb : ∀ r ∈ l, r.wraps.length ≤ 1099511627776) (hT : Hh.Tabs w) (hE : MErrs w) :
  Calls Tryz.prog 103 #[.slice A n c] w fun e w' => ((ChainR l ∧ e = .returned .nilIface) ∨ (¬ ChainR l ∧ ∃ v, e = .returned v ∧ ErrN w' v)) ∧ Gn w w' := by
 have Hl := qj hl
 have Hb := qj hb
 by_cases hn : n ≤ 40
 ·have d1 : decide (40 < n) = false := dcF
  have d2 : decide ((40 : Int) < (n : Int)) = false := dcF
  have Hn := qj hn
  have hz := zero_tail
  obtain ⟨b, hbb⟩ := nmd (w.heap.size)
  obtain ⟨W1, hW1⟩ := nmd (w.alloc (.cells #[.int .i64 0, .string ⟨#[]⟩, .bool false, .bool false, .bool false, .bool false, .bool false, .bool false, .bool false, .bool false] 177))
  have HR1 : Hid (Row W1 b 177 (tailCs [])) := by show Row _ _ _ _; rw [tail_zero, ← hW1, ← hbb]; exact Row.new _ _ _
  have g1 : Gn w W1 := by rw [← hW1]; exact gb_alloc (gb_refl _ _) _
  have Hg1 := qj g1
  have HB : Hid (w.heap.size ≤ b) := by show _ ≤ _; omega
  have HT := qj hT
  have Hbb := qj hbb
  have HW1 := qj hW1
  clear hbb hW1
  have HE := qj hE
  clear hl hb hn hT hE g1
  go_enter Tryz.func103, Tryz.ntmps103
  go_upto_region 4 with fail
  rw [Hbb.out, HW1.out]
  clear HW1 Hbb d1 d2 hz
  go_wp2_with fail
  go_loopw [18] (fun iv wr => ∃ k : Nat, k ≤ n ∧ iv = .int .i64 k ∧ Hid (Row wr b 177 (tailCs (l.take k))) ∧ Hid (GoodR (l.take k)) ∧ Gn w wr) (fun iv _ => n - (intOf iv).toNat)
  case atStart => exact ⟨0, Nat.zero_le _, rfl, HR1.out, good_nil, Hg1.out⟩
  case round =>
   obtain ⟨k, hk, rfl, HRk, HGd, hg⟩ := hrel
   by_cases hlt : k < n
   ·have d1 : decide (k < n) = true := decide_eq_true hlt
    have d2 : decide ((k : Int) < (n : Int)) = true := dcT
    have bk : (k : Int) < (n : Int) := by omega
    obtain ⟨g, o, rfl, hgl, _⟩ := Hl.out.2 (by omega)
    obtain ⟨r, hx⟩ : ∃ r, l[k]? = some r := ⟨_, List.getElem?_eq_getElem (by rw [Hl.out.1]; exact hlt)⟩
    obtain ⟨RA, rc, x0, x1, x2, x3, x4, x5, hwl, _⟩ := (log_rec Hl.out hx).2
    have hbl := hg.block g hgl (by simp)
    have y0 := (World.cell?_of_block (a := ⟨g, o + k * 6, none⟩) hbl).trans x0
    have y1 := (World.cell?_of_block (a := ⟨g, o + k * 6 + 1, none⟩) hbl).trans x1
    have y2 := (World.cell?_of_block (a := ⟨g, o + k * 6 + 2, none⟩) hbl).trans x2
    have y3 := (World.cell?_of_block (a := ⟨g, o + k * 6 + 3, none⟩) hbl).trans x3
    have y4 := (World.cell?_of_block (a := ⟨g, o + k * 6 + 4, none⟩) hbl).trans x4
    have y5 := (World.cell?_of_block (a := ⟨g, o + k * 6 + 5, none⟩) hbl).trans x5
    have hbr : r.wraps.length ≤ 1099511627776 := Hb.out r (List.mem_of_getElem? hx)
    have hlen : (l.take k).length = k := by rw [List.length_take, Hl.out.1]; omega
    have t1 : IntKind.i64.wrap ((k : Int) + 1) = ((k + 1 : Nat) : Int) := by rw [IntKind.wrap_i64]; have := Hn.out; omega
    obtain ⟨W4, hW4⟩ := nmd (wr.alloc (.cells (recCs r RA rc) 25))
    obtain ⟨b4, hb4⟩ := nmd (wr.heap.size)
    have HR4 : Hid (Row W4 b4 25 (recCs r RA rc)) := by rw [← hW4, ← hb4]; exact Row.new _ _ _
    have g4 : Gn wr W4 := by rw [← hW4]; exact gb_alloc (gb_refl _ _) _
    have HRb4 := qj (HRk.out.kept g4 (by simp))
    have Hg4 : Hid (Gn w W4) := gb_none hg g4
    have HUp : Hid (∀ W, W4.grownBy W (some b) → Gn w W) := fun W hW => gb_new Hg4.out hW HB.out
    have hw4 : ∀ W, W4.grownBy W (some b) → WL W RA r.wraps.length r.wraps := fun W hW => hwl.keep (HUp.out W hW)
    have hE4 : ∀ W, W4.grownBy W (some b) → MErrs W := fun W hW => HE.out.keep (HUp.out W hW)
    have hT4 : ∀ W, W4.grownBy W (some b) → Hh.Tabs W := fun W hW => HT.out.keep (HUp.out W hW) (by simp)
    have hl4 : (l.take k).length ≤ 1000 := by rw [hlen]; have := Hn.out; omega
    have Hlt := qj hlt
    by_cases hs : MayR r ∧ r.seq = ((l.take k).length : Int) + 1 ∧ r.prev = lastH (l.take k) ∧ CheckT (l.take k) r.kind r.dev
    ·have HTk := qj (take_yes b (l.take k) r RA rc W4 HRb4.out hw4 hE4 hbr hl4 hT4 hs.1 hs.2.1 hs.2.2.1 hs.2.2.2)
     have HN : Hid (GoodR (l.take (k + 1))) := step_good hx HGd.out hs.1 hs.2.1 hs.2.2.1 hs.2.2.2
     have HNl := qj (take_rec hx)
     clear hs hw4 hE4 hT4 hl4 hlen hbr hwl hx x0 x1 x2 x3 x4 x5 hbl hlt hk hgl hg g4
     go_upto_region 7 with fail
     clear y0 y1 y2 y3 y4 y5 hW4 hb4
     obtain ⟨z0, z1, z2, z3, z4, z5⟩ := rec_row HR4.out
     go_wp2_with fail
     refine HTk.out.mono ?_
     rintro e w5 ⟨rfl, hr5, g5⟩
     have HR5 := qj hr5
     have Hg5 := qj (HUp.out w5 g5)
     clear hr5 g5 z0 z1 z2 z3 z4 z5
     go_wp2_with fail
     go_roundw
     case rel => exact ⟨k + 1, by have := Hlt.out; omega, rfl, by show Row _ _ _ _; rw [HNl.out]; exact HR5.out, HN, Hg5.out⟩
     case measure => simp [intOf]; have := Hlt.out; omega
    ·have HTk := qj (take_no b (l.take k) r RA rc W4 HRb4.out hw4 hE4 hbr hl4 hs)
     have HF : Hid (¬ ChainR l) := fun h => hs (good_step hx h.2)
     clear hs hw4 hE4 hT4 hl4 hlen hbr hwl hx x0 x1 x2 x3 x4 x5 hbl hlt hk hgl hg g4
     go_upto_region 7 with fail
     clear y0 y1 y2 y3 y4 y5 hW4 hb4
     obtain ⟨z0, z1, z2, z3, z4, z5⟩ := rec_row HR4.out
     go_wp2_with fail
     refine HTk.out.mono ?_
     rintro e w5 ⟨⟨v, rfl, hv⟩, g5⟩
     obtain ⟨vt, vp, rfl⟩ := hv.iface
     have HV := qj hv
     have Hg5 := qj (gb_none Hg4.out g5)
     clear hv g5 z0 z1 z2 z3 z4 z5
     go_wp2_with fail
     go_ret
     exact ⟨.inr ⟨HF.out, _, rfl, HV.out.wrap _ _⟩, Hg5.out⟩
   ·have hkn : k = n := by omega
    subst hkn
    have d1 : decide (k < k) = false := by simp
    have d2 : decide ((k : Int) < (k : Int)) = false := by simp
    have He : Hid (ChainR l) := ⟨by rw [Hl.out.1]; exact Hn.out, by
     have h := HGd.out
     rwa [List.take_of_length_le (by rw [Hl.out.1]; exact Nat.le_refl _)] at h⟩
    go_wp2_with fail
    go_ret
    exact ⟨.inl ⟨He.out, rfl⟩, hg⟩
 ·have d1 : decide (40 < n) = true := dcT
  have d2 : decide ((40 : Int) < (n : Int)) = true := dcT
  have HF : Hid (¬ ChainR l) := fun h => hn (by have := h.1; rw [Hl.out.1] at this; exact this)
  obtain ⟨ea, ec, et, ek, eb⟩ := hE.1
  have Heb := qj eb
  clear hl hb hn hT hE eb
  go_enter Tryz.func103, Tryz.ntmps103
  go_wp2_with fail
  go_ret
  exact ⟨.inr ⟨HF.out, _, rfl, ea, ec, et, Heb.out, .inl ⟨_, _, rfl⟩⟩, gb_refl _ _⟩
theorem check_log (A : Option Addr) (n c : Nat) (l : List Rc) (w : World) (hl : LogL w A n l) (hb : ∀ r ∈ l, r.wraps.length ≤ 1099511627776) (hT : Hh.Tabs w) (hE : MErrs w) :
  Calls Tryz.prog 62 #[.slice A n c] w (BoolIs (ChainR l) w) := by
 have HC := qj (checkChain_any A n c l w hl hb hT hE)
 have HE := qj hE
 clear hl hb hT hE
 go_enter Tryz.func62, Tryz.ntmps62
 go_wp2_with fail
 refine HC.out.mono ?_
 rintro e w1 ⟨hres, g1⟩
 have hE1 := HE.out.keep g1
 rcases hres with ⟨h1, rfl⟩ | ⟨h1, v, rfl, hv⟩
 ·have HS := qj h1
  have HRs := qj (reason_nil w1 hE1)
  have Hg1 := qj g1
  clear h1 hE1 g1
  go_wp2_with fail
  refine HRs.out.mono ?_
  rintro e _ ⟨rfl, rfl⟩
  go_wp2_with fail
  go_ret
  exact .of_yes HS.out Hg1.out
 ·have HF := qj h1
  have HRs := qj (reason_some v w1 hv hE1)
  obtain ⟨vp, rfl⟩ := hv.iface
  have Hg1 := qj g1
  clear h1 hE1 g1 hv
  go_wp2_with fail
  refine HRs.out.mono ?_
  rintro e w2 ⟨t, v, rfl, g2⟩
  have Hg2 := qj (gb_none Hg1.out g2)
  clear g2
  go_wp2_with fail
  go_ret
  exact .of_no HF.out Hg2.out
end Go.Proofs.YtpcjbjpofcdjeaaGreatDoor.Mb
