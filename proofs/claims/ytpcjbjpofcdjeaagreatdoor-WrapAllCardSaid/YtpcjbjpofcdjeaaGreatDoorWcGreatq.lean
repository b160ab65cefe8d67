/- Keys that came in, opened; the laws' Great of a record and of a log. Written by gen_wc11.py. -/
import Derived.Test.YtpcjbjpofcdjeaaGreatDoorOpnq
import Derived.Test.YtpcjbjpofcdjeaaGreatDoorWcSameq
import Derived.Test.YtpcjbjpofcdjeaaGreatDoorMbLawq
set_option maxHeartbeats 8000000
set_option maxRecDepth 100000
namespace Go.Proofs.YtpcjbjpofcdjeaaGreatDoor.Wc
open Go Go.RowKit Go.ChangeShapes Go.WideShapes Mm Op Mb
section
variable {H : Type} {enc : TypeId × Value → H} {w : World} {spare : Nat → Bool} {held : Bool}
theorem key_cells : Tryz.prog.cellsOf 31 = 2 ∧ Tryz.prog.cellsOf 3 = 1 ∧ Tryz.prog.cellsOf 9 = 1 := ⟨by kernel_rfl, by kernel_rfl, by kernel_rfl⟩
theorem cells_key {fuel : Nat} {cs : List Value} {x : DataW H × List MemPlace} (hl : cs.length = 2) (h : DataW.trod enc Tryz.prog w 0 spare held fuel 31 cs = some x) : ∃ r : Wp, cs = wv1 r := by
 obtain ⟨xs, m, rfl, _, hlen, hxl, hf⟩ := DataW.trod_struct Tryz.underlying31 h
 match cs, hl with
 | [c0, c1], _ =>
  match xs, hxl with
  | [y0, y1], _ =>
   have h0 : DataW.trod enc Tryz.prog w 0 spare held m 3 (List.take (Tryz.prog.cellsOf 3) (List.drop 0 [c0, c1])) = some y0 := hf 0 _ rfl
   have h1 : DataW.trod enc Tryz.prog w 0 spare held m 9 (List.take (Tryz.prog.cellsOf 9) (List.drop 1 [c0, c1])) = some y1 := hf 1 _ rfl
   rw [key_cells.2.1] at h0
   rw [key_cells.2.2] at h1
   obtain ⟨a, ha, _, _⟩ := DataW.trod_int Tryz.underlying3 (show DataW.trod enc Tryz.prog w 0 spare held m 3 [c0] = some y0 from h0)
   obtain ⟨b, hb, _, _⟩ := DataW.trod_string Tryz.underlying9 (show DataW.trod enc Tryz.prog w 0 spare held m 9 [c1] = some y1 from h1)
   simp only [List.cons.injEq, and_true] at ha hb
   subst ha hb
   exact ⟨⟨a, b⟩, rfl⟩
theorem open_keys {r : Reach} {b0 : Nat} {v : Value} {d : DataW H} {p : List MemPlace} (hv : Value.okWide Tryz.prog w r b0 26 v) (h : DataW.Trod enc Tryz.prog w 0 spare held 26 v d p) : ∃ A n c l, v = .slice A n c ∧ WL w A n l ∧ n ≤ c := by
 haveI : Inhabited Wp := ⟨⟨0, ⟨#[]⟩⟩⟩
 obtain ⟨A, n, c, l, rfl, hc, _, _, _, hr⟩ := open_lr (fun (r : Wp) cs => cs = wv1 r) Tryz.underlying26 key_cells.1 (by decide) (fun _ _ _ hl h => cells_key hl h) hv h
 exact ⟨A, n, c, l, rfl, wl_rows hr, hc⟩
end
end Go.Proofs.YtpcjbjpofcdjeaaGreatDoor.Wc
namespace Go.Proofs.YtpcjbjpofcdjeaaGreatDoor.Wc
open Go Go.RowKit Mm Td Vw Dt
open Mb Ro
attribute [local go_sem] Td.upon_value Td.upon_skip Td.upon_enter Td.upon_row Td.look_tmp Td.look_const Td.look_func Td.look_global
def SmallR (r : Rc) : Prop := r.wraps.length ≤ 12 ∧ r.prev.size ≤ 100 ∧ r.tag.size ≤ 100 ∧ ∀ z ∈ r.wraps, z.box.size ≤ 400
theorem great2_any (r : Rc) (A : Option Addr) (c : Nat) (w : World) (hw : WL w A r.wraps.length r.wraps) : Calls Tryz.prog 10 #[.agg (recCs r A c)] w fun e w' => (∃ q, e = .returned (.bool q) ∧ (q = false → SmallR r)) ∧ Gn w w' := by
 obtain ⟨b0, hb0⟩ := nmd (w.heap.size)
 obtain ⟨W0, hW0⟩ := nmd (w.alloc (.cells (recCs r A c) 25))
 obtain ⟨G0, HX⟩ := rec_box hb0 hW0 hw
 have HG := qj G0
 obtain ⟨n, hnn⟩ := nmd (r.wraps.length)
 have Hnn := qj hnn
 clear G0 hw hnn
 go_enter Tryz.func10, Tryz.ntmps10
 go_upto_region 1 with fail
 clear hW0 hb0
 go_wp2_with fail
 go_loopw [3] (fun i wr => ∃ k : Nat, k ≤ n ∧ k ≤ 20 ∧ i = .int .i64 k ∧ Hid (∀ z ∈ r.wraps.take k, z.box.size ≤ 400) ∧ Gn W0 wr) (fun i _ => n - (intOf i).toNat)
 case atStart => exact ⟨0, Nat.zero_le _, by decide, rfl, (fun z hz => by simp at hz), gb_refl _ _⟩
 case round =>
  obtain ⟨k, hk, hk2, rfl, HA, hg⟩ := hrel
  obtain ⟨⟨y0, y1, y2, y3, y4, y5⟩, hWL⟩ := HX.out wr hg
  rw [Hnn.out] at y4 hWL
  by_cases hlt : k < n
  ·have d1 : decide (k < n) = true := decide_eq_true hlt
   have d2 : decide ((k : Int) < (n : Int)) = true := dcT
   by_cases h20 : k < 20
   ·have d3 : decide (k < 20) = true := decide_eq_true h20
    have d4 : decide ((k : Int) < 20) = true := dcT
    have bk : (k : Int) < (n : Int) := by omega
    have t1 : IntKind.i64.wrap ((k : Int) + 1) = ((k + 1 : Nat) : Int) := by rw [IntKind.wrap_i64]; omega
    obtain ⟨g, o, rfl, hgl, _⟩ := hWL.2 (by omega)
    obtain ⟨x, hx⟩ : ∃ x, r.wraps[k]? = some x := ⟨_, List.getElem?_eq_getElem (by rw [hWL.1]; exact hlt)⟩
    obtain ⟨_, h0, h1⟩ := wl_of hWL hx
    have Hlt := qj hlt
    have H20 := qj h20
    have Hx := qj hx
    clear hWL hx hlt hk hk2 h20 hgl
    by_cases hs : x.box.size ≤ 400
    ·have s1 : decide (400 < x.box.size) = false := dcF
     have s2 : decide ((400 : Int) < (x.box.size : Int)) = false := dcF
     have HA2 : Hid (∀ z ∈ r.wraps.take (k + 1), z.box.size ≤ 400) := fun z hz => by
      rw [take_snoc Hx.out] at hz
      rcases List.mem_append.1 hz with h | h
      ·exact HA.out z h
      ·rw [List.mem_singleton.1 h]; exact hs
     clear hs
     go_wp2_with fail
     go_roundw
     case rel => exact ⟨k + 1, by have := Hlt.out; omega, by have := H20.out; omega, rfl, HA2, hg⟩
     case measure => simp [intOf]; have := Hlt.out; omega
    ·have s1 : decide (400 < x.box.size) = true := dcT
     have s2 : decide ((400 : Int) < (x.box.size : Int)) = true := dcT
     clear hs
     go_wp2_with fail
     go_ret
     exact ⟨⟨true, rfl, fun h => (by cases h)⟩, gb_none HG.out hg⟩
   ·have d3 : decide (k < 20) = false := decide_eq_false h20
    have d4 : decide ((k : Int) < 20) = false := dcF
    have h12 : ¬ n ≤ 12 := by omega
    have s1a : decide (12 < n) = true := dcT
    have s1b : decide ((12 : Int) < (n : Int)) = true := dcT
    clear hWL hlt hk hk2 h20 h12
    go_wp2_with fail
    go_ret
    exact ⟨⟨true, rfl, fun h => (by cases h)⟩, gb_none HG.out hg⟩
  ·have d1 : decide (k < n) = false := decide_eq_false hlt
   have d2 : decide ((k : Int) < (n : Int)) = false := dcF
   have HAll : ∀ z ∈ r.wraps, z.box.size ≤ 400 := by
    have h := HA.out
    rwa [List.take_of_length_le (by rw [Hnn.out]; omega)] at h
   have HAll := qj HAll
   clear hWL hlt hk hk2 HA
   by_cases g1 : n ≤ 12
   ·have s1a : decide (12 < n) = false := dcF
    have s1b : decide ((12 : Int) < (n : Int)) = false := dcF
    by_cases g2 : r.prev.size ≤ 100
    ·have s2a : decide (100 < r.prev.size) = false := dcF
     have s2b : decide ((100 : Int) < (r.prev.size : Int)) = false := dcF
     by_cases g3 : r.tag.size ≤ 100
     ·have s3a : decide (100 < r.tag.size) = false := dcF
      have s3b : decide ((100 : Int) < (r.tag.size : Int)) = false := dcF
      have HE : Hid (SmallR r) := ⟨by rw [Hnn.out]; exact g1, g2, g3, HAll.out⟩
      clear g1 g2 g3
      go_wp2_with fail
      go_ret
      exact ⟨⟨false, rfl, fun _ => HE.out⟩, gb_none HG.out hg⟩
     ·have s3a : decide (100 < r.tag.size) = true := dcT
      have s3b : decide ((100 : Int) < (r.tag.size : Int)) = true := dcT
      clear g1 g2 g3
      go_wp2_with fail
      go_ret
      exact ⟨⟨true, rfl, fun h => (by cases h)⟩, gb_none HG.out hg⟩
    ·have s2a : decide (100 < r.prev.size) = true := dcT
     have s2b : decide ((100 : Int) < (r.prev.size : Int)) = true := dcT
     clear g1 g2
     go_wp2_with fail
     go_ret
     exact ⟨⟨true, rfl, fun h => (by cases h)⟩, gb_none HG.out hg⟩
   ·have s1a : decide (12 < n) = true := dcT
    have s1b : decide ((12 : Int) < (n : Int)) = true := dcT
    clear g1
    go_wp2_with fail
    go_ret
    exact ⟨⟨true, rfl, fun h => (by cases h)⟩, gb_none HG.out hg⟩
theorem greatLog_any (A : Option Addr) (n c : Nat) (l : List Rc) (w : World) (hl : LogL w A n l) : Calls Tryz.prog 9 #[.slice A n c] w fun e w' => (∃ q, e = .returned (.bool q) ∧ (q = false → n ≤ 44 ∧ ∀ r ∈ l, SmallR r)) ∧ Gn w w' := by
 have Hl := qj hl
 have Hln : Hid (l.length = n) := hl.1
 clear hl
 go_enter Tryz.func9, Tryz.ntmps9
 go_wp2_with fail
 go_loopw [3] (fun i wr => ∃ k : Nat, k ≤ n ∧ k ≤ 50 ∧ i = .int .i64 k ∧ Hid (∀ r ∈ l.take k, SmallR r) ∧ Gn w wr) (fun i _ => n - (intOf i).toNat)
 case atStart => exact ⟨0, Nat.zero_le _, by decide, rfl, (fun z hz => by simp at hz), gb_refl _ _⟩
 case round =>
  obtain ⟨k, hk, hk2, rfl, HA, hg⟩ := hrel
  by_cases hlt : k < n
  ·have d1 : decide (k < n) = true := decide_eq_true hlt
   have d2 : decide ((k : Int) < (n : Int)) = true := dcT
   by_cases h50 : k < 50
   ·have d3 : decide (k < 50) = true := decide_eq_true h50
    have d4 : decide ((k : Int) < 50) = true := dcT
    have bk : (k : Int) < (n : Int) := by omega
    have t1 : IntKind.i64.wrap ((k : Int) + 1) = ((k + 1 : Nat) : Int) := by rw [IntKind.wrap_i64]; omega
    have hA := Hl.out.keep hg
    obtain ⟨g, o, rfl, hgl, _⟩ := hA.2 (by omega)
    obtain ⟨x, hx⟩ : ∃ x, l[k]? = some x := ⟨_, List.getElem?_eq_getElem (by rw [Hln.out]; exact hlt)⟩
    obtain ⟨XA, xc, hX⟩ := rc_kept (log_rec hA hx).2 hgl
    obtain ⟨⟨z0, z1, z2, z3, z4, z5⟩, hxw⟩ := hX wr (gb_refl _ _)
    have HQ := qj (great2_any x XA xc wr hxw)
    have Hlt := qj hlt
    have H50 := qj h50
    have Hx := qj hx
    have Hg := qj hg
    clear hA hX hxw hx hlt hk hk2 h50 hgl hg
    go_wp2_with fail
    refine HQ.out.mono ?_
    rintro e w1 ⟨⟨q, rfl, hq⟩, g1⟩
    have Hq := qj hq
    have Hg1 := qj (gb_none Hg.out g1)
    clear hq g1 z0 z1 z2 z3 z4 z5 bk HQ
    cases q with
    | true =>
     go_wp2_with fail
     go_ret
     exact ⟨⟨true, rfl, fun h => (by cases h)⟩, Hg1.out⟩
    | false =>
     have HA2 : Hid (∀ r ∈ l.take (k + 1), SmallR r) := fun z hz => by
      rw [take_snocR Hx.out] at hz
      rcases List.mem_append.1 hz with h | h
      ·exact HA.out z h
      ·rw [List.mem_singleton.1 h]; first | exact Hq.out rfl | exact Hq.out trivial | exact Hq.out
     go_wp2_with fail
     go_roundw
     case rel => exact ⟨k + 1, by have := Hlt.out; omega, by have := H50.out; omega, rfl, HA2, Hg1.out⟩
     case measure => simp [intOf]; have := Hlt.out; omega
   ·have d3 : decide (k < 50) = false := decide_eq_false h50
    have d4 : decide ((k : Int) < 50) = false := dcF
    have s1a : decide (44 < n) = true := dcT
    have s1b : decide ((44 : Int) < (n : Int)) = true := dcT
    clear hlt hk hk2 h50
    go_wp2_with fail
    go_ret
    exact ⟨⟨true, rfl, fun h => (by cases h)⟩, hg⟩
  ·have d1 : decide (k < n) = false := decide_eq_false hlt
   have d2 : decide ((k : Int) < (n : Int)) = false := dcF
   have HAll : ∀ r ∈ l, SmallR r := by
    have h := HA.out
    rwa [List.take_of_length_le (by rw [Hln.out]; omega)] at h
   have HAll := qj HAll
   clear hlt hk hk2 HA
   by_cases g1 : n ≤ 44
   ·have s1a : decide (44 < n) = false := dcF
    have s1b : decide ((44 : Int) < (n : Int)) = false := dcF
    have G1 := qj g1
    clear g1
    go_wp2_with fail
    go_ret
    exact ⟨⟨false, rfl, fun _ => ⟨G1.out, HAll.out⟩⟩, hg⟩
   ·have s1a : decide (44 < n) = true := dcT
    have s1b : decide ((44 : Int) < (n : Int)) = true := dcT
    clear g1
    go_wp2_with fail
    go_ret
    exact ⟨⟨true, rfl, fun h => (by cases h)⟩, hg⟩
end Go.Proofs.YtpcjbjpofcdjeaaGreatDoor.Wc
