/- What the laws of stage 15 share. Written by gen_mblaw.py. -/
import Derived.Test.YtpcjbjpofcdjeaaGreatDoorMbChkq
import Derived.Test.YtpcjbjpofcdjeaaGreatDoorMbSameq
import Derived.Test.YtpcjbjpofcdjeaaGreatDoorMbRefCq
set_option linter.unusedVariables false
set_option maxHeartbeats 16000000
set_option maxRecDepth 100000
namespace Go.Proofs.YtpcjbjpofcdjeaaGreatDoor.Mb
open Go Go.RowKit Mm Td Vw Dt
open Me
attribute [local go_sem] Td.upon_value Td.upon_skip Td.upon_enter Td.upon_row Td.look_tmp Td.look_const Td.look_func Td.look_global
def Rdy (w : World) : Prop := Hh.Tabs w ∧ MErrs w ∧ ErrT w
theorem Rdy.keep {w w' : World} (h : Rdy w) (g : Gn w w') : Rdy w' := ⟨h.1.keep g (by simp), h.2.1.keep g, h.2.2.keep g (by simp)⟩
theorem great_any (r : Rc) (A : Option Addr) (c : Nat) (w : World) (hw : WL w A r.wraps.length r.wraps) (hn : r.wraps.length ≤ c) :
  Calls Tryz.prog 10 #[.agg (recCs r A c)] w fun e w' => (∃ q, e = .returned (.bool q) ∧ (q = false → r.wraps.length ≤ 12)) ∧ Gn w w' := by
 obtain ⟨b0, hb0⟩ := nmd (w.heap.size)
 obtain ⟨W0, hW0⟩ := nmd (w.alloc (.cells (recCs r A c) 25))
 obtain ⟨G0, HX⟩ := rec_box hb0 hW0 hw
 have HG := qj G0
 have Hn := qj hn
 obtain ⟨n, hnn⟩ := nmd (r.wraps.length)
 have Hnn := qj hnn
 clear G0 hw hn hnn
 go_enter Tryz.func10, Tryz.ntmps10
 go_upto_region 1 with fail
 clear hW0 hb0
 go_wp2_with fail
 go_loopw [3] (fun i wr => ∃ k : Nat, k ≤ n ∧ k ≤ 20 ∧ i = .int .i64 k ∧ Gn W0 wr) (fun i _ => n - (intOf i).toNat)
 case atStart => exact ⟨0, Nat.zero_le _, by decide, rfl, gb_refl _ _⟩
 case round =>
  obtain ⟨k, hk, hk2, rfl, hg⟩ := hrel
  obtain ⟨⟨y0, y1, y2, y3, y4, y5⟩, hWL⟩ := HX.out wr hg
  rw [Hnn.out] at y4 hWL
  by_cases hlt : k < n
  ·have d1 : decide (k < n) = true := decide_eq_true hlt
   have d2 : decide ((k : Int) < (n : Int)) = true := dcT
   by_cases h20 : k < 20
   ·have d3 : decide (k < 20) = true := decide_eq_true h20
    have d4 : decide ((k : Int) < 20) = true := dcT
    have bk : (k : Int) < (n : Int) := by omega
    have t1 : IntKind.i64.wrap ((k : Int) + 1) = ((k + 1 : Nat) : Int) := by rw [IntKind.wrap_i64]; omega
    obtain ⟨g, o, rfl, hgl, _⟩ := hWL.2 (by omega)
    obtain ⟨x, hx⟩ : ∃ x, r.wraps[k]? = some x := ⟨_, List.getElem?_eq_getElem (by rw [hWL.1]; exact hlt)⟩
    obtain ⟨_, h0, h1⟩ := wl_of hWL hx
    have Hlt := qj hlt
    have H20 := qj h20
    clear hWL hx hlt hk hk2 h20 hgl
    by_cases hs : x.box.size ≤ 400
    ·have s1 : decide (400 < x.box.size) = false := dcF
     have s2 : decide ((400 : Int) < (x.box.size : Int)) = false := dcF
     clear hs
     go_wp2_with fail
     go_roundw
     case rel => exact ⟨k + 1, by have := Hlt.out; omega, by have := H20.out; omega, rfl, hg⟩
     case measure => simp [intOf]; have := Hlt.out; omega
    ·have s1 : decide (400 < x.box.size) = true := dcT
     have s2 : decide ((400 : Int) < (x.box.size : Int)) = true := dcT
     clear hs
     go_wp2_with fail
     go_ret
     exact ⟨⟨true, rfl, fun h => (by cases h)⟩, gb_none HG.out hg⟩
   ·have d3 : decide (k < 20) = false := decide_eq_false h20
    have d4 : decide ((k : Int) < 20) = false := dcF
    clear hWL hlt hk hk2 h20
    by_cases g1 : n ≤ 12
    ·have s1a : decide (12 < n) = false := dcF
     have s1b : decide ((12 : Int) < (n : Int)) = false := dcF
     by_cases g2 : r.prev.size ≤ 100
     ·have s2a : decide (100 < r.prev.size) = false := dcF
      have s2b : decide ((100 : Int) < (r.prev.size : Int)) = false := dcF
      by_cases g3 : r.tag.size ≤ 100
      ·have s3a : decide (100 < r.tag.size) = false := dcF
       have s3b : decide ((100 : Int) < (r.tag.size : Int)) = false := dcF
       have HE : Hid (r.wraps.length ≤ 12) := by show _ ≤ _; rw [Hnn.out]; exact g1
       clear g1 g2 g3
       go_wp2_with fail
       go_ret
       exact ⟨⟨false, rfl, fun _ => HE.out⟩, gb_none HG.out hg⟩
      ·have s3a : decide (100 < r.tag.size) = true := dcT
       have s3b : decide ((100 : Int) < (r.tag.size : Int)) = true := dcT
       clear g1 g2 g3
       go_wp2_with fail
       go_ret
       exact ⟨⟨true, rfl, fun h => (by cases h)⟩, gb_none HG.out hg⟩
     ·have s2a : decide (100 < r.prev.size) = true := dcT
      have s2b : decide ((100 : Int) < (r.prev.size : Int)) = true := dcT
      clear g1 g2
      go_wp2_with fail
      go_ret
      exact ⟨⟨true, rfl, fun h => (by cases h)⟩, gb_none HG.out hg⟩
    ·have s1a : decide (12 < n) = true := dcT
     have s1b : decide ((12 : Int) < (n : Int)) = true := dcT
     clear g1
     go_wp2_with fail
     go_ret
     exact ⟨⟨true, rfl, fun h => (by cases h)⟩, gb_none HG.out hg⟩
  ·have d1 : decide (k < n) = false := decide_eq_false hlt
   have d2 : decide ((k : Int) < (n : Int)) = false := dcF
   clear hWL hlt hk hk2
   by_cases g1 : n ≤ 12
   ·have s1a : decide (12 < n) = false := dcF
    have s1b : decide ((12 : Int) < (n : Int)) = false := dcF
    by_cases g2 : r.prev.size ≤ 100
    ·have s2a : decide (100 < r.prev.size) = false := dcF
     have s2b : decide ((100 : Int) < (r.prev.size : Int)) = false := dcF
     by_cases g3 : r.tag.size ≤ 100
     ·have s3a : decide (100 < r.tag.size) = false := dcF
      have s3b : decide ((100 : Int) < (r.tag.size : Int)) = false := dcF
      have HE : Hid (r.wraps.length ≤ 12) := by show _ ≤ _; rw [Hnn.out]; exact g1
      clear g1 g2 g3
      go_wp2_with fail
      go_ret
      exact ⟨⟨false, rfl, fun _ => HE.out⟩, gb_none HG.out hg⟩
     ·have s3a : decide (100 < r.tag.size) = true := dcT
      have s3b : decide ((100 : Int) < (r.tag.size : Int)) = true := dcT
      clear g1 g2 g3
      go_wp2_with fail
      go_ret
      exact ⟨⟨true, rfl, fun h => (by cases h)⟩, gb_none HG.out hg⟩
    ·have s2a : decide (100 < r.prev.size) = true := dcT
     have s2b : decide ((100 : Int) < (r.prev.size : Int)) = true := dcT
     clear g1 g2
     go_wp2_with fail
     go_ret
     exact ⟨⟨true, rfl, fun h => (by cases h)⟩, gb_none HG.out hg⟩
   ·have s1a : decide (12 < n) = true := dcT
    have s1b : decide ((12 : Int) < (n : Int)) = true := dcT
    clear g1
    go_wp2_with fail
    go_ret
    exact ⟨⟨true, rfl, fun h => (by cases h)⟩, gb_none HG.out hg⟩
end Go.Proofs.YtpcjbjpofcdjeaaGreatDoor.Mb
