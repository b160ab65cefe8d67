/- The document's Make, where there is no next record. Written by gen_wc5.py. -/
import Derived.Test.YtpcjbjpofcdjeaaGreatDoorWcS
import Derived.Test.YtpcjbjpofcdjeaaGreatDoorWcMem2
import Derived.Test.YtpcjbjpofcdjeaaGreatDoorWcT
import Derived.Test.YtpcjbjpofcdjeaaGreatDoorWcRefH
import Derived.Deep.CutBlock
set_option linter.unusedVariables false
set_option maxHeartbeats 8000000
set_option maxRecDepth 100000
namespace Go.Proofs.YtpcjbjpofcdjeaaGreatDoor.Wc
open Go Go.RowKit Mm Td Vw Dt
open Mb Ro Hh We
attribute [local go_sem] Td.upon_value Td.upon_skip Td.upon_enter Td.upon_row Td.look_tmp Td.look_const Td.look_func Td.look_global
def RMadeIs (r : Rc) (k : Int) (w : World) (e : Ending) (w' : World) : Prop := ∃ A c, e = .returned (.agg #[.int .i64 (r).seq, .string (r).prev, .int .i64 (r).kind, .int .i64 (r).dev, .slice A (r).wraps.length c, .string (r).tag, .int .i64 (k)]) ∧ WL w' A (r).wraps.length (r).wraps ∧ (r).wraps.length ≤ c ∧ (∀ a, A = some a → w.heap.size ≤ a.block) ∧ w.grownBy w' none
theorem rmade_is {r : Rc} {k q0 q2 q3 : Int} {q1 q5 : ByteArray} {n : Nat} {L : List Mb.Wp} {w w' : World} {A : Option Addr} {c : Nat} {e : Ending} (h0 : r.seq = q0) (h1 : r.prev = q1) (h2 : r.kind = q2) (h3 : r.dev = q3) (h4 : r.wraps = L) (h5 : r.tag = q5) (hn : L.length = n) (he : e = .returned (.agg #[.int .i64 q0, .string q1, .int .i64 q2, .int .i64 q3, .slice A n c, .string q5, .int .i64 k])) (hw : WL w' A n L) (hc : n ≤ c) (hf : ∀ a, A = some a → w.heap.size ≤ a.block) (hg : w.grownBy w' none) : RMadeIs r k w e w' := by
 subst h0 h1 h2 h3 h4 h5 hn
 exact ⟨A, c, he, hw, hc, hf, hg⟩
theorem made_cells {W : World} {b : Nat} (h : Row W b 36 #[.int .i64 0, .string ⟨#[]⟩, .int .i64 0, .int .i64 0, .slice none 0 0, .string ⟨#[]⟩, .int .i64 0]) : W.cell? ⟨b, 0, none⟩ = some (.int .i64 0) ∧ W.cell? ⟨b, 1, none⟩ = some (.string ⟨#[]⟩) ∧ W.cell? ⟨b, 2, none⟩ = some (.int .i64 0) ∧ W.cell? ⟨b, 3, none⟩ = some (.int .i64 0) ∧ W.cell? ⟨b, 4, none⟩ = some (.slice none 0 0) ∧ W.cell? ⟨b, 5, none⟩ = some (.string ⟨#[]⟩) ∧ W.cell? ⟨b, 6, none⟩ = some (.int .i64 0) ∧ W.frozen? ⟨b, 0, none⟩ = false ∧ W.frozen? ⟨b, 1, none⟩ = false ∧ W.frozen? ⟨b, 2, none⟩ = false ∧ W.frozen? ⟨b, 3, none⟩ = false ∧ W.frozen? ⟨b, 4, none⟩ = false ∧ W.frozen? ⟨b, 5, none⟩ = false ∧ W.frozen? ⟨b, 6, none⟩ = false := ⟨h.at_ (i := 0) rfl, h.at_ (i := 1) rfl, h.at_ (i := 2) rfl, h.at_ (i := 3) rfl, h.at_ (i := 4) rfl, h.at_ (i := 5) rfl, h.at_ (i := 6) rfl, h.free 0, h.free 1, h.free 2, h.free 3, h.free 4, h.free 5, h.free 6⟩
theorem made_stored {W : World} {b : Nat} (h : Row W b 36 #[.int .i64 0, .string ⟨#[]⟩, .int .i64 0, .int .i64 0, .slice none 0 0, .string ⟨#[]⟩, .int .i64 0]) (k : Int) : Row (((((((W.setCell ⟨b, 0, none⟩ (.int .i64 0)).setCell ⟨b, 1, none⟩ (.string ⟨#[]⟩)).setCell ⟨b, 2, none⟩ (.int .i64 0)).setCell ⟨b, 3, none⟩ (.int .i64 0)).setCell ⟨b, 4, none⟩ (.slice none 0 0)).setCell ⟨b, 5, none⟩ (.string ⟨#[]⟩)).setCell ⟨b, 6, none⟩ (.int .i64 k)) b 36 #[.int .i64 0, .string ⟨#[]⟩, .int .i64 0, .int .i64 0, .slice none 0 0, .string ⟨#[]⟩, .int .i64 k] := (((((((h.set_ 0 (.int .i64 0)).set_ 1 (.string ⟨#[]⟩)).set_ 2 (.int .i64 0)).set_ 3 (.int .i64 0)).set_ 4 (.slice none 0 0)).set_ 5 (.string ⟨#[]⟩)).set_ 6 (.int .i64 k))
theorem made_grown (W : World) (b : Nat) (k : Int) : W.grownBy (((((((W.setCell ⟨b, 0, none⟩ (.int .i64 0)).setCell ⟨b, 1, none⟩ (.string ⟨#[]⟩)).setCell ⟨b, 2, none⟩ (.int .i64 0)).setCell ⟨b, 3, none⟩ (.int .i64 0)).setCell ⟨b, 4, none⟩ (.slice none 0 0)).setCell ⟨b, 5, none⟩ (.string ⟨#[]⟩)).setCell ⟨b, 6, none⟩ (.int .i64 k)) (some b) := gb_then (gb_then (gb_then (gb_then (gb_then (gb_then (gb_set1 _ _ _ _) (gb_set1 _ _ _ _)) (gb_set1 _ _ _ _)) (gb_set1 _ _ _ _)) (gb_set1 _ _ _ _)) (gb_set1 _ _ _ _)) (gb_set1 _ _ _ _)
theorem refMake_no (s m : ByteArray) (A : Option Addr) (n c : Nat) (l : List Rc) (kind dev : Int) (w : World) (hl : LogL w A n l) (hn : n ≤ 1000000) (hc : n ≤ c) (hb : ∀ r ∈ l, r.wraps.length ≤ 1099511627776) (hne : deedE l kind dev ≠ 0) :
  Calls Tryz.prog 13 #[.string s, .string m, .slice A n c, .int .i64 kind, .int .i64 dev] w (RMadeIs zeroR (deedE l kind dev) w) := by
 obtain ⟨q, hq⟩ := nmd (inB l (n : Int) dev)
 obtain ⟨b0, hb0⟩ := nmd (w.heap.size)
 obtain ⟨W0, hW0⟩ := nmd (w.alloc (.cells #[.int .i64 0, .string ⟨#[]⟩, .int .i64 0, .int .i64 0, .slice none 0 0, .string ⟨#[]⟩, .int .i64 0] 36))
 have g0 : w.grownBy W0 none := by rw [← hW0]; exact gb_alloc (gb_refl _ _) _
 have HZ0 : Hid (Row W0 b0 36 #[.int .i64 0, .string ⟨#[]⟩, .int .i64 0, .int .i64 0, .slice none 0 0, .string ⟨#[]⟩, .int .i64 0]) := by rw [← hW0, ← hb0]; exact Row.new _ _ _
 have HG0 := Lib.hid g0
 have Hb0 : Hid (w.heap.size ≤ b0) := by show _ ≤ _; omega
 have HI : Hid (Calls Tryz.prog 29 #[.slice A n c, .int .i64 (n : Int), .int .i64 dev] W0 fun x w' => x = .returned (.bool q) ∧ W0 = w') := by rw [← hq]; exact refIn_any A n c l (n : Int) dev W0 (hl.keep g0) (by omega)
 have HC : Hid (Calls Tryz.prog 31 #[.slice A n c] W0 (BoolIs (ChainR l) W0)) := refCheck_any A n c l W0 (hl.keep g0) hc hb
 have Hl : Hid (l.length = n) := hl.1
 have hq2 : inB l (l.length : Int) dev = q := by rw [hl.1]; exact hq
 have HQ := Lib.hid hq2
 clear hl hc hb hq hq2 g0
 by_cases hk1 : kind = 1
 ·have e1 : (kind == 1) = true := eq_yes (by omega)
  have e1n : (kind != 1) = false := by rw [bne, e1]; rfl
  have e2 : (kind == 2) = false := eq_no (by omega)
  have e2n : (kind != 2) = true := by rw [bne, e2]; rfl
  by_cases h5 : 0 ≤ dev
  ·have d1 : decide (dev < 0) = false := dcF
   by_cases h6 : dev < 8
   ·have d2 : decide (8 ≤ dev) = false := dcF
    by_cases hck : ChainR l
    ·by_cases hn0 : n = 0
     ·have l0 : ((n : Int) == 0) = true := eq_yes (by omega)
      have l0n : (n == 0) = true := by simpa using hn0
      by_cases hz : dev = 0
      ·have z1 : (dev == 0) = true := eq_yes hz
       have z1n : (dev != 0) = false := by rw [bne, z1]; rfl
       cases q with
       | true =>
        have HE : Hid (deedE l kind dev = 3) := deed_have (fun h => by unfold DeedArg at h; have := Hl.out; rcases h with h | h | h | h | h <;> first | exact h hck | omega) ⟨hk1, by rw [HQ.out]⟩
        have HK := Lib.hid hck
        clear hn hne hk1 h5 h6 hck hn0 hz
        go_enter Tryz.func13, Tryz.ntmps13
        go_upto_region 2 with fail
        clear hW0 hb0
        go_wp2_with fail
        refine HI.out.mono ?_
        rintro e _ ⟨rfl, rfl⟩
        go_wp2_with fail
        refine HC.out.mono ?_
        rintro e w2 hh
        obtain ⟨rfl, g2⟩ := hh.yes HK.out
        have HZ2 := Lib.hid (HZ0.out.kept g2 (by simp))
        have HG2 := Lib.hid (gb_none HG0.out g2)
        clear hh g2
        obtain ⟨u0, u1, u2, u3, u4, u5, u6, p0, p1, p2, p3, p4, p5, p6⟩ := made_cells HZ2.out
        go_wp2_with fail
        exact bodyPost_ret (results_cell_row rfl _ _ b0 36 _ (0, 0) _ rfl (made_stored HZ2.out 3) Tryz.underlying36 rfl (by kernel_rfl)) rfl (by rw [HE.out]; exact rmade_is (r := zeroR) rfl rfl rfl rfl rfl rfl rfl rfl (WL.none _ _) (Nat.le_refl _) (fun a ha => by cases ha) (gb_new HG2.out (made_grown _ _ _) Hb0.out))
       | false =>
        by_cases h40 : 40 ≤ n
        ·have m1 : decide (40 ≤ n) = true := decide_eq_true h40
         have m2 : decide ((40 : Int) ≤ (n : Int)) = true := dcT
         have HE : Hid (deedE l kind dev = 12) := deed_full (fun h => by unfold DeedArg at h; have := Hl.out; rcases h with h | h | h | h | h <;> first | exact h hck | omega) (fun h => by rw [HQ.out] at h; exact absurd h.2 (by decide)) (fun h => by omega) (by have := Hl.out; omega)
         have HK := Lib.hid hck
         clear hn hne hk1 h5 h6 hck hn0 hz h40
         go_enter Tryz.func13, Tryz.ntmps13
         go_upto_region 2 with fail
         clear hW0 hb0
         go_wp2_with fail
         refine HI.out.mono ?_
         rintro e _ ⟨rfl, rfl⟩
         go_wp2_with fail
         refine HC.out.mono ?_
         rintro e w2 hh
         obtain ⟨rfl, g2⟩ := hh.yes HK.out
         have HZ2 := Lib.hid (HZ0.out.kept g2 (by simp))
         have HG2 := Lib.hid (gb_none HG0.out g2)
         clear hh g2
         obtain ⟨u0, u1, u2, u3, u4, u5, u6, p0, p1, p2, p3, p4, p5, p6⟩ := made_cells HZ2.out
         go_wp2_with fail
         exact bodyPost_ret (results_cell_row rfl _ _ b0 36 _ (0, 0) _ rfl (made_stored HZ2.out 12) Tryz.underlying36 rfl (by kernel_rfl)) rfl (by rw [HE.out]; exact rmade_is (r := zeroR) rfl rfl rfl rfl rfl rfl rfl rfl (WL.none _ _) (Nat.le_refl _) (fun a ha => by cases ha) (gb_new HG2.out (made_grown _ _ _) Hb0.out))
        ·exact absurd (deed_ok (fun h => by unfold DeedArg at h; have := Hl.out; rcases h with h | h | h | h | h <;> first | exact h hck | omega) (fun h => by rw [HQ.out] at h; exact absurd h.2 (by decide)) (fun h => by omega) (by have := Hl.out; omega)) hne
      ·have z1 : (dev == 0) = false := eq_no hz
       have z1n : (dev != 0) = true := by rw [bne, z1]; rfl
       have HE : Hid (deedE l kind dev = 1) := deed_arg (.inr (.inr (.inr (.inl ⟨by rw [Hl.out]; exact hn0, by omega⟩))))
       have HK := Lib.hid hck
       clear hn hne hk1 h5 h6 hck hn0 hz
       go_enter Tryz.func13, Tryz.ntmps13
       go_upto_region 2 with fail
       clear hW0 hb0
       go_wp2_with fail
       refine HI.out.mono ?_
       rintro e _ ⟨rfl, rfl⟩
       go_wp2_with fail
       refine HC.out.mono ?_
       rintro e w2 hh
       obtain ⟨rfl, g2⟩ := hh.yes HK.out
       have HZ2 := Lib.hid (HZ0.out.kept g2 (by simp))
       have HG2 := Lib.hid (gb_none HG0.out g2)
       clear hh g2
       obtain ⟨u0, u1, u2, u3, u4, u5, u6, p0, p1, p2, p3, p4, p5, p6⟩ := made_cells HZ2.out
       go_wp2_with fail
       exact bodyPost_ret (results_cell_row rfl _ _ b0 36 _ (0, 0) _ rfl (made_stored HZ2.out 1) Tryz.underlying36 rfl (by kernel_rfl)) rfl (by rw [HE.out]; exact rmade_is (r := zeroR) rfl rfl rfl rfl rfl rfl rfl rfl (WL.none _ _) (Nat.le_refl _) (fun a ha => by cases ha) (gb_new HG2.out (made_grown _ _ _) Hb0.out))
     ·have l0 : ((n : Int) == 0) = false := eq_no (by omega)
      have l0n : (n == 0) = false := by simpa using hn0
      cases q with
      | true =>
       have HE : Hid (deedE l kind dev = 3) := deed_have (fun h => by unfold DeedArg at h; have := Hl.out; rcases h with h | h | h | h | h <;> first | exact h hck | omega) ⟨hk1, by rw [HQ.out]⟩
       have HK := Lib.hid hck
       clear hn hne hk1 h5 h6 hck hn0
       go_enter Tryz.func13, Tryz.ntmps13
       go_upto_region 2 with fail
       clear hW0 hb0
       go_wp2_with fail
       refine HI.out.mono ?_
       rintro e _ ⟨rfl, rfl⟩
       go_wp2_with fail
       refine HC.out.mono ?_
       rintro e w2 hh
       obtain ⟨rfl, g2⟩ := hh.yes HK.out
       have HZ2 := Lib.hid (HZ0.out.kept g2 (by simp))
       have HG2 := Lib.hid (gb_none HG0.out g2)
       clear hh g2
       obtain ⟨u0, u1, u2, u3, u4, u5, u6, p0, p1, p2, p3, p4, p5, p6⟩ := made_cells HZ2.out
       go_wp2_with fail
       exact bodyPost_ret (results_cell_row rfl _ _ b0 36 _ (0, 0) _ rfl (made_stored HZ2.out 3) Tryz.underlying36 rfl (by kernel_rfl)) rfl (by rw [HE.out]; exact rmade_is (r := zeroR) rfl rfl rfl rfl rfl rfl rfl rfl (WL.none _ _) (Nat.le_refl _) (fun a ha => by cases ha) (gb_new HG2.out (made_grown _ _ _) Hb0.out))
      | false =>
       by_cases h40 : 40 ≤ n
       ·have m1 : decide (40 ≤ n) = true := decide_eq_true h40
        have m2 : decide ((40 : Int) ≤ (n : Int)) = true := dcT
        have HE : Hid (deedE l kind dev = 12) := deed_full (fun h => by unfold DeedArg at h; have := Hl.out; rcases h with h | h | h | h | h <;> first | exact h hck | omega) (fun h => by rw [HQ.out] at h; exact absurd h.2 (by decide)) (fun h => by omega) (by have := Hl.out; omega)
        have HK := Lib.hid hck
        clear hn hne hk1 h5 h6 hck hn0 h40
        go_enter Tryz.func13, Tryz.ntmps13
        go_upto_region 2 with fail
        clear hW0 hb0
        go_wp2_with fail
        refine HI.out.mono ?_
        rintro e _ ⟨rfl, rfl⟩
        go_wp2_with fail
        refine HC.out.mono ?_
        rintro e w2 hh
        obtain ⟨rfl, g2⟩ := hh.yes HK.out
        have HZ2 := Lib.hid (HZ0.out.kept g2 (by simp))
        have HG2 := Lib.hid (gb_none HG0.out g2)
        clear hh g2
        obtain ⟨u0, u1, u2, u3, u4, u5, u6, p0, p1, p2, p3, p4, p5, p6⟩ := made_cells HZ2.out
        go_wp2_with fail
        exact bodyPost_ret (results_cell_row rfl _ _ b0 36 _ (0, 0) _ rfl (made_stored HZ2.out 12) Tryz.underlying36 rfl (by kernel_rfl)) rfl (by rw [HE.out]; exact rmade_is (r := zeroR) rfl rfl rfl rfl rfl rfl rfl rfl (WL.none _ _) (Nat.le_refl _) (fun a ha => by cases ha) (gb_new HG2.out (made_grown _ _ _) Hb0.out))
       ·exact absurd (deed_ok (fun h => by unfold DeedArg at h; have := Hl.out; rcases h with h | h | h | h | h <;> first | exact h hck | omega) (fun h => by rw [HQ.out] at h; exact absurd h.2 (by decide)) (fun h => by omega) (by have := Hl.out; omega)) hne
    ·have HE : Hid (deedE l kind dev = 1) := deed_arg (.inr (.inr (.inl hck)))
     have HK := Lib.hid hck
     clear hn hne hk1 h5 h6 hck
     go_enter Tryz.func13, Tryz.ntmps13
     go_upto_region 2 with fail
     clear hW0 hb0
     go_wp2_with fail
     refine HI.out.mono ?_
     rintro e _ ⟨rfl, rfl⟩
     go_wp2_with fail
     refine HC.out.mono ?_
     rintro e w2 hh
     obtain ⟨rfl, g2⟩ := hh.no HK.out
     have HZ2 := Lib.hid (HZ0.out.kept g2 (by simp))
     have HG2 := Lib.hid (gb_none HG0.out g2)
     clear hh g2
     obtain ⟨u0, u1, u2, u3, u4, u5, u6, p0, p1, p2, p3, p4, p5, p6⟩ := made_cells HZ2.out
     go_wp2_with fail
     exact bodyPost_ret (results_cell_row rfl _ _ b0 36 _ (0, 0) _ rfl (made_stored HZ2.out 1) Tryz.underlying36 rfl (by kernel_rfl)) rfl (by rw [HE.out]; exact rmade_is (r := zeroR) rfl rfl rfl rfl rfl rfl rfl rfl (WL.none _ _) (Nat.le_refl _) (fun a ha => by cases ha) (gb_new HG2.out (made_grown _ _ _) Hb0.out))
   ·have d2 : decide (8 ≤ dev) = true := dcT
    have HE : Hid (deedE l kind dev = 1) := deed_arg (.inr (.inl (by omega)))
    clear hn hne hk1 h5 h6
    go_enter Tryz.func13, Tryz.ntmps13
    go_upto_region 2 with fail
    clear hW0 hb0
    go_wp2_with fail
    refine HI.out.mono ?_
    rintro e _ ⟨rfl, rfl⟩
    obtain ⟨u0, u1, u2, u3, u4, u5, u6, p0, p1, p2, p3, p4, p5, p6⟩ := made_cells HZ0.out
    go_wp2_with fail
    exact bodyPost_ret (results_cell_row rfl _ _ b0 36 _ (0, 0) _ rfl (made_stored HZ0.out 1) Tryz.underlying36 rfl (by kernel_rfl)) rfl (by rw [HE.out]; exact rmade_is (r := zeroR) rfl rfl rfl rfl rfl rfl rfl rfl (WL.none _ _) (Nat.le_refl _) (fun a ha => by cases ha) (gb_new HG0.out (made_grown _ _ _) Hb0.out))
  ·have d1 : decide (dev < 0) = true := dcT
   have HE : Hid (deedE l kind dev = 1) := deed_arg (.inr (.inl (by omega)))
   clear hn hne hk1 h5
   go_enter Tryz.func13, Tryz.ntmps13
   go_upto_region 2 with fail
   clear hW0 hb0
   go_wp2_with fail
   refine HI.out.mono ?_
   rintro e _ ⟨rfl, rfl⟩
   obtain ⟨u0, u1, u2, u3, u4, u5, u6, p0, p1, p2, p3, p4, p5, p6⟩ := made_cells HZ0.out
   go_wp2_with fail
   exact bodyPost_ret (results_cell_row rfl _ _ b0 36 _ (0, 0) _ rfl (made_stored HZ0.out 1) Tryz.underlying36 rfl (by kernel_rfl)) rfl (by rw [HE.out]; exact rmade_is (r := zeroR) rfl rfl rfl rfl rfl rfl rfl rfl (WL.none _ _) (Nat.le_refl _) (fun a ha => by cases ha) (gb_new HG0.out (made_grown _ _ _) Hb0.out))
 ·by_cases hk2 : kind = 2
  ·have e1 : (kind == 1) = false := eq_no (by omega)
   have e1n : (kind != 1) = true := by rw [bne, e1]; rfl
   have e2 : (kind == 2) = true := eq_yes (by omega)
   have e2n : (kind != 2) = false := by rw [bne, e2]; rfl
   by_cases h5 : 0 ≤ dev
   ·have d1 : decide (dev < 0) = false := dcF
    by_cases h6 : dev < 8
    ·have d2 : decide (8 ≤ dev) = false := dcF
     by_cases hck : ChainR l
     ·by_cases hn0 : n = 0
      ·have l0 : ((n : Int) == 0) = true := eq_yes (by omega)
       have l0n : (n == 0) = true := by simpa using hn0
       by_cases hz : dev = 0
       ·have z1 : (dev == 0) = true := eq_yes hz
        have z1n : (dev != 0) = false := by rw [bne, z1]; rfl
        have HE : Hid (deedE l kind dev = 1) := deed_arg (.inr (.inr (.inr (.inl ⟨by rw [Hl.out]; exact hn0, by omega⟩))))
        have HK := Lib.hid hck
        clear hn hne hk1 hk2 h5 h6 hck hn0 hz
        go_enter Tryz.func13, Tryz.ntmps13
        go_upto_region 2 with fail
        clear hW0 hb0
        go_wp2_with fail
        refine HI.out.mono ?_
        rintro e _ ⟨rfl, rfl⟩
        go_wp2_with fail
        refine HC.out.mono ?_
        rintro e w2 hh
        obtain ⟨rfl, g2⟩ := hh.yes HK.out
        have HZ2 := Lib.hid (HZ0.out.kept g2 (by simp))
        have HG2 := Lib.hid (gb_none HG0.out g2)
        clear hh g2
        obtain ⟨u0, u1, u2, u3, u4, u5, u6, p0, p1, p2, p3, p4, p5, p6⟩ := made_cells HZ2.out
        go_wp2_with fail
        exact bodyPost_ret (results_cell_row rfl _ _ b0 36 _ (0, 0) _ rfl (made_stored HZ2.out 1) Tryz.underlying36 rfl (by kernel_rfl)) rfl (by rw [HE.out]; exact rmade_is (r := zeroR) rfl rfl rfl rfl rfl rfl rfl rfl (WL.none _ _) (Nat.le_refl _) (fun a ha => by cases ha) (gb_new HG2.out (made_grown _ _ _) Hb0.out))
       ·have z1 : (dev == 0) = false := eq_no hz
        have z1n : (dev != 0) = true := by rw [bne, z1]; rfl
        have HE : Hid (deedE l kind dev = 1) := deed_arg (.inr (.inr (.inr (.inl ⟨by rw [Hl.out]; exact hn0, by omega⟩))))
        have HK := Lib.hid hck
        clear hn hne hk1 hk2 h5 h6 hck hn0 hz
        go_enter Tryz.func13, Tryz.ntmps13
        go_upto_region 2 with fail
        clear hW0 hb0
        go_wp2_with fail
        refine HI.out.mono ?_
        rintro e _ ⟨rfl, rfl⟩
        go_wp2_with fail
        refine HC.out.mono ?_
        rintro e w2 hh
        obtain ⟨rfl, g2⟩ := hh.yes HK.out
        have HZ2 := Lib.hid (HZ0.out.kept g2 (by simp))
        have HG2 := Lib.hid (gb_none HG0.out g2)
        clear hh g2
        obtain ⟨u0, u1, u2, u3, u4, u5, u6, p0, p1, p2, p3, p4, p5, p6⟩ := made_cells HZ2.out
        go_wp2_with fail
        exact bodyPost_ret (results_cell_row rfl _ _ b0 36 _ (0, 0) _ rfl (made_stored HZ2.out 1) Tryz.underlying36 rfl (by kernel_rfl)) rfl (by rw [HE.out]; exact rmade_is (r := zeroR) rfl rfl rfl rfl rfl rfl rfl rfl (WL.none _ _) (Nat.le_refl _) (fun a ha => by cases ha) (gb_new HG2.out (made_grown _ _ _) Hb0.out))
      ·have l0 : ((n : Int) == 0) = false := eq_no (by omega)
       have l0n : (n == 0) = false := by simpa using hn0
       by_cases hz : dev = 0
       ·have z1 : (dev == 0) = true := eq_yes hz
        have z1n : (dev != 0) = false := by rw [bne, z1]; rfl
        have HE : Hid (deedE l kind dev = 1) := deed_arg (.inr (.inr (.inr (.inr ⟨hk2, hz⟩))))
        have HK := Lib.hid hck
        clear hn hne hk1 hk2 h5 h6 hck hn0 hz
        go_enter Tryz.func13, Tryz.ntmps13
        go_upto_region 2 with fail
        clear hW0 hb0
        go_wp2_with fail
        refine HI.out.mono ?_
        rintro e _ ⟨rfl, rfl⟩
        go_wp2_with fail
        refine HC.out.mono ?_
        rintro e w2 hh
        obtain ⟨rfl, g2⟩ := hh.yes HK.out
        have HZ2 := Lib.hid (HZ0.out.kept g2 (by simp))
        have HG2 := Lib.hid (gb_none HG0.out g2)
        clear hh g2
        obtain ⟨u0, u1, u2, u3, u4, u5, u6, p0, p1, p2, p3, p4, p5, p6⟩ := made_cells HZ2.out
        go_wp2_with fail
        exact bodyPost_ret (results_cell_row rfl _ _ b0 36 _ (0, 0) _ rfl (made_stored HZ2.out 1) Tryz.underlying36 rfl (by kernel_rfl)) rfl (by rw [HE.out]; exact rmade_is (r := zeroR) rfl rfl rfl rfl rfl rfl rfl rfl (WL.none _ _) (Nat.le_refl _) (fun a ha => by cases ha) (gb_new HG2.out (made_grown _ _ _) Hb0.out))
       ·have z1 : (dev == 0) = false := eq_no hz
        have z1n : (dev != 0) = true := by rw [bne, z1]; rfl
        cases q with
        | true =>
         by_cases h40 : 40 ≤ n
         ·have m1 : decide (40 ≤ n) = true := decide_eq_true h40
          have m2 : decide ((40 : Int) ≤ (n : Int)) = true := dcT
          have HE : Hid (deedE l kind dev = 12) := deed_full (fun h => by unfold DeedArg at h; have := Hl.out; rcases h with h | h | h | h | h <;> first | exact h hck | omega) (fun h => by omega) (fun h => by rw [HQ.out] at h; exact absurd h.2 (by decide)) (by have := Hl.out; omega)
          have HK := Lib.hid hck
          clear hn hne hk1 hk2 h5 h6 hck hn0 hz h40
          go_enter Tryz.func13, Tryz.ntmps13
          go_upto_region 2 with fail
          clear hW0 hb0
          go_wp2_with fail
          refine HI.out.mono ?_
          rintro e _ ⟨rfl, rfl⟩
          go_wp2_with fail
          refine HC.out.mono ?_
          rintro e w2 hh
          obtain ⟨rfl, g2⟩ := hh.yes HK.out
          have HZ2 := Lib.hid (HZ0.out.kept g2 (by simp))
          have HG2 := Lib.hid (gb_none HG0.out g2)
          clear hh g2
          obtain ⟨u0, u1, u2, u3, u4, u5, u6, p0, p1, p2, p3, p4, p5, p6⟩ := made_cells HZ2.out
          go_wp2_with fail
          exact bodyPost_ret (results_cell_row rfl _ _ b0 36 _ (0, 0) _ rfl (made_stored HZ2.out 12) Tryz.underlying36 rfl (by kernel_rfl)) rfl (by rw [HE.out]; exact rmade_is (r := zeroR) rfl rfl rfl rfl rfl rfl rfl rfl (WL.none _ _) (Nat.le_refl _) (fun a ha => by cases ha) (gb_new HG2.out (made_grown _ _ _) Hb0.out))
         ·exact absurd (deed_ok (fun h => by unfold DeedArg at h; have := Hl.out; rcases h with h | h | h | h | h <;> first | exact h hck | omega) (fun h => by omega) (fun h => by rw [HQ.out] at h; exact absurd h.2 (by decide)) (by have := Hl.out; omega)) hne
        | false =>
         have HE : Hid (deedE l kind dev = 2) := deed_none (fun h => by unfold DeedArg at h; have := Hl.out; rcases h with h | h | h | h | h <;> first | exact h hck | omega) ⟨hk2, by rw [HQ.out]⟩
         have HK := Lib.hid hck
         clear hn hne hk1 hk2 h5 h6 hck hn0 hz
         go_enter Tryz.func13, Tryz.ntmps13
         go_upto_region 2 with fail
         clear hW0 hb0
         go_wp2_with fail
         refine HI.out.mono ?_
         rintro e _ ⟨rfl, rfl⟩
         go_wp2_with fail
         refine HC.out.mono ?_
         rintro e w2 hh
         obtain ⟨rfl, g2⟩ := hh.yes HK.out
         have HZ2 := Lib.hid (HZ0.out.kept g2 (by simp))
         have HG2 := Lib.hid (gb_none HG0.out g2)
         clear hh g2
         obtain ⟨u0, u1, u2, u3, u4, u5, u6, p0, p1, p2, p3, p4, p5, p6⟩ := made_cells HZ2.out
         go_wp2_with fail
         exact bodyPost_ret (results_cell_row rfl _ _ b0 36 _ (0, 0) _ rfl (made_stored HZ2.out 2) Tryz.underlying36 rfl (by kernel_rfl)) rfl (by rw [HE.out]; exact rmade_is (r := zeroR) rfl rfl rfl rfl rfl rfl rfl rfl (WL.none _ _) (Nat.le_refl _) (fun a ha => by cases ha) (gb_new HG2.out (made_grown _ _ _) Hb0.out))
     ·have HE : Hid (deedE l kind dev = 1) := deed_arg (.inr (.inr (.inl hck)))
      have HK := Lib.hid hck
      clear hn hne hk1 hk2 h5 h6 hck
      go_enter Tryz.func13, Tryz.ntmps13
      go_upto_region 2 with fail
      clear hW0 hb0
      go_wp2_with fail
      refine HI.out.mono ?_
      rintro e _ ⟨rfl, rfl⟩
      go_wp2_with fail
      refine HC.out.mono ?_
      rintro e w2 hh
      obtain ⟨rfl, g2⟩ := hh.no HK.out
      have HZ2 := Lib.hid (HZ0.out.kept g2 (by simp))
      have HG2 := Lib.hid (gb_none HG0.out g2)
      clear hh g2
      obtain ⟨u0, u1, u2, u3, u4, u5, u6, p0, p1, p2, p3, p4, p5, p6⟩ := made_cells HZ2.out
      go_wp2_with fail
      exact bodyPost_ret (results_cell_row rfl _ _ b0 36 _ (0, 0) _ rfl (made_stored HZ2.out 1) Tryz.underlying36 rfl (by kernel_rfl)) rfl (by rw [HE.out]; exact rmade_is (r := zeroR) rfl rfl rfl rfl rfl rfl rfl rfl (WL.none _ _) (Nat.le_refl _) (fun a ha => by cases ha) (gb_new HG2.out (made_grown _ _ _) Hb0.out))
    ·have d2 : decide (8 ≤ dev) = true := dcT
     have HE : Hid (deedE l kind dev = 1) := deed_arg (.inr (.inl (by omega)))
     clear hn hne hk1 hk2 h5 h6
     go_enter Tryz.func13, Tryz.ntmps13
     go_upto_region 2 with fail
     clear hW0 hb0
     go_wp2_with fail
     refine HI.out.mono ?_
     rintro e _ ⟨rfl, rfl⟩
     obtain ⟨u0, u1, u2, u3, u4, u5, u6, p0, p1, p2, p3, p4, p5, p6⟩ := made_cells HZ0.out
     go_wp2_with fail
     exact bodyPost_ret (results_cell_row rfl _ _ b0 36 _ (0, 0) _ rfl (made_stored HZ0.out 1) Tryz.underlying36 rfl (by kernel_rfl)) rfl (by rw [HE.out]; exact rmade_is (r := zeroR) rfl rfl rfl rfl rfl rfl rfl rfl (WL.none _ _) (Nat.le_refl _) (fun a ha => by cases ha) (gb_new HG0.out (made_grown _ _ _) Hb0.out))
   ·have d1 : decide (dev < 0) = true := dcT
    have HE : Hid (deedE l kind dev = 1) := deed_arg (.inr (.inl (by omega)))
    clear hn hne hk1 hk2 h5
    go_enter Tryz.func13, Tryz.ntmps13
    go_upto_region 2 with fail
    clear hW0 hb0
    go_wp2_with fail
    refine HI.out.mono ?_
    rintro e _ ⟨rfl, rfl⟩
    obtain ⟨u0, u1, u2, u3, u4, u5, u6, p0, p1, p2, p3, p4, p5, p6⟩ := made_cells HZ0.out
    go_wp2_with fail
    exact bodyPost_ret (results_cell_row rfl _ _ b0 36 _ (0, 0) _ rfl (made_stored HZ0.out 1) Tryz.underlying36 rfl (by kernel_rfl)) rfl (by rw [HE.out]; exact rmade_is (r := zeroR) rfl rfl rfl rfl rfl rfl rfl rfl (WL.none _ _) (Nat.le_refl _) (fun a ha => by cases ha) (gb_new HG0.out (made_grown _ _ _) Hb0.out))
  ·have e1 : (kind == 1) = false := eq_no (by omega)
   have e1n : (kind != 1) = true := by rw [bne, e1]; rfl
   have e2 : (kind == 2) = false := eq_no (by omega)
   have e2n : (kind != 2) = true := by rw [bne, e2]; rfl
   have HE : Hid (deedE l kind dev = 1) := deed_arg (.inl (fun h => h.elim hk1 hk2))
   clear hn hne hk1 hk2
   go_enter Tryz.func13, Tryz.ntmps13
   go_upto_region 2 with fail
   clear hW0 hb0
   go_wp2_with fail
   refine HI.out.mono ?_
   rintro e _ ⟨rfl, rfl⟩
   obtain ⟨u0, u1, u2, u3, u4, u5, u6, p0, p1, p2, p3, p4, p5, p6⟩ := made_cells HZ0.out
   go_wp2_with fail
   exact bodyPost_ret (results_cell_row rfl _ _ b0 36 _ (0, 0) _ rfl (made_stored HZ0.out 1) Tryz.underlying36 rfl (by kernel_rfl)) rfl (by rw [HE.out]; exact rmade_is (r := zeroR) rfl rfl rfl rfl rfl rfl rfl rfl (WL.none _ _) (Nat.le_refl _) (fun a ha => by cases ha) (gb_new HG0.out (made_grown _ _ _) Hb0.out))
end Go.Proofs.YtpcjbjpofcdjeaaGreatDoor.Wc
