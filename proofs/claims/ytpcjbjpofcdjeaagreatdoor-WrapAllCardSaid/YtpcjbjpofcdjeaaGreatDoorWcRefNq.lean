/- The document's Make, where there is no next record. Written by gen_wc5.py. -/
import Derived.Test.YtpcjbjpofcdjeaaGreatDoorWcDcq
import Derived.Test.YtpcjbjpofcdjeaaGreatDoorWcSq
import Derived.Test.YtpcjbjpofcdjeaaGreatDoorWcMem2q
import Derived.Test.YtpcjbjpofcdjeaaGreatDoorWcTq
import Derived.Test.YtpcjbjpofcdjeaaGreatDoorWcRefHq
import Derived.Deep.CutBlock
set_option linter.unusedVariables false
set_option maxHeartbeats 8000000
set_option maxRecDepth 100000
namespace Go.Proofs.YtpcjbjpofcdjeaaGreatDoor.Wc
open Go Go.RowKit Mm Td Vw Dt
open Mb Ro Hh We
attribute [local go_sem] Td.upon_value Td.upon_skip Td.upon_enter Td.upon_row Td.look_tmp Td.look_const Td.look_func Td.look_global
def RMadeIs (r : Rc) (k : Int) (w : World) (e : Ending) (w' : World) : Prop := ∃ A c, e = .returned (.agg #[.int .i64 (r).seq, .string (r).prev, .int .i64 (r).kind, .int .i64 (r).dev, .slice A (r).wraps.length c, .string (r).tag, .int .i64 (k)]) ∧ WL w' A (r).wraps.length (r).wraps ∧ (r).wraps.length ≤ c ∧ (∀ a, A = some a → w.heap.size ≤ a.block) ∧ Gn w w'
theorem rmade_is {r : Rc} {k q0 q2 q3 : Int} {q1 q5 : ByteArray} {n : Nat} {L : List Mb.Wp} {w w' : World} {A : Option Addr} {c : Nat} {e : Ending} (h0 : r.seq = q0) (h1 : r.prev = q1) (h2 : r.kind = q2) (h3 : r.dev = q3) (h4 : r.wraps = L) (h5 : r.tag = q5) (hn : L.length = n) (he : e = .returned (.agg #[.int .i64 q0, .string q1, .int .i64 q2, .int .i64 q3, .slice A n c, .string q5, .int .i64 k])) (hw : WL w' A n L) (hc : n ≤ c) (hf : ∀ a, A = some a → w.heap.size ≤ a.block) (hg : Gn w w') : RMadeIs r k w e w' := by
 subst h0 h1 h2 h3 h4 h5 hn
 exact ⟨A, c, he, hw, hc, hf, hg⟩
theorem made_cells {W : World} {b : Nat} (h : Row W b 36 #[.int .i64 0, .string ⟨#[]⟩, .int .i64 0, .int .i64 0, .slice none 0 0, .string ⟨#[]⟩, .int .i64 0]) : W.cell? ⟨b, 0, none⟩ = some (.int .i64 0) ∧ W.cell? ⟨b, 1, none⟩ = some (.string ⟨#[]⟩) ∧ W.cell? ⟨b, 2, none⟩ = some (.int .i64 0) ∧ W.cell? ⟨b, 3, none⟩ = some (.int .i64 0) ∧ W.cell? ⟨b, 4, none⟩ = some (.slice none 0 0) ∧ W.cell? ⟨b, 5, none⟩ = some (.string ⟨#[]⟩) ∧ W.cell? ⟨b, 6, none⟩ = some (.int .i64 0) ∧ W.frozen? ⟨b, 0, none⟩ = false ∧ W.frozen? ⟨b, 1, none⟩ = false ∧ W.frozen? ⟨b, 2, none⟩ = false ∧ W.frozen? ⟨b, 3, none⟩ = false ∧ W.frozen? ⟨b, 4, none⟩ = false ∧ W.frozen? ⟨b, 5, none⟩ = false ∧ W.frozen? ⟨b, 6, none⟩ = false := ⟨h.at_ (i := 0) rfl, h.at_ (i := 1) rfl, h.at_ (i := 2) rfl, h.at_ (i := 3) rfl, h.at_ (i := 4) rfl, h.at_ (i := 5) rfl, h.at_ (i := 6) rfl, h.free 0, h.free 1, h.free 2, h.free 3, h.free 4, h.free 5, h.free 6⟩
theorem made_stored {W : World} {b : Nat} (h : Row W b 36 #[.int .i64 0, .string ⟨#[]⟩, .int .i64 0, .int .i64 0, .slice none 0 0, .string ⟨#[]⟩, .int .i64 0]) (k : Int) : Row (((((((W.setCell ⟨b, 0, none⟩ (.int .i64 0)).setCell ⟨b, 1, none⟩ (.string ⟨#[]⟩)).setCell ⟨b, 2, none⟩ (.int .i64 0)).setCell ⟨b, 3, none⟩ (.int .i64 0)).setCell ⟨b, 4, none⟩ (.slice none 0 0)).setCell ⟨b, 5, none⟩ (.string ⟨#[]⟩)).setCell ⟨b, 6, none⟩ (.int .i64 k)) b 36 #[.int .i64 0, .string ⟨#[]⟩, .int .i64 0, .int .i64 0, .slice none 0 0, .string ⟨#[]⟩, .int .i64 k] := (((((((h.set_ 0 (.int .i64 0)).set_ 1 (.string ⟨#[]⟩)).set_ 2 (.int .i64 0)).set_ 3 (.int .i64 0)).set_ 4 (.slice none 0 0)).set_ 5 (.string ⟨#[]⟩)).set_ 6 (.int .i64 k))
theorem made_grown (W : World) (b : Nat) (k : Int) : W.grownBy (((((((W.setCell ⟨b, 0, none⟩ (.int .i64 0)).setCell ⟨b, 1, none⟩ (.string ⟨#[]⟩)).setCell ⟨b, 2, none⟩ (.int .i64 0)).setCell ⟨b, 3, none⟩ (.int .i64 0)).setCell ⟨b, 4, none⟩ (.slice none 0 0)).setCell ⟨b, 5, none⟩ (.string ⟨#[]⟩)).setCell ⟨b, 6, none⟩ (.int .i64 k)) (some b) := gb_then (gb_then (gb_then (gb_then (gb_then (gb_then (gb_set1 _ _ _ _) (gb_set1 _ _ _ _)) (gb_set1 _ _ _ _)) (gb_set1 _ _ _ _)) (gb_set1 _ _ _ _)) (gb_set1 _ _ _ _)) (gb_set1 _ _ _ _)
theorem refMake_no (s m : ByteArray) (A : Option Addr) (n c : Nat) (l : List Rc) (kind dev : Int) (w : World) (hl : LogL w A n l) (hn : n ≤ 1000000) (hc : n ≤ c) (hb : ∀ r ∈ l, r.wraps.length ≤ 1099511627776) (hne : deedE l kind dev ≠ 0) :
  Calls Tryz.prog 13 #[.string s, .string m, .slice A n c, .int .i64 kind, .int .i64 dev] w (RMadeIs zeroR (deedE l kind dev) w) := by
 obtain ⟨q, hq⟩ := nmd (inB l (n : Int) dev)
 obtain ⟨b0, hb0⟩ := nmd (w.heap.size)
 obtain ⟨W0, hW0⟩ := nmd (w.alloc (.cells #[.int .i64 0, .string ⟨#[]⟩, .int .i64 0, .int .i64 0, .slice none 0 0, .string ⟨#[]⟩, .int .i64 0] 36))
 have g0 : Gn w W0 := by rw [← hW0]; exact gb_alloc (gb_refl _ _) _
 have HZ0 : Hid (Row W0 b0 36 #[.int .i64 0, .string ⟨#[]⟩, .int .i64 0, .int .i64 0, .slice none 0 0, .string ⟨#[]⟩, .int .i64 0]) := by rw [← hW0, ← hb0]; exact Row.new _ _ _
 have HG0 := qj g0
 have Hb0 : Hid (w.heap.size ≤ b0) := by show _ ≤ _; omega
 have HI : Hid (Calls Tryz.prog 29 #[.slice A n c, .int .i64 (n : Int), .int .i64 dev] W0 fun x w' => x = .returned (.bool q) ∧ W0 = w') := by rw [← hq]; exact refIn_any A n c l (n : Int) dev W0 (hl.keep g0) (by omega)
 have HC : Hid (Calls Tryz.prog 31 #[.slice A n c] W0 (BoolIs (ChainR l) W0)) := refCheck_any A n c l W0 (hl.keep g0) hc hb
 obtain ⟨a, b, c', d, e', z, g, m0, h1, h2, h3, h4, h5, h6, h7, h8, HE, hx⟩ := deed_facts (kind := kind) (dev := dev) (q := q) hl.1 hq
 have h9 : (kind != 1) = !a := by rw [bne, h1]
 have h10 : (kind != 2) = !b := by rw [bne, h2]
 have h11 : (dev != 0) = !z := by rw [bne, h6]
 have h12 : ((n : Int) == 0) = g := by rw [← h7]; exact Bool.eq_iff_iff.2 (by simp)
 have h13 : decide ((40 : Int) ≤ (n : Int)) = m0 := by rw [← h8]; exact decide_eq_decide.2 (by omega)
 have HE := qj HE
 have Hne := qj hne
 clear hl hc hb hq g0 hne
 rcases deed_tree a b c' d e' z g m0 q hx with ⟨rfl, rfl⟩ | ⟨rfl, rfl, rfl⟩ | ⟨rfl, rfl, rfl, rfl⟩ | ⟨rfl, rfl, rfl, rfl, rfl⟩ | ⟨rfl, rfl, rfl, rfl, rfl, rfl, rfl⟩ | ⟨rfl, rfl, rfl, rfl, rfl, rfl, rfl, rfl⟩ | ⟨rfl, rfl, rfl, rfl, rfl, rfl, rfl, rfl, rfl⟩ | ⟨rfl, rfl, rfl, rfl, rfl, rfl, rfl, rfl, rfl⟩ | ⟨rfl, rfl, rfl, rfl, rfl, rfl, rfl, rfl⟩ | ⟨rfl, rfl, rfl, rfl, rfl, rfl, rfl, rfl, rfl⟩ | ⟨rfl, rfl, rfl, rfl, rfl, rfl, rfl, rfl, rfl⟩ | ⟨rfl, rfl, rfl, rfl, rfl, rfl, rfl, rfl⟩ | ⟨rfl, rfl, rfl, rfl, rfl, rfl, rfl, rfl, rfl⟩ | ⟨rfl, rfl, rfl, rfl, rfl, rfl, rfl, rfl, rfl⟩ | ⟨rfl, rfl, rfl⟩ | ⟨rfl, rfl, rfl, rfl⟩ | ⟨rfl, rfl, rfl, rfl, rfl⟩ | ⟨rfl, rfl, rfl, rfl, rfl, rfl, rfl⟩ | ⟨rfl, rfl, rfl, rfl, rfl, rfl, rfl⟩ | ⟨rfl, rfl, rfl, rfl, rfl, rfl, rfl⟩ | ⟨rfl, rfl, rfl, rfl, rfl, rfl, rfl, rfl⟩ | ⟨rfl, rfl, rfl, rfl, rfl, rfl, rfl, rfl, rfl⟩ | ⟨rfl, rfl, rfl, rfl, rfl, rfl, rfl, rfl, rfl⟩
 all_goals
  have H5 := qj h5
  clear hx h5
  first
  | exact absurd HE.out Hne.out
  |
   go_enter Tryz.func13, Tryz.ntmps13
   go_upto_region 2 with fail
   clear hW0 hb0
   go_wp2_with fail
   refine HI.out.mono ?_
   rintro e _ ⟨rfl, rfl⟩
   first
   |
    have HK : Hid (ChainR l) := by first | exact H5.out.1 rfl | exact H5.out.1 trivial | exact H5.out
    go_wp2_with fail
    refine HC.out.mono ?_
    rintro e w2 hh
    obtain ⟨rfl, g2⟩ := hh.yes HK.out
    have HZ := qj (HZ0.out.kept g2 (by simp))
    have HG := qj (gb_none HG0.out g2)
    clear hh g2
    obtain ⟨u0, u1, u2, u3, u4, u5, u6, p0, p1, p2, p3, p4, p5, p6⟩ := made_cells HZ.out
    go_wp2_with fail
    exact bodyPost_ret (results_cell_row rfl _ _ b0 36 _ (0, 0) _ rfl (made_stored HZ.out _) Tryz.underlying36 rfl (by kernel_rfl)) rfl (by rw [HE.out]; exact rmade_is (r := zeroR) rfl rfl rfl rfl rfl rfl rfl rfl (WL.none _ _) (Nat.le_refl _) (fun a h => by cases h) (gb_new HG.out (made_grown _ _ _) Hb0.out))
   |
    have HK : Hid (¬ ChainR l) := by first | exact fun h => absurd (H5.out.2 h) (by decide) | exact fun h => (H5.out.2 h).elim | exact H5.out
    go_wp2_with fail
    refine HC.out.mono ?_
    rintro e w2 hh
    obtain ⟨rfl, g2⟩ := hh.no HK.out
    have HZ := qj (HZ0.out.kept g2 (by simp))
    have HG := qj (gb_none HG0.out g2)
    clear hh g2
    obtain ⟨u0, u1, u2, u3, u4, u5, u6, p0, p1, p2, p3, p4, p5, p6⟩ := made_cells HZ.out
    go_wp2_with fail
    exact bodyPost_ret (results_cell_row rfl _ _ b0 36 _ (0, 0) _ rfl (made_stored HZ.out _) Tryz.underlying36 rfl (by kernel_rfl)) rfl (by rw [HE.out]; exact rmade_is (r := zeroR) rfl rfl rfl rfl rfl rfl rfl rfl (WL.none _ _) (Nat.le_refl _) (fun a h => by cases h) (gb_new HG.out (made_grown _ _ _) Hb0.out))
   |
    have HZ := HZ0
    have HG := HG0
    obtain ⟨u0, u1, u2, u3, u4, u5, u6, p0, p1, p2, p3, p4, p5, p6⟩ := made_cells HZ.out
    go_wp2_with fail
    exact bodyPost_ret (results_cell_row rfl _ _ b0 36 _ (0, 0) _ rfl (made_stored HZ.out _) Tryz.underlying36 rfl (by kernel_rfl)) rfl (by rw [HE.out]; exact rmade_is (r := zeroR) rfl rfl rfl rfl rfl rfl rfl rfl (WL.none _ _) (Nat.le_refl _) (fun a h => by cases h) (gb_new HG.out (made_grown _ _ _) Hb0.out))
end Go.Proofs.YtpcjbjpofcdjeaaGreatDoor.Wc
