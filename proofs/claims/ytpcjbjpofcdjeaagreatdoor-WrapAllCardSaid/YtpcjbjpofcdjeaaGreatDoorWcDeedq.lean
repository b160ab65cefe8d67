/- The next record without wraps and tag; why there is none. Written by gen_wc1.py. -/
import Derived.Test.YtpcjbjpofcdjeaaGreatDoorWcDcq
import Derived.Test.YtpcjbjpofcdjeaaGreatDoorWcErrq
import Derived.Test.YtpcjbjpofcdjeaaGreatDoorWcMemq
import Derived.Test.YtpcjbjpofcdjeaaGreatDoorMbChkq
import Derived.Test.YtpcjbjpofcdjeaaGreatDoorRoPgq
set_option linter.unusedVariables false
set_option maxHeartbeats 8000000
set_option maxRecDepth 100000
namespace Go.Proofs.YtpcjbjpofcdjeaaGreatDoor.Wc
open Go Go.RowKit Mm Td Vw Dt
open Mb Ro Hh We
attribute [local go_sem] Td.upon_value Td.upon_skip Td.upon_enter Td.upon_row Td.look_tmp Td.look_const Td.look_func Td.look_global
theorem last_at {l : List Rc} {n : Nat} (hn : l.length = n) (h0 : n ≠ 0) : ∃ r, l[n - 1]? = some r ∧ lastH l = hashB r := by
 obtain ⟨r, hr⟩ : ∃ r, l[n - 1]? = some r := ⟨_, List.getElem?_eq_getElem (by omega)⟩
 exact ⟨r, hr, by unfold lastH; rw [List.getLast?_eq_getElem?, hn, hr]⟩
theorem hung_any (A : Option Addr) (n c : Nat) (l : List Rc) (kind dev : Int) (w : World) (hl : LogL w A n l) (hn : n ≤ 1000000) (hc : n ≤ c) (hb : ∀ r ∈ l, r.wraps.length ≤ 1099511627776) (hT : Tabs w) :
  Calls Tryz.prog 36 #[.slice A n c, .int .i64 kind, .int .i64 dev] w fun e w' => e = .returned (.agg #[.int .i64 ((n : Int) + 1), .string (lastH l), .int .i64 kind, .int .i64 dev, .slice none 0 0, .string ⟨#[]⟩]) ∧ Gn w w' := by
 by_cases h0 : n = 0
 ·subst h0
  have He : Hid (lastH l = ⟨#[]⟩) := by show _ = _; rw [List.eq_nil_of_length_eq_zero hl.1]; rfl
  have t1 : IntKind.i64.wrap (((0 : Nat) : Int) + 1) = 1 := by decide
  have d1 : decide (0 < 0) = false := by decide
  have d2 : decide ((0 : Int) < ((0 : Nat) : Int)) = false := by decide
  clear hl hn hc hb hT
  go_enter Tryz.func36, Tryz.ntmps36
  go_wp2_with fail
  exact bodyPost_ret (results_cell_row rfl _ _ w.heap.size 25 _ (0, 0) _ rfl ((Row.new w _ _).alloc _) Tryz.underlying25 rfl (by kernel_rfl)) rfl ⟨by rw [He.out]; rfl, gb_alloc (gb_alloc (gb_refl _ _) _) _⟩
 ·obtain ⟨h9, hh9⟩ := nmd (lastH l)
  rw [hh9]
  have d1 : decide (0 < n) = true := dcT
  have d2 : decide ((0 : Int) < (n : Int)) = true := dcT
  have t1 : IntKind.i64.wrap ((n : Int) + 1) = (n : Int) + 1 := by rw [IntKind.wrap_i64]; omega
  obtain ⟨m, hm⟩ := nmd (n - 1)
  obtain ⟨r, hr, hh⟩ := last_at hl.1 h0
  rw [hm] at hr
  obtain ⟨g, o, rfl, hgl, _⟩ := hl.2 (by omega)
  have t2 : IntKind.i64.wrap ((n : Int) - 1) = (m : Int) := by rw [IntKind.wrap_i64]; omega
  have bk : (m : Int) < (n : Int) := by omega
  obtain ⟨b0, hb0⟩ := nmd (w.heap.size)
  obtain ⟨W1, hW1⟩ := nmd ((w.alloc (.cells #[.int .i64 0, .string ⟨#[]⟩, .int .i64 0, .int .i64 0, .slice none 0 0, .string ⟨#[]⟩] 25)).alloc (.cells #[.int .i64 ((n : Int) + 1), .string ⟨#[]⟩, .int .i64 kind, .int .i64 dev, .slice none 0 0, .string ⟨#[]⟩] 25))
  have g1 : Gn w W1 := by rw [← hW1]; exact gb_alloc (gb_alloc (gb_refl _ _) _) _
  have hra : Row W1 b0 25 #[.int .i64 0, .string ⟨#[]⟩, .int .i64 0, .int .i64 0, .slice none 0 0, .string ⟨#[]⟩] := by rw [← hW1, ← hb0]; exact (Row.new w _ _).alloc _
  have hrb : Row W1 (b0 + 1) 25 #[.int .i64 ((n : Int) + 1), .string ⟨#[]⟩, .int .i64 kind, .int .i64 dev, .slice none 0 0, .string ⟨#[]⟩] := by
   have e : (w.alloc (.cells #[.int .i64 0, .string ⟨#[]⟩, .int .i64 0, .int .i64 0, .slice none 0 0, .string ⟨#[]⟩] 25)).heap.size = b0 + 1 := by rw [World.size_alloc, hb0]
   rw [← hW1, ← e]; exact Row.new _ _ _
  obtain ⟨_, RA, rc, z0, z1, z2, z3, z4, z5, hwl, hrc⟩ := Mb.log_rec (hl.keep g1) hr
  have HH : Hid (Calls Tryz.prog 64 #[.agg (recCs r RA rc)] W1 fun e w' => e = .returned (.string h9) ∧ Gn W1 w') := by rw [← hh9, hh]; exact Mb.hash_any r RA rc W1 hwl (hb r (List.mem_of_getElem? hr)) (hT.keep g1 (by simp))
  have HA := qj hra
  have HB := qj hrb
  have HG := qj g1
  have Hb : Hid (w.heap.size ≤ b0) := by show _ ≤ _; omega
  have HW1 := qj hW1
  have Hz := qj (And.intro z0 (And.intro z1 (And.intro z2 (And.intro z3 (And.intro z4 z5)))))
  clear hl hn hc hb hT g1 hra hrb hwl hrc hh hr hm hgl hW1 hh9 z0 z1 z2 z3 z4 z5
  go_enter Tryz.func36, Tryz.ntmps36
  go_upto_region 2 with fail
  rw [HW1.out]
  clear HW1 hb0
  go_upto_region 3 with fail
  obtain ⟨z0, z1, z2, z3, z4, z5⟩ := Hz.out
  go_wp2_with fail
  refine HH.out.mono ?_
  rintro e w2 ⟨rfl, g2⟩
  have ha2 := HA.out.kept g2 (by simp)
  have hb2 := HB.out.kept g2 (by simp)
  have HG2 := qj (gb_none HG.out g2)
  have ha3 := ha2.kept (gb_set1 w2 (b0 + 1) 1 (.string h9)) (by simp)
  have hb3 := hb2.set_ 1 (.string h9)
  have HG3 : Hid (w.grownBy (w2.setCell ⟨b0 + 1, 1, none⟩ (.string h9)) none) := gb_new HG2.out (gb_set1 _ _ _ _) (Nat.le_trans Hb.out (Nat.le_succ _))
  have x1 : w2.cell? ⟨b0 + 1, 1, none⟩ = some (.string ⟨#[]⟩) := hb2.at_ (i := 1) rfl
  have f1 := hb2.free 1
  obtain ⟨W3, hW3⟩ := nmd (w2.setCell ⟨b0 + 1, 1, none⟩ (.string h9))
  rw [hW3] at ha3 hb3 HG3
  have HA3 := qj ha3
  have HB3 := qj hb3
  have HW3 := qj hW3
  clear z0 z1 z2 z3 z4 z5 g2 ha2 hb2 ha3 hb3 hW3
  go_upto_region 4 with fail
  rw [HW3.out]
  clear x1 f1 HW3
  have y0 : W3.cell? ⟨b0 + 1, 0, none⟩ = some (.int .i64 ((n : Int) + 1)) := HB3.out.at_ (i := 0) rfl
  have y1 : W3.cell? ⟨b0 + 1, 1, none⟩ = some (.string h9) := HB3.out.at_ (i := 1) rfl
  have y2 : W3.cell? ⟨b0 + 1, 2, none⟩ = some (.int .i64 kind) := HB3.out.at_ (i := 2) rfl
  have y3 : W3.cell? ⟨b0 + 1, 3, none⟩ = some (.int .i64 dev) := HB3.out.at_ (i := 3) rfl
  have y4 : W3.cell? ⟨b0 + 1, 4, none⟩ = some (.slice none 0 0) := HB3.out.at_ (i := 4) rfl
  have y5 : W3.cell? ⟨b0 + 1, 5, none⟩ = some (.string ⟨#[]⟩) := HB3.out.at_ (i := 5) rfl
  have hr9 := HA3.out
  have u0 : W3.cell? ⟨b0, 0, none⟩ = some (.int .i64 0) := hr9.at_ (i := 0) rfl
  have p0 := hr9.free 0
  have u1 : W3.cell? ⟨b0, 1, none⟩ = some (.string ⟨#[]⟩) := hr9.at_ (i := 1) rfl
  have p1 := hr9.free 1
  have u2 : W3.cell? ⟨b0, 2, none⟩ = some (.int .i64 0) := hr9.at_ (i := 2) rfl
  have p2 := hr9.free 2
  have u3 : W3.cell? ⟨b0, 3, none⟩ = some (.int .i64 0) := hr9.at_ (i := 3) rfl
  have p3 := hr9.free 3
  have u4 : W3.cell? ⟨b0, 4, none⟩ = some (.slice none 0 0) := hr9.at_ (i := 4) rfl
  have p4 := hr9.free 4
  have u5 : W3.cell? ⟨b0, 5, none⟩ = some (.string ⟨#[]⟩) := hr9.at_ (i := 5) rfl
  have p5 := hr9.free 5
  have HSR : Hid (Row ((((((W3.setCell ⟨b0, 0, none⟩ (.int .i64 ((n : Int) + 1))).setCell ⟨b0, 1, none⟩ (.string h9)).setCell ⟨b0, 2, none⟩ (.int .i64 kind)).setCell ⟨b0, 3, none⟩ (.int .i64 dev)).setCell ⟨b0, 4, none⟩ (.slice none 0 0)).setCell ⟨b0, 5, none⟩ (.string ⟨#[]⟩)) b0 25 #[.int .i64 ((n : Int) + 1), .string h9, .int .i64 kind, .int .i64 dev, .slice none 0 0, .string ⟨#[]⟩]) := ((((((hr9.set_ 0 (.int .i64 ((n : Int) + 1))).set_ 1 (.string h9)).set_ 2 (.int .i64 kind)).set_ 3 (.int .i64 dev)).set_ 4 (.slice none 0 0)).set_ 5 (.string ⟨#[]⟩))
  have HSG : Hid (W3.grownBy ((((((W3.setCell ⟨b0, 0, none⟩ (.int .i64 ((n : Int) + 1))).setCell ⟨b0, 1, none⟩ (.string h9)).setCell ⟨b0, 2, none⟩ (.int .i64 kind)).setCell ⟨b0, 3, none⟩ (.int .i64 dev)).setCell ⟨b0, 4, none⟩ (.slice none 0 0)).setCell ⟨b0, 5, none⟩ (.string ⟨#[]⟩)) (some b0)) := gb_then (gb_then (gb_then (gb_then (gb_then (gb_set1 _ _ _ _) (gb_set1 _ _ _ _)) (gb_set1 _ _ _ _)) (gb_set1 _ _ _ _)) (gb_set1 _ _ _ _)) (gb_set1 _ _ _ _)
  clear hr9
  go_wp2_with fail
  exact bodyPost_ret (results_cell_row rfl _ _ b0 25 _ (0, 0) _ rfl (HSR.out) Tryz.underlying25 rfl (by kernel_rfl)) rfl ⟨rfl, gb_new HG3.out HSG.out Hb.out⟩
theorem deed_any (A : Option Addr) (n c : Nat) (l : List Rc) (kind dev : Int) (w : World) (hl : LogL w A n l) (hn : n ≤ 1000000) (hc : n ≤ c) (hb : ∀ r ∈ l, r.wraps.length ≤ 1099511627776) (hT : Tabs w) (hE : Me.MErrs w) :
  Calls Tryz.prog 34 #[.slice A n c, .int .i64 kind, .int .i64 dev] w fun e w' => (∃ v, e = .returned v ∧ Tells 1 v (deedE l kind dev)) ∧ Gn w w' := by
 obtain ⟨q, hq⟩ := nmd (inB l (n : Int) dev)
 have HI : Hid (∀ W, Gn w W → Calls Tryz.prog 60 #[.slice A n c, .int .i64 (n : Int), .int .i64 dev] W fun x w' => x = .returned (.bool q) ∧ Gn W w') := fun W hW => by rw [← hq]; exact pIn_any A n c l (n : Int) dev W (hl.keep hW) (by omega)
 have HC : Hid (∀ W, Gn w W → Calls Tryz.prog 62 #[.slice A n c] W (BoolIs (ChainR l) W)) := fun W hW => check_log A n c l W (hl.keep hW) hb (hT.keep hW (by simp)) (hE.keep hW)
 obtain ⟨a, b, c', d, e', z, g, m, h1, h2, h3, h4, h5, h6, h7, h8, HE, hx⟩ := deed_facts (kind := kind) (dev := dev) (q := q) hl.1 hq
 have h9 : (kind != 1) = !a := by rw [bne, h1]
 have h10 : (kind != 2) = !b := by rw [bne, h2]
 have h11 : (dev != 0) = !z := by rw [bne, h6]
 have h12 : ((n : Int) == 0) = g := by rw [← h7]; exact Bool.eq_iff_iff.2 (by simp)
 have h13 : decide ((40 : Int) ≤ (n : Int)) = m := by rw [← h8]; exact decide_eq_decide.2 (by omega)
 have HE := qj HE
 clear hl hc hb hT hE hq
 rcases deed_tree a b c' d e' z g m q hx with ⟨rfl, rfl⟩ | ⟨rfl, rfl, rfl⟩ | ⟨rfl, rfl, rfl, rfl⟩ | ⟨rfl, rfl, rfl, rfl, rfl⟩ | ⟨rfl, rfl, rfl, rfl, rfl, rfl, rfl⟩ | ⟨rfl, rfl, rfl, rfl, rfl, rfl, rfl, rfl⟩ | ⟨rfl, rfl, rfl, rfl, rfl, rfl, rfl, rfl, rfl⟩ | ⟨rfl, rfl, rfl, rfl, rfl, rfl, rfl, rfl, rfl⟩ | ⟨rfl, rfl, rfl, rfl, rfl, rfl, rfl, rfl⟩ | ⟨rfl, rfl, rfl, rfl, rfl, rfl, rfl, rfl, rfl⟩ | ⟨rfl, rfl, rfl, rfl, rfl, rfl, rfl, rfl, rfl⟩ | ⟨rfl, rfl, rfl, rfl, rfl, rfl, rfl, rfl⟩ | ⟨rfl, rfl, rfl, rfl, rfl, rfl, rfl, rfl, rfl⟩ | ⟨rfl, rfl, rfl, rfl, rfl, rfl, rfl, rfl, rfl⟩ | ⟨rfl, rfl, rfl⟩ | ⟨rfl, rfl, rfl, rfl⟩ | ⟨rfl, rfl, rfl, rfl, rfl⟩ | ⟨rfl, rfl, rfl, rfl, rfl, rfl, rfl⟩ | ⟨rfl, rfl, rfl, rfl, rfl, rfl, rfl⟩ | ⟨rfl, rfl, rfl, rfl, rfl, rfl, rfl⟩ | ⟨rfl, rfl, rfl, rfl, rfl, rfl, rfl, rfl⟩ | ⟨rfl, rfl, rfl, rfl, rfl, rfl, rfl, rfl, rfl⟩ | ⟨rfl, rfl, rfl, rfl, rfl, rfl, rfl, rfl, rfl⟩
 all_goals
  have H5 := qj h5
  clear hx h5
  go_enter Tryz.func34, Tryz.ntmps34
  go_wp2_with fail
  refine (HI.out w (gb_refl _ _)).mono ?_
  rintro e w1 ⟨rfl, g1⟩
  have HG := qj g1
  clear g1
  go_wp2_with fail
  first
  |
   have HK : Hid (ChainR l) := by first | exact H5.out.1 rfl | exact H5.out.1 trivial | exact H5.out
   refine (HC.out w1 HG.out).mono ?_
   rintro e w2 hh
   obtain ⟨rfl, g2⟩ := hh.yes HK.out
   have HG := qj (gb_none HG.out g2)
   clear hh g2
   go_wp2_with fail
   first
   |
    refine (refuse_any _ _ _ _).mono ?_
    rintro e _ ⟨rfl, rfl⟩
    go_wp2_with fail
    go_ret
    exact ⟨⟨_, rfl, by rw [HE.out]; exact Tells.new (Nat.le_refl _) _ _ (by decide)⟩, HG.out⟩
   |
    go_ret
    exact ⟨⟨_, rfl, by rw [HE.out]; exact Tells.none _⟩, HG.out⟩
  |
   have HK : Hid (¬ ChainR l) := by first | exact fun h => absurd (H5.out.2 h) (by decide) | exact fun h => (H5.out.2 h).elim | exact H5.out
   refine (HC.out w1 HG.out).mono ?_
   rintro e w2 hh
   obtain ⟨rfl, g2⟩ := hh.no HK.out
   have HG := qj (gb_none HG.out g2)
   clear hh g2
   go_wp2_with fail
   first
   |
    refine (refuse_any _ _ _ _).mono ?_
    rintro e _ ⟨rfl, rfl⟩
    go_wp2_with fail
    go_ret
    exact ⟨⟨_, rfl, by rw [HE.out]; exact Tells.new (Nat.le_refl _) _ _ (by decide)⟩, HG.out⟩
   |
    go_ret
    exact ⟨⟨_, rfl, by rw [HE.out]; exact Tells.none _⟩, HG.out⟩
  |
   first
   |
    refine (refuse_any _ _ _ _).mono ?_
    rintro e _ ⟨rfl, rfl⟩
    go_wp2_with fail
    go_ret
    exact ⟨⟨_, rfl, by rw [HE.out]; exact Tells.new (Nat.le_refl _) _ _ (by decide)⟩, HG.out⟩
   |
    go_ret
    exact ⟨⟨_, rfl, by rw [HE.out]; exact Tells.none _⟩, HG.out⟩
end Go.Proofs.YtpcjbjpofcdjeaaGreatDoor.Wc
