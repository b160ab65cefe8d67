/- The document's words and quarter round. -/
import Derived.Test.YtkeincmmcdcggaaLeaf
import Derived.Test.YtkeincmmcdcggaaMem
import Derived.BigRegion
import Derived.BigQuiet
import Derived.Lib.Hide
import Derived.StillTailTactics
namespace Go.Proofs.Ytkeincmmcdcggaa
open Go.RowKit Wd Mm

theorem set_same {cs : Array Value} {i : Nat} {v : Value} (h : i < cs.size) : (cs.setIfInBounds i v)[i]? = some v := by simp [h]
theorem set_other {cs : Array Value} {i j : Nat} {v u : Value} (hn : i ≠ j) (h : cs[j]? = some u) : (cs.setIfInBounds i v)[j]? = some u := by rw [Array.getElem?_setIfInBounds, if_neg hn, h]
theorem set_lt {cs : Array Value} {i j : Nat} {v : Value} (h : j < cs.size) : j < (cs.setIfInBounds i v).size := by simpa using h

theorem eight_sets {cs : Array Value} {a b c d : Nat} {p q r s p' q' r' s' : Value} (na : a ≠ b) (nb : a ≠ c) (nc : a ≠ d) (nd : b ≠ c) (ne : b ≠ d) (nf : c ≠ d) :
    (((((((cs.setIfInBounds a p').setIfInBounds d s').setIfInBounds c r').setIfInBounds b q').setIfInBounds a p).setIfInBounds d s).setIfInBounds c r).setIfInBounds b q =
      (((cs.setIfInBounds a p).setIfInBounds b q).setIfInBounds c r).setIfInBounds d s := by
  apply Array.ext_getElem?
  intro i
  simp only [Array.getElem?_setIfInBounds, Array.size_setIfInBounds]
  by_cases h1 : a = i
  · subst h1; simp [Ne.symm na, Ne.symm nb, Ne.symm nc]
  · by_cases h2 : b = i
    · subst h2; simp [Ne.symm nd, Ne.symm ne]
    · by_cases h3 : c = i
      · subst h3; simp [h2, Ne.symm nf]
      · by_cases h4 : d = i
        · subst h4; simp [h2, h3]
        · simp [h1, h2, h3, h4]

attribute [local go_sem] pl_walk xo_walk

set_option maxHeartbeats 400000 in
theorem low_any (s : ByteArray) (m : Nat) (w : World) (h : m + 3 < s.size) (hs : s.size ≤ 9223372036854775807) :
    Calls Try.prog 20 #[.string s, .int .i64 (m : Int)] w fun e w' => e = .returned (.int .u32 (leAt s.data.toList m).toNat) ∧ w.drew = w' := by
  have hb0 : (m : Int) < (s.size : Int) := by omega
  have hb1 : (m : Int) + 1 < (s.size : Int) := by omega
  have hb2 : (m : Int) + 2 < (s.size : Int) := by omega
  have hb3 : (m : Int) + 3 < (s.size : Int) := by omega
  have hp1 : 0 ≤ (m : Int) + 1 := by omega
  have hp2 : 0 ≤ (m : Int) + 2 := by omega
  have hp3 : 0 ≤ (m : Int) + 3 := by omega
  go_enter Try.func20, Try.ntmps20
  go_wp2
  go_region
  go_wp2
  go_ret
  refine ⟨ret_u32 ?_, rfl⟩
  have e := le32_walk s[m] s[m + 1] s[m + 2] s[m + 3]
  rw [get_data s m (by omega), get_data s (m + 1) (by omega), get_data s (m + 2) (by omega), get_data s (m + 3) (by omega)] at e
  rw [get_data s m (by omega), get_data s (m + 1) (by omega), get_data s (m + 2) (by omega), get_data s (m + 3) (by omega)]
  exact e

set_option maxHeartbeats 4000000 in
set_option maxRecDepth 100000 in
theorem quarter_ref (g cp : Nat) (cs : Array Value) (w : World) (a b c d : Nat) (xa xb xc xd : UInt32) (hr : Row w g 35 cs)
    (ha : a < 4) (hb0 : 4 ≤ b) (hb : b < 8) (hc0 : 8 ≤ c) (hc : c < 12) (hd0 : 12 ≤ d) (hd : d < 16)
    (ca : cs[a]? = some (.int .u32 (xa.toNat : Int))) (cb : cs[b]? = some (.int .u32 (xb.toNat : Int))) (cc : cs[c]? = some (.int .u32 (xc.toNat : Int))) (cd : cs[d]? = some (.int .u32 (xd.toNat : Int))) :
    Calls Try.prog 21 #[.slice (some ⟨g, 0, none⟩) 16 cp, .int .i64 (a : Int), .int .i64 (b : Int), .int .i64 (c : Int), .int .i64 (d : Int)] w
      fun e w' => e = .returned (.tuple #[]) ∧ Row w' g 35 ((((cs.setIfInBounds a (w32 (qA xa xb xc xd))).setIfInBounds b (w32 (qB xa xb xc xd))).setIfInBounds c (w32 (qC xa xb xc xd))).setIfInBounds d (w32 (qD xa xb xc xd))) ∧ w.grownBy w' (some g) := by
  have Nna := Lib.hid (show a ≠ b by omega)
  have Nnb := Lib.hid (show a ≠ c by omega)
  have Nnc := Lib.hid (show a ≠ d by omega)
  have Nnd := Lib.hid (show b ≠ c by omega)
  have Nne := Lib.hid (show b ≠ d by omega)
  have Nnf := Lib.hid (show c ≠ d by omega)
  have La := Lib.hid (Array.getElem?_eq_some_iff.1 ca).1
  have Lb := Lib.hid (Array.getElem?_eq_some_iff.1 cb).1
  have Lc := Lib.hid (Array.getElem?_eq_some_iff.1 cc).1
  have Ld := Lib.hid (Array.getElem?_eq_some_iff.1 cd).1
  have Ca := Lib.hid ca
  have Cb := Lib.hid cb
  have Cc := Lib.hid cc
  have Cd := Lib.hid cd
  have ia : (a : Int) < 16 := by omega
  have ib : (b : Int) < 16 := by omega
  have ic : (c : Int) < 16 := by omega
  have id : (d : Int) < 16 := by omega
  have Hr := Lib.hid hr
  have Hg := Lib.hid (gb_refl w (some g))
  clear ca cb cc cd hr
  have ka : w.cell? ⟨g, a, none⟩ = some (.int .u32 (xa.toNat : Int)) := Row.at_ Hr.out Ca.out
  have kb : w.cell? ⟨g, b, none⟩ = some (.int .u32 (xb.toNat : Int)) := Row.at_ Hr.out Cb.out
  have kc : w.cell? ⟨g, c, none⟩ = some (.int .u32 (xc.toNat : Int)) := Row.at_ Hr.out Cc.out
  have kd : w.cell? ⟨g, d, none⟩ = some (.int .u32 (xd.toNat : Int)) := Row.at_ Hr.out Cd.out
  have hf : ∀ i, w.frozen? ⟨g, i, none⟩ = false := fun i => Row.free Hr.out i
  go_enter Try.func21, Try.ntmps21
  go_wp2
  go_region
  go_wp2
  obtain ⟨v0, E0⟩ : ∃ v : UInt32, Hid (v = (pl xa xb)) := ⟨_, rfl⟩
  rw [← E0.out]
  have R0 := Lib.hid (show Row (w.setCell ⟨g, a, none⟩ (.int .u32 (v0.toNat : Int))).drew g 35 (cs.setIfInBounds a (w32 v0)) from (Row.set_ Hr.out a _).drew)
  have G0 := Lib.hid (show w.grownBy (w.setCell ⟨g, a, none⟩ (.int .u32 (v0.toNat : Int))).drew (some g) from gb_drew (gb_then Hg.out (gb_set1 _ _ _ _)))
  clear ka kb kc kd hf Hr Hg
  generalize (w.setCell ⟨g, a, none⟩ (.int .u32 (v0.toNat : Int))).drew = w0 at *
  have ka : w0.cell? ⟨g, a, none⟩ = some (.int .u32 (v0.toNat : Int)) := Row.at_ R0.out (set_same La.out)
  have kb : w0.cell? ⟨g, b, none⟩ = some (.int .u32 (xb.toNat : Int)) := Row.at_ R0.out (set_other Nna.out Cb.out)
  have kc : w0.cell? ⟨g, c, none⟩ = some (.int .u32 (xc.toNat : Int)) := Row.at_ R0.out (set_other Nnb.out Cc.out)
  have kd : w0.cell? ⟨g, d, none⟩ = some (.int .u32 (xd.toNat : Int)) := Row.at_ R0.out (set_other Nnc.out Cd.out)
  have hf : ∀ i, w0.frozen? ⟨g, i, none⟩ = false := fun i => Row.free R0.out i
  go_wp2
  refine wp_region_still_tail 13 (by kernel_rfl) (by kernel_rfl) ?_
  simp only [List.take_succ_cons, List.take_zero, List.drop_succ_cons, List.drop_zero]
  iterate 11 still_step
  still_call ((left_16 _ _).mono fun _ _ h => ⟨h.1, h.2.symm⟩)
  still_step
  refine wpStill_nil ?_
  change wpList _ _ _ _ _ w0.drew
  go_wp2
  obtain ⟨v1, E1⟩ : ∃ v : UInt32, Hid (v = (rotl (xo xd v0) 16)) := ⟨_, rfl⟩
  rw [← E1.out]
  have R1 := Lib.hid (show Row (w0.setCell ⟨g, d, none⟩ (.int .u32 (v1.toNat : Int))).drew g 35 ((cs.setIfInBounds a (w32 v0)).setIfInBounds d (w32 v1)) from (Row.set_ R0.out d _).drew)
  have G1 := Lib.hid (show w.grownBy (w0.setCell ⟨g, d, none⟩ (.int .u32 (v1.toNat : Int))).drew (some g) from gb_drew (gb_then G0.out (gb_set1 _ _ _ _)))
  clear ka kb kc kd hf R0 G0
  generalize (w0.setCell ⟨g, d, none⟩ (.int .u32 (v1.toNat : Int))).drew = w1 at *
  have ka : w1.cell? ⟨g, a, none⟩ = some (.int .u32 (v0.toNat : Int)) := Row.at_ R1.out (set_other (Ne.symm Nnc.out) (set_same La.out))
  have kb : w1.cell? ⟨g, b, none⟩ = some (.int .u32 (xb.toNat : Int)) := Row.at_ R1.out (set_other (Ne.symm Nne.out) (set_other Nna.out Cb.out))
  have kc : w1.cell? ⟨g, c, none⟩ = some (.int .u32 (xc.toNat : Int)) := Row.at_ R1.out (set_other (Ne.symm Nnf.out) (set_other Nnb.out Cc.out))
  have kd : w1.cell? ⟨g, d, none⟩ = some (.int .u32 (v1.toNat : Int)) := Row.at_ R1.out (set_same (set_lt Ld.out))
  have hf : ∀ i, w1.frozen? ⟨g, i, none⟩ = false := fun i => Row.free R1.out i
  go_wp2
  go_region
  go_wp2
  obtain ⟨v2, E2⟩ : ∃ v : UInt32, Hid (v = (pl xc v1)) := ⟨_, rfl⟩
  rw [← E2.out]
  have R2 := Lib.hid (show Row (w1.setCell ⟨g, c, none⟩ (.int .u32 (v2.toNat : Int))).drew g 35 (((cs.setIfInBounds a (w32 v0)).setIfInBounds d (w32 v1)).setIfInBounds c (w32 v2)) from (Row.set_ R1.out c _).drew)
  have G2 := Lib.hid (show w.grownBy (w1.setCell ⟨g, c, none⟩ (.int .u32 (v2.toNat : Int))).drew (some g) from gb_drew (gb_then G1.out (gb_set1 _ _ _ _)))
  clear ka kb kc kd hf R1 G1
  generalize (w1.setCell ⟨g, c, none⟩ (.int .u32 (v2.toNat : Int))).drew = w2 at *
  have ka : w2.cell? ⟨g, a, none⟩ = some (.int .u32 (v0.toNat : Int)) := Row.at_ R2.out (set_other (Ne.symm Nnb.out) (set_other (Ne.symm Nnc.out) (set_same La.out)))
  have kb : w2.cell? ⟨g, b, none⟩ = some (.int .u32 (xb.toNat : Int)) := Row.at_ R2.out (set_other (Ne.symm Nnd.out) (set_other (Ne.symm Nne.out) (set_other Nna.out Cb.out)))
  have kc : w2.cell? ⟨g, c, none⟩ = some (.int .u32 (v2.toNat : Int)) := Row.at_ R2.out (set_same (set_lt (set_lt Lc.out)))
  have kd : w2.cell? ⟨g, d, none⟩ = some (.int .u32 (v1.toNat : Int)) := Row.at_ R2.out (set_other Nnf.out (set_same (set_lt Ld.out)))
  have hf : ∀ i, w2.frozen? ⟨g, i, none⟩ = false := fun i => Row.free R2.out i
  go_wp2
  refine wp_region_still_tail 13 (by kernel_rfl) (by kernel_rfl) ?_
  simp only [List.take_succ_cons, List.take_zero, List.drop_succ_cons, List.drop_zero]
  iterate 11 still_step
  still_call ((left_12 _ _).mono fun _ _ h => ⟨h.1, h.2.symm⟩)
  still_step
  refine wpStill_nil ?_
  change wpList _ _ _ _ _ w2.drew
  go_wp2
  obtain ⟨v3, E3⟩ : ∃ v : UInt32, Hid (v = (rotl (xo xb v2) 12)) := ⟨_, rfl⟩
  rw [← E3.out]
  have R3 := Lib.hid (show Row (w2.setCell ⟨g, b, none⟩ (.int .u32 (v3.toNat : Int))).drew g 35 ((((cs.setIfInBounds a (w32 v0)).setIfInBounds d (w32 v1)).setIfInBounds c (w32 v2)).setIfInBounds b (w32 v3)) from (Row.set_ R2.out b _).drew)
  have G3 := Lib.hid (show w.grownBy (w2.setCell ⟨g, b, none⟩ (.int .u32 (v3.toNat : Int))).drew (some g) from gb_drew (gb_then G2.out (gb_set1 _ _ _ _)))
  clear ka kb kc kd hf R2 G2
  generalize (w2.setCell ⟨g, b, none⟩ (.int .u32 (v3.toNat : Int))).drew = w3 at *
  have ka : w3.cell? ⟨g, a, none⟩ = some (.int .u32 (v0.toNat : Int)) := Row.at_ R3.out (set_other (Ne.symm Nna.out) (set_other (Ne.symm Nnb.out) (set_other (Ne.symm Nnc.out) (set_same La.out))))
  have kb : w3.cell? ⟨g, b, none⟩ = some (.int .u32 (v3.toNat : Int)) := Row.at_ R3.out (set_same (set_lt (set_lt (set_lt Lb.out))))
  have kc : w3.cell? ⟨g, c, none⟩ = some (.int .u32 (v2.toNat : Int)) := Row.at_ R3.out (set_other Nnd.out (set_same (set_lt (set_lt Lc.out))))
  have kd : w3.cell? ⟨g, d, none⟩ = some (.int .u32 (v1.toNat : Int)) := Row.at_ R3.out (set_other Nne.out (set_other Nnf.out (set_same (set_lt Ld.out))))
  have hf : ∀ i, w3.frozen? ⟨g, i, none⟩ = false := fun i => Row.free R3.out i
  go_wp2
  go_region
  go_wp2
  obtain ⟨v4, E4⟩ : ∃ v : UInt32, Hid (v = (pl v0 v3)) := ⟨_, rfl⟩
  rw [← E4.out]
  have R4 := Lib.hid (show Row (w3.setCell ⟨g, a, none⟩ (.int .u32 (v4.toNat : Int))).drew g 35 (((((cs.setIfInBounds a (w32 v0)).setIfInBounds d (w32 v1)).setIfInBounds c (w32 v2)).setIfInBounds b (w32 v3)).setIfInBounds a (w32 v4)) from (Row.set_ R3.out a _).drew)
  have G4 := Lib.hid (show w.grownBy (w3.setCell ⟨g, a, none⟩ (.int .u32 (v4.toNat : Int))).drew (some g) from gb_drew (gb_then G3.out (gb_set1 _ _ _ _)))
  clear ka kb kc kd hf R3 G3
  generalize (w3.setCell ⟨g, a, none⟩ (.int .u32 (v4.toNat : Int))).drew = w4 at *
  have ka : w4.cell? ⟨g, a, none⟩ = some (.int .u32 (v4.toNat : Int)) := Row.at_ R4.out (set_same (set_lt (set_lt (set_lt (set_lt La.out)))))
  have kb : w4.cell? ⟨g, b, none⟩ = some (.int .u32 (v3.toNat : Int)) := Row.at_ R4.out (set_other Nna.out (set_same (set_lt (set_lt (set_lt Lb.out)))))
  have kc : w4.cell? ⟨g, c, none⟩ = some (.int .u32 (v2.toNat : Int)) := Row.at_ R4.out (set_other Nnb.out (set_other Nnd.out (set_same (set_lt (set_lt Lc.out)))))
  have kd : w4.cell? ⟨g, d, none⟩ = some (.int .u32 (v1.toNat : Int)) := Row.at_ R4.out (set_other Nnc.out (set_other Nne.out (set_other Nnf.out (set_same (set_lt Ld.out)))))
  have hf : ∀ i, w4.frozen? ⟨g, i, none⟩ = false := fun i => Row.free R4.out i
  go_wp2
  refine wp_region_still_tail 13 (by kernel_rfl) (by kernel_rfl) ?_
  simp only [List.take_succ_cons, List.take_zero, List.drop_succ_cons, List.drop_zero]
  iterate 11 still_step
  still_call ((left_8 _ _).mono fun _ _ h => ⟨h.1, h.2.symm⟩)
  still_step
  refine wpStill_nil ?_
  change wpList _ _ _ _ _ w4.drew
  go_wp2
  obtain ⟨v5, E5⟩ : ∃ v : UInt32, Hid (v = (rotl (xo v1 v4) 8)) := ⟨_, rfl⟩
  rw [← E5.out]
  have R5 := Lib.hid (show Row (w4.setCell ⟨g, d, none⟩ (.int .u32 (v5.toNat : Int))).drew g 35 ((((((cs.setIfInBounds a (w32 v0)).setIfInBounds d (w32 v1)).setIfInBounds c (w32 v2)).setIfInBounds b (w32 v3)).setIfInBounds a (w32 v4)).setIfInBounds d (w32 v5)) from (Row.set_ R4.out d _).drew)
  have G5 := Lib.hid (show w.grownBy (w4.setCell ⟨g, d, none⟩ (.int .u32 (v5.toNat : Int))).drew (some g) from gb_drew (gb_then G4.out (gb_set1 _ _ _ _)))
  clear ka kb kc kd hf R4 G4
  generalize (w4.setCell ⟨g, d, none⟩ (.int .u32 (v5.toNat : Int))).drew = w5 at *
  have ka : w5.cell? ⟨g, a, none⟩ = some (.int .u32 (v4.toNat : Int)) := Row.at_ R5.out (set_other (Ne.symm Nnc.out) (set_same (set_lt (set_lt (set_lt (set_lt La.out))))))
  have kb : w5.cell? ⟨g, b, none⟩ = some (.int .u32 (v3.toNat : Int)) := Row.at_ R5.out (set_other (Ne.symm Nne.out) (set_other Nna.out (set_same (set_lt (set_lt (set_lt Lb.out))))))
  have kc : w5.cell? ⟨g, c, none⟩ = some (.int .u32 (v2.toNat : Int)) := Row.at_ R5.out (set_other (Ne.symm Nnf.out) (set_other Nnb.out (set_other Nnd.out (set_same (set_lt (set_lt Lc.out))))))
  have kd : w5.cell? ⟨g, d, none⟩ = some (.int .u32 (v5.toNat : Int)) := Row.at_ R5.out (set_same (set_lt (set_lt (set_lt (set_lt (set_lt Ld.out))))))
  have hf : ∀ i, w5.frozen? ⟨g, i, none⟩ = false := fun i => Row.free R5.out i
  go_wp2
  go_region
  go_wp2
  obtain ⟨v6, E6⟩ : ∃ v : UInt32, Hid (v = (pl v2 v5)) := ⟨_, rfl⟩
  rw [← E6.out]
  have R6 := Lib.hid (show Row (w5.setCell ⟨g, c, none⟩ (.int .u32 (v6.toNat : Int))).drew g 35 (((((((cs.setIfInBounds a (w32 v0)).setIfInBounds d (w32 v1)).setIfInBounds c (w32 v2)).setIfInBounds b (w32 v3)).setIfInBounds a (w32 v4)).setIfInBounds d (w32 v5)).setIfInBounds c (w32 v6)) from (Row.set_ R5.out c _).drew)
  have G6 := Lib.hid (show w.grownBy (w5.setCell ⟨g, c, none⟩ (.int .u32 (v6.toNat : Int))).drew (some g) from gb_drew (gb_then G5.out (gb_set1 _ _ _ _)))
  clear ka kb kc kd hf R5 G5
  generalize (w5.setCell ⟨g, c, none⟩ (.int .u32 (v6.toNat : Int))).drew = w6 at *
  have ka : w6.cell? ⟨g, a, none⟩ = some (.int .u32 (v4.toNat : Int)) := Row.at_ R6.out (set_other (Ne.symm Nnb.out) (set_other (Ne.symm Nnc.out) (set_same (set_lt (set_lt (set_lt (set_lt La.out)))))))
  have kb : w6.cell? ⟨g, b, none⟩ = some (.int .u32 (v3.toNat : Int)) := Row.at_ R6.out (set_other (Ne.symm Nnd.out) (set_other (Ne.symm Nne.out) (set_other Nna.out (set_same (set_lt (set_lt (set_lt Lb.out)))))))
  have kc : w6.cell? ⟨g, c, none⟩ = some (.int .u32 (v6.toNat : Int)) := Row.at_ R6.out (set_same (set_lt (set_lt (set_lt (set_lt (set_lt (set_lt Lc.out)))))))
  have kd : w6.cell? ⟨g, d, none⟩ = some (.int .u32 (v5.toNat : Int)) := Row.at_ R6.out (set_other Nnf.out (set_same (set_lt (set_lt (set_lt (set_lt (set_lt Ld.out)))))))
  have hf : ∀ i, w6.frozen? ⟨g, i, none⟩ = false := fun i => Row.free R6.out i
  go_wp2
  refine wp_region_still_tail 13 (by kernel_rfl) (by kernel_rfl) ?_
  simp only [List.take_succ_cons, List.take_zero, List.drop_succ_cons, List.drop_zero]
  iterate 11 still_step
  still_call ((left_7 _ _).mono fun _ _ h => ⟨h.1, h.2.symm⟩)
  still_step
  refine wpStill_nil ?_
  change wpList _ _ _ _ _ w6.drew
  go_wp2
  obtain ⟨v7, E7⟩ : ∃ v : UInt32, Hid (v = (rotl (xo v3 v6) 7)) := ⟨_, rfl⟩
  rw [← E7.out]
  have R7 := Lib.hid (show Row (w6.setCell ⟨g, b, none⟩ (.int .u32 (v7.toNat : Int))).drew g 35 ((((((((cs.setIfInBounds a (w32 v0)).setIfInBounds d (w32 v1)).setIfInBounds c (w32 v2)).setIfInBounds b (w32 v3)).setIfInBounds a (w32 v4)).setIfInBounds d (w32 v5)).setIfInBounds c (w32 v6)).setIfInBounds b (w32 v7)) from (Row.set_ R6.out b _).drew)
  have G7 := Lib.hid (show w.grownBy (w6.setCell ⟨g, b, none⟩ (.int .u32 (v7.toNat : Int))).drew (some g) from gb_drew (gb_then G6.out (gb_set1 _ _ _ _)))
  clear ka kb kc kd hf R6 G6
  generalize (w6.setCell ⟨g, b, none⟩ (.int .u32 (v7.toNat : Int))).drew = w7 at *
  go_end0
  refine ⟨rfl, ?_, G7.out⟩
  have h := R7.out
  rw [eight_sets Nna.out Nnb.out Nnc.out Nnd.out Nne.out Nnf.out] at h
  obtain rfl := E0.out
  obtain rfl := E1.out
  obtain rfl := E2.out
  obtain rfl := E3.out
  obtain rfl := E4.out
  obtain rfl := E5.out
  obtain rfl := E6.out
  obtain rfl := E7.out
  exact h
end Go.Proofs.Ytkeincmmcdcggaa
