/- sha.spread: the sixty-four words of a block. -/
import Derived.Test.YtalobkggpdniaaaDoorSHigh
import Derived.Test.YtalobkggpdniaaaDoorTold
import Derived.Laws.CopyOwn
import Derived.Deep.OwnRows
import Derived.Deep.RegionWith
import Derived.Outline
namespace Go.Proofs.YtalobkggpdniaaaDoor
open Go.RowKit Wd Mm

theorem size64 : (Tryd.prog.info? 82).map (·.size) = some 64 := by kernel_rfl
theorem words_one (l : List UInt32) : ((l.map w32).toArray).all (·.oneCell') = true := by
  rw [Array.all_eq_true_iff_forall_mem]
  intro v hv
  simp only [List.mem_toArray, List.mem_map] at hv
  obtain ⟨x, _, rfl⟩ := hv
  rfl
/-- Block g holds, from place o on, the bytes b. -/
def Bytes (w : World) (g o : Nat) (b : List UInt8) : Prop := ∀ i, i < b.length → w.cell? ⟨g, o + i, none⟩ = some (w8 (b.getD i 0))
def zero64 : List UInt32 := List.replicate 64 0
def wF (b : List UInt8) (i : Nat) : Value := w32 ((wS b).getD i 0)
theorem wF_all (b : List UInt8) (cs : Array Value) (h : cs.size = 64) : put cs 0 (wF b) 64 = ((wS b).map w32).toArray := by
  refine put_all _ _ 64 _ h (by simp [wS_len]) (fun i hi => ?_)
  exact words_get _ _ (by rw [wS_len]; exact hi)

attribute [local go_sem] pl_walk pl_wrap xo_walk

set_option maxHeartbeats 4000000 in
set_option maxRecDepth 100000 in
theorem spread_any (g : Nat) (b : List UInt8) (w : World) (hl : b.length = 64) (hb : Bytes w g 8 b) (hg : g < w.heap.size) :
    Calls Tryd.prog 46 #[.pointer (some ⟨g, 0, none⟩)] w
      fun e w' => e = .returned (.agg ((wS b).map w32).toArray) ∧ w.grownBy w' none := by
  have Hl := Lib.hid hl
  have Hb : Hid (∀ W, w.grownBy W none → Bytes W g 8 b) := fun W hW i hi => by
    rw [World.cell?_of_block (w := w) (a := ⟨g, 8 + i, none⟩) (hW.block g hg (by simp))]
    exact hb i hi
  clear hb hl
  go_enter Tryd.func46, Tryd.ntmps46
  go_wp2_with fail
  go_loopw [7] (fun i wr => ∃ k : Nat, k ≤ 16 ∧ i = .int .i64 k ∧ (∃ Z, Row wr (w.heap.size + 1) 82 (put Z 0 (wF b) k) ∧ Hid (Z.size = 64)) ∧ (∃ z, Row wr w.heap.size 82 z ∧ Hid (z.size = 64)) ∧ w.grownBy wr none) (fun i _ => 16 - (intOf i).toNat)
  case atStart => exact ⟨0, Nat.zero_le _, rfl, ⟨_, heap_alloc2_new _ _ _, rfl⟩, ⟨_, heap_alloc2_old _ _ _, rfl⟩, gb_alloc (gb_alloc (gb_refl _ _) _) _⟩
  case round =>
    obtain ⟨k, hk, rfl, ⟨Z, hr, HZ⟩, ⟨z, hz, Hz⟩, hgr⟩ := hrel
    by_cases hlt : k < 16
    · have hdec : decide ((k : Int) < 16) = true := by simp; omega
      obtain ⟨m, Hm⟩ : ∃ m : Nat, Hid (m = 4 * k) := ⟨_, rfl⟩
      have hm : 4 * (k : Int) = (m : Int) := by have := Hm.out; omega
      have hm60 : m ≤ 60 := by have := Hm.out; omega
      have hA : Tryd.prog.arrayLen 44 = 64 := by kernel_rfl
      have h64 : (m : Int) + 4 ≤ 64 := by omega
      have hle : (m : Int) ≤ (m : Int) + 4 := by omega
      have hB := Hb.out wr hgr
      have c0 := hB m (by rw [Hl.out]; omega)
      have c1 := hB (m + 1) (by rw [Hl.out]; omega)
      rw [← Nat.add_assoc] at c1
      have c2 := hB (m + 2) (by rw [Hl.out]; omega)
      rw [← Nat.add_assoc] at c2
      have c3 := hB (m + 3) (by rw [Hl.out]; omega)
      rw [← Nat.add_assoc] at c3
      obtain ⟨x0, h0⟩ : ∃ x, b.getD m 0 = x := ⟨_, rfl⟩
      obtain ⟨x1, h1⟩ : ∃ x, b.getD (m + 1) 0 = x := ⟨_, rfl⟩
      obtain ⟨x2, h2⟩ : ∃ x, b.getD (m + 2) 0 = x := ⟨_, rfl⟩
      obtain ⟨x3, h3⟩ : ∃ x, b.getD (m + 3) 0 = x := ⟨_, rfl⟩
      rw [h0] at c0; rw [h1] at c1; rw [h2] at c2; rw [h3] at c3
      have H0 := Lib.hid h0
      have H1 := Lib.hid h1
      have H2 := Lib.hid h2
      have H3 := Lib.hid h3
      unfold w8 at c0 c1 c2 c3
      obtain ⟨v0, hv0⟩ : ∃ v, (put Z 0 (wF b) k)[k]? = some v := ⟨_, Array.getElem?_eq_getElem (by rw [put_size, HZ.out]; omega)⟩
      have hc := hr.at_ hv0
      have hf : wr.frozen? ⟨w.heap.size + 1, k, none⟩ = false := hr.free _
      clear hv0 hB h0 h1 h2 h3
      go_wp2
      go_region
      go_wp2
      go_roundw
      case rel =>
        rw [be32_walk x0 x1 x2 x3]
        refine ⟨k + 1, by omega, by go_num, ⟨Z, ?_, HZ⟩, ⟨z, (hz.far (by simp) _).drew, Hz⟩, gb_drew (gb_new hgr (gb_set1 _ _ _ _) (by omega))⟩
        have e : wF b k = .int .u32 ((be32 x0 x1 x2 x3).toNat : Int) := by
          unfold wF
          rw [wS_low b k hlt, beAt, ← Hm.out, H0.out, H1.out, H2.out, H3.out]; rfl
        have h := (hr.set_ k (wF b k)).drew
        rw [e] at h
        simp only [put, Nat.zero_add]
        rw [e]
        exact h
      case measure => simp [intOf]; omega
    · have hk16 : k = 16 := by omega
      subst hk16
      clear hlt hk
      rw [show ((16 : Nat) : Int) = 16 from rfl]
      obtain ⟨wo, rfl⟩ : ∃ wo : World, wo = wr := ⟨_, rfl⟩
      go_wp2
      go_loopw [6] (fun i wr2 => ∃ k : Nat, 16 ≤ k ∧ k ≤ 64 ∧ i = .int .i64 k ∧ Row wr2 (w.heap.size + 1) 82 (put Z 0 (wF b) k) ∧ Row wr2 w.heap.size 82 z ∧ w.grownBy wr2 none) (fun i _ => 64 - (intOf i).toNat)
      case atStart => exact ⟨16, by omega, by omega, rfl, hr, hz, hgr⟩
      case round =>
        clear hr hz hgr
        obtain ⟨k, hk0, hk, rfl, hr2, hz2, hg2⟩ := hrel
        by_cases hlt : k < 64
        · have hdec : decide ((k : Int) < 64) = true := by simp; omega
          obtain ⟨y0, hy0⟩ : ∃ x, (wS b).getD (k - 16) 0 = x := ⟨_, rfl⟩
          obtain ⟨y1, hy1⟩ : ∃ x, (wS b).getD (k - 7) 0 = x := ⟨_, rfl⟩
          obtain ⟨y2, hy2⟩ : ∃ x, (wS b).getD (k - 15) 0 = x := ⟨_, rfl⟩
          obtain ⟨y3, hy3⟩ : ∃ x, (wS b).getD (k - 2) 0 = x := ⟨_, rfl⟩
          have cell : ∀ j, j < k → wr.cell? ⟨w.heap.size + 1, j, none⟩ = some (.int .u32 (((wS b).getD j 0).toNat : Int)) := fun j hj => by
            refine hr2.at_ ?_
            rw [put_get, if_pos ⟨Nat.zero_le _, by omega, by rw [HZ.out]; omega⟩, Nat.sub_zero]; rfl
          obtain ⟨j0, hj0⟩ : ∃ j : Nat, (k : Int) - 16 = (j : Int) := ⟨k - 16, by omega⟩
          obtain ⟨j1, hj1⟩ : ∃ j : Nat, (k : Int) - 7 = (j : Int) := ⟨k - 7, by omega⟩
          obtain ⟨j2, hj2⟩ : ∃ j : Nat, (k : Int) - 15 = (j : Int) := ⟨k - 15, by omega⟩
          obtain ⟨j3, hj3⟩ : ∃ j : Nat, (k : Int) - 2 = (j : Int) := ⟨k - 2, by omega⟩
          have c0 := cell j0 (by omega)
          have c1 := cell j1 (by omega)
          have c2 := cell j2 (by omega)
          have c3 := cell j3 (by omega)
          rw [show j0 = k - 16 by omega, hy0, show k - 16 = j0 by omega] at c0
          rw [show j1 = k - 7 by omega, hy1, show k - 7 = j1 by omega] at c1
          rw [show j2 = k - 15 by omega, hy2, show k - 15 = j2 by omega] at c2
          rw [show j3 = k - 2 by omega, hy3, show k - 2 = j3 by omega] at c3
          have bk : (k : Int) < 64 := by omega
          have b0 : (j0 : Int) < 64 := by omega
          have b1 : (j1 : Int) < 64 := by omega
          have b2 : (j2 : Int) < 64 := by omega
          have b3 : (j3 : Int) < 64 := by omega
          obtain ⟨v0, hv0⟩ : ∃ v, (put Z 0 (wF b) k)[k]? = some v := ⟨_, Array.getElem?_eq_getElem (by rw [put_size, HZ.out]; omega)⟩
          have hc := hr2.at_ hv0
          have hf : wr.frozen? ⟨w.heap.size + 1, k, none⟩ = false := hr2.free _
          have Hy0 := Lib.hid hy0
          have Hy1 := Lib.hid hy1
          have Hy2 := Lib.hid hy2
          have Hy3 := Lib.hid hy3
          clear hv0 cell hy0 hy1 hy2 hy3
          go_wp2_with fail
          have q := IntWalk.i64_in (k : Int) (by omega)
          have q0 := IntWalk.i64_in (j0 : Int) (by omega)
          have q1 := IntWalk.i64_in (j1 : Int) (by omega)
          have q2 := IntWalk.i64_in (j2 : Int) (by omega)
          have q3 := IntWalk.i64_in (j3 : Int) (by omega)
          refine wp_region_still_tail 23 (by kernel_rfl) (by kernel_rfl) ?_
          simp only [List.take_succ_cons, List.take_zero, List.drop_succ_cons, List.drop_zero]
          iterate 14 still_step
          still_call ((mixFar_any _ _).mono fun _ _ ⟨h1, h2⟩ => ⟨h1, h2.symm⟩)
          iterate 5 still_step
          still_call ((mixNear_any _ _).mono fun _ _ ⟨h1, h2⟩ => ⟨h1, h2.symm⟩)
          iterate 2 still_step
          refine wpStill_nil ?_
          clear q q0 q1 q2 q3
          change wpList _ _ _ _ _ wr.drew
          go_wp2_with fail
          go_roundw
          case rel =>
            refine ⟨k + 1, by omega, by omega, by go_num, ?_, (hz2.far (by simp) _).drew, gb_drew (gb_new hg2 (gb_set1 _ _ _ _) (by omega))⟩
            have e : wF b k = .int .u32 ((pl (pl (pl y0 y1) (far y2)) (near y3)).toNat : Int) := by
              unfold wF
              rw [wS_high b k hk0 hlt, nextW, Hy0.out, Hy1.out, Hy2.out, Hy3.out]; rfl
            have h := (hr2.set_ k (wF b k)).drew
            rw [e] at h
            simp only [put, Nat.zero_add]
            rw [e]
            exact h
          case measure => simp [intOf]; omega
        · have hk64 : k = 64 := by omega
          subst hk64
          rw [wF_all b Z HZ.out] at hr2
          have hsz2 : (Tryd.prog.info? 82).map (·.size) = some ((wS b).map w32).toArray.size := by rw [size64]; simp [wS_len]
          have hzz : z.size = ((wS b).map w32).toArray.size := by rw [Hz.out]; simp [wS_len]
          have hone2 := words_one (wS b)
          clear hlt hk hk0
          generalize hcs : ((wS b).map w32).toArray = cs at *
          have Hcs := Lib.hid hcs
          have Hsz2 := Lib.hid hsz2
          have Hzz := Lib.hid hzz
          have Hone2 := Lib.hid hone2
          clear hcs hsz2 hzz hone2
          go_wp2_with (first
            | (refine wpList_load_row rfl 82 (.tmp 3) rfl (w.heap.size + 1) rfl 82 cs (0, 0) _ hr2 Tryd.underlying82 rfl Hsz2.out ?_)
            | (refine wpList_store_row rfl 82 (.tmp 2) (.tmp 71) rfl w.heap.size cs rfl rfl 82 _ hz2 Hsz2.out Hzz.out Hone2.out ?_))
          refine bodyPost_ret (results_cell_row rfl _ _ w.heap.size 82 cs (0, 0) _ rfl (hz2.setRow_ cs) Tryd.underlying82 rfl Hsz2.out) rfl ?_
          exact ⟨by rw [Hcs.out], gb_new hg2 (gb_setRow1 _ _ _) (Nat.le_refl _)⟩
end Go.Proofs.YtalobkggpdniaaaDoor
