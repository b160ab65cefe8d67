/- chacha.stirred: the rounds. -/
import Derived.Test.YtkeincmmcdcggaaStart
namespace Go.Proofs.Ytkeincmmcdcggaa
open Go.RowKit Wd Mm

set_option maxHeartbeats 4000000 in
set_option maxRecDepth 100000 in
theorem stirred_any (b : Nat) (ws : List UInt32) (w : World) (hl : ws.length = 16) (hb : Row w b 39 (ws.map w32).toArray) :
    Calls Try.prog 18 #[.pointer (some ⟨b, 0, none⟩)] w
      fun e w' => e = .returned (.agg ((stir ws).map w32).toArray) ∧ w.grownBy w' none := by
  have hsz : (Try.prog.info? 39).map (·.size) = some ((ws.map w32).toArray).size := by rw [size39]; simp [hl]
  have hone := words_one ws
  have Hsz := Lib.hid hsz
  have Hone := Lib.hid hone
  have Hl := Lib.hid hl
  clear hsz hone hl
  have hbl := hb.lt
  go_enter Try.func18, Try.ntmps18
  go_wp2_with (first
    | (refine wpList_load_row rfl 39 (.tmp 6) rfl b rfl 39 _ (0, 0) _ (hb.alloc _) Try.underlying39 rfl Hsz.out ?_)
    | (refine wpList_store_row rfl 39 (.tmp 3) (.tmp 7) rfl (w.heap.size + 1) _ rfl rfl 39 _ (heap_alloc2_new _ _ _) Hsz.out ?hz Hone.out ?_))
  case hz => simp [Hl.out]
  go_loopw [8] (fun i wr => ∃ k : Nat, k ≤ 10 ∧ i = .int .i64 k ∧ Row wr (w.heap.size + 1) 39 (((dbls ws k)).map w32).toArray ∧ (∃ z, Row wr w.heap.size 39 z ∧ z.size = 16) ∧ w.grownBy wr none) (fun i _ => 10 - (intOf i).toNat)
  case atStart =>
    refine ⟨0, Nat.zero_le _, rfl, Row.setRow_ (heap_alloc2_new _ _ _) _, ⟨_, Row.setRow_far (heap_alloc2_old _ _ _) (by omega) _, rfl⟩, gb_new (gb_alloc (gb_alloc (gb_refl _ _) _) _) (gb_setRow1 _ _ _) (by omega)⟩
  case round =>
    obtain ⟨k, hk, rfl, hr1, ⟨z, hz, hzs⟩, hg⟩ := hrel
    have Hzs := Lib.hid hzs
    clear hzs
    by_cases hlt : k < 10
    · obtain ⟨x0, x1, x2, x3, x4, x5, x6, x7, x8, x9, x10, x11, x12, x13, x14, x15, hx⟩ := sixteen (dbls ws k) (by rw [dbls_len]; exact Hl.out)
      have Hd : Hid (dbls ws (k + 1) = dbl [x0, x1, x2, x3, x4, x5, x6, x7, x8, x9, x10, x11, x12, x13, x14, x15]) := by show dbl (dbls ws k) = _; rw [hx]
      rw [hx] at hr1
      clear hx
      have hdec : decide ((k : Int) < 10) = true := by simp; omega
      have c0 : wr.cell? ⟨w.heap.size + 1, 0, none⟩ = some (.int .u32 (x0.toNat : Int)) := hr1.at_ rfl
      have c1 : wr.cell? ⟨w.heap.size + 1, 1, none⟩ = some (.int .u32 (x1.toNat : Int)) := hr1.at_ rfl
      have c2 : wr.cell? ⟨w.heap.size + 1, 2, none⟩ = some (.int .u32 (x2.toNat : Int)) := hr1.at_ rfl
      have c3 : wr.cell? ⟨w.heap.size + 1, 3, none⟩ = some (.int .u32 (x3.toNat : Int)) := hr1.at_ rfl
      have c4 : wr.cell? ⟨w.heap.size + 1, 4, none⟩ = some (.int .u32 (x4.toNat : Int)) := hr1.at_ rfl
      have c5 : wr.cell? ⟨w.heap.size + 1, 5, none⟩ = some (.int .u32 (x5.toNat : Int)) := hr1.at_ rfl
      have c6 : wr.cell? ⟨w.heap.size + 1, 6, none⟩ = some (.int .u32 (x6.toNat : Int)) := hr1.at_ rfl
      have c7 : wr.cell? ⟨w.heap.size + 1, 7, none⟩ = some (.int .u32 (x7.toNat : Int)) := hr1.at_ rfl
      have c8 : wr.cell? ⟨w.heap.size + 1, 8, none⟩ = some (.int .u32 (x8.toNat : Int)) := hr1.at_ rfl
      have c9 : wr.cell? ⟨w.heap.size + 1, 9, none⟩ = some (.int .u32 (x9.toNat : Int)) := hr1.at_ rfl
      have c10 : wr.cell? ⟨w.heap.size + 1, 10, none⟩ = some (.int .u32 (x10.toNat : Int)) := hr1.at_ rfl
      have c11 : wr.cell? ⟨w.heap.size + 1, 11, none⟩ = some (.int .u32 (x11.toNat : Int)) := hr1.at_ rfl
      have c12 : wr.cell? ⟨w.heap.size + 1, 12, none⟩ = some (.int .u32 (x12.toNat : Int)) := hr1.at_ rfl
      have c13 : wr.cell? ⟨w.heap.size + 1, 13, none⟩ = some (.int .u32 (x13.toNat : Int)) := hr1.at_ rfl
      have c14 : wr.cell? ⟨w.heap.size + 1, 14, none⟩ = some (.int .u32 (x14.toNat : Int)) := hr1.at_ rfl
      have c15 : wr.cell? ⟨w.heap.size + 1, 15, none⟩ = some (.int .u32 (x15.toNat : Int)) := hr1.at_ rfl
      have hf : ∀ i, wr.frozen? ⟨w.heap.size + 1, i, none⟩ = false := fun i => hr1.free i
      go_wp2_with fail
      refine (quarter_v _ _ _ _ _).mono ?_
      rintro e w' ⟨y0a, y0b, y0c, y0d, rfl, H0, rfl⟩
      go_wp2_with fail
      have hr0q : Row ((((wr.setCell ⟨w.heap.size + 1, 0, none⟩ (.int .u32 (y0a.toNat : Int))).setCell ⟨w.heap.size + 1, 4, none⟩ (.int .u32 (y0b.toNat : Int))).setCell ⟨w.heap.size + 1, 8, none⟩ (.int .u32 (y0c.toNat : Int))).setCell ⟨w.heap.size + 1, 12, none⟩ (.int .u32 (y0d.toNat : Int))) (w.heap.size + 1) 39 #[.int .u32 (y0a.toNat : Int), .int .u32 (x1.toNat : Int), .int .u32 (x2.toNat : Int), .int .u32 (x3.toNat : Int), .int .u32 (y0b.toNat : Int), .int .u32 (x5.toNat : Int), .int .u32 (x6.toNat : Int), .int .u32 (x7.toNat : Int), .int .u32 (y0c.toNat : Int), .int .u32 (x9.toNat : Int), .int .u32 (x10.toNat : Int), .int .u32 (x11.toNat : Int), .int .u32 (y0d.toNat : Int), .int .u32 (x13.toNat : Int), .int .u32 (x14.toNat : Int), .int .u32 (x15.toNat : Int)] := ((((hr1.set_ 0 _).set_ 4 _).set_ 8 _).set_ 12 _)
      have hg0q : w.grownBy ((((wr.setCell ⟨w.heap.size + 1, 0, none⟩ (.int .u32 (y0a.toNat : Int))).setCell ⟨w.heap.size + 1, 4, none⟩ (.int .u32 (y0b.toNat : Int))).setCell ⟨w.heap.size + 1, 8, none⟩ (.int .u32 (y0c.toNat : Int))).setCell ⟨w.heap.size + 1, 12, none⟩ (.int .u32 (y0d.toNat : Int))) none := (gb_new (gb_new (gb_new (gb_new hg (gb_set1 _ _ _ _) (by omega)) (gb_set1 _ _ _ _) (by omega)) (gb_set1 _ _ _ _) (by omega)) (gb_set1 _ _ _ _) (by omega))
      have hz0q : Row ((((wr.setCell ⟨w.heap.size + 1, 0, none⟩ (.int .u32 (y0a.toNat : Int))).setCell ⟨w.heap.size + 1, 4, none⟩ (.int .u32 (y0b.toNat : Int))).setCell ⟨w.heap.size + 1, 8, none⟩ (.int .u32 (y0c.toNat : Int))).setCell ⟨w.heap.size + 1, 12, none⟩ (.int .u32 (y0d.toNat : Int))) w.heap.size 39 z := ((((hz.far (by simp) _).far (by simp) _).far (by simp) _).far (by simp) _)
      clear c0 c1 c2 c3 c4 c5 c6 c7 c8 c9 c10 c11 c12 c13 c14 c15 hf hr1 hg hz
      generalize ((((wr.setCell ⟨w.heap.size + 1, 0, none⟩ (.int .u32 (y0a.toNat : Int))).setCell ⟨w.heap.size + 1, 4, none⟩ (.int .u32 (y0b.toNat : Int))).setCell ⟨w.heap.size + 1, 8, none⟩ (.int .u32 (y0c.toNat : Int))).setCell ⟨w.heap.size + 1, 12, none⟩ (.int .u32 (y0d.toNat : Int))) = wr0 at *
      have c0 : wr0.cell? ⟨w.heap.size + 1, 0, none⟩ = some (.int .u32 (y0a.toNat : Int)) := hr0q.at_ rfl
      have c1 : wr0.cell? ⟨w.heap.size + 1, 1, none⟩ = some (.int .u32 (x1.toNat : Int)) := hr0q.at_ rfl
      have c2 : wr0.cell? ⟨w.heap.size + 1, 2, none⟩ = some (.int .u32 (x2.toNat : Int)) := hr0q.at_ rfl
      have c3 : wr0.cell? ⟨w.heap.size + 1, 3, none⟩ = some (.int .u32 (x3.toNat : Int)) := hr0q.at_ rfl
      have c4 : wr0.cell? ⟨w.heap.size + 1, 4, none⟩ = some (.int .u32 (y0b.toNat : Int)) := hr0q.at_ rfl
      have c5 : wr0.cell? ⟨w.heap.size + 1, 5, none⟩ = some (.int .u32 (x5.toNat : Int)) := hr0q.at_ rfl
      have c6 : wr0.cell? ⟨w.heap.size + 1, 6, none⟩ = some (.int .u32 (x6.toNat : Int)) := hr0q.at_ rfl
      have c7 : wr0.cell? ⟨w.heap.size + 1, 7, none⟩ = some (.int .u32 (x7.toNat : Int)) := hr0q.at_ rfl
      have c8 : wr0.cell? ⟨w.heap.size + 1, 8, none⟩ = some (.int .u32 (y0c.toNat : Int)) := hr0q.at_ rfl
      have c9 : wr0.cell? ⟨w.heap.size + 1, 9, none⟩ = some (.int .u32 (x9.toNat : Int)) := hr0q.at_ rfl
      have c10 : wr0.cell? ⟨w.heap.size + 1, 10, none⟩ = some (.int .u32 (x10.toNat : Int)) := hr0q.at_ rfl
      have c11 : wr0.cell? ⟨w.heap.size + 1, 11, none⟩ = some (.int .u32 (x11.toNat : Int)) := hr0q.at_ rfl
      have c12 : wr0.cell? ⟨w.heap.size + 1, 12, none⟩ = some (.int .u32 (y0d.toNat : Int)) := hr0q.at_ rfl
      have c13 : wr0.cell? ⟨w.heap.size + 1, 13, none⟩ = some (.int .u32 (x13.toNat : Int)) := hr0q.at_ rfl
      have c14 : wr0.cell? ⟨w.heap.size + 1, 14, none⟩ = some (.int .u32 (x14.toNat : Int)) := hr0q.at_ rfl
      have c15 : wr0.cell? ⟨w.heap.size + 1, 15, none⟩ = some (.int .u32 (x15.toNat : Int)) := hr0q.at_ rfl
      have hf : ∀ i, wr0.frozen? ⟨w.heap.size + 1, i, none⟩ = false := fun i => hr0q.free i
      go_wp2_with fail
      refine (quarter_v _ _ _ _ _).mono ?_
      rintro e w' ⟨y1a, y1b, y1c, y1d, rfl, H1, rfl⟩
      go_wp2_with fail
      have hr1q : Row ((((wr0.setCell ⟨w.heap.size + 1, 1, none⟩ (.int .u32 (y1a.toNat : Int))).setCell ⟨w.heap.size + 1, 5, none⟩ (.int .u32 (y1b.toNat : Int))).setCell ⟨w.heap.size + 1, 9, none⟩ (.int .u32 (y1c.toNat : Int))).setCell ⟨w.heap.size + 1, 13, none⟩ (.int .u32 (y1d.toNat : Int))) (w.heap.size + 1) 39 #[.int .u32 (y0a.toNat : Int), .int .u32 (y1a.toNat : Int), .int .u32 (x2.toNat : Int), .int .u32 (x3.toNat : Int), .int .u32 (y0b.toNat : Int), .int .u32 (y1b.toNat : Int), .int .u32 (x6.toNat : Int), .int .u32 (x7.toNat : Int), .int .u32 (y0c.toNat : Int), .int .u32 (y1c.toNat : Int), .int .u32 (x10.toNat : Int), .int .u32 (x11.toNat : Int), .int .u32 (y0d.toNat : Int), .int .u32 (y1d.toNat : Int), .int .u32 (x14.toNat : Int), .int .u32 (x15.toNat : Int)] := ((((hr0q.set_ 1 _).set_ 5 _).set_ 9 _).set_ 13 _)
      have hg1q : w.grownBy ((((wr0.setCell ⟨w.heap.size + 1, 1, none⟩ (.int .u32 (y1a.toNat : Int))).setCell ⟨w.heap.size + 1, 5, none⟩ (.int .u32 (y1b.toNat : Int))).setCell ⟨w.heap.size + 1, 9, none⟩ (.int .u32 (y1c.toNat : Int))).setCell ⟨w.heap.size + 1, 13, none⟩ (.int .u32 (y1d.toNat : Int))) none := (gb_new (gb_new (gb_new (gb_new hg0q (gb_set1 _ _ _ _) (by omega)) (gb_set1 _ _ _ _) (by omega)) (gb_set1 _ _ _ _) (by omega)) (gb_set1 _ _ _ _) (by omega))
      have hz1q : Row ((((wr0.setCell ⟨w.heap.size + 1, 1, none⟩ (.int .u32 (y1a.toNat : Int))).setCell ⟨w.heap.size + 1, 5, none⟩ (.int .u32 (y1b.toNat : Int))).setCell ⟨w.heap.size + 1, 9, none⟩ (.int .u32 (y1c.toNat : Int))).setCell ⟨w.heap.size + 1, 13, none⟩ (.int .u32 (y1d.toNat : Int))) w.heap.size 39 z := ((((hz0q.far (by simp) _).far (by simp) _).far (by simp) _).far (by simp) _)
      clear c0 c1 c2 c3 c4 c5 c6 c7 c8 c9 c10 c11 c12 c13 c14 c15 hf hr0q hg0q hz0q
      generalize ((((wr0.setCell ⟨w.heap.size + 1, 1, none⟩ (.int .u32 (y1a.toNat : Int))).setCell ⟨w.heap.size + 1, 5, none⟩ (.int .u32 (y1b.toNat : Int))).setCell ⟨w.heap.size + 1, 9, none⟩ (.int .u32 (y1c.toNat : Int))).setCell ⟨w.heap.size + 1, 13, none⟩ (.int .u32 (y1d.toNat : Int))) = wr1 at *
      have c0 : wr1.cell? ⟨w.heap.size + 1, 0, none⟩ = some (.int .u32 (y0a.toNat : Int)) := hr1q.at_ rfl
      have c1 : wr1.cell? ⟨w.heap.size + 1, 1, none⟩ = some (.int .u32 (y1a.toNat : Int)) := hr1q.at_ rfl
      have c2 : wr1.cell? ⟨w.heap.size + 1, 2, none⟩ = some (.int .u32 (x2.toNat : Int)) := hr1q.at_ rfl
      have c3 : wr1.cell? ⟨w.heap.size + 1, 3, none⟩ = some (.int .u32 (x3.toNat : Int)) := hr1q.at_ rfl
      have c4 : wr1.cell? ⟨w.heap.size + 1, 4, none⟩ = some (.int .u32 (y0b.toNat : Int)) := hr1q.at_ rfl
      have c5 : wr1.cell? ⟨w.heap.size + 1, 5, none⟩ = some (.int .u32 (y1b.toNat : Int)) := hr1q.at_ rfl
      have c6 : wr1.cell? ⟨w.heap.size + 1, 6, none⟩ = some (.int .u32 (x6.toNat : Int)) := hr1q.at_ rfl
      have c7 : wr1.cell? ⟨w.heap.size + 1, 7, none⟩ = some (.int .u32 (x7.toNat : Int)) := hr1q.at_ rfl
      have c8 : wr1.cell? ⟨w.heap.size + 1, 8, none⟩ = some (.int .u32 (y0c.toNat : Int)) := hr1q.at_ rfl
      have c9 : wr1.cell? ⟨w.heap.size + 1, 9, none⟩ = some (.int .u32 (y1c.toNat : Int)) := hr1q.at_ rfl
      have c10 : wr1.cell? ⟨w.heap.size + 1, 10, none⟩ = some (.int .u32 (x10.toNat : Int)) := hr1q.at_ rfl
      have c11 : wr1.cell? ⟨w.heap.size + 1, 11, none⟩ = some (.int .u32 (x11.toNat : Int)) := hr1q.at_ rfl
      have c12 : wr1.cell? ⟨w.heap.size + 1, 12, none⟩ = some (.int .u32 (y0d.toNat : Int)) := hr1q.at_ rfl
      have c13 : wr1.cell? ⟨w.heap.size + 1, 13, none⟩ = some (.int .u32 (y1d.toNat : Int)) := hr1q.at_ rfl
      have c14 : wr1.cell? ⟨w.heap.size + 1, 14, none⟩ = some (.int .u32 (x14.toNat : Int)) := hr1q.at_ rfl
      have c15 : wr1.cell? ⟨w.heap.size + 1, 15, none⟩ = some (.int .u32 (x15.toNat : Int)) := hr1q.at_ rfl
      have hf : ∀ i, wr1.frozen? ⟨w.heap.size + 1, i, none⟩ = false := fun i => hr1q.free i
      go_wp2_with fail
      refine (quarter_v _ _ _ _ _).mono ?_
      rintro e w' ⟨y2a, y2b, y2c, y2d, rfl, H2, rfl⟩
      go_wp2_with fail
      have hr2q : Row ((((wr1.setCell ⟨w.heap.size + 1, 2, none⟩ (.int .u32 (y2a.toNat : Int))).setCell ⟨w.heap.size + 1, 6, none⟩ (.int .u32 (y2b.toNat : Int))).setCell ⟨w.heap.size + 1, 10, none⟩ (.int .u32 (y2c.toNat : Int))).setCell ⟨w.heap.size + 1, 14, none⟩ (.int .u32 (y2d.toNat : Int))) (w.heap.size + 1) 39 #[.int .u32 (y0a.toNat : Int), .int .u32 (y1a.toNat : Int), .int .u32 (y2a.toNat : Int), .int .u32 (x3.toNat : Int), .int .u32 (y0b.toNat : Int), .int .u32 (y1b.toNat : Int), .int .u32 (y2b.toNat : Int), .int .u32 (x7.toNat : Int), .int .u32 (y0c.toNat : Int), .int .u32 (y1c.toNat : Int), .int .u32 (y2c.toNat : Int), .int .u32 (x11.toNat : Int), .int .u32 (y0d.toNat : Int), .int .u32 (y1d.toNat : Int), .int .u32 (y2d.toNat : Int), .int .u32 (x15.toNat : Int)] := ((((hr1q.set_ 2 _).set_ 6 _).set_ 10 _).set_ 14 _)
      have hg2q : w.grownBy ((((wr1.setCell ⟨w.heap.size + 1, 2, none⟩ (.int .u32 (y2a.toNat : Int))).setCell ⟨w.heap.size + 1, 6, none⟩ (.int .u32 (y2b.toNat : Int))).setCell ⟨w.heap.size + 1, 10, none⟩ (.int .u32 (y2c.toNat : Int))).setCell ⟨w.heap.size + 1, 14, none⟩ (.int .u32 (y2d.toNat : Int))) none := (gb_new (gb_new (gb_new (gb_new hg1q (gb_set1 _ _ _ _) (by omega)) (gb_set1 _ _ _ _) (by omega)) (gb_set1 _ _ _ _) (by omega)) (gb_set1 _ _ _ _) (by omega))
      have hz2q : Row ((((wr1.setCell ⟨w.heap.size + 1, 2, none⟩ (.int .u32 (y2a.toNat : Int))).setCell ⟨w.heap.size + 1, 6, none⟩ (.int .u32 (y2b.toNat : Int))).setCell ⟨w.heap.size + 1, 10, none⟩ (.int .u32 (y2c.toNat : Int))).setCell ⟨w.heap.size + 1, 14, none⟩ (.int .u32 (y2d.toNat : Int))) w.heap.size 39 z := ((((hz1q.far (by simp) _).far (by simp) _).far (by simp) _).far (by simp) _)
      clear c0 c1 c2 c3 c4 c5 c6 c7 c8 c9 c10 c11 c12 c13 c14 c15 hf hr1q hg1q hz1q
      generalize ((((wr1.setCell ⟨w.heap.size + 1, 2, none⟩ (.int .u32 (y2a.toNat : Int))).setCell ⟨w.heap.size + 1, 6, none⟩ (.int .u32 (y2b.toNat : Int))).setCell ⟨w.heap.size + 1, 10, none⟩ (.int .u32 (y2c.toNat : Int))).setCell ⟨w.heap.size + 1, 14, none⟩ (.int .u32 (y2d.toNat : Int))) = wr2 at *
      have c0 : wr2.cell? ⟨w.heap.size + 1, 0, none⟩ = some (.int .u32 (y0a.toNat : Int)) := hr2q.at_ rfl
      have c1 : wr2.cell? ⟨w.heap.size + 1, 1, none⟩ = some (.int .u32 (y1a.toNat : Int)) := hr2q.at_ rfl
      have c2 : wr2.cell? ⟨w.heap.size + 1, 2, none⟩ = some (.int .u32 (y2a.toNat : Int)) := hr2q.at_ rfl
      have c3 : wr2.cell? ⟨w.heap.size + 1, 3, none⟩ = some (.int .u32 (x3.toNat : Int)) := hr2q.at_ rfl
      have c4 : wr2.cell? ⟨w.heap.size + 1, 4, none⟩ = some (.int .u32 (y0b.toNat : Int)) := hr2q.at_ rfl
      have c5 : wr2.cell? ⟨w.heap.size + 1, 5, none⟩ = some (.int .u32 (y1b.toNat : Int)) := hr2q.at_ rfl
      have c6 : wr2.cell? ⟨w.heap.size + 1, 6, none⟩ = some (.int .u32 (y2b.toNat : Int)) := hr2q.at_ rfl
      have c7 : wr2.cell? ⟨w.heap.size + 1, 7, none⟩ = some (.int .u32 (x7.toNat : Int)) := hr2q.at_ rfl
      have c8 : wr2.cell? ⟨w.heap.size + 1, 8, none⟩ = some (.int .u32 (y0c.toNat : Int)) := hr2q.at_ rfl
      have c9 : wr2.cell? ⟨w.heap.size + 1, 9, none⟩ = some (.int .u32 (y1c.toNat : Int)) := hr2q.at_ rfl
      have c10 : wr2.cell? ⟨w.heap.size + 1, 10, none⟩ = some (.int .u32 (y2c.toNat : Int)) := hr2q.at_ rfl
      have c11 : wr2.cell? ⟨w.heap.size + 1, 11, none⟩ = some (.int .u32 (x11.toNat : Int)) := hr2q.at_ rfl
      have c12 : wr2.cell? ⟨w.heap.size + 1, 12, none⟩ = some (.int .u32 (y0d.toNat : Int)) := hr2q.at_ rfl
      have c13 : wr2.cell? ⟨w.heap.size + 1, 13, none⟩ = some (.int .u32 (y1d.toNat : Int)) := hr2q.at_ rfl
      have c14 : wr2.cell? ⟨w.heap.size + 1, 14, none⟩ = some (.int .u32 (y2d.toNat : Int)) := hr2q.at_ rfl
      have c15 : wr2.cell? ⟨w.heap.size + 1, 15, none⟩ = some (.int .u32 (x15.toNat : Int)) := hr2q.at_ rfl
      have hf : ∀ i, wr2.frozen? ⟨w.heap.size + 1, i, none⟩ = false := fun i => hr2q.free i
      go_wp2_with fail
      refine (quarter_v _ _ _ _ _).mono ?_
      rintro e w' ⟨y3a, y3b, y3c, y3d, rfl, H3, rfl⟩
      go_wp2_with fail
      have hr3q : Row ((((wr2.setCell ⟨w.heap.size + 1, 3, none⟩ (.int .u32 (y3a.toNat : Int))).setCell ⟨w.heap.size + 1, 7, none⟩ (.int .u32 (y3b.toNat : Int))).setCell ⟨w.heap.size + 1, 11, none⟩ (.int .u32 (y3c.toNat : Int))).setCell ⟨w.heap.size + 1, 15, none⟩ (.int .u32 (y3d.toNat : Int))) (w.heap.size + 1) 39 #[.int .u32 (y0a.toNat : Int), .int .u32 (y1a.toNat : Int), .int .u32 (y2a.toNat : Int), .int .u32 (y3a.toNat : Int), .int .u32 (y0b.toNat : Int), .int .u32 (y1b.toNat : Int), .int .u32 (y2b.toNat : Int), .int .u32 (y3b.toNat : Int), .int .u32 (y0c.toNat : Int), .int .u32 (y1c.toNat : Int), .int .u32 (y2c.toNat : Int), .int .u32 (y3c.toNat : Int), .int .u32 (y0d.toNat : Int), .int .u32 (y1d.toNat : Int), .int .u32 (y2d.toNat : Int), .int .u32 (y3d.toNat : Int)] := ((((hr2q.set_ 3 _).set_ 7 _).set_ 11 _).set_ 15 _)
      have hg3q : w.grownBy ((((wr2.setCell ⟨w.heap.size + 1, 3, none⟩ (.int .u32 (y3a.toNat : Int))).setCell ⟨w.heap.size + 1, 7, none⟩ (.int .u32 (y3b.toNat : Int))).setCell ⟨w.heap.size + 1, 11, none⟩ (.int .u32 (y3c.toNat : Int))).setCell ⟨w.heap.size + 1, 15, none⟩ (.int .u32 (y3d.toNat : Int))) none := (gb_new (gb_new (gb_new (gb_new hg2q (gb_set1 _ _ _ _) (by omega)) (gb_set1 _ _ _ _) (by omega)) (gb_set1 _ _ _ _) (by omega)) (gb_set1 _ _ _ _) (by omega))
      have hz3q : Row ((((wr2.setCell ⟨w.heap.size + 1, 3, none⟩ (.int .u32 (y3a.toNat : Int))).setCell ⟨w.heap.size + 1, 7, none⟩ (.int .u32 (y3b.toNat : Int))).setCell ⟨w.heap.size + 1, 11, none⟩ (.int .u32 (y3c.toNat : Int))).setCell ⟨w.heap.size + 1, 15, none⟩ (.int .u32 (y3d.toNat : Int))) w.heap.size 39 z := ((((hz2q.far (by simp) _).far (by simp) _).far (by simp) _).far (by simp) _)
      clear c0 c1 c2 c3 c4 c5 c6 c7 c8 c9 c10 c11 c12 c13 c14 c15 hf hr2q hg2q hz2q
      generalize ((((wr2.setCell ⟨w.heap.size + 1, 3, none⟩ (.int .u32 (y3a.toNat : Int))).setCell ⟨w.heap.size + 1, 7, none⟩ (.int .u32 (y3b.toNat : Int))).setCell ⟨w.heap.size + 1, 11, none⟩ (.int .u32 (y3c.toNat : Int))).setCell ⟨w.heap.size + 1, 15, none⟩ (.int .u32 (y3d.toNat : Int))) = wr3 at *
      have c0 : wr3.cell? ⟨w.heap.size + 1, 0, none⟩ = some (.int .u32 (y0a.toNat : Int)) := hr3q.at_ rfl
      have c1 : wr3.cell? ⟨w.heap.size + 1, 1, none⟩ = some (.int .u32 (y1a.toNat : Int)) := hr3q.at_ rfl
      have c2 : wr3.cell? ⟨w.heap.size + 1, 2, none⟩ = some (.int .u32 (y2a.toNat : Int)) := hr3q.at_ rfl
      have c3 : wr3.cell? ⟨w.heap.size + 1, 3, none⟩ = some (.int .u32 (y3a.toNat : Int)) := hr3q.at_ rfl
      have c4 : wr3.cell? ⟨w.heap.size + 1, 4, none⟩ = some (.int .u32 (y0b.toNat : Int)) := hr3q.at_ rfl
      have c5 : wr3.cell? ⟨w.heap.size + 1, 5, none⟩ = some (.int .u32 (y1b.toNat : Int)) := hr3q.at_ rfl
      have c6 : wr3.cell? ⟨w.heap.size + 1, 6, none⟩ = some (.int .u32 (y2b.toNat : Int)) := hr3q.at_ rfl
      have c7 : wr3.cell? ⟨w.heap.size + 1, 7, none⟩ = some (.int .u32 (y3b.toNat : Int)) := hr3q.at_ rfl
      have c8 : wr3.cell? ⟨w.heap.size + 1, 8, none⟩ = some (.int .u32 (y0c.toNat : Int)) := hr3q.at_ rfl
      have c9 : wr3.cell? ⟨w.heap.size + 1, 9, none⟩ = some (.int .u32 (y1c.toNat : Int)) := hr3q.at_ rfl
      have c10 : wr3.cell? ⟨w.heap.size + 1, 10, none⟩ = some (.int .u32 (y2c.toNat : Int)) := hr3q.at_ rfl
      have c11 : wr3.cell? ⟨w.heap.size + 1, 11, none⟩ = some (.int .u32 (y3c.toNat : Int)) := hr3q.at_ rfl
      have c12 : wr3.cell? ⟨w.heap.size + 1, 12, none⟩ = some (.int .u32 (y0d.toNat : Int)) := hr3q.at_ rfl
      have c13 : wr3.cell? ⟨w.heap.size + 1, 13, none⟩ = some (.int .u32 (y1d.toNat : Int)) := hr3q.at_ rfl
      have c14 : wr3.cell? ⟨w.heap.size + 1, 14, none⟩ = some (.int .u32 (y2d.toNat : Int)) := hr3q.at_ rfl
      have c15 : wr3.cell? ⟨w.heap.size + 1, 15, none⟩ = some (.int .u32 (y3d.toNat : Int)) := hr3q.at_ rfl
      have hf : ∀ i, wr3.frozen? ⟨w.heap.size + 1, i, none⟩ = false := fun i => hr3q.free i
      go_wp2_with fail
      refine (quarter_v _ _ _ _ _).mono ?_
      rintro e w' ⟨y4a, y4b, y4c, y4d, rfl, H4, rfl⟩
      go_wp2_with fail
      have hr4q : Row ((((wr3.setCell ⟨w.heap.size + 1, 0, none⟩ (.int .u32 (y4a.toNat : Int))).setCell ⟨w.heap.size + 1, 5, none⟩ (.int .u32 (y4b.toNat : Int))).setCell ⟨w.heap.size + 1, 10, none⟩ (.int .u32 (y4c.toNat : Int))).setCell ⟨w.heap.size + 1, 15, none⟩ (.int .u32 (y4d.toNat : Int))) (w.heap.size + 1) 39 #[.int .u32 (y4a.toNat : Int), .int .u32 (y1a.toNat : Int), .int .u32 (y2a.toNat : Int), .int .u32 (y3a.toNat : Int), .int .u32 (y0b.toNat : Int), .int .u32 (y4b.toNat : Int), .int .u32 (y2b.toNat : Int), .int .u32 (y3b.toNat : Int), .int .u32 (y0c.toNat : Int), .int .u32 (y1c.toNat : Int), .int .u32 (y4c.toNat : Int), .int .u32 (y3c.toNat : Int), .int .u32 (y0d.toNat : Int), .int .u32 (y1d.toNat : Int), .int .u32 (y2d.toNat : Int), .int .u32 (y4d.toNat : Int)] := ((((hr3q.set_ 0 _).set_ 5 _).set_ 10 _).set_ 15 _)
      have hg4q : w.grownBy ((((wr3.setCell ⟨w.heap.size + 1, 0, none⟩ (.int .u32 (y4a.toNat : Int))).setCell ⟨w.heap.size + 1, 5, none⟩ (.int .u32 (y4b.toNat : Int))).setCell ⟨w.heap.size + 1, 10, none⟩ (.int .u32 (y4c.toNat : Int))).setCell ⟨w.heap.size + 1, 15, none⟩ (.int .u32 (y4d.toNat : Int))) none := (gb_new (gb_new (gb_new (gb_new hg3q (gb_set1 _ _ _ _) (by omega)) (gb_set1 _ _ _ _) (by omega)) (gb_set1 _ _ _ _) (by omega)) (gb_set1 _ _ _ _) (by omega))
      have hz4q : Row ((((wr3.setCell ⟨w.heap.size + 1, 0, none⟩ (.int .u32 (y4a.toNat : Int))).setCell ⟨w.heap.size + 1, 5, none⟩ (.int .u32 (y4b.toNat : Int))).setCell ⟨w.heap.size + 1, 10, none⟩ (.int .u32 (y4c.toNat : Int))).setCell ⟨w.heap.size + 1, 15, none⟩ (.int .u32 (y4d.toNat : Int))) w.heap.size 39 z := ((((hz3q.far (by simp) _).far (by simp) _).far (by simp) _).far (by simp) _)
      clear c0 c1 c2 c3 c4 c5 c6 c7 c8 c9 c10 c11 c12 c13 c14 c15 hf hr3q hg3q hz3q
      generalize ((((wr3.setCell ⟨w.heap.size + 1, 0, none⟩ (.int .u32 (y4a.toNat : Int))).setCell ⟨w.heap.size + 1, 5, none⟩ (.int .u32 (y4b.toNat : Int))).setCell ⟨w.heap.size + 1, 10, none⟩ (.int .u32 (y4c.toNat : Int))).setCell ⟨w.heap.size + 1, 15, none⟩ (.int .u32 (y4d.toNat : Int))) = wr4 at *
      have c0 : wr4.cell? ⟨w.heap.size + 1, 0, none⟩ = some (.int .u32 (y4a.toNat : Int)) := hr4q.at_ rfl
      have c1 : wr4.cell? ⟨w.heap.size + 1, 1, none⟩ = some (.int .u32 (y1a.toNat : Int)) := hr4q.at_ rfl
      have c2 : wr4.cell? ⟨w.heap.size + 1, 2, none⟩ = some (.int .u32 (y2a.toNat : Int)) := hr4q.at_ rfl
      have c3 : wr4.cell? ⟨w.heap.size + 1, 3, none⟩ = some (.int .u32 (y3a.toNat : Int)) := hr4q.at_ rfl
      have c4 : wr4.cell? ⟨w.heap.size + 1, 4, none⟩ = some (.int .u32 (y0b.toNat : Int)) := hr4q.at_ rfl
      have c5 : wr4.cell? ⟨w.heap.size + 1, 5, none⟩ = some (.int .u32 (y4b.toNat : Int)) := hr4q.at_ rfl
      have c6 : wr4.cell? ⟨w.heap.size + 1, 6, none⟩ = some (.int .u32 (y2b.toNat : Int)) := hr4q.at_ rfl
      have c7 : wr4.cell? ⟨w.heap.size + 1, 7, none⟩ = some (.int .u32 (y3b.toNat : Int)) := hr4q.at_ rfl
      have c8 : wr4.cell? ⟨w.heap.size + 1, 8, none⟩ = some (.int .u32 (y0c.toNat : Int)) := hr4q.at_ rfl
      have c9 : wr4.cell? ⟨w.heap.size + 1, 9, none⟩ = some (.int .u32 (y1c.toNat : Int)) := hr4q.at_ rfl
      have c10 : wr4.cell? ⟨w.heap.size + 1, 10, none⟩ = some (.int .u32 (y4c.toNat : Int)) := hr4q.at_ rfl
      have c11 : wr4.cell? ⟨w.heap.size + 1, 11, none⟩ = some (.int .u32 (y3c.toNat : Int)) := hr4q.at_ rfl
      have c12 : wr4.cell? ⟨w.heap.size + 1, 12, none⟩ = some (.int .u32 (y0d.toNat : Int)) := hr4q.at_ rfl
      have c13 : wr4.cell? ⟨w.heap.size + 1, 13, none⟩ = some (.int .u32 (y1d.toNat : Int)) := hr4q.at_ rfl
      have c14 : wr4.cell? ⟨w.heap.size + 1, 14, none⟩ = some (.int .u32 (y2d.toNat : Int)) := hr4q.at_ rfl
      have c15 : wr4.cell? ⟨w.heap.size + 1, 15, none⟩ = some (.int .u32 (y4d.toNat : Int)) := hr4q.at_ rfl
      have hf : ∀ i, wr4.frozen? ⟨w.heap.size + 1, i, none⟩ = false := fun i => hr4q.free i
      go_wp2_with fail
      refine (quarter_v _ _ _ _ _).mono ?_
      rintro e w' ⟨y5a, y5b, y5c, y5d, rfl, H5, rfl⟩
      go_wp2_with fail
      have hr5q : Row ((((wr4.setCell ⟨w.heap.size + 1, 1, none⟩ (.int .u32 (y5a.toNat : Int))).setCell ⟨w.heap.size + 1, 6, none⟩ (.int .u32 (y5b.toNat : Int))).setCell ⟨w.heap.size + 1, 11, none⟩ (.int .u32 (y5c.toNat : Int))).setCell ⟨w.heap.size + 1, 12, none⟩ (.int .u32 (y5d.toNat : Int))) (w.heap.size + 1) 39 #[.int .u32 (y4a.toNat : Int), .int .u32 (y5a.toNat : Int), .int .u32 (y2a.toNat : Int), .int .u32 (y3a.toNat : Int), .int .u32 (y0b.toNat : Int), .int .u32 (y4b.toNat : Int), .int .u32 (y5b.toNat : Int), .int .u32 (y3b.toNat : Int), .int .u32 (y0c.toNat : Int), .int .u32 (y1c.toNat : Int), .int .u32 (y4c.toNat : Int), .int .u32 (y5c.toNat : Int), .int .u32 (y5d.toNat : Int), .int .u32 (y1d.toNat : Int), .int .u32 (y2d.toNat : Int), .int .u32 (y4d.toNat : Int)] := ((((hr4q.set_ 1 _).set_ 6 _).set_ 11 _).set_ 12 _)
      have hg5q : w.grownBy ((((wr4.setCell ⟨w.heap.size + 1, 1, none⟩ (.int .u32 (y5a.toNat : Int))).setCell ⟨w.heap.size + 1, 6, none⟩ (.int .u32 (y5b.toNat : Int))).setCell ⟨w.heap.size + 1, 11, none⟩ (.int .u32 (y5c.toNat : Int))).setCell ⟨w.heap.size + 1, 12, none⟩ (.int .u32 (y5d.toNat : Int))) none := (gb_new (gb_new (gb_new (gb_new hg4q (gb_set1 _ _ _ _) (by omega)) (gb_set1 _ _ _ _) (by omega)) (gb_set1 _ _ _ _) (by omega)) (gb_set1 _ _ _ _) (by omega))
      have hz5q : Row ((((wr4.setCell ⟨w.heap.size + 1, 1, none⟩ (.int .u32 (y5a.toNat : Int))).setCell ⟨w.heap.size + 1, 6, none⟩ (.int .u32 (y5b.toNat : Int))).setCell ⟨w.heap.size + 1, 11, none⟩ (.int .u32 (y5c.toNat : Int))).setCell ⟨w.heap.size + 1, 12, none⟩ (.int .u32 (y5d.toNat : Int))) w.heap.size 39 z := ((((hz4q.far (by simp) _).far (by simp) _).far (by simp) _).far (by simp) _)
      clear c0 c1 c2 c3 c4 c5 c6 c7 c8 c9 c10 c11 c12 c13 c14 c15 hf hr4q hg4q hz4q
      generalize ((((wr4.setCell ⟨w.heap.size + 1, 1, none⟩ (.int .u32 (y5a.toNat : Int))).setCell ⟨w.heap.size + 1, 6, none⟩ (.int .u32 (y5b.toNat : Int))).setCell ⟨w.heap.size + 1, 11, none⟩ (.int .u32 (y5c.toNat : Int))).setCell ⟨w.heap.size + 1, 12, none⟩ (.int .u32 (y5d.toNat : Int))) = wr5 at *
      have c0 : wr5.cell? ⟨w.heap.size + 1, 0, none⟩ = some (.int .u32 (y4a.toNat : Int)) := hr5q.at_ rfl
      have c1 : wr5.cell? ⟨w.heap.size + 1, 1, none⟩ = some (.int .u32 (y5a.toNat : Int)) := hr5q.at_ rfl
      have c2 : wr5.cell? ⟨w.heap.size + 1, 2, none⟩ = some (.int .u32 (y2a.toNat : Int)) := hr5q.at_ rfl
      have c3 : wr5.cell? ⟨w.heap.size + 1, 3, none⟩ = some (.int .u32 (y3a.toNat : Int)) := hr5q.at_ rfl
      have c4 : wr5.cell? ⟨w.heap.size + 1, 4, none⟩ = some (.int .u32 (y0b.toNat : Int)) := hr5q.at_ rfl
      have c5 : wr5.cell? ⟨w.heap.size + 1, 5, none⟩ = some (.int .u32 (y4b.toNat : Int)) := hr5q.at_ rfl
      have c6 : wr5.cell? ⟨w.heap.size + 1, 6, none⟩ = some (.int .u32 (y5b.toNat : Int)) := hr5q.at_ rfl
      have c7 : wr5.cell? ⟨w.heap.size + 1, 7, none⟩ = some (.int .u32 (y3b.toNat : Int)) := hr5q.at_ rfl
      have c8 : wr5.cell? ⟨w.heap.size + 1, 8, none⟩ = some (.int .u32 (y0c.toNat : Int)) := hr5q.at_ rfl
      have c9 : wr5.cell? ⟨w.heap.size + 1, 9, none⟩ = some (.int .u32 (y1c.toNat : Int)) := hr5q.at_ rfl
      have c10 : wr5.cell? ⟨w.heap.size + 1, 10, none⟩ = some (.int .u32 (y4c.toNat : Int)) := hr5q.at_ rfl
      have c11 : wr5.cell? ⟨w.heap.size + 1, 11, none⟩ = some (.int .u32 (y5c.toNat : Int)) := hr5q.at_ rfl
      have c12 : wr5.cell? ⟨w.heap.size + 1, 12, none⟩ = some (.int .u32 (y5d.toNat : Int)) := hr5q.at_ rfl
      have c13 : wr5.cell? ⟨w.heap.size + 1, 13, none⟩ = some (.int .u32 (y1d.toNat : Int)) := hr5q.at_ rfl
      have c14 : wr5.cell? ⟨w.heap.size + 1, 14, none⟩ = some (.int .u32 (y2d.toNat : Int)) := hr5q.at_ rfl
      have c15 : wr5.cell? ⟨w.heap.size + 1, 15, none⟩ = some (.int .u32 (y4d.toNat : Int)) := hr5q.at_ rfl
      have hf : ∀ i, wr5.frozen? ⟨w.heap.size + 1, i, none⟩ = false := fun i => hr5q.free i
      go_wp2_with fail
      refine (quarter_v _ _ _ _ _).mono ?_
      rintro e w' ⟨y6a, y6b, y6c, y6d, rfl, H6, rfl⟩
      go_wp2_with fail
      have hr6q : Row ((((wr5.setCell ⟨w.heap.size + 1, 2, none⟩ (.int .u32 (y6a.toNat : Int))).setCell ⟨w.heap.size + 1, 7, none⟩ (.int .u32 (y6b.toNat : Int))).setCell ⟨w.heap.size + 1, 8, none⟩ (.int .u32 (y6c.toNat : Int))).setCell ⟨w.heap.size + 1, 13, none⟩ (.int .u32 (y6d.toNat : Int))) (w.heap.size + 1) 39 #[.int .u32 (y4a.toNat : Int), .int .u32 (y5a.toNat : Int), .int .u32 (y6a.toNat : Int), .int .u32 (y3a.toNat : Int), .int .u32 (y0b.toNat : Int), .int .u32 (y4b.toNat : Int), .int .u32 (y5b.toNat : Int), .int .u32 (y6b.toNat : Int), .int .u32 (y6c.toNat : Int), .int .u32 (y1c.toNat : Int), .int .u32 (y4c.toNat : Int), .int .u32 (y5c.toNat : Int), .int .u32 (y5d.toNat : Int), .int .u32 (y6d.toNat : Int), .int .u32 (y2d.toNat : Int), .int .u32 (y4d.toNat : Int)] := ((((hr5q.set_ 2 _).set_ 7 _).set_ 8 _).set_ 13 _)
      have hg6q : w.grownBy ((((wr5.setCell ⟨w.heap.size + 1, 2, none⟩ (.int .u32 (y6a.toNat : Int))).setCell ⟨w.heap.size + 1, 7, none⟩ (.int .u32 (y6b.toNat : Int))).setCell ⟨w.heap.size + 1, 8, none⟩ (.int .u32 (y6c.toNat : Int))).setCell ⟨w.heap.size + 1, 13, none⟩ (.int .u32 (y6d.toNat : Int))) none := (gb_new (gb_new (gb_new (gb_new hg5q (gb_set1 _ _ _ _) (by omega)) (gb_set1 _ _ _ _) (by omega)) (gb_set1 _ _ _ _) (by omega)) (gb_set1 _ _ _ _) (by omega))
      have hz6q : Row ((((wr5.setCell ⟨w.heap.size + 1, 2, none⟩ (.int .u32 (y6a.toNat : Int))).setCell ⟨w.heap.size + 1, 7, none⟩ (.int .u32 (y6b.toNat : Int))).setCell ⟨w.heap.size + 1, 8, none⟩ (.int .u32 (y6c.toNat : Int))).setCell ⟨w.heap.size + 1, 13, none⟩ (.int .u32 (y6d.toNat : Int))) w.heap.size 39 z := ((((hz5q.far (by simp) _).far (by simp) _).far (by simp) _).far (by simp) _)
      clear c0 c1 c2 c3 c4 c5 c6 c7 c8 c9 c10 c11 c12 c13 c14 c15 hf hr5q hg5q hz5q
      generalize ((((wr5.setCell ⟨w.heap.size + 1, 2, none⟩ (.int .u32 (y6a.toNat : Int))).setCell ⟨w.heap.size + 1, 7, none⟩ (.int .u32 (y6b.toNat : Int))).setCell ⟨w.heap.size + 1, 8, none⟩ (.int .u32 (y6c.toNat : Int))).setCell ⟨w.heap.size + 1, 13, none⟩ (.int .u32 (y6d.toNat : Int))) = wr6 at *
      have c0 : wr6.cell? ⟨w.heap.size + 1, 0, none⟩ = some (.int .u32 (y4a.toNat : Int)) := hr6q.at_ rfl
      have c1 : wr6.cell? ⟨w.heap.size + 1, 1, none⟩ = some (.int .u32 (y5a.toNat : Int)) := hr6q.at_ rfl
      have c2 : wr6.cell? ⟨w.heap.size + 1, 2, none⟩ = some (.int .u32 (y6a.toNat : Int)) := hr6q.at_ rfl
      have c3 : wr6.cell? ⟨w.heap.size + 1, 3, none⟩ = some (.int .u32 (y3a.toNat : Int)) := hr6q.at_ rfl
      have c4 : wr6.cell? ⟨w.heap.size + 1, 4, none⟩ = some (.int .u32 (y0b.toNat : Int)) := hr6q.at_ rfl
      have c5 : wr6.cell? ⟨w.heap.size + 1, 5, none⟩ = some (.int .u32 (y4b.toNat : Int)) := hr6q.at_ rfl
      have c6 : wr6.cell? ⟨w.heap.size + 1, 6, none⟩ = some (.int .u32 (y5b.toNat : Int)) := hr6q.at_ rfl
      have c7 : wr6.cell? ⟨w.heap.size + 1, 7, none⟩ = some (.int .u32 (y6b.toNat : Int)) := hr6q.at_ rfl
      have c8 : wr6.cell? ⟨w.heap.size + 1, 8, none⟩ = some (.int .u32 (y6c.toNat : Int)) := hr6q.at_ rfl
      have c9 : wr6.cell? ⟨w.heap.size + 1, 9, none⟩ = some (.int .u32 (y1c.toNat : Int)) := hr6q.at_ rfl
      have c10 : wr6.cell? ⟨w.heap.size + 1, 10, none⟩ = some (.int .u32 (y4c.toNat : Int)) := hr6q.at_ rfl
      have c11 : wr6.cell? ⟨w.heap.size + 1, 11, none⟩ = some (.int .u32 (y5c.toNat : Int)) := hr6q.at_ rfl
      have c12 : wr6.cell? ⟨w.heap.size + 1, 12, none⟩ = some (.int .u32 (y5d.toNat : Int)) := hr6q.at_ rfl
      have c13 : wr6.cell? ⟨w.heap.size + 1, 13, none⟩ = some (.int .u32 (y6d.toNat : Int)) := hr6q.at_ rfl
      have c14 : wr6.cell? ⟨w.heap.size + 1, 14, none⟩ = some (.int .u32 (y2d.toNat : Int)) := hr6q.at_ rfl
      have c15 : wr6.cell? ⟨w.heap.size + 1, 15, none⟩ = some (.int .u32 (y4d.toNat : Int)) := hr6q.at_ rfl
      have hf : ∀ i, wr6.frozen? ⟨w.heap.size + 1, i, none⟩ = false := fun i => hr6q.free i
      go_wp2_with fail
      refine (quarter_v _ _ _ _ _).mono ?_
      rintro e w' ⟨y7a, y7b, y7c, y7d, rfl, H7, rfl⟩
      go_wp2_with fail
      have hr7q : Row ((((wr6.setCell ⟨w.heap.size + 1, 3, none⟩ (.int .u32 (y7a.toNat : Int))).setCell ⟨w.heap.size + 1, 4, none⟩ (.int .u32 (y7b.toNat : Int))).setCell ⟨w.heap.size + 1, 9, none⟩ (.int .u32 (y7c.toNat : Int))).setCell ⟨w.heap.size + 1, 14, none⟩ (.int .u32 (y7d.toNat : Int))) (w.heap.size + 1) 39 #[.int .u32 (y4a.toNat : Int), .int .u32 (y5a.toNat : Int), .int .u32 (y6a.toNat : Int), .int .u32 (y7a.toNat : Int), .int .u32 (y7b.toNat : Int), .int .u32 (y4b.toNat : Int), .int .u32 (y5b.toNat : Int), .int .u32 (y6b.toNat : Int), .int .u32 (y6c.toNat : Int), .int .u32 (y7c.toNat : Int), .int .u32 (y4c.toNat : Int), .int .u32 (y5c.toNat : Int), .int .u32 (y5d.toNat : Int), .int .u32 (y6d.toNat : Int), .int .u32 (y7d.toNat : Int), .int .u32 (y4d.toNat : Int)] := ((((hr6q.set_ 3 _).set_ 4 _).set_ 9 _).set_ 14 _)
      have hg7q : w.grownBy ((((wr6.setCell ⟨w.heap.size + 1, 3, none⟩ (.int .u32 (y7a.toNat : Int))).setCell ⟨w.heap.size + 1, 4, none⟩ (.int .u32 (y7b.toNat : Int))).setCell ⟨w.heap.size + 1, 9, none⟩ (.int .u32 (y7c.toNat : Int))).setCell ⟨w.heap.size + 1, 14, none⟩ (.int .u32 (y7d.toNat : Int))) none := (gb_new (gb_new (gb_new (gb_new hg6q (gb_set1 _ _ _ _) (by omega)) (gb_set1 _ _ _ _) (by omega)) (gb_set1 _ _ _ _) (by omega)) (gb_set1 _ _ _ _) (by omega))
      have hz7q : Row ((((wr6.setCell ⟨w.heap.size + 1, 3, none⟩ (.int .u32 (y7a.toNat : Int))).setCell ⟨w.heap.size + 1, 4, none⟩ (.int .u32 (y7b.toNat : Int))).setCell ⟨w.heap.size + 1, 9, none⟩ (.int .u32 (y7c.toNat : Int))).setCell ⟨w.heap.size + 1, 14, none⟩ (.int .u32 (y7d.toNat : Int))) w.heap.size 39 z := ((((hz6q.far (by simp) _).far (by simp) _).far (by simp) _).far (by simp) _)
      clear c0 c1 c2 c3 c4 c5 c6 c7 c8 c9 c10 c11 c12 c13 c14 c15 hf hr6q hg6q hz6q
      generalize ((((wr6.setCell ⟨w.heap.size + 1, 3, none⟩ (.int .u32 (y7a.toNat : Int))).setCell ⟨w.heap.size + 1, 4, none⟩ (.int .u32 (y7b.toNat : Int))).setCell ⟨w.heap.size + 1, 9, none⟩ (.int .u32 (y7c.toNat : Int))).setCell ⟨w.heap.size + 1, 14, none⟩ (.int .u32 (y7d.toNat : Int))) = wr7 at *
      have c0 : wr7.cell? ⟨w.heap.size + 1, 0, none⟩ = some (.int .u32 (y4a.toNat : Int)) := hr7q.at_ rfl
      have c1 : wr7.cell? ⟨w.heap.size + 1, 1, none⟩ = some (.int .u32 (y5a.toNat : Int)) := hr7q.at_ rfl
      have c2 : wr7.cell? ⟨w.heap.size + 1, 2, none⟩ = some (.int .u32 (y6a.toNat : Int)) := hr7q.at_ rfl
      have c3 : wr7.cell? ⟨w.heap.size + 1, 3, none⟩ = some (.int .u32 (y7a.toNat : Int)) := hr7q.at_ rfl
      have c4 : wr7.cell? ⟨w.heap.size + 1, 4, none⟩ = some (.int .u32 (y7b.toNat : Int)) := hr7q.at_ rfl
      have c5 : wr7.cell? ⟨w.heap.size + 1, 5, none⟩ = some (.int .u32 (y4b.toNat : Int)) := hr7q.at_ rfl
      have c6 : wr7.cell? ⟨w.heap.size + 1, 6, none⟩ = some (.int .u32 (y5b.toNat : Int)) := hr7q.at_ rfl
      have c7 : wr7.cell? ⟨w.heap.size + 1, 7, none⟩ = some (.int .u32 (y6b.toNat : Int)) := hr7q.at_ rfl
      have c8 : wr7.cell? ⟨w.heap.size + 1, 8, none⟩ = some (.int .u32 (y6c.toNat : Int)) := hr7q.at_ rfl
      have c9 : wr7.cell? ⟨w.heap.size + 1, 9, none⟩ = some (.int .u32 (y7c.toNat : Int)) := hr7q.at_ rfl
      have c10 : wr7.cell? ⟨w.heap.size + 1, 10, none⟩ = some (.int .u32 (y4c.toNat : Int)) := hr7q.at_ rfl
      have c11 : wr7.cell? ⟨w.heap.size + 1, 11, none⟩ = some (.int .u32 (y5c.toNat : Int)) := hr7q.at_ rfl
      have c12 : wr7.cell? ⟨w.heap.size + 1, 12, none⟩ = some (.int .u32 (y5d.toNat : Int)) := hr7q.at_ rfl
      have c13 : wr7.cell? ⟨w.heap.size + 1, 13, none⟩ = some (.int .u32 (y6d.toNat : Int)) := hr7q.at_ rfl
      have c14 : wr7.cell? ⟨w.heap.size + 1, 14, none⟩ = some (.int .u32 (y7d.toNat : Int)) := hr7q.at_ rfl
      have c15 : wr7.cell? ⟨w.heap.size + 1, 15, none⟩ = some (.int .u32 (y4d.toNat : Int)) := hr7q.at_ rfl
      have hf : ∀ i, wr7.frozen? ⟨w.heap.size + 1, i, none⟩ = false := fun i => hr7q.free i
      go_wp2_with fail
      go_roundw
      case rel =>
        refine ⟨k + 1, by omega, by go_num, ?_, ⟨z, hz7q, Hzs.out⟩, hg7q⟩
        have e : dbls ws (k + 1) = [y4a, y5a, y6a, y7a, y7b, y4b, y5b, y6b, y6c, y7c, y4c, y5c, y5d, y6d, y7d, y4d] := by
          rw [Hd.out]
          unfold dbl
          rw [qr0, ← H0.out.1, ← H0.out.2.1, ← H0.out.2.2.1, ← H0.out.2.2.2]
          rw [qr1, ← H1.out.1, ← H1.out.2.1, ← H1.out.2.2.1, ← H1.out.2.2.2]
          rw [qr2, ← H2.out.1, ← H2.out.2.1, ← H2.out.2.2.1, ← H2.out.2.2.2]
          rw [qr3, ← H3.out.1, ← H3.out.2.1, ← H3.out.2.2.1, ← H3.out.2.2.2]
          rw [qr4, ← H4.out.1, ← H4.out.2.1, ← H4.out.2.2.1, ← H4.out.2.2.2]
          rw [qr5, ← H5.out.1, ← H5.out.2.1, ← H5.out.2.2.1, ← H5.out.2.2.2]
          rw [qr6, ← H6.out.1, ← H6.out.2.1, ← H6.out.2.2.1, ← H6.out.2.2.2]
          rw [qr7, ← H7.out.1, ← H7.out.2.1, ← H7.out.2.2.1, ← H7.out.2.2.2]
        rw [e]
        exact hr7q
      case measure => simp [intOf]; omega
    · have Hk10 : Hid (k = 10) := by show k = 10; omega
      have hdec : decide ((k : Int) < 10) = false := by simp; omega
      clear hlt
      have Hb : Hid (∀ w', w.grownBy w' none → Row w' b 39 (ws.map w32).toArray) := fun w' h => hb.kept h (by simp)
      go_wp2
      go_loopw [155, 4] (fun i _ wr2 => ∃ j : Nat, j ≤ 16 ∧ i = .int .i64 j ∧ Row wr2 (w.heap.size + 1) 39 (put ((dbls ws k).map w32).toArray 0 (fun i => w32 (pl ((dbls ws k).getD i 0) (ws.getD i 0))) j) ∧ Row wr2 w.heap.size 39 z ∧ w.grownBy wr2 none) (fun i _ _ => 16 - (intOf i).toNat)
      case atStart => exact ⟨0, Nat.zero_le _, rfl, hr1, hz, hg⟩
      case round =>
        clear hr1 hz hg
        obtain ⟨j, hj, rfl, hr2, hz2, hg2⟩ := hrel
        by_cases hlt : j < 16
        · have hdec2 : decide ((j : Int) < 16) = true := by simp; omega
          have cx : wr.cell? ⟨w.heap.size + 1, j, none⟩ = some (.int .u32 (((dbls ws k).getD j 0).toNat : Int)) := by
            refine hr2.at_ ?_
            rw [put_get, if_neg (by omega)]
            exact words_get _ _ (by rw [dbls_len]; have := Hl.out; omega)
          have cw : wr.cell? ⟨b, j, none⟩ = some (.int .u32 ((ws.getD j 0).toNat : Int)) := by
            refine (Hb.out wr hg2).at_ ?_
            exact words_get _ _ (by have := Hl.out; omega)
          have hf : wr.frozen? ⟨w.heap.size + 1, j, none⟩ = false := hr2.free _
          generalize hxd : (dbls ws k).getD j 0 = xd at cx
          generalize hxw : ws.getD j 0 = xw at cw
          have Hxd := Lib.hid hxd
          have Hxw := Lib.hid hxw
          clear hxd hxw
          go_wp2
          go_region
          go_wp2
          go_roundw
          case rel =>
            rw [pl_walk, ← Hxd.out, ← Hxw.out]
            exact ⟨j + 1, by omega, by go_num, by simp only [put, Nat.zero_add]; exact (hr2.set_ j _).drew, (hz2.far (by simp) _).drew, gb_drew (gb_new hg2 (gb_set1 _ _ _ _) (by omega))⟩
          case measure => simp [intOf]; omega
        · have hj16 : j = 16 := by omega
          have hdec2 : decide ((j : Int) < 16) = false := by simp; omega
          have e : put ((dbls ws k).map w32).toArray 0 (fun i => w32 (pl ((dbls ws k).getD i 0) (ws.getD i 0))) j = ((stir ws).map w32).toArray := by
            rw [hj16]
            refine put_all _ _ 16 _ (by simp [dbls_len, Hl.out]) (by simp [stir_len, Hl.out]) (fun i hi => ?_)
            rw [stir_get _ _ (by rw [Hl.out]; exact hi), Hk10.out]
          rw [e] at hr2
          have hsz2 : (Try.prog.info? 39).map (·.size) = some ((stir ws).map w32).toArray.size := by rw [size39]; simp [stir_len, Hl.out]
          have hzz : z.size = ((stir ws).map w32).toArray.size := by simp [stir_len, Hl.out, Hzs.out]
          have hone2 := words_one (stir ws)
          clear e hlt hj16
          generalize hcs : ((stir ws).map w32).toArray = cs at *
          have Hcs := Lib.hid hcs
          have Hsz2 := Lib.hid hsz2
          have Hzz := Lib.hid hzz
          have Hone2 := Lib.hid hone2
          clear hcs hsz2 hzz hone2
          go_wp2_with (first
            | (refine wpList_load_row rfl 39 (.tmp 3) rfl (w.heap.size + 1) rfl 39 cs (0, 0) _ hr2 Try.underlying39 rfl Hsz2.out ?_)
            | (refine wpList_store_row rfl 39 (.tmp 2) (.tmp 169) rfl w.heap.size cs rfl rfl 39 _ hz2 Hsz2.out Hzz.out Hone2.out ?_))
          refine bodyPost_ret (results_cell_row rfl _ _ w.heap.size 39 cs (0, 0) _ rfl (hz2.setRow_ cs) Try.underlying39 rfl Hsz2.out) rfl ?_
          exact ⟨by rw [Hcs.out], gb_new hg2 (gb_setRow1 _ _ _) (by omega)⟩
end Go.Proofs.Ytkeincmmcdcggaa
