/- sha.take: the words behind a block. -/
import Derived.Test.YtalobkggpdniaaaDoorSState
namespace Go.Proofs.YtalobkggpdniaaaDoor
open Go.RowKit Wd Mm

attribute [local go_sem] pl_walk pl_wrap xo_walk an_walk nt_walk

set_option maxHeartbeats 4000000 in
set_option maxRecDepth 100000 in
theorem take_any (g : Nat) (l : List UInt32) (B : List UInt8) (h t : Nat) (w : World) (hl : l.length = 8) (hB : B.length = 64) (hT : Tabs w) (hr : Row w g 47 (stC l B h t)) :
    Calls Tryd.prog 37 #[.pointer (some ⟨g, 0, none⟩)] w
      fun e w' => e = .returned (.tuple #[]) ∧ Row w' g 47 (stC (comp l B) B h t) ∧ w.grownBy w' (some g) := by
  have hlt := hr.lt
  have hby : Bytes w g 8 B := fun i hi => hr.at_ (stC_byte hl hB (by omega))
  have Hl := Lib.hid hl
  have HB := Lib.hid hB
  have Hby := Lib.hid hby
  clear hl hB hby
  go_enter Tryd.func37, Tryd.ntmps37
  go_wp2_with fail
  refine (spread_any g B _ HB.out Hby.out hlt).mono ?_
  rintro e w1 ⟨rfl, g1⟩
  have Hsz := Lib.hid (ws_size B)
  have Hone := Lib.hid (words_one (wS B))
  go_wp2_with (refine wpList_store_row rfl 82 (.tmp 2) (.tmp 17) rfl w1.heap.size _ rfl rfl 82 _ (heap_alloc_new _ _) Hsz.out ?hz Hone.out ?_)
  case hz => simp [wS_len]
  refine Td.named (fun W => Row W g 47 (stC l B h t) ∧ Row W w1.heap.size 82 ((wS B).map w32).toArray ∧ w.grownBy W none)
    ⟨((hr.kept g1 (by simp)).alloc _).setRow_far (Nat.ne_of_lt (hr.kept g1 (by simp)).lt) _, Row.setRow_ (heap_alloc_new _ _) _, gb_new (gb_alloc g1 _) (gb_setRow1 _ _ _) g1.size⟩ ?_
  have hq : g < w1.heap.size := (hr.kept g1 (by simp)).lt
  have hb1 : w.heap.size ≤ w1.heap.size := g1.size
  generalize w1.heap.size = q at *
  clear g1 hr
  rintro w2 ⟨hr, hs, hg⟩
  obtain ⟨x0, x1, x2, x3, x4, x5, x6, x7, hx⟩ : ∃ x0 x1 x2 x3 x4 x5 x6 x7, l = [x0, x1, x2, x3, x4, x5, x6, x7] := by
    match l, Hl.out with
    | [x0, x1, x2, x3, x4, x5, x6, x7], _ => exact ⟨x0, x1, x2, x3, x4, x5, x6, x7, rfl⟩
  have c0 : w2.cell? ⟨g, 0, none⟩ = some (.int .u32 (x0.toNat : Int)) := by rw [hx] at hr; exact hr.at_ rfl
  have c1 : w2.cell? ⟨g, 1, none⟩ = some (.int .u32 (x1.toNat : Int)) := by rw [hx] at hr; exact hr.at_ rfl
  have c2 : w2.cell? ⟨g, 2, none⟩ = some (.int .u32 (x2.toNat : Int)) := by rw [hx] at hr; exact hr.at_ rfl
  have c3 : w2.cell? ⟨g, 3, none⟩ = some (.int .u32 (x3.toNat : Int)) := by rw [hx] at hr; exact hr.at_ rfl
  have c4 : w2.cell? ⟨g, 4, none⟩ = some (.int .u32 (x4.toNat : Int)) := by rw [hx] at hr; exact hr.at_ rfl
  have c5 : w2.cell? ⟨g, 5, none⟩ = some (.int .u32 (x5.toNat : Int)) := by rw [hx] at hr; exact hr.at_ rfl
  have c6 : w2.cell? ⟨g, 6, none⟩ = some (.int .u32 (x6.toNat : Int)) := by rw [hx] at hr; exact hr.at_ rfl
  have c7 : w2.cell? ⟨g, 7, none⟩ = some (.int .u32 (x7.toNat : Int)) := by rw [hx] at hr; exact hr.at_ rfl
  have Hx := Lib.hid hx
  clear hx
  change Code.wp _ _ _ (Act.mk _ _) _
  go_region
  go_wp2
  go_region
  obtain ⟨w3, rfl⟩ : ∃ W, W = w2.drew.drew := ⟨_, rfl⟩
  go_wp2
  go_loopw [58, 3, 4, 5, 6, 7, 8, 9, 10] (fun i va vb vc vd ve vf vg vh wr => ∃ (k : Nat) (s : St), k ≤ 64 ∧ i = .int .i64 k ∧ Hid (s = rnds (St.of l) (wS B) k) ∧ va = .int .u32 (s.a.toNat : Int) ∧ vb = .int .u32 (s.b.toNat : Int) ∧ vc = .int .u32 (s.c.toNat : Int) ∧ vd = .int .u32 (s.d.toNat : Int) ∧ ve = .int .u32 (s.e.toNat : Int) ∧ vf = .int .u32 (s.f.toNat : Int) ∧ vg = .int .u32 (s.g.toNat : Int) ∧ vh = .int .u32 (s.h.toNat : Int) ∧
      Row wr g 47 (stC l B h t) ∧ Row wr q 82 ((wS B).map w32).toArray ∧ w.grownBy wr none) (fun i _ _ _ _ _ _ _ _ _ => 64 - (intOf i).toNat)
  case atStart =>
    refine ⟨0, ⟨x0, x1, x2, x3, x4, x5, x6, x7⟩, Nat.zero_le _, rfl, ?_, rfl, rfl, rfl, rfl, rfl, rfl, rfl, rfl, hr, hs, ?_⟩
    · show _ = _; rw [Hx.out]; rfl
    · exact gb_drew (gb_drew hg)
  case round =>
    clear hr hs hg c0 c1 c2 c3 c4 c5 c6 c7
    obtain ⟨k, ⟨a, b, c, d, e, f, gg, hh⟩, hk, rfl, HS, rfl, rfl, rfl, rfl, rfl, rfl, rfl, rfl, hr, hs, hg⟩ := hrel
    simp only []
    by_cases hlt : k < 64
    · have hdec : decide ((k : Int) < 64) = true := by simp; omega
      have bk : (k : Int) < 64 := by omega
      obtain ⟨kk, hkk⟩ : ∃ x, konst.getD k 0 = x := ⟨_, rfl⟩
      obtain ⟨ww, hww⟩ : ∃ x, (wS B).getD k 0 = x := ⟨_, rfl⟩
      have ck : wr.cell? ⟨3, k, none⟩ = some (.int .u32 (kk.toNat : Int)) := by
        have := (hT.keep hg (by simp)).2.2 k hlt
        rw [hkk] at this; exact this
      have cw : wr.cell? ⟨q, k, none⟩ = some (.int .u32 (ww.toNat : Int)) := by
        refine hs.at_ ?_
        rw [words_get _ _ (by rw [wS_len]; exact hlt), hww]
      have Hkk := Lib.hid hkk
      have Hww := Lib.hid hww
      clear hkk hww
      go_wp2_with fail
      go_quiet ((exact Calls.quiet_of_same ((mixLow_any _ _).mono fun _ _ ⟨h1, h2⟩ => ⟨h1, h2.symm⟩)))
      go_wp2_with fail
      refine (mixHigh_any _ _).mono ?_
      rintro e' w' ⟨rfl, rfl⟩
      go_wp2_with fail
      go_roundw
      case rel =>
        refine ⟨k + 1, rnd ⟨a, b, c, d, e, f, gg, hh⟩ kk ww, by omega, by go_num, ?_, rfl, rfl, rfl, rfl, rfl, rfl, rfl, rfl, hr.drewN _, hs.drewN _, gb_drewN hg _⟩
        show _ = _
        rw [rnds, ← HS.out, Hkk.out, Hww.out]
      case measure => simp [intOf]; omega
    · have hk64 : k = 64 := by omega
      have HS2 : Hid (([a, b, c, d, e, f, gg, hh] : List UInt32) = (rnds (St.of l) (wS B) 64).list) := by show _ = _; rw [← hk64, ← HS.out]; rfl
      subst hk64
      rw [show ((64 : Nat) : Int) = 64 from rfl]
      clear hlt hk HS hs
      have hix := fun (j : Nat) (hj : j < 8) (W : World) => idx8 a b c d e f gg hh j hj W
      have Hix := Lib.hid hix
      clear hix
      obtain ⟨wo, rfl⟩ : ∃ wo : World, wo = wr := ⟨_, rfl⟩
      go_wp2
      go_loopw [118] (fun i wr => ∃ k : Nat, k ≤ 8 ∧ i = .int .i64 k ∧ Row wr g 47 (put (stC l B h t) 0 (fun i => w32 ((comp l B).getD i 0)) k) ∧ w.grownBy wr (some g)) (fun i _ => 8 - (intOf i).toNat)
      case atStart => exact ⟨0, Nat.zero_le _, rfl, hr, gb_then ⟨hg.os, hg.tape, hg.output, hg.size, fun k hk _ => hg.block k hk (by simp)⟩ (gb_refl _ _)⟩
      case round =>
        clear hr hg
        obtain ⟨k, hk, rfl, hr, hg⟩ := hrel
        by_cases hlt : k < 8
        · have hdec : decide ((k : Int) < 8) = true := by simp; omega
          have bk : (k : Int) < 8 := by omega
          have hi := Hix.out k hlt
          obtain ⟨y, hy⟩ : ∃ y, ([a, b, c, d, e, f, gg, hh] : List UInt32).getD k 0 = y := ⟨_, rfl⟩
          obtain ⟨x, hx⟩ : ∃ x, l.getD k 0 = x := ⟨_, rfl⟩
          rw [hy] at hi
          have cx : wr.cell? ⟨g, k, none⟩ = some (.int .u32 (x.toNat : Int)) := by
            refine hr.at_ ?_
            rw [put_get, if_neg (by omega), stC_word Hl.out hlt, hx]
          have hf : wr.frozen? ⟨g, k, none⟩ = false := hr.free _
          have Hy := Lib.hid hy
          have Hx := Lib.hid hx
          clear hy hx
          go_wp2_with fail
          have q0 := IntWalk.i64_in (k : Int) (by omega)
          refine wp_region_still_tail 11 (by kernel_rfl) (by kernel_rfl) ?_
          simp only [List.take_succ_cons, List.take_zero, List.drop_succ_cons, List.drop_zero]
          iterate 11 still_step
          refine wpStill_nil ?_
          clear q0
          change wpList _ _ _ _ _ wr.drew
          go_wp2_with fail
          go_roundw
          case rel =>
            refine ⟨k + 1, by omega, by go_num, ?_, gb_drew (gb_then hg (gb_set1 _ _ _ _))⟩
            have e : w32 ((comp l B).getD k 0) = .int .u32 ((pl x y).toNat : Int) := by
              rw [comp_getD l B k Hl.out hlt, ← HS2.out, Hx.out, Hy.out]; rfl
            have h := (hr.set_ k (w32 ((comp l B).getD k 0))).drew
            rw [e] at h
            simp only [put, Nat.zero_add]
            rw [e]
            exact h
          case measure => simp [intOf]; omega
        · have hk8 : k = 8 := by omega
          subst hk8
          rw [stC_words l (comp l B) B h t Hl.out (comp_len _ _ Hl.out)] at hr
          rw [show ((8 : Nat) : Int) = 8 from rfl]
          clear hlt hk
          go_wp2
          go_end0
          exact ⟨rfl, hr, hg⟩
end Go.Proofs.YtalobkggpdniaaaDoor
