/- sha.end: the mark, the noughts, the count. -/
import Derived.Test.YtalobkggpdniaaaDoorSTake
import Derived.Test.YtalobkggpdniaaaDoorSPatch
namespace Go.Proofs.YtalobkggpdniaaaDoor
open Go.RowKit Wd Mm

theorem zero_byte (w : World) : (zeroValue 5).run Tryd.prog w = .ok (.int .u8 0) w := by kernel_rfl
/-- clear of a part of the block. -/
theorem run_clear_block (w : World) (g o n c : Nat) (ty : TypeId) (hn : 0 < n) {t : TypeId} {cs : Array Value} (hr : Row w g t cs) (hfit : o + n ≤ cs.size) :
    (Builtin.clear_ #[26] ty #[.slice (some ⟨g, o, none⟩) n c]).run Tryd.prog w = .ok (.tuple #[]) (w.setCells g o (List.replicate n (.int .u8 0))) :=
  Lib.run_clear_slice w 26 5 ty (.int .u8 0) Tryd.underlying26 zero_byte rfl rfl g o n c hn
    (fun j hj => by rw [hr.get, Array.getElem?_eq_getElem (by omega)]; rfl) (fun _ _ => hr.free _)
theorem stC_clear {w : World} {g : Nat} {l : List UInt32} {B : List UInt8} {h t o n : Nat} (hl : l.length = 8) (hB : B.length = 64) (ho : o + n ≤ 64) (hr : Row w g 47 (stC l B h t)) :
    Row (w.setCells g (8 + o) (List.replicate n (.int .u8 0))) g 47 (stC l (patch B o (List.replicate n 0)) h t) := by
  have h1 := row_setCells (List.replicate n (Value.int .u8 0)) (8 + o) _ _ hr
  have h2 := stC_patch (l := l) (B := B) (X := List.replicate n 0) (h := h) (t := t) (o := o) hl hB (by simp; omega)
  rw [List.length_replicate] at h1 h2
  rw [← h2]
  have e : put (stC l B h t) (8 + o) (fun i => (List.replicate n (Value.int .u8 0)).getD i undef) n = put (stC l B h t) (8 + o) (fun i => w8 ((List.replicate n (0 : UInt8)).getD i 0)) n := by
    apply Array.ext_getElem?
    intro i
    rw [put_get, put_get]
    by_cases hc : 8 + o ≤ i ∧ i < 8 + o + n ∧ i < (stC l B h t).size
    · rw [if_pos hc, if_pos hc]
      have : i - (8 + o) < n := by omega
      simp [this, w8]
    · rw [if_neg hc, if_neg hc]
  rw [← e]
  exact h1
def zs64 : List Value := List.replicate 64 (.int .u8 0)
/-- The block's bytes behind the mark; behind the count. -/
def markB (B : List UInt8) (h : Nat) : List UInt8 := patch (patch B h [128]) (h + 1) (List.replicate (63 - h) 0)
def countB (B : List UInt8) (N : Nat) : List UInt8 := patch B 56 (beBytes N 8)
theorem markB_len {B : List UInt8} {h : Nat} (hB : B.length = 64) (hh : h < 64) : (markB B h).length = 64 := by
  have h1 : (patch B h [128]).length = 64 := by rw [patch_len (by simp; omega), hB]
  unfold markB
  rw [patch_len (by simp; omega), h1]
theorem countB_len {B : List UInt8} {N : Nat} (hB : B.length = 64) : (countB B N).length = 64 := by
  unfold countB
  rw [patch_len (by rw [beBytes_len]; omega), hB]
/-- What the words are behind the end. -/
def endW (l : List UInt32) (B : List UInt8) (h t : Nat) : List UInt32 :=
  if h < 56 then comp l (countB (markB B h) (8 * t % 18446744073709551616)) else comp (comp l (markB B h)) (countB (patch (markB B h) 0 (List.replicate 64 0)) (8 * t % 18446744073709551616))

set_option maxHeartbeats 4000000 in
set_option maxRecDepth 100000 in
theorem end_any (g : Nat) (l : List UInt32) (B : List UInt8) (h t : Nat) (w : World) (hl : l.length = 8) (hB : B.length = 64) (hh : h < 64) (hT : Tabs w) (hg1 : 3 < g) (hr : Row w g 47 (stC l B h t)) :
    Calls Tryd.prog 24 #[.pointer (some ⟨g, 0, none⟩)] w
      fun e w' => e = .returned (.tuple #[]) ∧ (∃ B', B'.length = 64 ∧ Row w' g 47 (stC (endW l B h t) B' h t)) ∧ w.grownBy w' (some g) := by
  have hA : Tryd.prog.arrayLen 44 = 64 := by kernel_rfl
  obtain ⟨N, HN⟩ : ∃ N : Nat, Hid (N = 8 * t % 18446744073709551616) := ⟨_, rfl⟩
  have hN : IntKind.u64.wrap (8 * (t : Int)) = (N : Int) := by rw [HN.out, IntKind.wrap_u64]; omega
  have hN1 : N ≤ 18446744073709551615 := by have := HN.out; omega
  have Hl := Lib.hid hl
  have HB := Lib.hid hB
  have hcell : w.cell? ⟨g, 72, none⟩ = some (.int .i64 (h : Int)) := hr.at_ (stC_held hl hB)
  have hcb : w.cell? ⟨g, 8 + h, none⟩ = some (w8 (B.getD h 0)) := hr.at_ (stC_byte hl hB hh)
  have hf := hr.free (8 + h)
  have hh64 : (h : Int) < 64 := by omega
  clear hl hB
  go_enter Tryd.func24, Tryd.ntmps24
  go_wp2
  go_region
  go_wp2
  change Code.wp _ _ _ (Act.mk _ _) _
  refine Td.named (fun W => Row W g 47 (stC l (patch B h [128]) h t) ∧ w.grownBy W (some g)) ⟨?r0, gb_drew (gb_set1 _ _ _ _)⟩ ?_
  case r0 =>
    have h1 := (hr.set_ (8 + h) (.int .u8 128)).drew
    have h2 := stC_patch (l := l) (B := B) (X := [128]) (h := h) (t := t) (o := h) Hl.out HB.out (by simp; omega)
    rw [← h2]
    exact h1
  clear hcell hcb hf
  have hB1 : (patch B h [128]).length = 64 := by rw [patch_len (by rw [HB.out]; simp; omega), HB.out]
  have HBm := Lib.hid (markB_len (h := h) HB.out hh)
  generalize hp : patch B h [128] = B1 at *
  have Hp := Lib.hid hp
  have HB1 := Lib.hid hB1
  clear hp hB1
  rintro w1 ⟨r1, g1⟩
  obtain ⟨k1, Hk1⟩ : ∃ k1 : Nat, Hid (k1 = h + 1) := ⟨_, rfl⟩
  have hk1 : (h : Int) + 1 = (k1 : Int) := by have := Hk1.out; omega
  have hk2 : (k1 : Int) ≤ 64 := by omega
  have hk3 : k1 ≤ 64 := by omega
  have c72 : w1.cell? ⟨g, 72, none⟩ = some (.int .i64 (h : Int)) := r1.at_ (stC_held Hl.out HB1.out)
  have hcl : k1 < 64 → ∀ ty, (Builtin.clear_ #[26] ty #[.slice (some ⟨g, 8 + k1, none⟩) (64 - k1) (64 - k1)]).run Tryd.prog w1.drew = .ok (.tuple #[]) (w1.drew.setCells g (8 + k1) (List.replicate (64 - k1) (.int .u8 0))) := fun hlt ty =>
    run_clear_block w1.drew g (8 + k1) (64 - k1) (64 - k1) ty (by omega) r1.drew (by rw [stC_size Hl.out HB1.out]; omega)
  have q0 := IntWalk.i64_in (h : Int) (by omega)
  have q1 := IntWalk.i64_in (k1 : Int) (by omega)
  have r2 : Row (w1.drew.setCells g (8 + k1) (List.replicate (64 - k1) (.int .u8 0))) g 47 (stC l (markB B h) h t) := by
    have h1 := stC_clear (o := k1) (n := 64 - k1) Hl.out HB1.out (by omega) r1.drew
    unfold markB
    rw [Hp.out]
    rw [Hk1.out] at h1 ⊢
    rw [show 63 - h = 64 - (h + 1) by omega]
    exact h1
  have Hg1 := Lib.hid (gb_then g1 (gb_refl _ _))
  clear g1
  by_cases hlast : k1 = 64
  · subst hlast
    have hb : ¬ h < 56 := by have := Hk1.out; omega
    have r2' : Row w1.drew g 47 (stC l (markB B h) h t) := by
      have h0 := r2
      rw [Nat.sub_self, List.replicate_zero] at h0
      exact h0
    have q64 : IntKind.i64.wrap 64 = 64 := by decide
    have hcl0 : ∀ (ty : TypeId) (a : Addr) (c : Nat) (W : World), (Builtin.clear_ #[26] ty #[.slice (some a) 0 c]).run Tryd.prog W = .ok (.tuple #[]) W := fun ty a c W => by
      simp [Builtin.clear_, run_underlying Tryd.underlying26]
    clear r2 hcl
    have r2 := r2'
    clear r2'
    have g2 := gb_then Hg1.out (gb_drew (gb_refl w1 _))
    refine wp_region_still_tail 9 (by kernel_rfl) (by kernel_rfl) ?_
    simp only [List.take_succ_cons, List.take_zero, List.drop_succ_cons, List.drop_zero]
    iterate 9 still_step
    refine wpStill_nil ?_
    clear q0 q1
    change wpList _ _ _ _ _ w1.drew
    have c72b : w1.drew.cell? ⟨g, 72, none⟩ = some (.int .i64 (h : Int)) := r2.at_ (stC_held Hl.out HBm.out)
    have hd : decide (56 ≤ (h : Int)) = true := by simp; omega
    have hd2 : 56 ≤ (h : Int) := by omega
    go_wp2_with fail
    clear c72b hd hd2
    refine (take_any g l (markB B h) h t _ Hl.out HBm.out (hT.keep g2 (fun i e => by cases e; exact hg1)) r2).mono ?_
    rintro e w2 ⟨rfl, r3, g3⟩
    have g4 := gb_then g2 g3
    have Hl3 := Lib.hid (comp_len l (markB B h) Hl.out)
    have hz64 : (patch (markB B h) 0 (List.replicate 64 0)).length = 64 := by rw [patch_len (by rw [HBm.out]; simp), HBm.out]
    have r5 : Row (w2.setCells g 8 zs64) g 47 (stC (comp l (markB B h)) (patch (markB B h) 0 (List.replicate 64 0)) h t) := stC_clear (o := 0) (n := 64) Hl3.out HBm.out (by decide) r3
    have hcl2 : ∀ ty, (Builtin.clear_ #[26] ty #[.slice (some ⟨g, 8, none⟩) 64 64]).run Tryd.prog w2 = .ok (.tuple #[]) (w2.setCells g 8 zs64) := fun ty =>
      run_clear_block w2 g 8 64 64 ty (by decide) r3 (by rw [stC_size Hl3.out HBm.out]; decide)
    have Hz64 := Lib.hid hz64
    have g5 := gb_then g4 (gb_setCells g zs64 8 w2)
    clear hz64 r2 g2 r3 g3 g4
    go_wp2_with fail
    clear hcl2
    change Code.wp _ _ _ (Act.mk _ _) _
    refine Td.named (fun W => Row W g 47 (stC (comp l (markB B h)) (patch (markB B h) 0 (List.replicate 64 0)) h t) ∧ w.grownBy W (some g)) ⟨r5, g5⟩ ?_
    clear r5 g5
    rintro w5' ⟨r5, g5⟩
    have c73 := r5.drew.at_ (stC_tot Hl3.out Hz64.out)
    have q8 : IntKind.u64.wrap (8 * (t : Int)) = (N : Int) := hN
    have hw8 : 8 * (t : Int) % 18446744073709551616 = (N : Int) := by rw [← hN, IntKind.wrap_u64]
    refine wp_region_still_tail 9 (by kernel_rfl) (by kernel_rfl) ?_
    simp only [List.take_succ_cons, List.take_zero, List.drop_succ_cons, List.drop_zero]
    iterate 9 still_step
    refine wpStill_nil ?_
    clear c73 q8 hw8
    refine namedL (fun W => Row W g 47 (stC (comp l (markB B h)) (patch (markB B h) 0 (List.replicate 64 0)) h t) ∧ w.grownBy W (some g)) ⟨r5.drew, gb_drew g5⟩ ?_
    rintro w6 ⟨r6, g6⟩
    go_wp2_with fail
    refine (putHigh_any g 64 8 8 N _ 47 _ (by omega) (by decide) (by rw [stC_size Hl3.out Hz64.out]; decide) r6).mono ?_
    rintro e w7 ⟨rfl, r7, g7⟩
    have e7 : put (stC (comp l (markB B h)) (patch (markB B h) 0 (List.replicate 64 0)) h t) 64 (fun j => w8 (highB N 8 j)) 8 = stC (comp l (markB B h)) (countB (patch (markB B h) 0 (List.replicate 64 0)) N) h t := by
      have h1 := stC_patch (l := (comp l (markB B h))) (B := (patch (markB B h) 0 (List.replicate 64 0))) (X := beBytes N 8) (h := h) (t := t) (o := 56) Hl3.out Hz64.out (by rw [beBytes_len]; decide)
      rw [beBytes_len] at h1
      unfold countB
      rw [← h1]
      exact put_congr _ _ _ _ _ fun j hj => by rw [beBytes_getD _ _ _ hj]
    rw [e7] at r7
    have g8 := gb_then g6 g7
    clear e7 g6 g7 r6
    go_wp2_with fail
    refine (take_any g (comp l (markB B h)) (countB (patch (markB B h) 0 (List.replicate 64 0)) N) h t _ Hl3.out (countB_len Hz64.out) (hT.keep g8 (fun i e => by cases e; exact hg1)) r7).mono ?_
    rintro e w8' ⟨rfl, r9, g9⟩
    have g10 := gb_then g8 g9
    clear r7 g8 g9
    go_wp2_with fail
    go_end0
    refine ⟨rfl, ⟨countB (patch (markB B h) 0 (List.replicate 64 0)) N, countB_len Hz64.out, ?_⟩, g10⟩
    have e9 : endW l B h t = comp (comp l (markB B h)) (countB (patch (markB B h) 0 (List.replicate 64 0)) N) := by unfold endW; rw [if_neg hb, HN.out]
    rw [e9]
    exact r9
  · have hcl' := hcl (by omega)
    have hne : ¬ (64 = k1) := by omega
    clear hcl
    have g2 := gb_then Hg1.out (by exact gb_then (gb_drew (gb_refl _ _)) (gb_setCells g (List.replicate (64 - k1) (Value.int .u8 0)) (8 + k1) w1.drew))
    refine wp_region_still_tail 9 (by kernel_rfl) (by kernel_rfl) ?_
    simp only [List.take_succ_cons, List.take_zero, List.drop_succ_cons, List.drop_zero]
    iterate 9 still_step
    refine wpStill_nil ?_
    clear q0 q1
    change wpList _ _ _ _ _ w1.drew
    have c72b : (w1.drew.setCells g (8 + k1) (List.replicate (64 - k1) (.int .u8 0))).cell? ⟨g, 72, none⟩ = some (.int .i64 (h : Int)) := r2.at_ (stC_held Hl.out HBm.out)
    by_cases hb : h < 56
    · have hd : decide (56 ≤ (h : Int)) = false := by simp; omega
      have hd2 : ¬ 56 ≤ (h : Int) := by omega
      go_wp2_with fail
      clear c72b hd hd2
      have c73 := r2.drew.at_ (stC_tot Hl.out HBm.out)
      have q8 : IntKind.u64.wrap (8 * (t : Int)) = (N : Int) := hN
      have hw8 : 8 * (t : Int) % 18446744073709551616 = (N : Int) := by rw [← hN, IntKind.wrap_u64]
      refine wp_region_still_tail 9 (by kernel_rfl) (by kernel_rfl) ?_
      simp only [List.take_succ_cons, List.take_zero, List.drop_succ_cons, List.drop_zero]
      iterate 9 still_step
      refine wpStill_nil ?_
      clear c73 q8 hw8
      refine namedL (fun W => Row W g 47 (stC l (markB B h) h t) ∧ w.grownBy W (some g)) ⟨r2.drew, gb_drew g2⟩ ?_
      rintro w6 ⟨r6, g6⟩
      go_wp2_with fail
      refine (putHigh_any g 64 8 8 N _ 47 _ (by omega) (by decide) (by rw [stC_size Hl.out HBm.out]; decide) r6).mono ?_
      rintro e w7 ⟨rfl, r7, g7⟩
      have e7 : put (stC l (markB B h) h t) 64 (fun j => w8 (highB N 8 j)) 8 = stC l (countB (markB B h) N) h t := by
        have h1 := stC_patch (l := l) (B := (markB B h)) (X := beBytes N 8) (h := h) (t := t) (o := 56) Hl.out HBm.out (by rw [beBytes_len]; decide)
        rw [beBytes_len] at h1
        unfold countB
        rw [← h1]
        exact put_congr _ _ _ _ _ fun j hj => by rw [beBytes_getD _ _ _ hj]
      rw [e7] at r7
      have g8 := gb_then g6 g7
      clear e7 g6 g7 r6
      go_wp2_with fail
      refine (take_any g l (countB (markB B h) N) h t _ Hl.out (countB_len HBm.out) (hT.keep g8 (fun i e => by cases e; exact hg1)) r7).mono ?_
      rintro e w8' ⟨rfl, r9, g9⟩
      have g10 := gb_then g8 g9
      clear r7 g8 g9
      go_wp2_with fail
      go_end0
      refine ⟨rfl, ⟨countB (markB B h) N, countB_len HBm.out, ?_⟩, g10⟩
      have e9 : endW l B h t = comp l (countB (markB B h) N) := by unfold endW; rw [if_pos hb, HN.out]
      rw [e9]
      exact r9
    · have hd : decide (56 ≤ (h : Int)) = true := by simp; omega
      have hd2 : 56 ≤ (h : Int) := by omega
      go_wp2_with fail
      clear c72b hd hd2
      refine (take_any g l (markB B h) h t _ Hl.out HBm.out (hT.keep g2 (fun i e => by cases e; exact hg1)) r2).mono ?_
      rintro e w2 ⟨rfl, r3, g3⟩
      have g4 := gb_then g2 g3
      have Hl3 := Lib.hid (comp_len l (markB B h) Hl.out)
      have hz64 : (patch (markB B h) 0 (List.replicate 64 0)).length = 64 := by rw [patch_len (by rw [HBm.out]; simp), HBm.out]
      have r5 : Row (w2.setCells g 8 zs64) g 47 (stC (comp l (markB B h)) (patch (markB B h) 0 (List.replicate 64 0)) h t) := stC_clear (o := 0) (n := 64) Hl3.out HBm.out (by decide) r3
      have hcl2 : ∀ ty, (Builtin.clear_ #[26] ty #[.slice (some ⟨g, 8, none⟩) 64 64]).run Tryd.prog w2 = .ok (.tuple #[]) (w2.setCells g 8 zs64) := fun ty =>
        run_clear_block w2 g 8 64 64 ty (by decide) r3 (by rw [stC_size Hl3.out HBm.out]; decide)
      have Hz64 := Lib.hid hz64
      have g5 := gb_then g4 (gb_setCells g zs64 8 w2)
      clear hz64 r2 g2 r3 g3 g4
      go_wp2_with fail
      clear hcl2
      change Code.wp _ _ _ (Act.mk _ _) _
      refine Td.named (fun W => Row W g 47 (stC (comp l (markB B h)) (patch (markB B h) 0 (List.replicate 64 0)) h t) ∧ w.grownBy W (some g)) ⟨r5, g5⟩ ?_
      clear r5 g5
      rintro w5' ⟨r5, g5⟩
      have c73 := r5.drew.at_ (stC_tot Hl3.out Hz64.out)
      have q8 : IntKind.u64.wrap (8 * (t : Int)) = (N : Int) := hN
      have hw8 : 8 * (t : Int) % 18446744073709551616 = (N : Int) := by rw [← hN, IntKind.wrap_u64]
      refine wp_region_still_tail 9 (by kernel_rfl) (by kernel_rfl) ?_
      simp only [List.take_succ_cons, List.take_zero, List.drop_succ_cons, List.drop_zero]
      iterate 9 still_step
      refine wpStill_nil ?_
      clear c73 q8 hw8
      refine namedL (fun W => Row W g 47 (stC (comp l (markB B h)) (patch (markB B h) 0 (List.replicate 64 0)) h t) ∧ w.grownBy W (some g)) ⟨r5.drew, gb_drew g5⟩ ?_
      rintro w6 ⟨r6, g6⟩
      go_wp2_with fail
      refine (putHigh_any g 64 8 8 N _ 47 _ (by omega) (by decide) (by rw [stC_size Hl3.out Hz64.out]; decide) r6).mono ?_
      rintro e w7 ⟨rfl, r7, g7⟩
      have e7 : put (stC (comp l (markB B h)) (patch (markB B h) 0 (List.replicate 64 0)) h t) 64 (fun j => w8 (highB N 8 j)) 8 = stC (comp l (markB B h)) (countB (patch (markB B h) 0 (List.replicate 64 0)) N) h t := by
        have h1 := stC_patch (l := (comp l (markB B h))) (B := (patch (markB B h) 0 (List.replicate 64 0))) (X := beBytes N 8) (h := h) (t := t) (o := 56) Hl3.out Hz64.out (by rw [beBytes_len]; decide)
        rw [beBytes_len] at h1
        unfold countB
        rw [← h1]
        exact put_congr _ _ _ _ _ fun j hj => by rw [beBytes_getD _ _ _ hj]
      rw [e7] at r7
      have g8 := gb_then g6 g7
      clear e7 g6 g7 r6
      go_wp2_with fail
      refine (take_any g (comp l (markB B h)) (countB (patch (markB B h) 0 (List.replicate 64 0)) N) h t _ Hl3.out (countB_len Hz64.out) (hT.keep g8 (fun i e => by cases e; exact hg1)) r7).mono ?_
      rintro e w8' ⟨rfl, r9, g9⟩
      have g10 := gb_then g8 g9
      clear r7 g8 g9
      go_wp2_with fail
      go_end0
      refine ⟨rfl, ⟨countB (patch (markB B h) 0 (List.replicate 64 0)) N, countB_len Hz64.out, ?_⟩, g10⟩
      have e9 : endW l B h t = comp (comp l (markB B h)) (countB (patch (markB B h) 0 (List.replicate 64 0)) N) := by unfold endW; rw [if_neg hb, HN.out]
      rw [e9]
      exact r9
end Go.Proofs.YtalobkggpdniaaaDoor
