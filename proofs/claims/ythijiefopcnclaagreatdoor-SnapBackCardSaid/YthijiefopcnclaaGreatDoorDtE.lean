/- covers, Has, Le, Last. Has. -/
import Derived.Test.YthijiefopcnclaaGreatDoorDtPMay
import Derived.Test.YthijiefopcnclaaGreatDoorDtB
import Derived.Test.YthijiefopcnclaaGreatDoorShelf
namespace Go.Proofs.YthijiefopcnclaaGreatDoor.Dt
open Go Go.RowKit Go.Proofs.YthijiefopcnclaaGreatDoor.Mm Go.Proofs.YthijiefopcnclaaGreatDoor.Td

attribute [local go_sem] Td.upon_value Td.upon_skip Td.upon_enter Td.upon_row Td.look_tmp Td.look_const Td.look_func Td.look_global
set_option maxHeartbeats 8000000 in
set_option maxRecDepth 100000 in
theorem covC_any (ba bx g o n c i : Nat) (x r : Rn) (W0 : World) (hi : i < n) (ha : W0.cell? ⟨ba, 0, none⟩ = some (.slice (some ⟨g, o, none⟩) n c)) (hba : ba < W0.heap.size) (hr : At3 W0 bx 0 r) (hbx : bx < W0.heap.size) (hx : At3 W0 g (o + i * 3) x) (hg : g < W0.heap.size) :
    Calls Tryz.prog 106 #[.int .i64 (i : Int), .pointer (some ⟨ba, 0, none⟩), .pointer (some ⟨bx, 0, none⟩)] W0 fun e w' => e = .returned (.bool (!decide (Ahd x r))) ∧ Gr W0 w' := by
  have HA : Hid (∀ W, Gr W0 W → W.cell? ⟨ba, 0, none⟩ = some (.slice (some ⟨g, o, none⟩) n c)) := fun W hW => (World.cell?_of_block (a := ⟨ba, 0, none⟩) (hW.gb.block ba hba (by simp))).trans ha
  have HR : Hid (∀ W, Gr W0 W → At3 W bx 0 r) := fun W hW => hr.keep hbx hW.gb
  have HX : Hid (∀ W, Gr W0 W → At3 W g (o + i * 3) x) := fun W hW => hx.keep hg hW.gb
  have bi : (i : Int) < (n : Int) := by omega
  obtain ⟨bv, hbv⟩ : ∃ bv : Bool, decide (Ahd x r) = bv := ⟨_, rfl⟩
  have Hbv := Lib.hid hbv
  clear ha hr hx hbv
  go_enter Tryz.func106, Tryz.ntmps106
  go_upto_region 1 with fail
  apply wp_region_told (le := Gr) [isV _, isV _, isV _, isV _, isV _, isV _, isV _, isV _]
  case hn => rfl
  case hm => kernel_rfl
  case hB => kernel_rfl
  case ht => exact fun _ _ _ h k => Gr.trans h k
  case hw => exact (Gr.refl _).drew
  -- 0: run.go:38 load
  apply told_is
  · intro W f hW hE h0 K hK
    have e1 := h0 1 (by kernel_rfl)
    conv at e1 => rhs; whnf
    clear hE h0
    refine yes_of (want_free rfl) ?_
    have hc := HA.out W hW
    go_simp; exact hK _ _ (Gr.refl _) rfl
  -- 1: run.go:38 move
  apply told_is
  · intro W f hW hE h0 K hK
    have e0 := h0 0 (by kernel_rfl)
    conv at e0 => rhs; whnf
    clear hE h0
    refine yes_of (want_free rfl) ?_
    go_simp; exact hK _ _ (Gr.refl _) rfl
  -- 2: run.go:38 indexAddr
  apply told_is
  · intro W f hW hE h0 K hK
    have e5 : f 5 = _ := hE 1 5 _ rfl (by kernel_rfl)
    have e6 : f 6 = _ := hE 0 6 _ rfl (by kernel_rfl)
    clear hE h0
    refine yes_of (want_free rfl) ?_
    go_simp; exact hK _ _ (Gr.refl _) rfl
  -- 3: run.go:38 load
  apply told_is
  · intro W f hW hE h0 K hK
    have e7 : f 7 = _ := hE 0 7 _ rfl (by kernel_rfl)
    clear hE h0
    refine yes_of (want_free rfl) ?_
    obtain ⟨hc0, hc1, hc2⟩ := HX.out W hW
    go_simp; exact hK _ _ (Gr.refl _) rfl
  -- 4: run.go:38 load
  apply told_is
  · intro W f hW hE h0 K hK
    have e2 := h0 2 (by kernel_rfl)
    conv at e2 => rhs; whnf
    clear hE h0
    refine yes_of (want_free rfl) ?_
    obtain ⟨hc0, hc1, hc2⟩ := HR.out W hW
    go_simp; exact hK _ _ (Gr.refl _) rfl
  -- 5: run.go:38 call
  apply told_is
  · intro W f hW hE h0 K hK
    have e8 : f 8 = _ := hE 1 8 _ rfl (by kernel_rfl)
    have e9 : f 9 = _ := hE 0 9 _ rfl (by kernel_rfl)
    clear hE h0
    refine yes_of (want_free rfl) ?_
    go_simp
    refine (ahead_any x r _).mono ?_
    rintro e w1 ⟨he, g⟩
    rw [Hbv.out] at he
    subst he
    exact ⟨_, rfl, hK _ _ g rfl⟩
  -- 6: run.go:38 unOp
  apply told_is
  · intro W f hW hE h0 K hK
    have e10 : f 10 = _ := hE 0 10 _ rfl (by kernel_rfl)
    clear hE h0
    refine yes_of (want_free rfl) ?_
    go_simp; exact hK _ _ (Gr.refl _) rfl
  -- 7: run.go:38 assign
  apply told_is
  · intro W f hW hE h0 K hK
    have e11 : f 11 = _ := hE 0 11 _ rfl (by kernel_rfl)
    clear hE h0
    refine yes_of (want_free rfl) ?_
    go_simp; exact hK _ _ (Gr.refl _) rfl
  intro W f hW hA
  simp only [lexIn, Act.put, List.setIfInBounds_toArray, List.set_cons_zero, List.set_cons_succ]
  have e4 : f 4 = _ := hA 0 (some 4) _ rfl
  rw [e4]
  clear hA
  go_wp2_with fail
  go_ret
  exact ⟨by rw [Hbv.out]; rfl, hW⟩

set_option maxHeartbeats 16000000 in
set_option maxRecDepth 100000 in
theorem covers_any (A : Option Addr) (n c : Nat) (l : List Rn) (r : Rn) (w : World) (hl : RL w A n l) (ml : May l) (hr : r.f ≤ r.t) (hn : n ≤ 100000) :
    Calls Tryz.prog 94 #[.slice A n c, .agg #[.int .i64 r.d, .int .i64 r.f, .int .i64 r.t]] w fun e w' => e = .returned (.bool (covB l r)) ∧ w.grownBy w' none := by
  obtain ⟨W0, hW0⟩ : ∃ W0, W0 = (w.alloc (.cells #[.slice A n c] 22)).alloc (.cells #[.int .i64 r.d, .int .i64 r.f, .int .i64 r.t] 50) := ⟨_, rfl⟩
  have hsize : W0.heap.size = w.heap.size + 1 + 1 := by rw [hW0]; simp
  have ha0 : Row W0 w.heap.size 22 #[.slice A n c] := by rw [hW0]; exact (Row.new _ _ _).alloc _
  have hr0 : At3 W0 (w.heap.size + 1) 0 r := by
    rw [hW0]
    have h := box3 (w.alloc (.cells #[.slice A n c] 22)) r 50
    rwa [World.size_alloc] at h
  have hg0 : w.grownBy W0 none := by rw [hW0]; exact gb_alloc (gb_alloc (gb_refl _ _) _) _
  have hl0 : RL W0 A n l := hl.keep hg0
  have eg : ∀ args w, (callFunc 106 args).run Tryz.prog w = .ok (.enter 106 args) w := enters_of Tryz.func106 (by kernel_rfl) rfl
  have hS := Any.sort_Search Tryz.search 106 #[.pointer (some ⟨w.heap.size, 0, none⟩), .pointer (some ⟨w.heap.size + 1, 0, none⟩)] n (notAhd l r) W0 eg (by omega)
    (fun m os i hi => by
      have hgr : Gr W0 (Go.Sort.grow (W0.drewN m) os) := ⟨m, os, rfl⟩
      obtain ⟨g, o, rfl, hgl, _⟩ := hl0.2 (by omega)
      obtain ⟨x, hx⟩ : ∃ x, l[i]? = some x := ⟨_, List.getElem?_eq_getElem (by rw [hl0.1]; exact hi)⟩
      have hp : notAhd l r i = !decide (Ahd x r) := by unfold notAhd; rw [hx]
      rw [hp]
      have hs := hgr.gb.size
      exact covC_any w.heap.size (w.heap.size + 1) g o n c i x r _ hi ((ha0.kept hgr.gb (by simp)).at_ (i := 0) rfl) (by omega) (hr0.keep (by omega) hgr.gb) (by omega) ((rl_at3 hl0 hx).keep hgl hgr.gb) (by omega))
    (by have h := notAhd_mono ml r; rwa [hl0.1] at h)
  obtain ⟨k1, k2, k3⟩ := count_mono (notAhd l r) n (by have h := notAhd_mono ml r; rwa [hl0.1] at h)
  have hC := cov_at ml hr k2 (fun h => k3 _ (Nat.le_refl _) (by rw [hl0.1] at h; exact h))
  change Calls Tryz.prog 105 _ _ _ at hS
  generalize (List.range n).countP (fun i => !notAhd l r i) = q at *
  have Ha0 := Lib.hid ha0
  have Hr0 := Lib.hid hr0
  have Hg0 := Lib.hid hg0
  have Hl0 := Lib.hid hl0
  have HC0 := Lib.hid hC
  have Hsz := Lib.hid hsize
  have HS := Lib.hid hS
  have HW0 := Lib.hid hW0
  have Hml := Lib.hid ml
  clear hl ml hr ha0 hr0 hg0 hl0 hC k2 k3 eg hsize hS hW0
  go_enter Tryz.func94, Tryz.ntmps94
  go_upto_region 2 with (go_at_call 105; rw [← HW0.out]; refine HS.out.mono ?_; rintro e w1 ⟨rfl, q1, os1, rfl⟩)
  obtain ⟨W1, hW1⟩ : ∃ W1, Go.Sort.grow (W0.drewN q1) os1 = W1 := ⟨_, rfl⟩
  have hgr : Gr W0 W1 := ⟨q1, os1, hW1.symm⟩
  rw [hW1]
  have Hg : Hid (w.grownBy W1 none) := gb_none Hg0.out hgr.gb
  have ca := (Ha0.out.kept hgr.gb (by simp)).at_ (i := 0) rfl
  obtain ⟨r0, r1, r2⟩ := Hr0.out.keep (by have := Hsz.out; omega) hgr.gb
  have HL1 : Hid (RL W1 A n l) := Hl0.out.keep hgr.gb
  clear hW1 hgr HW0 Hg0 Ha0 Hr0 Hl0 HS
  have bq : (0 : Int) ≤ (q : Int) := Int.natCast_nonneg _
  by_cases hq : q < n
  · have dq : decide (q < n) = true := decide_eq_true hq
    have dq2 : decide ((q : Int) < (n : Int)) = true := decide_eq_true (by omega)
    have bq2 : (q : Int) < (n : Int) := by omega
    obtain ⟨g, o, rfl, hgl, _⟩ := HL1.out.2 (by omega)
    obtain ⟨x, hx⟩ : ∃ x, l[q]? = some x := ⟨_, List.getElem?_eq_getElem (by rw [HL1.out.1]; exact hq)⟩
    obtain ⟨x0, x1, x2⟩ := rl_at3 HL1.out hx
    have HC : Hid (covB l r = decide (Cov r x)) := by have h := HC0.out; rw [hx] at h; exact h
    clear hx HC0
    by_cases c0 : x.d = r.d
    · have d0 : (x.d == r.d) = true := by rw [c0]; simp
      by_cases c1 : x.f ≤ r.f
      · have d1 : decide (x.f ≤ r.f) = true := decide_eq_true c1
        by_cases c2 : r.t ≤ x.t
        · have d2 : decide (r.t ≤ x.t) = true := decide_eq_true c2
          have hE : covB l r = true := by rw [HC.out]; exact decide_eq_true ⟨c0, c1, c2⟩
          have HE := Lib.hid hE
          clear hE c0 c1 c2
          go_upto_region 2 with fail
          go_quiet (fail)
          go_wp2_with fail
          go_ret
          exact ⟨by rw [HE.out]; rfl, gb_drewN Hg.out _⟩
        · have d2 : decide (r.t ≤ x.t) = false := decide_eq_false c2
          have hE : covB l r = false := by rw [HC.out]; exact decide_eq_false fun h => c2 h.2.2
          have HE := Lib.hid hE
          clear hE c0 c1 c2
          go_upto_region 2 with fail
          go_quiet (fail)
          go_wp2_with fail
          go_ret
          exact ⟨by rw [HE.out]; rfl, gb_drewN Hg.out _⟩
      · have d1 : decide (x.f ≤ r.f) = false := decide_eq_false c1
        have hE : covB l r = false := by rw [HC.out]; exact decide_eq_false fun h => c1 h.2.1
        have HE := Lib.hid hE
        clear hE c0 c1
        go_upto_region 2 with fail
        go_quiet (fail)
        go_wp2_with fail
        go_ret
        exact ⟨by rw [HE.out]; rfl, gb_drewN Hg.out _⟩
    · have d0 : (x.d == r.d) = false := by rw [beq_eq_false_iff_ne]; exact c0
      have hE : covB l r = false := by rw [HC.out]; exact decide_eq_false fun h => c0 h.1
      have HE := Lib.hid hE
      clear hE c0
      go_upto_region 2 with fail
      go_quiet (fail)
      go_wp2_with fail
      go_ret
      exact ⟨by rw [HE.out]; rfl, gb_drewN Hg.out _⟩
  · have dq : decide (q < n) = false := decide_eq_false hq
    have dq2 : decide ((q : Int) < (n : Int)) = false := decide_eq_false (by omega)
    have HE : Hid (covB l r = false) := by
      have h := HC0.out
      rw [List.getElem?_eq_none (by rw [HL1.out.1]; omega)] at h; exact h
    clear HC0
    go_upto_region 2 with fail
    go_quiet (fail)
    go_wp2_with fail
    go_ret
    exact ⟨by rw [HE.out]; rfl, gb_drewN Hg.out _⟩
end Go.Proofs.YthijiefopcnclaaGreatDoor.Dt

namespace Go.Proofs.YthijiefopcnclaaGreatDoor.Dt
open Go Go.RowKit Go.Proofs.YthijiefopcnclaaGreatDoor.Mm Go.Proofs.YthijiefopcnclaaGreatDoor.Td

set_option maxHeartbeats 8000000 in
set_option maxRecDepth 100000 in
theorem pHas_any (A : Option Addr) (n c : Nat) (l : List Rn) (d m : Int) (w : World) (hl : RL w A n l) (ml : May l) (hn : n ≤ 100000) :
    Calls Tryz.prog 75 #[.slice A n c, .agg #[.int .i64 d, .int .i64 m]] w fun e w' => e = .returned (.bool (hasB l d m)) ∧ w.grownBy w' none := by
  have Hl := Lib.hid hl
  have Hml := Lib.hid ml
  clear hl ml
  rw [← cov_one]
  go_enter Tryz.func75, Tryz.ntmps75
  go_wp2_with (go_at_call 95; refine (single_any d m _).mono ?_; rintro e w1 ⟨rfl, g1⟩)
  have hg1 : w.grownBy w1 none := gb_none (gb_alloc (gb_refl w none) _) g1.gb
  have Hg1 := Lib.hid hg1
  have Hcov := Lib.hid (covers_any A n c l ⟨d, m, m⟩ w1 (Hl.out.keep hg1) Hml.out (Int.le_refl _) hn)
  clear hg1 g1
  go_wp2_with (go_at_call 94; refine Hcov.out.mono ?_; rintro e w2 ⟨rfl, g2⟩)
  go_ret
  exact ⟨rfl, gb_none Hg1.out g2⟩
end Go.Proofs.YthijiefopcnclaaGreatDoor.Dt
