/- Has, Le, Last. -/
import Derived.Test.YtkibojoochlggaaDtCov
namespace Go.Proofs.Ytkibojoochlggaa.Dt
open Go Go.RowKit Go.Proofs.Ytkibojoochlggaa.Mm Go.Proofs.Ytkibojoochlggaa.Td

set_option maxHeartbeats 8000000 in
set_option maxRecDepth 100000 in
theorem pHas_any (A : Option Addr) (n c : Nat) (l : List Rn) (d m : Int) (w : World) (hl : RL w A n l) (ml : May l) (hn : n ≤ 100000) :
    Calls Try.prog 15 #[.slice A n c, .agg #[.int .i64 d, .int .i64 m]] w fun e w' => e = .returned (.bool (hasB l d m)) ∧ w.grownBy w' none := by
  have Hl := Lib.hid hl
  have Hml := Lib.hid ml
  clear hl ml
  rw [← cov_one]
  go_enter Try.func15, Try.ntmps15
  go_wp2_with (go_at_call 28; refine (single_any d m _).mono ?_; rintro e w1 ⟨rfl, g1⟩)
  have hg1 : w.grownBy w1 none := gb_none (gb_alloc (gb_refl w none) _) g1.gb
  have Hg1 := Lib.hid hg1
  have Hcov := Lib.hid (covers_any A n c l ⟨d, m, m⟩ w1 (Hl.out.keep hg1) Hml.out (Int.le_refl _) hn)
  clear hg1 g1
  go_wp2_with (go_at_call 32; refine Hcov.out.mono ?_; rintro e w2 ⟨rfl, g2⟩)
  go_ret
  exact ⟨rfl, gb_none Hg1.out g2⟩

set_option maxHeartbeats 8000000 in
set_option maxRecDepth 100000 in
theorem pLe_any (A B : Option Addr) (n c m d : Nat) (a b : List Rn) (w : World) (ha : RL w A n a) (hb : RL w B m b) (ma : May a) (mb : May b) (hn : n ≤ 100000) (hm : m ≤ 100000) :
    Calls Try.prog 23 #[.slice A n c, .slice B m d] w fun e w' => e = .returned (.bool (leB a b)) ∧ w.grownBy w' none := by
  have Ha := Lib.hid ha
  have Hb := Lib.hid hb
  have Hma := Lib.hid ma
  have Hmb := Lib.hid mb
  clear ha hb ma mb
  go_enter Try.func23, Try.ntmps23
  go_wp2_with fail
  go_loopw [9] (fun i wr => ∃ k : Nat, k ≤ n ∧ i = .int .i64 k ∧ Hid (∀ x ∈ a.take k, covB b x = true) ∧ w.grownBy wr none) (fun i _ => n - (intOf i).toNat)
  case atStart => exact ⟨0, Nat.zero_le _, rfl, (by intro x hx; simp at hx), gb_refl _ _⟩
  case round =>
    obtain ⟨k, hk, rfl, HX, hg⟩ := hrel
    by_cases hlt : k < n
    · have d1 : decide (k < n) = true := decide_eq_true hlt
      have d2 : decide ((k : Int) < (n : Int)) = true := decide_eq_true (by omega)
      have bk : (k : Int) < (n : Int) := by omega
      have hRL := Ha.out.keep hg
      obtain ⟨g, o, rfl, hgl, _⟩ := hRL.2 (by omega)
      obtain ⟨x, hx⟩ : ∃ x, a[k]? = some x := ⟨_, List.getElem?_eq_getElem (by rw [Ha.out.1]; exact hlt)⟩
      obtain ⟨h0, h1, h2⟩ := rl_at3 hRL hx
      have hox := Hma.out.get hx
      have hxf : x.f ≤ x.t := hox.2.2.2.1
      have Hcov := Lib.hid (covers_any B m d b x (wr.alloc (.cells #[.int .i64 x.d, .int .i64 x.f, .int .i64 x.t] 41)) (Hb.out.keep (gb_alloc hg _)) Hmb.out hxf hm)
      have Hx := Lib.hid hx
      have Hg := Lib.hid (gb_alloc hg (.cells #[.int .i64 x.d, .int .i64 x.f, .int .i64 x.t] 41))
      obtain ⟨cv, hcv⟩ : ∃ cv : Bool, covB b x = cv := ⟨_, rfl⟩
      have Hcv := Lib.hid hcv
      clear hRL hx hox hxf hcv hg
      cases cv with
      | true =>
        go_wp2_with (go_at_call 32; refine Hcov.out.mono ?_; rintro e w1 ⟨he, g1⟩; rw [Hcv.out] at he; subst he)
        go_roundw
        case rel =>
          refine ⟨k + 1, by omega, by go_num, ?_, gb_none Hg.out g1⟩
          intro z hz
          rw [take_more Hx.out] at hz
          rcases List.mem_append.1 hz with hz | hz
          · exact HX.out z hz
          · rw [List.mem_singleton.1 hz]; exact Hcv.out
        case measure => simp [intOf]; omega
      | false =>
        have HE : Hid (leB a b = false) := by
          show _ = _
          rw [Bool.eq_false_iff]
          intro h
          have := (List.all_eq_true.1 h) x (List.mem_of_getElem? Hx.out)
          rw [Hcv.out] at this; cases this
        go_wp2_with (go_at_call 32; refine Hcov.out.mono ?_; rintro e w1 ⟨he, g1⟩; rw [Hcv.out] at he; subst he)
        go_ret
        exact ⟨by rw [HE.out]; rfl, gb_none Hg.out g1⟩
    · have hkn : k = n := by omega
      subst hkn
      have d1 : decide (k < k) = false := by simp
      have d2 : decide ((k : Int) < (k : Int)) = false := by simp
      have HE : Hid (leB a b = true) := by
        show _ = _
        have h := HX.out
        rw [take_all (by rw [Ha.out.1]; exact Nat.le_refl _)] at h
        exact List.all_eq_true.2 h
      have Hg := Lib.hid hg
      clear hg
      go_wp2_with fail
      go_ret
      exact ⟨by rw [HE.out]; rfl, Hg.out⟩

set_option maxHeartbeats 8000000 in
set_option maxRecDepth 100000 in
theorem lastC_any (ba bx g o n c i : Nat) (x : Rn) (dev : Int) (W0 : World) (hi : i < n) (ha : W0.cell? ⟨ba, 0, none⟩ = some (.slice (some ⟨g, o, none⟩) n c)) (hr : W0.cell? ⟨bx, 0, none⟩ = some (.int .i64 dev)) (hx : At3 W0 g (o + i * 3) x) :
    Calls Try.prog 36 #[.int .i64 (i : Int), .pointer (some ⟨ba, 0, none⟩), .pointer (some ⟨bx, 0, none⟩)] W0 fun e w' => e = .returned (.bool (decide (dev < x.d))) ∧ Gr W0 w' := by
  have bi : (i : Int) < (n : Int) := by omega
  obtain ⟨h0, h1, h2⟩ := hx
  obtain ⟨bv, hbv⟩ : ∃ bv : Bool, decide (dev < x.d) = bv := ⟨_, rfl⟩
  rw [hbv]
  go_enter Try.func36, Try.ntmps36
  go_upto_region 1 with fail
  go_quiet (fail)
  go_wp2_with fail
  go_ret
  exact ⟨rfl, (Gr.refl _).drewN _⟩

set_option maxHeartbeats 16000000 in
set_option maxRecDepth 100000 in
theorem pLast_any (A : Option Addr) (n c : Nat) (l : List Rn) (dev : Int) (w : World) (hl : RL w A n l) (ml : May l) (hn : n ≤ 100000) :
    Calls Try.prog 21 #[.slice A n c, .int .i64 dev] w fun e w' => e = .returned (.int .i64 (lastR dev l 0)) ∧ w.grownBy w' none := by
  obtain ⟨W0, hW0⟩ : ∃ W0, W0 = (w.alloc (.cells #[.slice A n c] 22)).alloc (.cells #[.int .i64 dev] 3) := ⟨_, rfl⟩
  have hsize : W0.heap.size = w.heap.size + 1 + 1 := by rw [hW0]; simp
  have ha0 : Row W0 w.heap.size 22 #[.slice A n c] := by rw [hW0]; exact (Row.new _ _ _).alloc _
  have hr0 : Row W0 (w.heap.size + 1) 3 #[.int .i64 dev] := by
    rw [hW0]
    have h := Row.new (w.alloc (.cells #[.slice A n c] 22)) 3 #[.int .i64 dev]
    rwa [World.size_alloc] at h
  have hg0 : w.grownBy W0 none := by rw [hW0]; exact gb_alloc (gb_alloc (gb_refl _ _) _) _
  have hl0 : RL W0 A n l := hl.keep hg0
  have eg : ∀ args w, (callFunc 36 args).run Try.prog w = .ok (.enter 36 args) w := enters_of Try.func36 (by kernel_rfl) rfl
  have hS := Any.sort_Search Try.search 36 #[.pointer (some ⟨w.heap.size, 0, none⟩), .pointer (some ⟨w.heap.size + 1, 0, none⟩)] n (gtDev l dev) W0 eg (by omega)
    (fun m os i hi => by
      have hgr : Gr W0 (Go.Sort.grow (W0.drewN m) os) := ⟨m, os, rfl⟩
      obtain ⟨g, o, rfl, hgl, _⟩ := hl0.2 (by omega)
      obtain ⟨x, hx⟩ : ∃ x, l[i]? = some x := ⟨_, List.getElem?_eq_getElem (by rw [hl0.1]; exact hi)⟩
      have hp : gtDev l dev i = decide (dev < x.d) := by unfold gtDev; rw [hx]
      rw [hp]
      exact lastC_any w.heap.size (w.heap.size + 1) g o n c i x dev _ hi ((ha0.kept hgr.gb (by simp)).at_ (i := 0) rfl) ((hr0.kept hgr.gb (by simp)).at_ (i := 0) rfl) ((rl_at3 hl0 hx).keep hgl hgr.gb))
    (by have h := gtDev_mono ml dev; rwa [hl0.1] at h)
  obtain ⟨k1, k2, k3⟩ := count_mono (gtDev l dev) n (by have h := gtDev_mono ml dev; rwa [hl0.1] at h)
  change Calls Try.prog 35 _ _ _ at hS
  generalize (List.range n).countP (fun i => !gtDev l dev i) = q at *
  have Ha0 := Lib.hid ha0
  have Hr0 := Lib.hid hr0
  have Hg0 := Lib.hid hg0
  have Hl0 := Lib.hid hl0
  have K2 := Lib.hid k2
  have K3 := Lib.hid k3
  have HS := Lib.hid hS
  have Hml := Lib.hid ml
  have HW0 := Lib.hid hW0
  clear hl ml ha0 hr0 hg0 hl0 k2 k3 eg hsize hS hW0
  go_enter Try.func21, Try.ntmps21
  go_upto_region 2 with (go_at_call 35; rw [← HW0.out]; refine HS.out.mono ?_; rintro e w1 ⟨rfl, q1, os1, rfl⟩)
  obtain ⟨W1, hW1⟩ : ∃ W1, Go.Sort.grow (W0.drewN q1) os1 = W1 := ⟨_, rfl⟩
  have hgr : Gr W0 W1 := ⟨q1, os1, hW1.symm⟩
  rw [hW1]
  have Hg : Hid (w.grownBy W1 none) := gb_none Hg0.out hgr.gb
  have ca := (Ha0.out.kept hgr.gb (by simp)).at_ (i := 0) rfl
  have cd := (Hr0.out.kept hgr.gb (by simp)).at_ (i := 0) rfl
  have HL1 : Hid (RL W1 A n l) := Hl0.out.keep hgr.gb
  clear hW1 hgr HW0 Hg0 Ha0 Hr0 Hl0 HS
  rcases q with _ | q
  · have HE : Hid (lastR dev l 0 = 0) := last_none fun r hr e => by
      obtain ⟨i, hi⟩ := List.getElem?_of_mem hr
      have hil : i < l.length := (List.getElem?_eq_some_iff.1 hi).1
      have := K3.out i (Nat.zero_le _) (by rw [← HL1.out.1]; exact hil)
      unfold gtDev at this
      rw [hi] at this
      simp only [decide_eq_true_eq] at this
      omega
    go_upto_region 2 with fail
    go_quiet (fail)
    go_wp2_with fail
    go_ret
    exact ⟨by rw [HE.out]; rfl, gb_drewN Hg.out _⟩
  · obtain ⟨g, o, rfl, hgl, _⟩ := HL1.out.2 (by omega)
    obtain ⟨x, hx⟩ : ∃ x, l[q]? = some x := ⟨_, List.getElem?_eq_getElem (by rw [HL1.out.1]; omega)⟩
    obtain ⟨x0, x1, x2⟩ := rl_at3 HL1.out hx
    have hle : x.d ≤ dev := by
      have := K2.out q (by omega)
      unfold gtDev at this
      rw [hx] at this
      simp only [decide_eq_false_iff_not] at this
      omega
    have HE : Hid (lastR dev l 0 = if x.d = dev then x.t else 0) := last_at Hml.out (fun k h1 h2 => K3.out k h1 (by rw [← HL1.out.1]; exact h2)) hx hle
    have z1 : ((q : Int) + 1 == 0) = false := by rw [beq_eq_false_iff_ne]; omega
    have z2 : IntKind.i64.wrap (q : Int) = (q : Int) := by rw [IntKind.wrap_i64]; omega
    have z3 : (q : Int) < (n : Int) := by omega
    have z4 : IntKind.i64.wrap ((q : Int) + 1 - 1) = (q : Int) := by rw [IntKind.wrap_i64]; omega
    have z5 : (((q + 1 : Nat) : Int) == 0) = false := by rw [beq_eq_false_iff_ne]; omega
    clear hx hle
    by_cases e : x.d = dev
    · have n1 : (x.d != dev) = false := by rw [e]; simp
      have HE2 : Hid (lastR dev l 0 = x.t) := by show _ = _; rw [HE.out, if_pos e]
      clear e HE
      go_upto_region 2 with fail
      go_quiet (fail)
      go_wp2_with fail
      go_ret
      exact ⟨by rw [HE2.out]; rfl, gb_drewN Hg.out _⟩
    · have n1 : (x.d != dev) = true := by simp [e]
      have HE2 : Hid (lastR dev l 0 = 0) := by show _ = _; rw [HE.out, if_neg e]
      clear e HE
      go_upto_region 2 with fail
      go_quiet (fail)
      go_wp2_with fail
      go_ret
      exact ⟨by rw [HE2.out]; rfl, gb_drewN Hg.out _⟩
end Go.Proofs.Ytkibojoochlggaa.Dt
