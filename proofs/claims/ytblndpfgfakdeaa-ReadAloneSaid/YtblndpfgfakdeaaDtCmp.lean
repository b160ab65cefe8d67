/- byBegin. -/
import Derived.Test.YtblndpfgfakdeaaDtCmpI
namespace Go.Proofs.Ytblndpfgfakdeaa.Dt
open Go Go.RowKit Go.Proofs.Ytblndpfgfakdeaa.Mm Go.Proofs.Ytblndpfgfakdeaa.Td

/-- The order of where runs begin. -/
def byB (r s : Rn) : Int := orI (cmpI r.d s.d) (cmpI r.f s.f)
theorem byB_neg (r s : Rn) : byB r s < 0 ↔ r.d < s.d ∨ (r.d = s.d ∧ r.f < s.f) := by
  unfold byB orI cmpI
  by_cases h1 : r.d < s.d
  · simp [h1]
  · by_cases h2 : s.d < r.d
    · simp [h1, h2]; omega
    · have e : r.d = s.d := by omega
      by_cases h3 : r.f < s.f
      · simp [h1, h2, h3]; omega
      · by_cases h4 : s.f < r.f
        · simp [h1, h2, h3, h4]
        · simp [h1, h2, h3, h4]
attribute [local go_sem] Td.upon_value Td.upon_skip Td.upon_enter Td.upon_row Td.look_tmp Td.look_const Td.look_func Td.look_global
set_option maxHeartbeats 8000000 in
set_option maxRecDepth 100000 in
theorem byBegin_any (r s : Rn) (w : World) : Calls Try.prog 75 #[.agg #[.int .i64 r.d, .int .i64 r.f, .int .i64 r.t], .agg #[.int .i64 s.d, .int .i64 s.f, .int .i64 s.t]] w fun e w' => e = .returned (.int .i64 (byB r s)) ∧ Gr w w' := by
  have hE : byB r s = orI (cmpI r.d s.d) (cmpI r.f s.f) := rfl
  rw [hE]
  clear hE
  go_enter Try.func75, Try.ntmps75
  go_upto_region 1 with fail
  obtain ⟨W0, hW0⟩ : ∃ W0, (w.alloc (.cells #[.int .i64 r.d, .int .i64 r.f, .int .i64 r.t] 56)).alloc (.cells #[.int .i64 s.d, .int .i64 s.f, .int .i64 s.t] 56) = W0 := ⟨_, rfl⟩
  have hr0 : Row W0 w.heap.size 56 #[.int .i64 r.d, .int .i64 r.f, .int .i64 r.t] := by rw [← hW0]; exact (Row.new _ _ _).alloc _
  have hs0 : Row W0 (w.heap.size + 1) 56 #[.int .i64 s.d, .int .i64 s.f, .int .i64 s.t] := by
    rw [← hW0]
    have h := Row.new (w.alloc (.cells #[.int .i64 r.d, .int .i64 r.f, .int .i64 r.t] 56)) 56 #[.int .i64 s.d, .int .i64 s.f, .int .i64 s.t]
    rwa [World.size_alloc] at h
  have HG : Hid (Gr w W0) := by show Gr w W0; rw [← hW0]; exact ((Gr.refl w).alloc _).alloc _
  have HR0 : Hid (∀ W, Gr W0 W → W.cell? ⟨w.heap.size, 0, none⟩ = some (.int .i64 r.d)) := fun W hW => (hr0.kept hW.gb (by simp)).at_ (i := 0) rfl
  have HR1 : Hid (∀ W, Gr W0 W → W.cell? ⟨w.heap.size, 1, none⟩ = some (.int .i64 r.f)) := fun W hW => (hr0.kept hW.gb (by simp)).at_ (i := 1) rfl
  have HS0 : Hid (∀ W, Gr W0 W → W.cell? ⟨w.heap.size + 1, 0, none⟩ = some (.int .i64 s.d)) := fun W hW => (hs0.kept hW.gb (by simp)).at_ (i := 0) rfl
  have HS1 : Hid (∀ W, Gr W0 W → W.cell? ⟨w.heap.size + 1, 1, none⟩ = some (.int .i64 s.f)) := fun W hW => (hs0.kept hW.gb (by simp)).at_ (i := 1) rfl
  rw [hW0]
  clear hW0 hr0 hs0
  apply wp_region_told (le := Gr) [isV _, isV _, isV _, isV _, isV _, isV _, isV _, isV _, isV _, isV _, twoV (cmpI r.d s.d) (cmpI r.f s.f), isV _, isV _]
  case hn => rfl
  case hm => kernel_rfl
  case hB => kernel_rfl
  case ht => exact fun _ _ _ h k => Gr.trans h k
  case hw => exact (Gr.refl _).drew
  -- 0: run.go:22 fieldAddr
  apply told_is
  · intro W f hW hE h0 K hK
    have e2 := h0 2 (by kernel_rfl)
    conv at e2 => rhs; whnf
    clear hE h0
    refine yes_of (want_free rfl) ?_
    go_simp; exact hK _ _ (Gr.refl _) rfl
  -- 1: run.go:22 load
  apply told_is
  · intro W f hW hE h0 K hK
    have e5 : f 5 = _ := hE 0 5 _ rfl (by kernel_rfl)
    clear hE h0
    refine yes_of (want_free rfl) ?_
    have hc := HR0.out W hW
    go_simp; exact hK _ _ (Gr.refl _) rfl
  -- 2: run.go:22 fieldAddr
  apply told_is
  · intro W f hW hE h0 K hK
    have e3 := h0 3 (by kernel_rfl)
    conv at e3 => rhs; whnf
    clear hE h0
    refine yes_of (want_free rfl) ?_
    go_simp; exact hK _ _ (Gr.refl _) rfl
  -- 3: run.go:22 load
  apply told_is
  · intro W f hW hE h0 K hK
    have e7 : f 7 = _ := hE 0 7 _ rfl (by kernel_rfl)
    clear hE h0
    refine yes_of (want_free rfl) ?_
    have hc := HS0.out W hW
    go_simp; exact hK _ _ (Gr.refl _) rfl
  -- 4: run.go:22 call
  apply told_is
  · intro W f hW hE h0 K hK
    have e6 : f 6 = _ := hE 2 6 _ rfl (by kernel_rfl)
    have e8 : f 8 = _ := hE 0 8 _ rfl (by kernel_rfl)
    clear hE h0
    refine yes_of (want_free rfl) ?_
    go_simp
    refine (compare_any r.d s.d _).mono ?_
    rintro e w1 ⟨rfl, rfl⟩
    exact ⟨_, rfl, hK _ _ (Gr.refl _) rfl⟩
  -- 5: run.go:22 fieldAddr
  apply told_is
  · intro W f hW hE h0 K hK
    have e2 := h0 2 (by kernel_rfl)
    conv at e2 => rhs; whnf
    clear hE h0
    refine yes_of (want_free rfl) ?_
    go_simp; exact hK _ _ (Gr.refl _) rfl
  -- 6: run.go:22 load
  apply told_is
  · intro W f hW hE h0 K hK
    have e10 : f 10 = _ := hE 0 10 _ rfl (by kernel_rfl)
    clear hE h0
    refine yes_of (want_free rfl) ?_
    have hc := HR1.out W hW
    go_simp; exact hK _ _ (Gr.refl _) rfl
  -- 7: run.go:22 fieldAddr
  apply told_is
  · intro W f hW hE h0 K hK
    have e3 := h0 3 (by kernel_rfl)
    conv at e3 => rhs; whnf
    clear hE h0
    refine yes_of (want_free rfl) ?_
    go_simp; exact hK _ _ (Gr.refl _) rfl
  -- 8: run.go:22 load
  apply told_is
  · intro W f hW hE h0 K hK
    have e12 : f 12 = _ := hE 0 12 _ rfl (by kernel_rfl)
    clear hE h0
    refine yes_of (want_free rfl) ?_
    have hc := HS1.out W hW
    go_simp; exact hK _ _ (Gr.refl _) rfl
  -- 9: run.go:22 call
  apply told_is
  · intro W f hW hE h0 K hK
    have e11 : f 11 = _ := hE 2 11 _ rfl (by kernel_rfl)
    have e13 : f 13 = _ := hE 0 13 _ rfl (by kernel_rfl)
    clear hE h0
    refine yes_of (want_free rfl) ?_
    go_simp
    refine (compare_any r.f s.f _).mono ?_
    rintro e w1 ⟨rfl, rfl⟩
    exact ⟨_, rfl, hK _ _ (Gr.refl _) rfl⟩
  -- 10: run.go:22 buildSlice
  apply told_at twoV_stays
  · intro W f hW hE h0 K hK
    have e9 : f 9 = _ := hE 5 9 _ rfl (by kernel_rfl)
    have e14 : f 14 = _ := hE 0 14 _ rfl (by kernel_rfl)
    clear hE h0
    refine yes_of (want_free rfl) ?_
    go_simp
    exact hK _ _ ((Gr.refl _).alloc _) ⟨_, rfl, Row.new _ _ _⟩
  -- 11: run.go:22 call
  apply told_is
  · intro W f hW hE h0 K hK
    have e15 := hE 0 15 _ rfl (by kernel_rfl)
    clear hE h0
    refine yes_of (want_free rfl) ?_
    obtain ⟨g, ev, hr⟩ := e15
    go_simp
    refine (or_any g (cmpI r.d s.d) (cmpI r.f s.f) _ hr).mono ?_
    rintro e w1 ⟨rfl, rfl⟩
    exact ⟨_, rfl, hK _ _ (Gr.refl _) rfl⟩
  -- 12: run.go:22 assign
  apply told_is
  · intro W f hW hE h0 K hK
    have e16 : f 16 = _ := hE 0 16 _ rfl (by kernel_rfl)
    clear hE h0
    refine yes_of (want_free rfl) ?_
    go_simp; exact hK _ _ (Gr.refl _) rfl
  intro W f hW hA
  simp only [lexIn, Act.put, List.setIfInBounds_toArray, List.set_cons_zero, List.set_cons_succ]
  have e4 : f 4 = _ := hA 0 (some 4) _ rfl
  rw [e4]
  clear hA
  go_wp2_with fail
  go_ret
  exact ⟨rfl, HG.out.trans hW⟩
end Go.Proofs.Ytblndpfgfakdeaa.Dt
