/- The program's small functions over runs: what they answer, and that they only make memory. -/
import Derived.Test.YtblndpfgfakdeaaDtMem
import Derived.Test.YtblndpfgfakdeaaDtPure
import Derived.Test.YtblndpfgfakdeaaTold
import Derived.Sort.Grow
import Derived.Lib.SmallJoins
namespace Go.Proofs.Ytblndpfgfakdeaa.Dt
open Go Go.RowKit Go.Proofs.Ytblndpfgfakdeaa.Mm Go.Proofs.Ytblndpfgfakdeaa.Td

/-- Blocks and draws alone. -/
def Gr (w w' : World) : Prop := ∃ q os, w' = Go.Sort.grow (w.drewN q) os
theorem Gr.refl (w : World) : Gr w w := ⟨0, #[], by simp [Go.Sort.grow_empty, World.drewN]⟩
theorem Gr.trans {a b c : World} (h : Gr a b) (k : Gr b c) : Gr a c := by
  obtain ⟨q, os, rfl⟩ := h
  obtain ⟨q', os', rfl⟩ := k
  refine ⟨q + q', os ++ os', ?_⟩
  simp [Go.Sort.grow, World.drewN, Array.append_assoc, Nat.add_assoc]
theorem Gr.alloc {a b : World} (h : Gr a b) (o : Obj) : Gr a (b.alloc o) := h.trans ⟨0, #[o], by rw [Go.Sort.alloc_eq_grow]; simp [World.drewN]⟩
theorem Gr.drewN {a b : World} (h : Gr a b) (n : Nat) : Gr a (b.drewN n) := h.trans ⟨n, #[], by simp [Go.Sort.grow_empty]⟩
theorem Gr.drew {a b : World} (h : Gr a b) : Gr a b.drew := h.drewN 1
theorem Gr.gb {a b : World} (h : Gr a b) : a.grownBy b none := by
  obtain ⟨q, os, rfl⟩ := h
  exact ⟨rfl, rfl, rfl, by simp [World.drewN], fun k hk _ => Go.Sort.heap_grow_old (a.drewN q) os hk⟩

/-- A run as a value. -/
def V (r : Rn) : Value := .agg #[.int .i64 r.d, .int .i64 r.f, .int .i64 r.t]
set_option maxHeartbeats 8000000 in
set_option maxRecDepth 100000 in
theorem stands_any (r : Rn) (w : World) : Calls Try.prog 69 #[.agg #[.int .i64 r.d, .int .i64 r.f, .int .i64 r.t]] w fun e w' => e = .returned (.bool (decide (Ok r))) ∧ Gr w w' := by
  go_enter Try.func69, Try.ntmps69
  by_cases e0 : 0 ≤ r.d
  · have d0 : decide (0 ≤ r.d) = true := decide_eq_true e0
    by_cases e1 : r.d < 8
    · have d1 : decide (r.d < 8) = true := decide_eq_true e1
      by_cases e2 : 1 ≤ r.f
      · have d2 : decide (1 ≤ r.f) = true := decide_eq_true e2
        by_cases e3 : r.f ≤ r.t
        · have d3 : decide (r.f ≤ r.t) = true := decide_eq_true e3
          by_cases e4 : r.t ≤ 4503599627370496
          · have d4 : decide (r.t ≤ 4503599627370496) = true := decide_eq_true e4
            have hE : decide (Ok r) = true := decide_eq_true ⟨e0, e1, e2, e3, e4⟩
            rw [hE]
            clear hE e0 e1 e2 e3 e4
            go_wp2_with fail
            go_ret
            exact ⟨rfl, (Gr.refl w).alloc _⟩
          · have d4 : decide (r.t ≤ 4503599627370496) = false := decide_eq_false e4
            have hE : decide (Ok r) = false := decide_eq_false fun h => e4 h.2.2.2.2
            rw [hE]
            clear hE e0 e1 e2 e3 e4
            go_wp2_with fail
            go_ret
            exact ⟨rfl, (Gr.refl w).alloc _⟩
        · have d3 : decide (r.f ≤ r.t) = false := decide_eq_false e3
          have hE : decide (Ok r) = false := decide_eq_false fun h => e3 h.2.2.2.1
          rw [hE]
          clear hE e0 e1 e2 e3
          go_wp2_with fail
          go_ret
          exact ⟨rfl, (Gr.refl w).alloc _⟩
      · have d2 : decide (1 ≤ r.f) = false := decide_eq_false e2
        have hE : decide (Ok r) = false := decide_eq_false fun h => e2 h.2.2.1
        rw [hE]
        clear hE e0 e1 e2
        go_wp2_with fail
        go_ret
        exact ⟨rfl, (Gr.refl w).alloc _⟩
    · have d1 : decide (r.d < 8) = false := decide_eq_false e1
      have hE : decide (Ok r) = false := decide_eq_false fun h => e1 h.2.1
      rw [hE]
      clear hE e0 e1
      go_wp2_with fail
      go_ret
      exact ⟨rfl, (Gr.refl w).alloc _⟩
  · have d0 : decide (0 ≤ r.d) = false := decide_eq_false e0
    have hE : decide (Ok r) = false := decide_eq_false fun h => e0 h.1
    rw [hE]
    clear hE e0
    go_wp2_with fail
    go_ret
    exact ⟨rfl, (Gr.refl w).alloc _⟩
set_option maxHeartbeats 8000000 in
set_option maxRecDepth 100000 in
theorem ahead_any (r s : Rn) (w : World) : Calls Try.prog 82 #[.agg #[.int .i64 r.d, .int .i64 r.f, .int .i64 r.t], .agg #[.int .i64 s.d, .int .i64 s.f, .int .i64 s.t]] w fun e w' => e = .returned (.bool (decide (Ahd r s))) ∧ Gr w w' := by
  go_enter Try.func82, Try.ntmps82
  by_cases e0 : r.d < s.d
  · have d0 : decide (r.d < s.d) = true := decide_eq_true e0
    have hE : decide (Ahd r s) = true := decide_eq_true (.inl e0)
    rw [hE]
    clear hE e0
    go_wp2_with fail
    go_ret
    exact ⟨rfl, (((Gr.refl w).alloc _).alloc _)⟩
  · have d0 : decide (r.d < s.d) = false := decide_eq_false e0
    by_cases e1 : r.d = s.d
    · have d1 : (r.d == s.d) = true := by rw [e1]; simp
      by_cases e2 : r.t < s.f
      · have d2 : decide (r.t < s.f) = true := decide_eq_true e2
        have hE : decide (Ahd r s) = true := decide_eq_true (.inr ⟨e1, e2⟩)
        rw [hE]
        clear hE e0 e1 e2
        go_wp2_with fail
        go_ret
        exact ⟨rfl, (((Gr.refl w).alloc _).alloc _)⟩
      · have d2 : decide (r.t < s.f) = false := decide_eq_false e2
        have hE : decide (Ahd r s) = false := decide_eq_false fun h => h.elim e0 fun h => e2 h.2
        rw [hE]
        clear hE e0 e1 e2
        go_wp2_with fail
        go_ret
        exact ⟨rfl, (((Gr.refl w).alloc _).alloc _)⟩
    · have d1 : (r.d == s.d) = false := by rw [beq_eq_false_iff_ne]; exact e1
      have hE : decide (Ahd r s) = false := decide_eq_false fun h => h.elim e0 fun h => e1 h.1
      rw [hE]
      clear hE e0 e1
      go_wp2_with fail
      go_ret
      exact ⟨rfl, (((Gr.refl w).alloc _).alloc _)⟩
set_option maxHeartbeats 8000000 in
set_option maxRecDepth 100000 in
theorem apart_any (r s : Rn) (w : World) (hr : Ok r) (hs : Ok s) : Calls Try.prog 70 #[.agg #[.int .i64 r.d, .int .i64 r.f, .int .i64 r.t], .agg #[.int .i64 s.d, .int .i64 s.f, .int .i64 s.t]] w fun e w' => e = .returned (.bool (decide (Bef r s))) ∧ Gr w w' := by
  have hw : IntKind.i64.wrap (s.f - r.t) = s.f - r.t := by obtain ⟨_, _, _, _, _⟩ := hr; obtain ⟨_, _, _, _, _⟩ := hs; rw [IntKind.wrap_i64]; omega
  have b1 : -4503599627370497 ≤ s.f - r.t := by obtain ⟨_, _, _, _, _⟩ := hr; obtain ⟨_, _, _, _, _⟩ := hs; omega
  have b2 : s.f - r.t ≤ 4503599627370497 := by obtain ⟨_, _, _, _, _⟩ := hr; obtain ⟨_, _, _, _, _⟩ := hs; omega
  clear hr hs
  go_enter Try.func70, Try.ntmps70
  by_cases e0 : r.d < s.d
  · have d0 : decide (r.d < s.d) = true := decide_eq_true e0
    have hE : decide (Bef r s) = true := decide_eq_true (.inl e0)
    rw [hE]
    clear hE e0
    go_wp2_with fail
    go_ret
    exact ⟨rfl, (((Gr.refl w).alloc _).alloc _)⟩
  · have d0 : decide (r.d < s.d) = false := decide_eq_false e0
    by_cases e1 : r.d = s.d
    · have d1 : (r.d == s.d) = true := by rw [e1]; simp
      by_cases e2 : r.t + 1 < s.f
      · have d2 : decide (1 < s.f - r.t) = true := decide_eq_true (by omega)
        have hE : decide (Bef r s) = true := decide_eq_true (.inr ⟨e1, e2⟩)
        rw [hE]
        clear hE e0 e1 e2
        go_wp2_with fail
        go_ret
        exact ⟨rfl, (((Gr.refl w).alloc _).alloc _)⟩
      · have d2 : decide (1 < s.f - r.t) = false := decide_eq_false (by omega)
        have hE : decide (Bef r s) = false := decide_eq_false fun h => h.elim e0 fun h => e2 h.2
        rw [hE]
        clear hE e0 e1 e2
        go_wp2_with fail
        go_ret
        exact ⟨rfl, (((Gr.refl w).alloc _).alloc _)⟩
    · have d1 : (r.d == s.d) = false := by rw [beq_eq_false_iff_ne]; exact e1
      have hE : decide (Bef r s) = false := decide_eq_false fun h => h.elim e0 fun h => e1 h.1
      rw [hE]
      clear hE e0 e1
      go_wp2_with fail
      go_ret
      exact ⟨rfl, (((Gr.refl w).alloc _).alloc _)⟩
set_option maxHeartbeats 8000000 in
set_option maxRecDepth 100000 in
theorem single_any (d n : Int) (w : World) : Calls Try.prog 72 #[.agg #[.int .i64 d, .int .i64 n]] w fun e w' => e = .returned (.agg #[.int .i64 d, .int .i64 n, .int .i64 n]) ∧ Gr w w' := by
  go_enter Try.func72, Try.ntmps72
  go_wp2_with fail
  have hrow : Row ((w.alloc (.cells #[.int .i64 d, .int .i64 n] 35)).alloc (.cells #[.int .i64 d, .int .i64 n, .int .i64 n] 56)) (w.heap.size + 1) 56 #[.int .i64 d, .int .i64 n, .int .i64 n] := by
    have h := Row.new (w.alloc (.cells #[.int .i64 d, .int .i64 n] 35)) 56 #[.int .i64 d, .int .i64 n, .int .i64 n]
    rwa [World.size_alloc] at h
  refine bodyPost_ret (v := .agg #[.int .i64 d, .int .i64 n, .int .i64 n]) (by simp [results, Try.results72, go_sem, hrow.at_ (i := 0) rfl, hrow.at_ (i := 1) rfl, hrow.at_ (i := 2) rfl]) rfl ?_
  exact ⟨rfl, ((Gr.refl w).alloc _).alloc _⟩
end Go.Proofs.Ytblndpfgfakdeaa.Dt
