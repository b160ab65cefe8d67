/- Package snap: runs, facts, lists of them as wires; check; Put. Written by gen_snput.py. -/
import Derived.Test.YthijiefopcnclaaGreatDoorSnG
import Derived.Test.YthijiefopcnclaaGreatDoorSpErr
import Derived.Test.YthijiefopcnclaaGreatDoorFtMay
import Derived.Test.YthijiefopcnclaaGreatDoorTdA
import Derived.Deep.DeepCutAuto
set_option linter.unusedVariables false
namespace Go.Proofs.YthijiefopcnclaaGreatDoor.Dt
open Go Go.RowKit Go.Proofs.YthijiefopcnclaaGreatDoor.Mm Go.Proofs.YthijiefopcnclaaGreatDoor.Td Go.Proofs.YthijiefopcnclaaGreatDoor.Vw

def nV (n N : Nat) (l : List Wr) : Td.Spec := fun W v => ∃ g, v = .slice (some ⟨g, 0, none⟩) n n ∧ HL W N (.slice (some ⟨g, 0, none⟩) n n) l
theorem nV_stays {n N : Nat} {l : List Wr} : Stays (fun a b => a.grownBy b none) (nV n N l) := fun _ _ _ h ⟨g, e, hl⟩ => ⟨g, e, hl.kept h⟩
theorem hl_three (x y z : Int) (w : World) : HL (w.alloc (.cells #[.int .i64 1, .int .i64 x, .string ⟨#[]⟩, .slice none 0 0, .int .i64 1, .int .i64 y, .string ⟨#[]⟩, .slice none 0 0, .int .i64 1, .int .i64 z, .string ⟨#[]⟩, .slice none 0 0] 60)) w.heap.size (.slice (some ⟨w.heap.size, 0, none⟩) 3 3) [nW x, nW y, nW z] :=
  hl_new w [(nW x, .slice none 0 0), (nW y, .slice none 0 0), (nW z, .slice none 0 0)] 3 _ rfl rfl (by decide) (fun q hq => by
    simp only [List.mem_cons, List.not_mem_nil, or_false] at hq
    rcases hq with rfl | rfl | rfl <;> exact .nil _ _)
attribute [local go_sem] Td.upon_value Td.upon_skip Td.upon_enter Td.upon_row Td.look_tmp Td.look_const Td.look_func Td.look_global
set_option maxHeartbeats 8000000 in
set_option maxRecDepth 100000 in
theorem runWire_any (r : Rn) (w : World) : Calls Tryz.prog 26 #[.agg #[.int .i64 r.d, .int .i64 r.f, .int .i64 r.t]] w (ListV [nW r.d, nW r.f, nW r.t] w) := by
  obtain ⟨b0, hb0⟩ : ∃ b0, w.heap.size = b0 := ⟨_, rfl⟩
  obtain ⟨h0, hh0⟩ : ∃ h0, b0 + 1 = h0 := ⟨_, rfl⟩
  obtain ⟨W0, hW0⟩ : ∃ W0, (w.alloc (.cells #[.int .i64 r.d, .int .i64 r.f, .int .i64 r.t] 50)).alloc (.cells #[.int .i64 0, .int .i64 0, .string ⟨#[]⟩, .slice none 0 0] 60) = W0 := ⟨_, rfl⟩
  have G0 : w.grownBy W0 none := by rw [← hW0]; exact gb_alloc (gb_alloc (gb_refl _ _) _) _
  have HR0 : Hid (Row W0 h0 60 #[.int .i64 0, .int .i64 0, .string ⟨#[]⟩, .slice none 0 0]) := by
    rw [← hW0, ← hh0, ← hb0]
    have h := Row.new (w.alloc (.cells #[.int .i64 r.d, .int .i64 r.f, .int .i64 r.t] 50)) 60 #[.int .i64 0, .int .i64 0, .string ⟨#[]⟩, .slice none 0 0]
    rw [World.size_alloc] at h
    exact h
  have HRb0 : Hid (Row W0 b0 50 #[.int .i64 r.d, .int .i64 r.f, .int .i64 r.t]) := by rw [← hW0, ← hb0]; exact (Row.new _ _ _).alloc _
  have Hh0 : Hid (w.heap.size ≤ h0) := by show _ ≤ _; omega
  have HS : Hid (∀ W, W0.grownBy W none → h0 + 1 ≤ W.heap.size) := fun W hW => (HR0.out.kept hW (by simp)).lt
  have HX : Hid (∀ W, W0.grownBy W none → W.cell? ⟨b0, 0, none⟩ = some (.int .i64 r.d) ∧ W.cell? ⟨b0, 1, none⟩ = some (.int .i64 r.f) ∧ W.cell? ⟨b0, 2, none⟩ = some (.int .i64 r.t)) := fun W hW => by
    have k := HRb0.out.kept hW (by simp)
    exact ⟨k.at_ (i := 0) rfl, k.at_ (i := 1) rfl, k.at_ (i := 2) rfl⟩
  have HG := Lib.hid G0
  clear G0
  go_enter Tryz.func26, Tryz.ntmps26
  go_upto_region 1 with fail
  clear hW0 hh0 hb0
  apply wp_region_told_tail (le := fun a b => a.grownBy b none) 11 _ [isV _, isV _, isV _, isV _, isV _, isV _, isV _, isV _, isV _, nV 3 (h0 + 1) [nW r.d, nW r.f, nW r.t], wireV (h0 + 1) [nW r.d, nW r.f, nW r.t]]
  case hL => rfl
  case hz => rfl
  case hLd => rfl
  case hLg => rfl
  case hLw => kernel_rfl
  case hlen => rfl
  case hn => rfl
  case hm => kernel_rfl
  case hB => kernel_rfl
  case ht => exact fun _ _ _ h k => gb_none h k
  case hw => exact gb_drew (gb_refl _ _)
  -- 0: snap.go:55 fieldAddr
  apply told_is
  · intro W f hW hE h0 K hK
    have e1 := h0 1 (by kernel_rfl)
    conv at e1 => rhs; whnf
    clear hE h0
    refine yes_of (want_free rfl) ?_
    go_simp; exact hK _ _ (gb_refl _ _) rfl
  -- 1: snap.go:55 load
  apply told_is
  · intro W f hW hE h0 K hK
    have e3 : f 3 = _ := hE 0 3 _ rfl (by kernel_rfl)
    clear hE h0
    refine yes_of (want_free rfl) ?_
    obtain ⟨c0, c1, c2⟩ := HX.out W hW
    go_simp; exact hK _ _ (gb_refl _ _) rfl
  -- 2: snap.go:55 call
  apply told_is
  · intro W f hW hE h0 K hK
    have e4 : f 4 = _ := hE 0 4 _ rfl (by kernel_rfl)
    clear hE h0
    refine yes_of (want_free rfl) ?_
    go_simp
    refine (num_any r.d W).mono ?_
    rintro e w1' ⟨rfl, g'⟩
    exact ⟨_, rfl, hK _ _ g' rfl⟩
  -- 3: snap.go:55 fieldAddr
  apply told_is
  · intro W f hW hE h0 K hK
    have e1 := h0 1 (by kernel_rfl)
    conv at e1 => rhs; whnf
    clear hE h0
    refine yes_of (want_free rfl) ?_
    go_simp; exact hK _ _ (gb_refl _ _) rfl
  -- 4: snap.go:55 load
  apply told_is
  · intro W f hW hE h0 K hK
    have e6 : f 6 = _ := hE 0 6 _ rfl (by kernel_rfl)
    clear hE h0
    refine yes_of (want_free rfl) ?_
    obtain ⟨c0, c1, c2⟩ := HX.out W hW
    go_simp; exact hK _ _ (gb_refl _ _) rfl
  -- 5: snap.go:55 call
  apply told_is
  · intro W f hW hE h0 K hK
    have e7 : f 7 = _ := hE 0 7 _ rfl (by kernel_rfl)
    clear hE h0
    refine yes_of (want_free rfl) ?_
    go_simp
    refine (num_any r.f W).mono ?_
    rintro e w1' ⟨rfl, g'⟩
    exact ⟨_, rfl, hK _ _ g' rfl⟩
  -- 6: snap.go:55 fieldAddr
  apply told_is
  · intro W f hW hE h0 K hK
    have e1 := h0 1 (by kernel_rfl)
    conv at e1 => rhs; whnf
    clear hE h0
    refine yes_of (want_free rfl) ?_
    go_simp; exact hK _ _ (gb_refl _ _) rfl
  -- 7: snap.go:55 load
  apply told_is
  · intro W f hW hE h0 K hK
    have e9 : f 9 = _ := hE 0 9 _ rfl (by kernel_rfl)
    clear hE h0
    refine yes_of (want_free rfl) ?_
    obtain ⟨c0, c1, c2⟩ := HX.out W hW
    go_simp; exact hK _ _ (gb_refl _ _) rfl
  -- 8: snap.go:55 call
  apply told_is
  · intro W f hW hE h0 K hK
    have e10 : f 10 = _ := hE 0 10 _ rfl (by kernel_rfl)
    clear hE h0
    refine yes_of (want_free rfl) ?_
    go_simp
    refine (num_any r.t W).mono ?_
    rintro e w1' ⟨rfl, g'⟩
    exact ⟨_, rfl, hK _ _ g' rfl⟩
  -- 9: snap.go:55 buildSlice
  apply told_at nV_stays
  · intro W f hW hE h0 K hK
    have e5 : f 5 = _ := hE 6 5 _ rfl (by kernel_rfl)
    have e8 : f 8 = _ := hE 3 8 _ rfl (by kernel_rfl)
    have e11 : f 11 = _ := hE 0 11 _ rfl (by kernel_rfl)
    clear hE h0
    refine yes_of (want_free rfl) ?_
    go_simp
    exact hK _ _ (gb_alloc (gb_refl _ _) _) ⟨_, rfl, (hl_three r.d r.f r.t W).low (HS.out W hW)⟩
  -- 10: snap.go:55 call
  apply told_at wireV_stays
  · intro W f hW hE h0 K hK
    have e12 := hE 0 12 _ rfl (by kernel_rfl)
    clear hE h0
    refine yes_of (want_free rfl) ?_
    obtain ⟨g3, e12, h1⟩ := e12
    go_simp
    refine (list_any [nW r.d, nW r.f, nW r.t] _ W (h1.low (Nat.zero_le _))).mono ?_
    rintro e w1' ⟨A2, c2', rfl, h1', g'⟩
    exact ⟨_, rfl, hK _ _ g' ⟨A2, _, c2', rfl, h1'.low (HS.out W hW)⟩⟩
  intro W f hW hA
  simp only [lexIn, Act.put, List.setIfInBounds_toArray, List.set_cons_zero, List.set_cons_succ]
  have e13 := hA 0 (some 13) _ rfl
  clear hA
  obtain ⟨A4, n4, c4, e13, hl⟩ := e13
  rw [e13]
  have hr := HR0.out.kept hW (by simp)
  have q0 := hr.free 0
  have q1 := hr.free 1
  have q2 := hr.free 2
  have q3 := hr.free 3
  have u0 := hr.at_ (i := 0) rfl
  have u1 := hr.at_ (i := 1) rfl
  have u2 := hr.at_ (i := 2) rfl
  have u3 := hr.at_ (i := 3) rfl
  have Hx := Lib.hid ((((hr.set_ 0 (.int .i64 3)).set_ 1 (.int .i64 0)).set_ 2 (.string ⟨#[]⟩)).set_ 3 (.slice A4 n4 c4))
  have kk : W.grownBy ((((W.setCell ⟨h0, 0, none⟩ (.int .i64 3)).setCell ⟨h0, 1, none⟩ (.int .i64 0)).setCell ⟨h0, 2, none⟩ (.string ⟨#[]⟩)).setCell ⟨h0, 3, none⟩ (.slice A4 n4 c4)) (some h0) := gb_then (gb_then (gb_then (gb_set1 _ _ _ _) (gb_set1 _ _ _ _)) (gb_set1 _ _ _ _)) (gb_set1 _ _ _ _)
  have Hl2 := Lib.hid ((hl.grown kk (fun i e => by cases e; exact Nat.lt_succ_self _)).low (show w.heap.size ≤ h0 + 1 by have := Hh0.out; omega))
  have Hgg := Lib.hid (gb_new (gb_none HG.out hW) kk Hh0.out)
  clear kk hl hW
  rw [ends_is]
  go_simp
  clear q0 q1 q2 q3 u0 u1 u2 u3 hr
  go_wp2_with fail
  obtain ⟨A5, c5, hv⟩ := Hl2.out.slice
  cases hv
  exact bodyPost_ret (results_cell_row rfl _ _ h0 60 _ (0, 0) _ rfl Hx.out Tryz.underlying60 rfl (by kernel_rfl)) rfl ⟨A4, c4, rfl, Hl2.out, Hgg.out⟩
set_option maxHeartbeats 8000000 in
set_option maxRecDepth 100000 in
theorem factWire_any (r : Fc) (w : World) : Calls Tryz.prog 28 #[.agg #[.int .i64 r.d, .int .i64 r.n, .string r.key, .int .i64 r.kind, .string r.item, .int .i64 r.v]] w (ListV (factL r) w) := by
  obtain ⟨b0, hb0⟩ : ∃ b0, w.heap.size = b0 := ⟨_, rfl⟩
  obtain ⟨h0, hh0⟩ : ∃ h0, b0 + 1 = h0 := ⟨_, rfl⟩
  obtain ⟨W0, hW0⟩ : ∃ W0, (w.alloc (.cells #[.int .i64 r.d, .int .i64 r.n, .string r.key, .int .i64 r.kind, .string r.item, .int .i64 r.v] 46)).alloc (.cells #[.int .i64 0, .int .i64 0, .string ⟨#[]⟩, .slice none 0 0] 60) = W0 := ⟨_, rfl⟩
  have G0 : w.grownBy W0 none := by rw [← hW0]; exact gb_alloc (gb_alloc (gb_refl _ _) _) _
  have HR0 : Hid (Row W0 h0 60 #[.int .i64 0, .int .i64 0, .string ⟨#[]⟩, .slice none 0 0]) := by
    rw [← hW0, ← hh0, ← hb0]
    have h := Row.new (w.alloc (.cells #[.int .i64 r.d, .int .i64 r.n, .string r.key, .int .i64 r.kind, .string r.item, .int .i64 r.v] 46)) 60 #[.int .i64 0, .int .i64 0, .string ⟨#[]⟩, .slice none 0 0]
    rw [World.size_alloc] at h
    exact h
  have HRb0 : Hid (Row W0 b0 46 #[.int .i64 r.d, .int .i64 r.n, .string r.key, .int .i64 r.kind, .string r.item, .int .i64 r.v]) := by rw [← hW0, ← hb0]; exact (Row.new _ _ _).alloc _
  have Hh0 : Hid (w.heap.size ≤ h0) := by show _ ≤ _; omega
  have HS : Hid (∀ W, W0.grownBy W none → h0 + 1 ≤ W.heap.size) := fun W hW => (HR0.out.kept hW (by simp)).lt
  have HX : Hid (∀ W, W0.grownBy W none → W.cell? ⟨b0, 0, none⟩ = some (.int .i64 r.d) ∧ W.cell? ⟨b0, 1, none⟩ = some (.int .i64 r.n) ∧ W.cell? ⟨b0, 2, none⟩ = some (.string r.key) ∧ W.cell? ⟨b0, 3, none⟩ = some (.int .i64 r.kind) ∧ W.cell? ⟨b0, 4, none⟩ = some (.string r.item) ∧ W.cell? ⟨b0, 5, none⟩ = some (.int .i64 r.v)) := fun W hW => by
    have k := HRb0.out.kept hW (by simp)
    exact ⟨k.at_ (i := 0) rfl, k.at_ (i := 1) rfl, k.at_ (i := 2) rfl, k.at_ (i := 3) rfl, k.at_ (i := 4) rfl, k.at_ (i := 5) rfl⟩
  have HG := Lib.hid G0
  clear G0
  go_enter Tryz.func28, Tryz.ntmps28
  go_upto_region 1 with fail
  clear hW0 hh0 hb0
  apply wp_region_told_tail (le := fun a b => a.grownBy b none) 22 _ [isV _, isV _, isV _, isV _, isV _, isV _, isV _, isV _, isV _, isV _, isV _, isV _, isV _, isV _, isV _, isV _, isV _, isV _, isV _, isV _, nV 6 (h0 + 1) (factL r), wireV (h0 + 1) (factL r)]
  case hL => rfl
  case hz => rfl
  case hLd => rfl
  case hLg => rfl
  case hLw => kernel_rfl
  case hlen => rfl
  case hn => rfl
  case hm => kernel_rfl
  case hB => kernel_rfl
  case ht => exact fun _ _ _ h k => gb_none h k
  case hw => exact gb_drew (gb_refl _ _)
  -- 0: snap.go:60 fieldAddr
  apply told_is
  · intro W f hW hE h0 K hK
    have e1 := h0 1 (by kernel_rfl)
    conv at e1 => rhs; whnf
    clear hE h0
    refine yes_of (want_free rfl) ?_
    go_simp; exact hK _ _ (gb_refl _ _) rfl
  -- 1: snap.go:60 fieldAddr
  apply told_is
  · intro W f hW hE h0 K hK
    have e3 : f 3 = _ := hE 0 3 _ rfl (by kernel_rfl)
    clear hE h0
    refine yes_of (want_free rfl) ?_
    go_simp; exact hK _ _ (gb_refl _ _) rfl
  -- 2: snap.go:60 load
  apply told_is
  · intro W f hW hE h0 K hK
    have e4 : f 4 = _ := hE 0 4 _ rfl (by kernel_rfl)
    clear hE h0
    refine yes_of (want_free rfl) ?_
    obtain ⟨c0, c1, c2, c3, c4, c5⟩ := HX.out W hW
    go_simp; exact hK _ _ (gb_refl _ _) rfl
  -- 3: snap.go:60 call
  apply told_is
  · intro W f hW hE h0 K hK
    have e5 : f 5 = _ := hE 0 5 _ rfl (by kernel_rfl)
    clear hE h0
    refine yes_of (want_free rfl) ?_
    go_simp
    refine (num_any r.d W).mono ?_
    rintro e w1' ⟨rfl, g'⟩
    exact ⟨_, rfl, hK _ _ g' rfl⟩
  -- 4: snap.go:60 fieldAddr
  apply told_is
  · intro W f hW hE h0 K hK
    have e1 := h0 1 (by kernel_rfl)
    conv at e1 => rhs; whnf
    clear hE h0
    refine yes_of (want_free rfl) ?_
    go_simp; exact hK _ _ (gb_refl _ _) rfl
  -- 5: snap.go:60 fieldAddr
  apply told_is
  · intro W f hW hE h0 K hK
    have e7 : f 7 = _ := hE 0 7 _ rfl (by kernel_rfl)
    clear hE h0
    refine yes_of (want_free rfl) ?_
    go_simp; exact hK _ _ (gb_refl _ _) rfl
  -- 6: snap.go:60 load
  apply told_is
  · intro W f hW hE h0 K hK
    have e8 : f 8 = _ := hE 0 8 _ rfl (by kernel_rfl)
    clear hE h0
    refine yes_of (want_free rfl) ?_
    obtain ⟨c0, c1, c2, c3, c4, c5⟩ := HX.out W hW
    go_simp; exact hK _ _ (gb_refl _ _) rfl
  -- 7: snap.go:60 call
  apply told_is
  · intro W f hW hE h0 K hK
    have e9 : f 9 = _ := hE 0 9 _ rfl (by kernel_rfl)
    clear hE h0
    refine yes_of (want_free rfl) ?_
    go_simp
    refine (num_any r.n W).mono ?_
    rintro e w1' ⟨rfl, g'⟩
    exact ⟨_, rfl, hK _ _ g' rfl⟩
  -- 8: snap.go:60 fieldAddr
  apply told_is
  · intro W f hW hE h0 K hK
    have e1 := h0 1 (by kernel_rfl)
    conv at e1 => rhs; whnf
    clear hE h0
    refine yes_of (want_free rfl) ?_
    go_simp; exact hK _ _ (gb_refl _ _) rfl
  -- 9: snap.go:60 load
  apply told_is
  · intro W f hW hE h0 K hK
    have e11 : f 11 = _ := hE 0 11 _ rfl (by kernel_rfl)
    clear hE h0
    refine yes_of (want_free rfl) ?_
    obtain ⟨c0, c1, c2, c3, c4, c5⟩ := HX.out W hW
    go_simp; exact hK _ _ (gb_refl _ _) rfl
  -- 10: snap.go:60 call
  apply told_is
  · intro W f hW hE h0 K hK
    have e12 : f 12 = _ := hE 0 12 _ rfl (by kernel_rfl)
    clear hE h0
    refine yes_of (want_free rfl) ?_
    go_simp
    refine (text_any r.key W).mono ?_
    rintro e w1' ⟨rfl, g'⟩
    exact ⟨_, rfl, hK _ _ g' rfl⟩
  -- 11: snap.go:60 fieldAddr
  apply told_is
  · intro W f hW hE h0 K hK
    have e1 := h0 1 (by kernel_rfl)
    conv at e1 => rhs; whnf
    clear hE h0
    refine yes_of (want_free rfl) ?_
    go_simp; exact hK _ _ (gb_refl _ _) rfl
  -- 12: snap.go:60 load
  apply told_is
  · intro W f hW hE h0 K hK
    have e14 : f 14 = _ := hE 0 14 _ rfl (by kernel_rfl)
    clear hE h0
    refine yes_of (want_free rfl) ?_
    obtain ⟨c0, c1, c2, c3, c4, c5⟩ := HX.out W hW
    go_simp; exact hK _ _ (gb_refl _ _) rfl
  -- 13: snap.go:60 call
  apply told_is
  · intro W f hW hE h0 K hK
    have e15 : f 15 = _ := hE 0 15 _ rfl (by kernel_rfl)
    clear hE h0
    refine yes_of (want_free rfl) ?_
    go_simp
    refine (num_any r.kind W).mono ?_
    rintro e w1' ⟨rfl, g'⟩
    exact ⟨_, rfl, hK _ _ g' rfl⟩
  -- 14: snap.go:60 fieldAddr
  apply told_is
  · intro W f hW hE h0 K hK
    have e1 := h0 1 (by kernel_rfl)
    conv at e1 => rhs; whnf
    clear hE h0
    refine yes_of (want_free rfl) ?_
    go_simp; exact hK _ _ (gb_refl _ _) rfl
  -- 15: snap.go:60 load
  apply told_is
  · intro W f hW hE h0 K hK
    have e17 : f 17 = _ := hE 0 17 _ rfl (by kernel_rfl)
    clear hE h0
    refine yes_of (want_free rfl) ?_
    obtain ⟨c0, c1, c2, c3, c4, c5⟩ := HX.out W hW
    go_simp; exact hK _ _ (gb_refl _ _) rfl
  -- 16: snap.go:60 call
  apply told_is
  · intro W f hW hE h0 K hK
    have e18 : f 18 = _ := hE 0 18 _ rfl (by kernel_rfl)
    clear hE h0
    refine yes_of (want_free rfl) ?_
    go_simp
    refine (text_any r.item W).mono ?_
    rintro e w1' ⟨rfl, g'⟩
    exact ⟨_, rfl, hK _ _ g' rfl⟩
  -- 17: snap.go:60 fieldAddr
  apply told_is
  · intro W f hW hE h0 K hK
    have e1 := h0 1 (by kernel_rfl)
    conv at e1 => rhs; whnf
    clear hE h0
    refine yes_of (want_free rfl) ?_
    go_simp; exact hK _ _ (gb_refl _ _) rfl
  -- 18: snap.go:60 load
  apply told_is
  · intro W f hW hE h0 K hK
    have e20 : f 20 = _ := hE 0 20 _ rfl (by kernel_rfl)
    clear hE h0
    refine yes_of (want_free rfl) ?_
    obtain ⟨c0, c1, c2, c3, c4, c5⟩ := HX.out W hW
    go_simp; exact hK _ _ (gb_refl _ _) rfl
  -- 19: snap.go:60 call
  apply told_is
  · intro W f hW hE h0 K hK
    have e21 : f 21 = _ := hE 0 21 _ rfl (by kernel_rfl)
    clear hE h0
    refine yes_of (want_free rfl) ?_
    go_simp
    refine (num_any r.v W).mono ?_
    rintro e w1' ⟨rfl, g'⟩
    exact ⟨_, rfl, hK _ _ g' rfl⟩
  -- 20: snap.go:60 buildSlice
  apply told_at nV_stays
  · intro W f hW hE h0 K hK
    have e6 : f 6 = _ := hE 16 6 _ rfl (by kernel_rfl)
    have e10 : f 10 = _ := hE 12 10 _ rfl (by kernel_rfl)
    have e13 : f 13 = _ := hE 9 13 _ rfl (by kernel_rfl)
    have e16 : f 16 = _ := hE 6 16 _ rfl (by kernel_rfl)
    have e19 : f 19 = _ := hE 3 19 _ rfl (by kernel_rfl)
    have e22 : f 22 = _ := hE 0 22 _ rfl (by kernel_rfl)
    clear hE h0
    refine yes_of (want_free rfl) ?_
    go_simp
    exact hK _ _ (gb_alloc (gb_refl _ _) _) ⟨_, rfl, (hl_six r W).low (HS.out W hW)⟩
  -- 21: snap.go:60 call
  apply told_at wireV_stays
  · intro W f hW hE h0 K hK
    have e23 := hE 0 23 _ rfl (by kernel_rfl)
    clear hE h0
    refine yes_of (want_free rfl) ?_
    obtain ⟨g3, e23, h1⟩ := e23
    go_simp
    refine (list_any (factL r) _ W (h1.low (Nat.zero_le _))).mono ?_
    rintro e w1' ⟨A2, c2', rfl, h1', g'⟩
    exact ⟨_, rfl, hK _ _ g' ⟨A2, _, c2', rfl, h1'.low (HS.out W hW)⟩⟩
  intro W f hW hA
  simp only [lexIn, Act.put, List.setIfInBounds_toArray, List.set_cons_zero, List.set_cons_succ]
  have e24 := hA 0 (some 24) _ rfl
  clear hA
  obtain ⟨A4, n4, c4, e24, hl⟩ := e24
  rw [e24]
  have hr := HR0.out.kept hW (by simp)
  have q0 := hr.free 0
  have q1 := hr.free 1
  have q2 := hr.free 2
  have q3 := hr.free 3
  have u0 := hr.at_ (i := 0) rfl
  have u1 := hr.at_ (i := 1) rfl
  have u2 := hr.at_ (i := 2) rfl
  have u3 := hr.at_ (i := 3) rfl
  have Hx := Lib.hid ((((hr.set_ 0 (.int .i64 3)).set_ 1 (.int .i64 0)).set_ 2 (.string ⟨#[]⟩)).set_ 3 (.slice A4 n4 c4))
  have kk : W.grownBy ((((W.setCell ⟨h0, 0, none⟩ (.int .i64 3)).setCell ⟨h0, 1, none⟩ (.int .i64 0)).setCell ⟨h0, 2, none⟩ (.string ⟨#[]⟩)).setCell ⟨h0, 3, none⟩ (.slice A4 n4 c4)) (some h0) := gb_then (gb_then (gb_then (gb_set1 _ _ _ _) (gb_set1 _ _ _ _)) (gb_set1 _ _ _ _)) (gb_set1 _ _ _ _)
  have Hl2 := Lib.hid ((hl.grown kk (fun i e => by cases e; exact Nat.lt_succ_self _)).low (show w.heap.size ≤ h0 + 1 by have := Hh0.out; omega))
  have Hgg := Lib.hid (gb_new (gb_none HG.out hW) kk Hh0.out)
  clear kk hl hW
  rw [ends_is]
  go_simp
  clear q0 q1 q2 q3 u0 u1 u2 u3 hr
  go_wp2_with fail
  obtain ⟨A5, c5, hv⟩ := Hl2.out.slice
  cases hv
  exact bodyPost_ret (results_cell_row rfl _ _ h0 60 _ (0, 0) _ rfl Hx.out Tryz.underlying60 rfl (by kernel_rfl)) rfl ⟨A4, c4, rfl, Hl2.out, Hgg.out⟩
section
set_option maxHeartbeats 8000000 in
set_option maxRecDepth 100000 in
theorem eachRun_any (A : Option Addr) (n c : Nat) (l : List Rn) (w : World) (hl : RL w A n l) (hn : n ≤ 1099511627776) : Calls Tryz.prog 25 #[.slice A n c, .func (.func 26) #[] #[]] w (ListV (l.map runW) w) := by
  obtain ⟨h0, hh0⟩ : ∃ h0, w.heap.size = h0 := ⟨_, rfl⟩
  obtain ⟨W0, hW0⟩ : ∃ W0, w.alloc (.cells #[.int .i64 0, .int .i64 0, .string ⟨#[]⟩, .slice none 0 0] 60) = W0 := ⟨_, rfl⟩
  have G0 : w.grownBy W0 none := by rw [← hW0]; exact gb_alloc (gb_refl _ _) _
  have hS0 : W0.heap.size = h0 + 1 := by rw [← hW0, World.size_alloc, hh0]
  have HR0 : Hid (Row W0 h0 60 #[.int .i64 0, .int .i64 0, .string ⟨#[]⟩, .slice none 0 0]) := by rw [← hW0, ← hh0]; exact Row.new _ _ _
  have Hh0 : Hid (w.heap.size ≤ h0) := by show _ ≤ _; omega
  have HG := Lib.hid G0
  have Hl := Lib.hid (hl.keep G0)
  have hlen : (l.map runW).length = n := by rw [List.length_map]; exact hl.1
  have Hlen := Lib.hid hlen
  have Hn := Lib.hid hn
  have hmk := makeW_at n hn
  have HS0 := Lib.hid hS0
  have HP0 := Lib.hid (Part.new W0 (l.map runW) n _ (madeW_size n))
  have hg0 := gb_alloc (gb_refl W0 none) (.cells (madeW n) 60)
  have Hg0 := Lib.hid hg0
  rw [hS0] at HP0
  clear G0 hl hS0 hlen hn hg0
  go_enter Tryz.func25, Tryz.ntmps25
  go_upto_region 1 with fail
  clear hW0 hh0
  have hS0 := HS0.out
  go_wp2_with fail
  clear hS0
  go_loopw [13] (fun i wr => ∃ k : Nat, k ≤ n ∧ i = .int .i64 k ∧ Hid (Part wr (h0 + 1) (l.map runW) n k) ∧ W0.grownBy wr none) (fun i _ => n - (intOf i).toNat)
  case atStart => exact ⟨0, Nat.zero_le _, rfl, HP0, Hg0.out⟩
  case round =>
    obtain ⟨k, hk, rfl, Hp, hg⟩ := hrel
    clear hmk
    by_cases hlt : k < n
    · have d3 : decide (k < n) = true := decide_eq_true hlt
      have d4 : decide ((k : Int) < (n : Int)) = true := decide_eq_true (by omega)
      obtain ⟨r, hx⟩ : ∃ r, l[k]? = some r := ⟨_, List.getElem?_eq_getElem (by rw [Hl.out.1]; exact hlt)⟩
      obtain ⟨g, o, rfl, hgl, hcc⟩ := (Hl.out.keep hg).2 (by omega)
      obtain ⟨c0, c1, c2⟩ := hcc k r hx
      have Hx : Hid ((l.map runW)[k]? = some (runW r)) := by show _ = _; rw [List.getElem?_map, hx]; rfl
      have HW : Hid (∀ W, Calls Tryz.prog 26 #[.agg #[.int .i64 r.d, .int .i64 r.f, .int .i64 r.t]] W (NewWire W (runW r))) := fun W => runWire_any r W
      generalize runW r = x at HW Hx
      have t1 : IntKind.i64.wrap ((k : Int) + 1) = ((k + 1 : Nat) : Int) := by rw [IntKind.wrap_i64]; have := Hn.out; omega
      have Hg := Lib.hid hg
      have Hlt := Lib.hid hlt
      have Hk := Lib.hid hk
      clear hx hgl hcc hg hk
      go_wp2_with fail
      refine (HW.out _).mono ?_
      rintro e w2 ⟨A3, c4, rfl, hn3, g2⟩
      have hgB := gb_none (gb_alloc (gb_refl wr none) _) g2
      have hp2 := Hp.out.kept hgB
      obtain ⟨⟨v0, p0⟩, f0⟩ := hp2.room (j := k * 4) (by have := Hlt.out; omega)
      obtain ⟨⟨v1, p1⟩, f1⟩ := hp2.room (j := k * 4 + 1) (by have := Hlt.out; omega)
      obtain ⟨⟨v2, p2⟩, f2⟩ := hp2.room (j := k * 4 + 2) (by have := Hlt.out; omega)
      obtain ⟨⟨v3, p3⟩, f3⟩ := hp2.room (j := k * 4 + 3) (by have := Hlt.out; omega)
      have Hn3 := Lib.hid hn3
      have HgB := Lib.hid hgB
      clear hn3 hgB hp2 g2
      go_wp2_with fail
      have hnew : HL w2 (h0 + 1 + 1) (.slice A3 x.l.length c4) x.l := Hn3.out.low (by have := Hp.out.lt; rw [World.size_alloc]; omega)
      go_roundw
      case rel =>
        refine ⟨k + 1, by have := Hlt.out; omega, rfl, ?_, ?_⟩
        · exact Hp.out.more (gb_none' HgB.out) (fun cs hr => hr.kept HgB.out (by simp)) Hlt.out Hx.out hnew
        · exact gb_new4 (Nat.le_of_eq HS0.out) (gb_none Hg.out HgB.out)
      case measure => simp [intOf]; have := Hlt.out; omega
    · have hkn : k = n := by omega
      subst hkn
      have d3 : decide (k < k) = false := by simp
      have d4 : decide ((k : Int) < (k : Int)) = false := by simp
      have Hd : Hid (HL wr (h0 + 1) (.slice (some ⟨h0 + 1, 0, none⟩) k k) (l.map runW)) := by
        have h := Hp.out.done Hlen.out.symm (Nat.le_refl _) (by rw [Hlen.out]; exact Hn.out) (h0 + 1) (Nat.le_refl _) k
        rw [Hlen.out] at h
        exact h
      have HgW := Lib.hid hg
      clear hlt hk hg
      go_wp2_with fail
      refine (list_any (l.map runW) _ _ (Hd.out.low (Nat.zero_le _))).mono ?_
      rintro e w2 ⟨A4, c4, rfl, hl, g2⟩
      have hW := gb_none HgW.out g2
      clear g2
      obtain ⟨n4, hn4⟩ : ∃ n4, (l.map runW).length = n4 := ⟨_, rfl⟩
      simp only [Wr.l_mk, Wr.k_mk, Wr.n_mk, Wr.s_mk, hn4] at hl ⊢
      replace hl := hl.low (Nat.le_of_lt Hp.out.lt)
      have hr := HR0.out.kept hW (by simp)
      have q0 := hr.free 0
      have q1 := hr.free 1
      have q2 := hr.free 2
      have q3 := hr.free 3
      have u0 := hr.at_ (i := 0) rfl
      have u1 := hr.at_ (i := 1) rfl
      have u2 := hr.at_ (i := 2) rfl
      have u3 := hr.at_ (i := 3) rfl
      have Hx := Lib.hid ((((hr.set_ 0 (.int .i64 3)).set_ 1 (.int .i64 0)).set_ 2 (.string ⟨#[]⟩)).set_ 3 (.slice A4 n4 c4))
      have kk : w2.grownBy ((((w2.setCell ⟨h0, 0, none⟩ (.int .i64 3)).setCell ⟨h0, 1, none⟩ (.int .i64 0)).setCell ⟨h0, 2, none⟩ (.string ⟨#[]⟩)).setCell ⟨h0, 3, none⟩ (.slice A4 n4 c4)) (some h0) := gb_then (gb_then (gb_then (gb_set1 _ _ _ _) (gb_set1 _ _ _ _)) (gb_set1 _ _ _ _)) (gb_set1 _ _ _ _)
      have Hl2 := Lib.hid ((hl.grown kk (fun i e => by cases e; exact Nat.lt_succ_self _)).low (show w.heap.size ≤ h0 + 1 by have := Hh0.out; omega))
      have Hgg := Lib.hid (gb_new (gb_none HG.out hW) kk Hh0.out)
      clear kk hl hW
      clear hn4
      go_wp2_with fail
      obtain ⟨A5, c5, hv⟩ := Hl2.out.slice
      cases hv
      exact bodyPost_ret (results_cell_row rfl _ _ h0 60 _ (0, 0) _ rfl Hx.out Tryz.underlying60 rfl (by kernel_rfl)) rfl ⟨A4, c4, rfl, Hl2.out, Hgg.out⟩
set_option maxHeartbeats 8000000 in
set_option maxRecDepth 100000 in
theorem eachFact_any (A : Option Addr) (n c : Nat) (l : List Fc) (w : World) (hl : FL w A n l) (hn : n ≤ 1099511627776) : Calls Tryz.prog 27 #[.slice A n c, .func (.func 28) #[] #[]] w (ListV (l.map factW) w) := by
  obtain ⟨h0, hh0⟩ : ∃ h0, w.heap.size = h0 := ⟨_, rfl⟩
  obtain ⟨W0, hW0⟩ : ∃ W0, w.alloc (.cells #[.int .i64 0, .int .i64 0, .string ⟨#[]⟩, .slice none 0 0] 60) = W0 := ⟨_, rfl⟩
  have G0 : w.grownBy W0 none := by rw [← hW0]; exact gb_alloc (gb_refl _ _) _
  have hS0 : W0.heap.size = h0 + 1 := by rw [← hW0, World.size_alloc, hh0]
  have HR0 : Hid (Row W0 h0 60 #[.int .i64 0, .int .i64 0, .string ⟨#[]⟩, .slice none 0 0]) := by rw [← hW0, ← hh0]; exact Row.new _ _ _
  have Hh0 : Hid (w.heap.size ≤ h0) := by show _ ≤ _; omega
  have HG := Lib.hid G0
  have Hl := Lib.hid (hl.keep G0)
  have hlen : (l.map factW).length = n := by rw [List.length_map]; exact hl.1
  have Hlen := Lib.hid hlen
  have Hn := Lib.hid hn
  have hmk := makeW_at n hn
  have HS0 := Lib.hid hS0
  have HP0 := Lib.hid (Part.new W0 (l.map factW) n _ (madeW_size n))
  have hg0 := gb_alloc (gb_refl W0 none) (.cells (madeW n) 60)
  have Hg0 := Lib.hid hg0
  rw [hS0] at HP0
  clear G0 hl hS0 hlen hn hg0
  go_enter Tryz.func27, Tryz.ntmps27
  go_upto_region 1 with fail
  clear hW0 hh0
  have hS0 := HS0.out
  go_wp2_with fail
  clear hS0
  go_loopw [13] (fun i wr => ∃ k : Nat, k ≤ n ∧ i = .int .i64 k ∧ Hid (Part wr (h0 + 1) (l.map factW) n k) ∧ W0.grownBy wr none) (fun i _ => n - (intOf i).toNat)
  case atStart => exact ⟨0, Nat.zero_le _, rfl, HP0, Hg0.out⟩
  case round =>
    obtain ⟨k, hk, rfl, Hp, hg⟩ := hrel
    clear hmk
    by_cases hlt : k < n
    · have d3 : decide (k < n) = true := decide_eq_true hlt
      have d4 : decide ((k : Int) < (n : Int)) = true := decide_eq_true (by omega)
      obtain ⟨r, hx⟩ : ∃ r, l[k]? = some r := ⟨_, List.getElem?_eq_getElem (by rw [Hl.out.1]; exact hlt)⟩
      obtain ⟨g, o, rfl, hgl, hcc⟩ := (Hl.out.keep hg).2 (by omega)
      obtain ⟨c0, c1, c2, c3, c4, c5⟩ := hcc k r hx
      have Hx : Hid ((l.map factW)[k]? = some (factW r)) := by show _ = _; rw [List.getElem?_map, hx]; rfl
      have HW : Hid (∀ W, Calls Tryz.prog 28 #[.agg #[.int .i64 r.d, .int .i64 r.n, .string r.key, .int .i64 r.kind, .string r.item, .int .i64 r.v]] W (NewWire W (factW r))) := fun W => factWire_any r W
      generalize factW r = x at HW Hx
      have t1 : IntKind.i64.wrap ((k : Int) + 1) = ((k + 1 : Nat) : Int) := by rw [IntKind.wrap_i64]; have := Hn.out; omega
      have Hg := Lib.hid hg
      have Hlt := Lib.hid hlt
      have Hk := Lib.hid hk
      clear hx hgl hcc hg hk
      go_wp2_with fail
      refine (HW.out _).mono ?_
      rintro e w2 ⟨A3, c4, rfl, hn3, g2⟩
      have hgB := gb_none (gb_alloc (gb_refl wr none) _) g2
      have hp2 := Hp.out.kept hgB
      obtain ⟨⟨v0, p0⟩, f0⟩ := hp2.room (j := k * 4) (by have := Hlt.out; omega)
      obtain ⟨⟨v1, p1⟩, f1⟩ := hp2.room (j := k * 4 + 1) (by have := Hlt.out; omega)
      obtain ⟨⟨v2, p2⟩, f2⟩ := hp2.room (j := k * 4 + 2) (by have := Hlt.out; omega)
      obtain ⟨⟨v3, p3⟩, f3⟩ := hp2.room (j := k * 4 + 3) (by have := Hlt.out; omega)
      have Hn3 := Lib.hid hn3
      have HgB := Lib.hid hgB
      clear hn3 hgB hp2 g2
      go_wp2_with fail
      have hnew : HL w2 (h0 + 1 + 1) (.slice A3 x.l.length c4) x.l := Hn3.out.low (by have := Hp.out.lt; rw [World.size_alloc]; omega)
      go_roundw
      case rel =>
        refine ⟨k + 1, by have := Hlt.out; omega, rfl, ?_, ?_⟩
        · exact Hp.out.more (gb_none' HgB.out) (fun cs hr => hr.kept HgB.out (by simp)) Hlt.out Hx.out hnew
        · exact gb_new4 (Nat.le_of_eq HS0.out) (gb_none Hg.out HgB.out)
      case measure => simp [intOf]; have := Hlt.out; omega
    · have hkn : k = n := by omega
      subst hkn
      have d3 : decide (k < k) = false := by simp
      have d4 : decide ((k : Int) < (k : Int)) = false := by simp
      have Hd : Hid (HL wr (h0 + 1) (.slice (some ⟨h0 + 1, 0, none⟩) k k) (l.map factW)) := by
        have h := Hp.out.done Hlen.out.symm (Nat.le_refl _) (by rw [Hlen.out]; exact Hn.out) (h0 + 1) (Nat.le_refl _) k
        rw [Hlen.out] at h
        exact h
      have HgW := Lib.hid hg
      clear hlt hk hg
      go_wp2_with fail
      refine (list_any (l.map factW) _ _ (Hd.out.low (Nat.zero_le _))).mono ?_
      rintro e w2 ⟨A4, c4, rfl, hl, g2⟩
      have hW := gb_none HgW.out g2
      clear g2
      obtain ⟨n4, hn4⟩ : ∃ n4, (l.map factW).length = n4 := ⟨_, rfl⟩
      simp only [Wr.l_mk, Wr.k_mk, Wr.n_mk, Wr.s_mk, hn4] at hl ⊢
      replace hl := hl.low (Nat.le_of_lt Hp.out.lt)
      have hr := HR0.out.kept hW (by simp)
      have q0 := hr.free 0
      have q1 := hr.free 1
      have q2 := hr.free 2
      have q3 := hr.free 3
      have u0 := hr.at_ (i := 0) rfl
      have u1 := hr.at_ (i := 1) rfl
      have u2 := hr.at_ (i := 2) rfl
      have u3 := hr.at_ (i := 3) rfl
      have Hx := Lib.hid ((((hr.set_ 0 (.int .i64 3)).set_ 1 (.int .i64 0)).set_ 2 (.string ⟨#[]⟩)).set_ 3 (.slice A4 n4 c4))
      have kk : w2.grownBy ((((w2.setCell ⟨h0, 0, none⟩ (.int .i64 3)).setCell ⟨h0, 1, none⟩ (.int .i64 0)).setCell ⟨h0, 2, none⟩ (.string ⟨#[]⟩)).setCell ⟨h0, 3, none⟩ (.slice A4 n4 c4)) (some h0) := gb_then (gb_then (gb_then (gb_set1 _ _ _ _) (gb_set1 _ _ _ _)) (gb_set1 _ _ _ _)) (gb_set1 _ _ _ _)
      have Hl2 := Lib.hid ((hl.grown kk (fun i e => by cases e; exact Nat.lt_succ_self _)).low (show w.heap.size ≤ h0 + 1 by have := Hh0.out; omega))
      have Hgg := Lib.hid (gb_new (gb_none HG.out hW) kk Hh0.out)
      clear kk hl hW
      clear hn4
      go_wp2_with fail
      obtain ⟨A5, c5, hv⟩ := Hl2.out.slice
      cases hv
      exact bodyPost_ret (results_cell_row rfl _ _ h0 60 _ (0, 0) _ rfl Hx.out Tryz.underlying60 rfl (by kernel_rfl)) rfl ⟨A4, c4, rfl, Hl2.out, Hgg.out⟩
/-- What check says of a state: nothing, if there are bytes of it; else an error. -/
def CheckV (s : St) (v : Value) : Prop := (Puts s ∧ v = .nilIface) ∨ (¬ Puts s ∧ ∃ f, Sp.ErrV 1 v f ∧ f ≠ 0)
def CheckIs (s : St) (w : World) (e : Ending) (w' : World) : Prop := ∃ v, e = .returned v ∧ CheckV s v ∧ w.grownBy w' none
theorem check_err {s : St} {v : Value} (h : CheckV s v) (hn : ¬ Puts s) : ∃ t p f, v = .iface t p ∧ Sp.ErrV 1 v f ∧ f ≠ 0 := by
  rcases h with ⟨h, _⟩ | ⟨_, f, h, hf⟩
  · exact absurd h hn
  · obtain ⟨t, p, e⟩ := h.iface
    exact ⟨t, p, f, e, h, hf⟩
theorem check_nil {s : St} {v : Value} (h : CheckV s v) (hp : Puts s) : v = .nilIface := by
  rcases h with ⟨_, h⟩ | ⟨hn, _⟩
  · exact h
  · exact absurd hp hn
set_option maxHeartbeats 8000000 in
set_option maxRecDepth 100000 in
theorem check_any (A B : Option Addr) (p c n d : Nat) (s : St) (w : World) (hs : SL w A p B n s) (hp : p ≤ 1099511627776) (hn : n ≤ 1099511627776) : Calls Tryz.prog 22 #[.agg #[.slice A p c, .slice B n d]] w (CheckIs s w) := by
  have hl := hs.1.1
  by_cases hc : p ≤ 65536
  · have d1 : decide ((65536 : Int) < (p : Int)) = false := decide_eq_false (by omega)
    have d2 : decide (65536 < p) = false := decide_eq_false (by omega)
    by_cases hm : MayS s
    · have HM : Hid (∀ W, w.grownBy W none → Calls Tryz.prog 50 #[.agg #[.slice A p c, .slice B n d]] W fun e w' => e = .returned (.bool true) ∧ W.grownBy w' none) := fun W hW => (pMayS_any A B p c n d s W (hs.keep hW) (by omega) hn).mono fun _ _ h => h.yes hm
      have HP : Hid (Puts s) := ⟨hm, by rw [hl]; exact hc⟩
      clear hc hm hl hs hp hn
      go_enter Tryz.func22, Tryz.ntmps22
      go_wp2_with (go_at_call 50; with_reducible refine (HM.out _ (gb_alloc (gb_refl _ _) _)).mono ?_; rintro e w2 ⟨rfl, g2⟩; have Hg2 := Lib.hid (gb_none (gb_alloc (gb_refl w none) _) g2); clear g2)
      go_ret
      exact ⟨_, rfl, .inl ⟨HP.out, rfl⟩, Hg2.out⟩
    · have HM : Hid (∀ W, w.grownBy W none → Calls Tryz.prog 50 #[.agg #[.slice A p c, .slice B n d]] W fun e w' => e = .returned (.bool false) ∧ W.grownBy w' none) := fun W hW => (pMayS_any A B p c n d s W (hs.keep hW) (by omega) hn).mono fun _ _ h => h.no hm
      have HP : Hid (¬ Puts s) := fun h => hm h.1
      clear hc hm hl hs hp hn
      go_enter Tryz.func22, Tryz.ntmps22
      go_wp2_with (go_at_call 50; with_reducible refine (HM.out _ (gb_alloc (gb_refl _ _) _)).mono ?_; rintro e w2 ⟨rfl, g2⟩; have Hg2 := Lib.hid (gb_none (gb_alloc (gb_refl w none) _) g2); have hr := (Row.new w 25 #[.slice A p c, .slice B n d]).kept g2 (by simp); have y0 := hr.at_ (i := 0) rfl; have y1 := hr.at_ (i := 1) rfl; clear g2 hr)
      go_ret
      exact ⟨_, rfl, .inr ⟨HP.out, 5, .item 0 _ _ _ 5 (.flt 5), by decide⟩, Hg2.out⟩
  · have d1 : decide ((65536 : Int) < (p : Int)) = true := decide_eq_true (by omega)
    have d2 : decide (65536 < p) = true := decide_eq_true (by omega)
    have HP : Hid (¬ Puts s) := fun h => hc (by have := h.2; omega)
    clear hc hl hs hp hn
    go_enter Tryz.func22, Tryz.ntmps22
    go_wp2_with fail
    go_ret
    exact ⟨_, rfl, .inr ⟨HP.out, 4, .item 0 _ _ _ 4 (.flt 4), by decide⟩, gb_alloc (gb_refl _ _) _⟩
end
set_option maxHeartbeats 8000000 in
set_option maxRecDepth 100000 in
theorem putS_no (A B : Option Addr) (p c n d : Nat) (s : St) (w : World) (hs : SL w A p B n s) (hP : ¬ Puts s) (hp : p ≤ 1099511627776) (hn : n ≤ 1099511627776) : Calls Tryz.prog 11 #[.agg #[.slice A p c, .slice B n d]] w fun e w' => e = .returned (.string ⟨#[]⟩) ∧ w.grownBy w' none := by
  obtain ⟨b0, hb0⟩ : ∃ b0, w.heap.size = b0 := ⟨_, rfl⟩
  obtain ⟨W0, hW0⟩ : ∃ W0, w.alloc (.cells #[.slice A p c, .slice B n d] 25) = W0 := ⟨_, rfl⟩
  have G0 : w.grownBy W0 none := by rw [← hW0]; exact gb_alloc (gb_refl _ _) _
  have HR0 : Hid (Row W0 b0 25 #[.slice A p c, .slice B n d]) := by rw [← hW0, ← hb0]; exact Row.new _ _ _
  have y0 : W0.cell? ⟨b0, 0, none⟩ = some (.slice A p c) := HR0.out.at_ (i := 0) rfl
  have y1 : W0.cell? ⟨b0, 1, none⟩ = some (.slice B n d) := HR0.out.at_ (i := 1) rfl
  have HLs := Lib.hid (hs.keep G0)
  have HG := Lib.hid G0
  have HC := Lib.hid (check_any A B p c n d s W0 HLs.out hp hn)
  have HP := Lib.hid hP
  clear G0 hs hP hp hn HLs
  go_enter Tryz.func11, Tryz.ntmps11
  go_upto_region 1 with fail
  clear hW0 hb0
  go_wp2_with (go_at_call 22; refine HC.out.mono ?_; rintro e w1 ⟨v, rfl, hv, g1⟩; obtain ⟨t0, p0, f0, rfl, _, _⟩ := check_err hv HP.out; have Hg1 := Lib.hid (gb_none HG.out g1); clear hv g1)
  go_ret
  exact ⟨rfl, Hg1.out⟩
attribute [local go_sem] Td.upon_value Td.upon_skip Td.upon_enter Td.upon_row Td.look_tmp Td.look_const Td.look_func Td.look_global
set_option maxHeartbeats 8000000 in
set_option maxRecDepth 100000 in
theorem putS_yes (A B : Option Addr) (p c n d : Nat) (s : St) (w : World) (hs : SL w A p B n s) (hP : Puts s) (hp : p ≤ 10000) : Calls Tryz.prog 11 #[.agg #[.slice A p c, .slice B n d]] w fun e w' => e = .returned (.string (stW s).bytes) ∧ w.grownBy w' none := by
  obtain ⟨b0, hb0⟩ : ∃ b0, w.heap.size = b0 := ⟨_, rfl⟩
  obtain ⟨W0, hW0⟩ : ∃ W0, w.alloc (.cells #[.slice A p c, .slice B n d] 25) = W0 := ⟨_, rfl⟩
  have G0 : w.grownBy W0 none := by rw [← hW0]; exact gb_alloc (gb_refl _ _) _
  have HR0 : Hid (Row W0 b0 25 #[.slice A p c, .slice B n d]) := by rw [← hW0, ← hb0]; exact Row.new _ _ _
  have y0 : W0.cell? ⟨b0, 0, none⟩ = some (.slice A p c) := HR0.out.at_ (i := 0) rfl
  have y1 : W0.cell? ⟨b0, 1, none⟩ = some (.slice B n d) := HR0.out.at_ (i := 1) rfl
  have HLs := Lib.hid (hs.keep G0)
  have HG := Lib.hid G0
  have hn : n ≤ 400 := by rw [← hs.2.1]; exact hP.1.2.1
  have HC := Lib.hid (check_any A B p c n d s W0 HLs.out (by omega) (by omega))
  have HP := Lib.hid hP
  have Hp := Lib.hid hp
  have Hn := Lib.hid hn
  have Hlen := Lib.hid (st_len hP.1 (by rw [hs.1.1]; exact hp))
  clear G0 hs hP hp hn
  go_enter Tryz.func11, Tryz.ntmps11
  go_upto_region 1 with fail
  clear hW0 hb0
  go_wp2_with fail
  refine HC.out.mono ?_
  rintro e w1 ⟨v, rfl, hv, g1⟩
  obtain rfl := check_nil hv HP.out
  have HG1 := Lib.hid g1
  clear hv g1
  go_wp2_with fail
  have HX : Hid (∀ W, w1.grownBy W none → W.cell? ⟨b0, 0, none⟩ = some (.slice A p c) ∧ W.cell? ⟨b0, 1, none⟩ = some (.slice B n d)) := fun W hW => by
    have k := HR0.out.kept (gb_none HG1.out hW) (by simp)
    exact ⟨k.at_ (i := 0) rfl, k.at_ (i := 1) rfl⟩
  clear y0 y1
  apply wp_region_told (le := fun a b => a.grownBy b none) [isV _, isV _, wireV 0 (s.seen.map runW), isV _, isV _, wireV 0 (s.facts.map factW), nV 2 0 [lW (s.seen.map runW), lW (s.facts.map factW)], wireV 0 [lW (s.seen.map runW), lW (s.facts.map factW)], isV _, isV _]
  case hn => rfl
  case hm => kernel_rfl
  case hB => kernel_rfl
  case ht => exact fun _ _ _ h k => gb_none h k
  case hw => exact gb_drew (gb_refl _ _)
  -- 0: snap.go:20 fieldAddr
  apply told_is
  · intro W f hW hE h0 K hK
    have e1 := h0 1 (by kernel_rfl)
    conv at e1 => rhs; whnf
    clear hE h0
    refine yes_of (want_free rfl) ?_
    go_simp; exact hK _ _ (gb_refl _ _) rfl
  -- 1: snap.go:20 load
  apply told_is
  · intro W f hW hE h0 K hK
    have e6 : f 6 = _ := hE 0 6 _ rfl (by kernel_rfl)
    clear hE h0
    refine yes_of (want_free rfl) ?_
    obtain ⟨c0, c1⟩ := HX.out W hW
    go_simp; exact hK _ _ (gb_refl _ _) rfl
  -- 2: snap.go:20 call
  apply told_at wireV_stays
  · intro W f hW hE h0 K hK
    have e7 : f 7 = _ := hE 0 7 _ rfl (by kernel_rfl)
    clear hE h0
    refine yes_of (want_free rfl) ?_
    go_simp
    refine (eachRun_any A p c s.seen W (HLs.out.1.keep (gb_none HG1.out hW)) (by have := Hp.out; omega)).mono ?_
    rintro e w1' ⟨A2, c2', rfl, h1', g'⟩
    exact ⟨_, rfl, hK _ _ g' ⟨A2, _, c2', rfl, h1'.low (Nat.zero_le _)⟩⟩
  -- 3: snap.go:20 fieldAddr
  apply told_is
  · intro W f hW hE h0 K hK
    have e1 := h0 1 (by kernel_rfl)
    conv at e1 => rhs; whnf
    clear hE h0
    refine yes_of (want_free rfl) ?_
    go_simp; exact hK _ _ (gb_refl _ _) rfl
  -- 4: snap.go:20 load
  apply told_is
  · intro W f hW hE h0 K hK
    have e9 : f 9 = _ := hE 0 9 _ rfl (by kernel_rfl)
    clear hE h0
    refine yes_of (want_free rfl) ?_
    obtain ⟨c0, c1⟩ := HX.out W hW
    go_simp; exact hK _ _ (gb_refl _ _) rfl
  -- 5: snap.go:20 call
  apply told_at wireV_stays
  · intro W f hW hE h0 K hK
    have e10 : f 10 = _ := hE 0 10 _ rfl (by kernel_rfl)
    clear hE h0
    refine yes_of (want_free rfl) ?_
    go_simp
    refine (eachFact_any B n d s.facts W (HLs.out.2.keep (gb_none HG1.out hW)) (by have := Hn.out; omega)).mono ?_
    rintro e w1' ⟨A2, c2', rfl, h1', g'⟩
    exact ⟨_, rfl, hK _ _ g' ⟨A2, _, c2', rfl, h1'.low (Nat.zero_le _)⟩⟩
  -- 6: snap.go:20 buildSlice
  apply told_at nV_stays
  · intro W f hW hE h0 K hK
    have e8 := hE 3 8 _ rfl (by kernel_rfl)
    have e11 := hE 0 11 _ rfl (by kernel_rfl)
    clear hE h0
    refine yes_of (want_free rfl) ?_
    obtain ⟨A1, n1, c1', e8, h8⟩ := e8
    obtain ⟨A2, n2, c2', e11, h11⟩ := e11
    go_simp
    exact hK _ _ (gb_alloc (gb_refl _ _) _) ⟨_, rfl, hl_two W h8 h11⟩
  -- 7: snap.go:20 call
  apply told_at wireV_stays
  · intro W f hW hE h0 K hK
    have e12 := hE 0 12 _ rfl (by kernel_rfl)
    clear hE h0
    refine yes_of (want_free rfl) ?_
    obtain ⟨g3, e12, h1⟩ := e12
    go_simp
    refine (list_any [lW (s.seen.map runW), lW (s.facts.map factW)] _ W h1).mono ?_
    rintro e w1' ⟨A2, c2', rfl, h1', g'⟩
    exact ⟨_, rfl, hK _ _ g' ⟨A2, _, c2', rfl, h1'.low (Nat.zero_le _)⟩⟩
  -- 8: snap.go:20 call
  apply told_is
  · intro W f hW hE h0 K hK
    have e13 := hE 0 13 _ rfl (by kernel_rfl)
    clear hE h0
    refine yes_of (want_free rfl) ?_
    obtain ⟨A2, n2, c2', e13, h1⟩ := e13
    go_simp
    refine (put_all (stW s) _ W h1 Hlen.out).mono ?_
    rintro e w1' ⟨rfl, g'⟩
    exact ⟨_, rfl, hK _ _ g' rfl⟩
  -- 9: snap.go:20 assign
  apply told_is
  · intro W f hW hE h0 K hK
    have e14 : f 14 = _ := hE 0 14 _ rfl (by kernel_rfl)
    clear hE h0
    refine yes_of (want_free rfl) ?_
    go_simp; exact hK _ _ (gb_refl _ _) rfl
  intro W f hW hA
  simp only [lexIn, Act.put, List.setIfInBounds_toArray, List.set_cons_zero, List.set_cons_succ]
  have e2 : f 2 = _ := hA 0 (some 2) _ rfl
  rw [e2]
  clear hA
  have HgE := Lib.hid (gb_none HG.out (gb_none HG1.out hW))
  clear hW
  go_wp2_with fail
  go_ret
  exact ⟨rfl, HgE.out⟩
end Go.Proofs.YthijiefopcnclaaGreatDoor.Dt
