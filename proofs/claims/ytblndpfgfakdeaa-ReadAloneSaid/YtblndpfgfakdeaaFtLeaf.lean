/- Right and Cmp, the program's and the document's. -/
import Derived.Test.YtblndpfgfakdeaaFtMem
import Derived.Test.YtblndpfgfakdeaaDtCmpI
import Derived.Test.YtblndpfgfakdeaaFtNeq
namespace Go.Proofs.Ytblndpfgfakdeaa.Dt
open Go Go.RowKit Go.Proofs.Ytblndpfgfakdeaa.Mm Go.Proofs.Ytblndpfgfakdeaa.Td

theorem str_eq {a b : ByteArray} (h : a = b) : (a.toList == b.toList) = true := by rw [h]; exact beq_self_eq_true _
theorem str_ne {a b : ByteArray} (h : a ≠ b) : (a.toList == b.toList) = false := by
  rw [ByteArray.toList_eq, ByteArray.toList_eq, beq_eq_false_iff_ne]
  exact fun h2 => h (ByteArray.ext (Array.ext' h2))
theorem str_none {a : ByteArray} (h : a.size = 0) : (a.toList == []) = true := by
  rw [ByteArray.toList_eq, beq_iff_eq]
  apply List.eq_nil_of_length_eq_zero
  simpa using h
theorem str_some {a : ByteArray} (h : a.size ≠ 0) : (a.toList == []) = false := by
  rw [ByteArray.toList_eq, beq_eq_false_iff_ne]
  intro h2
  apply h
  have h3 : a.data.toList.length = 0 := by rw [h2]; rfl
  simpa using h3
/-- What is told, as a Boolean of one's own. -/
def BoolIs (p : Prop) (w : World) (e : Ending) (w' : World) : Prop := (∃ q, e = .returned (.bool q) ∧ (q = true ↔ p)) ∧ w.grownBy w' none
theorem BoolIs.yes {p : Prop} {w w' : World} {e : Ending} (h : BoolIs p w e w') (hp : p) : e = .returned (.bool true) ∧ w.grownBy w' none := by
  obtain ⟨⟨q, rfl, hq⟩, hg⟩ := h
  rw [hq.2 hp]; exact ⟨rfl, hg⟩
theorem BoolIs.no {p : Prop} {w w' : World} {e : Ending} (h : BoolIs p w e w') (hp : ¬ p) : e = .returned (.bool false) ∧ w.grownBy w' none := by
  obtain ⟨⟨q, rfl, hq⟩, hg⟩ := h
  have : q = false := by cases q with
    | false => rfl
    | true => exact absurd (hq.1 rfl) hp
  rw [this]; exact ⟨rfl, hg⟩

set_option maxHeartbeats 8000000 in
set_option maxRecDepth 100000 in
theorem pRight_any (x : Fc) (w : World) : Calls Try.prog 24 #[.agg #[.int .i64 x.d, .int .i64 x.n, .string x.key, .int .i64 x.kind, .string x.item, .int .i64 x.v]] w fun e w' => e = .returned (.bool (decide (RightF x))) ∧ w.grownBy w' none := by
  by_cases hk : x.key.size ≤ 40
  · have k1 : decide (40 < x.key.size) = false := decide_eq_false (by omega)
    have k2 : decide ((40 : Int) < (x.key.size : Int)) = false := decide_eq_false (by omega)
    by_cases h1 : x.kind = 1
    · have q1 : (x.kind == 1) = true := by rw [h1]; rfl
      by_cases hi : x.item.size ≤ 200
      · have i1 : decide (x.item.size ≤ 200) = true := decide_eq_true hi
        have i2 : decide ((x.item.size : Int) ≤ 200) = true := decide_eq_true (by omega)
        by_cases hv : x.v = 0
        · have v1 : (x.v == 0) = true := by rw [hv]; rfl
          have HE : Hid (decide (RightF x) = true) := by show _ = _; exact decide_eq_true (by unfold RightF; omega)
          rw [HE.out]
          clear hk hi hv h1
          go_enter Try.func24, Try.ntmps24
          go_wp2_with fail
          go_ret
          exact ⟨rfl, gb_alloc (gb_refl _ _) _⟩
        · have v1 : (x.v == 0) = false := by rw [beq_eq_false_iff_ne]; exact hv
          have HE : Hid (decide (RightF x) = false) := by show _ = _; exact decide_eq_false (by unfold RightF; omega)
          rw [HE.out]
          clear hk hi hv h1
          go_enter Try.func24, Try.ntmps24
          go_wp2_with fail
          go_ret
          exact ⟨rfl, gb_alloc (gb_refl _ _) _⟩
      · have i1 : decide (x.item.size ≤ 200) = false := decide_eq_false hi
        have i2 : decide ((x.item.size : Int) ≤ 200) = false := decide_eq_false (by omega)
        have HE : Hid (decide (RightF x) = false) := by show _ = _; exact decide_eq_false (by unfold RightF; omega)
        rw [HE.out]
        clear hk hi h1
        go_enter Try.func24, Try.ntmps24
        go_wp2_with fail
        go_ret
        exact ⟨rfl, gb_alloc (gb_refl _ _) _⟩
    · have q1 : (x.kind == 1) = false := by rw [beq_eq_false_iff_ne]; exact h1
      by_cases h2 : x.kind = 2
      · have q2 : (x.kind == 2) = true := by rw [h2]; rfl
        by_cases hi : x.item.size ≤ 200
        · have i1 : decide (x.item.size ≤ 200) = true := decide_eq_true hi
          have i2 : decide ((x.item.size : Int) ≤ 200) = true := decide_eq_true (by omega)
          by_cases hv : x.v = 0
          · have v1 : (x.v == 0) = true := by rw [hv]; rfl
            have HE : Hid (decide (RightF x) = true) := by show _ = _; exact decide_eq_true (by unfold RightF; omega)
            rw [HE.out]
            clear hk hi hv h1 h2
            go_enter Try.func24, Try.ntmps24
            go_wp2_with fail
            go_ret
            exact ⟨rfl, gb_alloc (gb_refl _ _) _⟩
          · have v1 : (x.v == 0) = false := by rw [beq_eq_false_iff_ne]; exact hv
            have HE : Hid (decide (RightF x) = false) := by show _ = _; exact decide_eq_false (by unfold RightF; omega)
            rw [HE.out]
            clear hk hi hv h1 h2
            go_enter Try.func24, Try.ntmps24
            go_wp2_with fail
            go_ret
            exact ⟨rfl, gb_alloc (gb_refl _ _) _⟩
        · have i1 : decide (x.item.size ≤ 200) = false := decide_eq_false hi
          have i2 : decide ((x.item.size : Int) ≤ 200) = false := decide_eq_false (by omega)
          have HE : Hid (decide (RightF x) = false) := by show _ = _; exact decide_eq_false (by unfold RightF; omega)
          rw [HE.out]
          clear hk hi h1 h2
          go_enter Try.func24, Try.ntmps24
          go_wp2_with fail
          go_ret
          exact ⟨rfl, gb_alloc (gb_refl _ _) _⟩
      · have q2 : (x.kind == 2) = false := by rw [beq_eq_false_iff_ne]; exact h2
        by_cases h3 : x.kind = 3
        · have q3 : (x.kind == 3) = true := by rw [h3]; rfl
          by_cases hi : x.item.size = 0
          · have i1 := str_none hi
            by_cases hl : -1099511627776 ≤ x.v
            · have l1 : decide (-1099511627776 ≤ x.v) = true := decide_eq_true hl
              by_cases hu : x.v ≤ 1099511627776
              · have u1 : decide (x.v ≤ 1099511627776) = true := decide_eq_true hu
                have HE : Hid (decide (RightF x) = true) := by show _ = _; exact decide_eq_true (by unfold RightF; omega)
                rw [HE.out]
                clear hk h1 h2 h3 hi hl hu
                go_enter Try.func24, Try.ntmps24
                go_wp2_with fail
                go_ret
                exact ⟨rfl, gb_alloc (gb_refl _ _) _⟩
              · have u1 : decide (x.v ≤ 1099511627776) = false := decide_eq_false hu
                have HE : Hid (decide (RightF x) = false) := by show _ = _; exact decide_eq_false (by unfold RightF; omega)
                rw [HE.out]
                clear hk h1 h2 h3 hi hl hu
                go_enter Try.func24, Try.ntmps24
                go_wp2_with fail
                go_ret
                exact ⟨rfl, gb_alloc (gb_refl _ _) _⟩
            · have l1 : decide (-1099511627776 ≤ x.v) = false := decide_eq_false hl
              have HE : Hid (decide (RightF x) = false) := by show _ = _; exact decide_eq_false (by unfold RightF; omega)
              rw [HE.out]
              clear hk h1 h2 h3 hi hl
              go_enter Try.func24, Try.ntmps24
              go_wp2_with fail
              go_ret
              exact ⟨rfl, gb_alloc (gb_refl _ _) _⟩
          · have i1 := str_some hi
            have HE : Hid (decide (RightF x) = false) := by show _ = _; exact decide_eq_false (by unfold RightF; omega)
            rw [HE.out]
            clear hk h1 h2 h3 hi
            go_enter Try.func24, Try.ntmps24
            go_wp2_with fail
            go_ret
            exact ⟨rfl, gb_alloc (gb_refl _ _) _⟩
        · have q3 : (x.kind == 3) = false := by rw [beq_eq_false_iff_ne]; exact h3
          have HE : Hid (decide (RightF x) = false) := by show _ = _; exact decide_eq_false (by unfold RightF; omega)
          rw [HE.out]
          clear hk h1 h2 h3
          go_enter Try.func24, Try.ntmps24
          go_wp2_with fail
          go_ret
          exact ⟨rfl, gb_alloc (gb_refl _ _) _⟩
  · have k1 : decide (40 < x.key.size) = true := decide_eq_true (by omega)
    have k2 : decide ((40 : Int) < (x.key.size : Int)) = true := decide_eq_true (by omega)
    have HE : Hid (decide (RightF x) = false) := by show _ = _; exact decide_eq_false (by unfold RightF; omega)
    rw [HE.out]
    clear hk
    go_enter Try.func24, Try.ntmps24
    go_wp2_with fail
    go_ret
    exact ⟨rfl, gb_alloc (gb_refl _ _) _⟩

set_option maxHeartbeats 8000000 in
set_option maxRecDepth 100000 in
theorem refRight_any (x : Fc) (w : World) : Calls Try.prog 55 #[.agg #[.int .i64 x.d, .int .i64 x.n, .string x.key, .int .i64 x.kind, .string x.item, .int .i64 x.v]] w fun e w' => e = .returned (.bool (decide (RightF x))) ∧ w.grownBy w' none := by
  by_cases hk : x.key.size ≤ 40
  · have k1 : decide (40 < x.key.size) = false := decide_eq_false (by omega)
    have k2 : decide ((40 : Int) < (x.key.size : Int)) = false := decide_eq_false (by omega)
    by_cases h1 : x.kind = 1
    · have q1 : (x.kind == 1) = true := by rw [h1]; rfl
      by_cases hi : x.item.size ≤ 200
      · have i1 : decide (x.item.size ≤ 200) = true := decide_eq_true hi
        have i2 : decide ((x.item.size : Int) ≤ 200) = true := decide_eq_true (by omega)
        by_cases hv : x.v = 0
        · have v1 : (x.v == 0) = true := by rw [hv]; rfl
          have HE : Hid (decide (RightF x) = true) := by show _ = _; exact decide_eq_true (by unfold RightF; omega)
          rw [HE.out]
          clear hk hi hv h1
          go_enter Try.func55, Try.ntmps55
          go_wp2_with fail
          go_ret
          exact ⟨rfl, gb_alloc (gb_refl _ _) _⟩
        · have v1 : (x.v == 0) = false := by rw [beq_eq_false_iff_ne]; exact hv
          have HE : Hid (decide (RightF x) = false) := by show _ = _; exact decide_eq_false (by unfold RightF; omega)
          rw [HE.out]
          clear hk hi hv h1
          go_enter Try.func55, Try.ntmps55
          go_wp2_with fail
          go_ret
          exact ⟨rfl, gb_alloc (gb_refl _ _) _⟩
      · have i1 : decide (x.item.size ≤ 200) = false := decide_eq_false hi
        have i2 : decide ((x.item.size : Int) ≤ 200) = false := decide_eq_false (by omega)
        have HE : Hid (decide (RightF x) = false) := by show _ = _; exact decide_eq_false (by unfold RightF; omega)
        rw [HE.out]
        clear hk hi h1
        go_enter Try.func55, Try.ntmps55
        go_wp2_with fail
        go_ret
        exact ⟨rfl, gb_alloc (gb_refl _ _) _⟩
    · have q1 : (x.kind == 1) = false := by rw [beq_eq_false_iff_ne]; exact h1
      by_cases h2 : x.kind = 2
      · have q2 : (x.kind == 2) = true := by rw [h2]; rfl
        by_cases hi : x.item.size ≤ 200
        · have i1 : decide (x.item.size ≤ 200) = true := decide_eq_true hi
          have i2 : decide ((x.item.size : Int) ≤ 200) = true := decide_eq_true (by omega)
          by_cases hv : x.v = 0
          · have v1 : (x.v == 0) = true := by rw [hv]; rfl
            have HE : Hid (decide (RightF x) = true) := by show _ = _; exact decide_eq_true (by unfold RightF; omega)
            rw [HE.out]
            clear hk hi hv h1 h2
            go_enter Try.func55, Try.ntmps55
            go_wp2_with fail
            go_ret
            exact ⟨rfl, gb_alloc (gb_refl _ _) _⟩
          · have v1 : (x.v == 0) = false := by rw [beq_eq_false_iff_ne]; exact hv
            have HE : Hid (decide (RightF x) = false) := by show _ = _; exact decide_eq_false (by unfold RightF; omega)
            rw [HE.out]
            clear hk hi hv h1 h2
            go_enter Try.func55, Try.ntmps55
            go_wp2_with fail
            go_ret
            exact ⟨rfl, gb_alloc (gb_refl _ _) _⟩
        · have i1 : decide (x.item.size ≤ 200) = false := decide_eq_false hi
          have i2 : decide ((x.item.size : Int) ≤ 200) = false := decide_eq_false (by omega)
          have HE : Hid (decide (RightF x) = false) := by show _ = _; exact decide_eq_false (by unfold RightF; omega)
          rw [HE.out]
          clear hk hi h1 h2
          go_enter Try.func55, Try.ntmps55
          go_wp2_with fail
          go_ret
          exact ⟨rfl, gb_alloc (gb_refl _ _) _⟩
      · have q2 : (x.kind == 2) = false := by rw [beq_eq_false_iff_ne]; exact h2
        by_cases h3 : x.kind = 3
        · have q3 : (x.kind == 3) = true := by rw [h3]; rfl
          by_cases hi : x.item.size = 0
          · have i1 := str_none hi
            by_cases hl : -1099511627776 ≤ x.v
            · have l1 : decide (-1099511627776 ≤ x.v) = true := decide_eq_true hl
              by_cases hu : x.v ≤ 1099511627776
              · have u1 : decide (x.v ≤ 1099511627776) = true := decide_eq_true hu
                have HE : Hid (decide (RightF x) = true) := by show _ = _; exact decide_eq_true (by unfold RightF; omega)
                rw [HE.out]
                clear hk h1 h2 h3 hi hl hu
                go_enter Try.func55, Try.ntmps55
                go_wp2_with fail
                go_ret
                exact ⟨rfl, gb_alloc (gb_refl _ _) _⟩
              · have u1 : decide (x.v ≤ 1099511627776) = false := decide_eq_false hu
                have HE : Hid (decide (RightF x) = false) := by show _ = _; exact decide_eq_false (by unfold RightF; omega)
                rw [HE.out]
                clear hk h1 h2 h3 hi hl hu
                go_enter Try.func55, Try.ntmps55
                go_wp2_with fail
                go_ret
                exact ⟨rfl, gb_alloc (gb_refl _ _) _⟩
            · have l1 : decide (-1099511627776 ≤ x.v) = false := decide_eq_false hl
              have HE : Hid (decide (RightF x) = false) := by show _ = _; exact decide_eq_false (by unfold RightF; omega)
              rw [HE.out]
              clear hk h1 h2 h3 hi hl
              go_enter Try.func55, Try.ntmps55
              go_wp2_with fail
              go_ret
              exact ⟨rfl, gb_alloc (gb_refl _ _) _⟩
          · have i1 := str_some hi
            have HE : Hid (decide (RightF x) = false) := by show _ = _; exact decide_eq_false (by unfold RightF; omega)
            rw [HE.out]
            clear hk h1 h2 h3 hi
            go_enter Try.func55, Try.ntmps55
            go_wp2_with fail
            go_ret
            exact ⟨rfl, gb_alloc (gb_refl _ _) _⟩
        · have q3 : (x.kind == 3) = false := by rw [beq_eq_false_iff_ne]; exact h3
          have HE : Hid (decide (RightF x) = false) := by show _ = _; exact decide_eq_false (by unfold RightF; omega)
          rw [HE.out]
          clear hk h1 h2 h3
          go_enter Try.func55, Try.ntmps55
          go_wp2_with fail
          go_ret
          exact ⟨rfl, gb_alloc (gb_refl _ _) _⟩
  · have k1 : decide (40 < x.key.size) = true := decide_eq_true (by omega)
    have k2 : decide ((40 : Int) < (x.key.size : Int)) = true := decide_eq_true (by omega)
    have HE : Hid (decide (RightF x) = false) := by show _ = _; exact decide_eq_false (by unfold RightF; omega)
    rw [HE.out]
    clear hk
    go_enter Try.func55, Try.ntmps55
    go_wp2_with fail
    go_ret
    exact ⟨rfl, gb_alloc (gb_refl _ _) _⟩

theorem cmp_lt {d n e m : Int} (h : Lt d n e m) : cmpD d n e m = -1 := if_pos h
theorem cmp_is {d n e m : Int} (h : ¬ Lt d n e m) (h2 : d = e ∧ n = m) : cmpD d n e m = 0 := by unfold cmpD; rw [if_neg h, if_pos h2]
theorem cmp_gt {d n e m : Int} (h : ¬ Lt d n e m) (h2 : ¬ (d = e ∧ n = m)) : cmpD d n e m = 1 := by unfold cmpD; rw [if_neg h, if_neg h2]
theorem cmp_or (d n e m : Int) : cmpD d n e m = orI (cmpI d e) (cmpI n m) := by
  unfold cmpD orI cmpI Lt
  by_cases h1 : d < e
  · simp [h1]
  · by_cases h2 : e < d
    · have : ¬ d = e := by omega
      simp [h1, h2, this]
    · have h3 : d = e := by omega
      subst h3
      by_cases h4 : n < m
      · simp [h4]
      · by_cases h5 : m < n
        · have : ¬ n = m := by omega
          simp [h4, h5, this]
        · have : n = m := by omega
          simp [this]

attribute [local go_sem] Td.upon_value Td.upon_skip Td.upon_enter Td.upon_row Td.look_tmp Td.look_const Td.look_func Td.look_global
set_option maxHeartbeats 8000000 in
set_option maxRecDepth 100000 in
theorem pCmp_any (d n e m : Int) (w : World) : Calls Try.prog 25 #[.agg #[.int .i64 d, .int .i64 n], .agg #[.int .i64 e, .int .i64 m]] w fun r w' => r = .returned (.int .i64 (cmpD d n e m)) ∧ Gr w w' := by
  rw [cmp_or]
  go_enter Try.func25, Try.ntmps25
  go_upto_region 1 with fail
  obtain ⟨W0, hW0⟩ : ∃ W0, (w.alloc (.cells #[.int .i64 d, .int .i64 n] 35)).alloc (.cells #[.int .i64 e, .int .i64 m] 35) = W0 := ⟨_, rfl⟩
  have hr0 : Row W0 w.heap.size 35 #[.int .i64 d, .int .i64 n] := by rw [← hW0]; exact (Row.new _ _ _).alloc _
  have hs0 : Row W0 (w.heap.size + 1) 35 #[.int .i64 e, .int .i64 m] := by
    rw [← hW0]
    have h := Row.new (w.alloc (.cells #[.int .i64 d, .int .i64 n] 35)) 35 #[.int .i64 e, .int .i64 m]
    rwa [World.size_alloc] at h
  have HG : Hid (Gr w W0) := by show Gr w W0; rw [← hW0]; exact ((Gr.refl w).alloc _).alloc _
  have HR0 : Hid (∀ W, Gr W0 W → W.cell? ⟨w.heap.size, 0, none⟩ = some (.int .i64 d)) := fun W hW => (hr0.kept hW.gb (by simp)).at_ (i := 0) rfl
  have HR1 : Hid (∀ W, Gr W0 W → W.cell? ⟨w.heap.size, 1, none⟩ = some (.int .i64 n)) := fun W hW => (hr0.kept hW.gb (by simp)).at_ (i := 1) rfl
  have HS0 : Hid (∀ W, Gr W0 W → W.cell? ⟨w.heap.size + 1, 0, none⟩ = some (.int .i64 e)) := fun W hW => (hs0.kept hW.gb (by simp)).at_ (i := 0) rfl
  have HS1 : Hid (∀ W, Gr W0 W → W.cell? ⟨w.heap.size + 1, 1, none⟩ = some (.int .i64 m)) := fun W hW => (hs0.kept hW.gb (by simp)).at_ (i := 1) rfl
  rw [hW0]
  clear hW0 hr0 hs0
  apply wp_region_told (le := Gr) [isV _, isV _, isV _, isV _, isV _, isV _, isV _, isV _, isV _, isV _, twoV (cmpI d e) (cmpI n m), isV _, isV _]
  case hn => rfl
  case hm => kernel_rfl
  case hB => kernel_rfl
  case ht => exact fun _ _ _ h k => Gr.trans h k
  case hw => exact (Gr.refl _).drew
  -- 0: facts.go:68 fieldAddr
  apply told_is
  · intro W f hW hE h0 K hK
    have e2 := h0 2 (by kernel_rfl)
    conv at e2 => rhs; whnf
    clear hE h0
    refine yes_of (want_free rfl) ?_
    go_simp; exact hK _ _ (Gr.refl _) rfl
  -- 1: facts.go:68 load
  apply told_is
  · intro W f hW hE h0 K hK
    have e5 : f 5 = _ := hE 0 5 _ rfl (by kernel_rfl)
    clear hE h0
    refine yes_of (want_free rfl) ?_
    have q := HR0.out W hW
    go_simp; exact hK _ _ (Gr.refl _) rfl
  -- 2: facts.go:68 fieldAddr
  apply told_is
  · intro W f hW hE h0 K hK
    have e3 := h0 3 (by kernel_rfl)
    conv at e3 => rhs; whnf
    clear hE h0
    refine yes_of (want_free rfl) ?_
    go_simp; exact hK _ _ (Gr.refl _) rfl
  -- 3: facts.go:68 load
  apply told_is
  · intro W f hW hE h0 K hK
    have e7 : f 7 = _ := hE 0 7 _ rfl (by kernel_rfl)
    clear hE h0
    refine yes_of (want_free rfl) ?_
    have q := HS0.out W hW
    go_simp; exact hK _ _ (Gr.refl _) rfl
  -- 4: facts.go:68 call
  apply told_is
  · intro W f hW hE h0 K hK
    have e6 : f 6 = _ := hE 2 6 _ rfl (by kernel_rfl)
    have e8 : f 8 = _ := hE 0 8 _ rfl (by kernel_rfl)
    clear hE h0
    refine yes_of (want_free rfl) ?_
    go_simp
    refine (compare_any _ _ _).mono ?_
    rintro e w1 ⟨rfl, rfl⟩
    exact ⟨_, rfl, hK _ _ (Gr.refl _) rfl⟩
  -- 5: facts.go:68 fieldAddr
  apply told_is
  · intro W f hW hE h0 K hK
    have e2 := h0 2 (by kernel_rfl)
    conv at e2 => rhs; whnf
    clear hE h0
    refine yes_of (want_free rfl) ?_
    go_simp; exact hK _ _ (Gr.refl _) rfl
  -- 6: facts.go:68 load
  apply told_is
  · intro W f hW hE h0 K hK
    have e10 : f 10 = _ := hE 0 10 _ rfl (by kernel_rfl)
    clear hE h0
    refine yes_of (want_free rfl) ?_
    have q := HR1.out W hW
    go_simp; exact hK _ _ (Gr.refl _) rfl
  -- 7: facts.go:68 fieldAddr
  apply told_is
  · intro W f hW hE h0 K hK
    have e3 := h0 3 (by kernel_rfl)
    conv at e3 => rhs; whnf
    clear hE h0
    refine yes_of (want_free rfl) ?_
    go_simp; exact hK _ _ (Gr.refl _) rfl
  -- 8: facts.go:68 load
  apply told_is
  · intro W f hW hE h0 K hK
    have e12 : f 12 = _ := hE 0 12 _ rfl (by kernel_rfl)
    clear hE h0
    refine yes_of (want_free rfl) ?_
    have q := HS1.out W hW
    go_simp; exact hK _ _ (Gr.refl _) rfl
  -- 9: facts.go:68 call
  apply told_is
  · intro W f hW hE h0 K hK
    have e11 : f 11 = _ := hE 2 11 _ rfl (by kernel_rfl)
    have e13 : f 13 = _ := hE 0 13 _ rfl (by kernel_rfl)
    clear hE h0
    refine yes_of (want_free rfl) ?_
    go_simp
    refine (compare_any _ _ _).mono ?_
    rintro e w1 ⟨rfl, rfl⟩
    exact ⟨_, rfl, hK _ _ (Gr.refl _) rfl⟩
  -- 10: facts.go:68 buildSlice
  apply told_at twoV_stays
  · intro W f hW hE h0 K hK
    have e9 : f 9 = _ := hE 5 9 _ rfl (by kernel_rfl)
    have e14 : f 14 = _ := hE 0 14 _ rfl (by kernel_rfl)
    clear hE h0
    refine yes_of (want_free rfl) ?_
    go_simp; exact hK _ _ ((Gr.refl _).alloc _) ⟨_, rfl, Row.new _ _ _⟩
  -- 11: facts.go:68 call
  apply told_is
  · intro W f hW hE h0 K hK
    have e15 := hE 0 15 _ rfl (by kernel_rfl)
    clear hE h0
    refine yes_of (want_free rfl) ?_
    obtain ⟨g, e15, hrow⟩ := e15
    go_simp
    refine (or_any g _ _ _ hrow).mono ?_
    rintro e w1 ⟨rfl, rfl⟩
    exact ⟨_, rfl, hK _ _ (Gr.refl _) rfl⟩
  -- 12: facts.go:68 assign
  apply told_is
  · intro W f hW hE h0 K hK
    have e16 : f 16 = _ := hE 0 16 _ rfl (by kernel_rfl)
    clear hE h0
    refine yes_of (want_free rfl) ?_
    go_simp; exact hK _ _ (Gr.refl _) rfl
  intro W f hW hA
  simp only [lexIn, Act.put, List.setIfInBounds_toArray, List.set_cons_zero, List.set_cons_succ]
  have e4 : f 4 = _ := hA 0 (some 4) _ rfl
  rw [e4]
  clear hA
  go_wp2_with fail
  go_ret
  exact ⟨rfl, HG.out.trans hW⟩

set_option maxHeartbeats 8000000 in
set_option maxRecDepth 100000 in
theorem refCmp_any (d n e m : Int) (w : World) : Calls Try.prog 56 #[.agg #[.int .i64 d, .int .i64 n], .agg #[.int .i64 e, .int .i64 m]] w fun r w' => r = .returned (.int .i64 (cmpD d n e m)) ∧ w.grownBy w' none := by
  have hq := fun W => dotT_eql d n e m W
  have hG := dotT_guard
  by_cases h1 : d < e
  · have q1 : decide (d < e) = true := decide_eq_true h1
    have HE : Hid (cmpD d n e m = -1) := by exact cmp_lt (by unfold Lt; omega)
    rw [HE.out]
    clear h1
    go_enter Try.func56, Try.ntmps56
    go_wp2_with fail
    go_ret
    exact ⟨rfl, gb_alloc (gb_alloc (gb_refl _ _) _) _⟩
  · have q1 : decide (d < e) = false := decide_eq_false h1
    by_cases h2 : d = e
    · have q2 : (d == e) = true := by rw [h2]; simp
      by_cases h3 : n < m
      · have q3 : decide (n < m) = true := decide_eq_true h3
        have HE : Hid (cmpD d n e m = -1) := by exact cmp_lt (by unfold Lt; omega)
        rw [HE.out]
        clear h1 h2 h3
        go_enter Try.func56, Try.ntmps56
        go_wp2_with fail
        go_ret
        exact ⟨rfl, gb_alloc (gb_alloc (gb_refl _ _) _) _⟩
      · have q3 : decide (n < m) = false := decide_eq_false h3
        by_cases h4 : n = m
        · have q4 : eqD d n e m = true := (eqD_iff _ _ _ _).2 ⟨h2, h4⟩
          rw [q4] at hq
          have HE : Hid (cmpD d n e m = 0) := by exact cmp_is (by unfold Lt; omega) ⟨h2, h4⟩
          rw [HE.out]
          clear h1 h2 h3 h4 q4
          go_enter Try.func56, Try.ntmps56
          go_wp2_with fail
          go_ret
          exact ⟨rfl, gb_alloc (gb_alloc (gb_refl _ _) _) _⟩
        · have q4 : eqD d n e m = false := by rw [Bool.eq_false_iff, ne_eq, eqD_iff]; omega
          rw [q4] at hq
          have HE : Hid (cmpD d n e m = 1) := by exact cmp_gt (by unfold Lt; omega) (by omega)
          rw [HE.out]
          clear h1 h2 h3 h4 q4
          go_enter Try.func56, Try.ntmps56
          go_wp2_with fail
          go_ret
          exact ⟨rfl, gb_alloc (gb_alloc (gb_refl _ _) _) _⟩
    · have q2 : (d == e) = false := by rw [beq_eq_false_iff_ne]; exact h2
      have q4 : eqD d n e m = false := by rw [Bool.eq_false_iff, ne_eq, eqD_iff]; omega
      rw [q4] at hq
      have HE : Hid (cmpD d n e m = 1) := by exact cmp_gt (by unfold Lt; omega) (by omega)
      rw [HE.out]
      clear h1 h2 q4
      go_enter Try.func56, Try.ntmps56
      go_wp2_with fail
      go_ret
      exact ⟨rfl, gb_alloc (gb_alloc (gb_refl _ _) _) _⟩
end Go.Proofs.Ytblndpfgfakdeaa.Dt
