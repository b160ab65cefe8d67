/- WireAll's walk. -/
import Derived.Test.YtbammjhafgbfkaaDoorVOpen
import Derived.Test.YtbammjhafgbfkaaDoorVAwake
import Derived.Test.YtbammjhafgbfkaaDoorVLaw
import Derived.Test.YtbammjhafgbfkaaDoorTold
namespace Go.Proofs.YtbammjhafgbfkaaDoor
open Go.RowKit Wd Mm Vw Td

/-- What is known where neither is great. -/
def AtAll (x y : Wr) (A A2 : Option Addr) (c c2 : Nat) (b : Nat) (w W : World) : Prop :=
  W.heap[b]? = some (.cells #[.int .i64 x.k, .int .i64 x.n, .string x.s, .slice A x.l.length c] 24 (0, 0)) ∧ W.heap[b + 1]? = some (.cells #[.int .i64 y.k, .int .i64 y.n, .string y.s, .slice A2 y.l.length c2] 24 (0, 0)) ∧ HL W 0 (.slice A x.l.length c) x.l ∧ HL W 0 (.slice A2 y.l.length c2) y.l ∧ w.grownBy W none ∧ ErrT W

attribute [local go_sem] Td.upon_value Td.upon_skip Td.upon_enter Td.upon_row Td.look_tmp Td.look_const Td.look_func Td.look_global
set_option maxHeartbeats 16000000 in
set_option maxRecDepth 100000 in
theorem all_walk (x y : Wr) (La Lb : Value) (w : World) (hx : HX w La x.l) (hy : HX w Lb y.l) (hT : ErrT w) :
    Calls Tryd.prog 3 #[.agg #[.int .i64 x.k, .int .i64 x.n, .string x.s, La], .agg #[.int .i64 y.k, .int .i64 y.n, .string y.s, Lb]] w fun e w' => e = .returned (.bool true) ∧ w.grownBy w' none := by
  obtain ⟨A, c, rfl⟩ := hx.slice
  obtain ⟨A2, c2, rfl⟩ := hy.slice
  have Hx := Lib.hid (fun W (g : w.grownBy W none) => great_any w x _ W hx g)
  have Hy := Lib.hid (fun W (g : w.grownBy W none) => great_any w y _ W hy g)
  have HT := Lib.hid hT
  clear hx hy hT
  go_enter Tryd.func3, Tryd.ntmps3
  go_wp2_with fail
  refine (Hx.out _ (gb_alloc (gb_alloc (gb_refl _ _) _) _)).mono ?_
  rintro e w2 ⟨ba, rfl, hba, g2⟩
  have hg2 := gb_none (gb_alloc (gb_alloc (gb_refl w none) _) _) g2
  have hA1 : w2.heap[w.heap.size]? = some (.cells #[.int .i64 x.k, .int .i64 x.n, .string x.s, .slice A x.l.length c] 24 (0, 0)) := (g2.block _ (by simp; omega) (by simp)).trans ((Below.heap_alloc _ _ _ (by simp)).trans (heap_alloc_new w _))
  have hB1 : w2.heap[w.heap.size + 1]? = some (.cells #[.int .i64 y.k, .int .i64 y.n, .string y.s, .slice A2 y.l.length c2] 24 (0, 0)) := (g2.block _ (by simp) (by simp)).trans (by have := heap_alloc_new (w.alloc (.cells #[.int .i64 x.k, .int .i64 x.n, .string x.s, .slice A x.l.length c] 24)) (.cells #[.int .i64 y.k, .int .i64 y.n, .string y.s, .slice A2 y.l.length c2] 24); simpa using this)
  have HA1 := Lib.hid hA1
  have HB1 := Lib.hid hB1
  have Hg2 := Lib.hid hg2
  have Hba := Lib.hid hba
  obtain ⟨⟨a0, a1, a2, a3⟩, _, hal⟩ := box4 hA1
  obtain ⟨⟨b0, b1, b2, b3⟩, _, hbl⟩ := box4 hB1
  clear g2 hg2 hA1 hB1 hba
  cases ba with
  | true =>
    go_wp2_with fail
    refine (awake_any _ (HT.out.grown Hg2.out)).mono ?_
    rintro e w3 ⟨rfl, g3⟩
    go_wp2_with fail
    go_ret
    exact ⟨rfl, gb_none Hg2.out g3⟩
  | false =>
  go_wp2_with fail
  refine (Hy.out _ Hg2.out).mono ?_
  rintro e w3 ⟨bb, rfl, hbb, g3⟩
  cases bb with
  | true =>
    have Hg3 := Lib.hid (gb_none Hg2.out g3)
    clear g3 hbb
    go_wp2_with fail
    refine (awake_any _ (HT.out.grown Hg3.out)).mono ?_
    rintro e w4 ⟨rfl, g4⟩
    go_wp2_with fail
    go_ret
    exact ⟨rfl, gb_none Hg3.out g4⟩
  | false =>
  have Hg3 := Lib.hid (gb_none Hg2.out g3)
  have HhA := Lib.hid (((Hba.out (by trivial)).1).kept Hg3.out)
  have HhB := Lib.hid (((hbb (by trivial)).1).kept Hg3.out)
  have HzA : Hid (x.enc.length ≤ 1099511627776) := Nat.le_trans (Hba.out (by trivial)).2 (by decide)
  have HbA := Lib.hid ((g3.block _ hal (by simp)).trans HA1.out)
  have HbB := Lib.hid ((g3.block _ hbl (by simp)).trans HB1.out)
  have HlA : Hid (w.heap.size < w3.heap.size) := Nat.lt_of_lt_of_le hal g3.size
  have HlB : Hid (w.heap.size + 1 < w3.heap.size) := Nat.lt_of_lt_of_le hbl g3.size
  have HT3 := Lib.hid (HT.out.grown Hg3.out)
  clear HT
  have HT := HT3
  have hc1 := fun W (h : HL W 0 (.slice A x.l.length c) x.l) => may_any x _ W h
  have hc2 := fun W (h : HL W 0 (.slice A x.l.length c) x.l) => maywire_any x _ W h
  have hc3 := fun W (h : HL W 0 (.slice A x.l.length c) x.l) => put_all x _ W h HzA.out
  have hc4 := fun W (h : HL W 0 (.slice A x.l.length c) x.l) => putwire_all x _ W h HzA.out
  have hc5 := fun W (h : HL W 0 (.slice A x.l.length c) x.l) (k : HL W 0 (.slice A2 y.l.length c2) y.l) => samew_any x y _ _ W h k
  have hc6 := fun W (h : HL W 0 (.slice A x.l.length c) x.l) (k : HL W 0 (.slice A2 y.l.length c2) y.l) => same_any x y _ _ W h k
  have hc7 := fun W (h : HL W 0 (.slice A x.l.length c) x.l) => samew_any x x _ _ W h h
  rw [same_self] at hc7
  generalize x.may = mb at hc1 hc2
  generalize x.bytes = bs at hc3 hc4
  generalize x.same y = sb at hc5 hc6
  have Hc1 := Lib.hid hc1
  have Hc2 := Lib.hid hc2
  have Hc3 := Lib.hid hc3
  have Hc4 := Lib.hid hc4
  have Hc5 := Lib.hid hc5
  have Hc6 := Lib.hid hc6
  have Hc7 := Lib.hid hc7
  clear hc1 hc2 hc3 hc4 hc5 hc6 hc7
  clear HT3 g3 hbb a0 a1 a2 a3 b0 b1 b2 b3 hal hbl HA1 HB1 Hba Hx Hy Hg2
  go_wp2_with fail
  apply wp_region_told (le := fun a b => a.grownBy b none) [isV (.agg #[.int .i64 x.k, .int .i64 x.n, .string x.s, .slice A x.l.length c]), isV (.bool mb), isV (.agg #[.int .i64 x.k, .int .i64 x.n, .string x.s, .slice A x.l.length c]), isV (.bool mb), isV (.bool true), isV (.bool true), isV (.agg #[.int .i64 x.k, .int .i64 x.n, .string x.s, .slice A x.l.length c]), isV (.string bs), isV (.agg #[.int .i64 x.k, .int .i64 x.n, .string x.s, .slice A x.l.length c]), isV (.string bs), isV (.bool true), isV (.bool true), isV (.bool true), isV (.agg #[.int .i64 x.k, .int .i64 x.n, .string x.s, .slice A x.l.length c]), isV (.agg #[.int .i64 y.k, .int .i64 y.n, .string y.s, .slice A2 y.l.length c2]), isV (.bool sb), isV (.agg #[.int .i64 x.k, .int .i64 x.n, .string x.s, .slice A x.l.length c]), isV (.agg #[.int .i64 y.k, .int .i64 y.n, .string y.s, .slice A2 y.l.length c2]), isV (.bool sb), isV (.bool true), isV (.bool true), isV (.bool true), isV (.agg #[.int .i64 x.k, .int .i64 x.n, .string x.s, .slice A x.l.length c]), isV (.agg #[.int .i64 x.k, .int .i64 x.n, .string x.s, .slice A x.l.length c]), isV (.bool true), isV (.bool true), isV (.bool true), isV (.bool true), isV (.bool true), isV (.bool true)]
  case hn => rfl
  case hm => kernel_rfl
  case hB => kernel_rfl
  case ht => exact fun _ _ _ h k => gb_none h k
  case hw => exact gb_drew (gb_refl _ _)
  -- 0: law.go:36 load
  apply told_is
  · intro W f hW hE h0 K hK
    have e2 := h0 2 (by kernel_rfl)
    conv at e2 => rhs; whnf
    clear hE h0
    refine yes_of (want_free rfl) ?_
    have hbx := (hW.block _ HlA.out (by simp)).trans HbA.out
    obtain ⟨⟨q0, q1, q2, q3⟩, _, _⟩ := box4 hbx
    clear hbx
    go_simp; exact hK _ _ (gb_refl _ _) rfl
  -- 1: law.go:36 call
  apply told_is
  · intro W f hW hE h0 K hK
    have e12 : f 12 = _ := hE 0 12 _ rfl (by kernel_rfl)
    clear hE h0
    refine yes_of (want_free rfl) ?_
    go_simp
    refine (Hc1.out W (HhA.out.kept hW)).mono ?_
    rintro e W2 ⟨rfl, gg⟩
    exact ⟨_, rfl, hK _ _ gg rfl⟩
  -- 2: law.go:36 load
  apply told_is
  · intro W f hW hE h0 K hK
    have e2 := h0 2 (by kernel_rfl)
    conv at e2 => rhs; whnf
    clear hE h0
    refine yes_of (want_free rfl) ?_
    have hbx := (hW.block _ HlA.out (by simp)).trans HbA.out
    obtain ⟨⟨q0, q1, q2, q3⟩, _, _⟩ := box4 hbx
    clear hbx
    go_simp; exact hK _ _ (gb_refl _ _) rfl
  -- 3: law.go:36 call
  apply told_is
  · intro W f hW hE h0 K hK
    have e14 : f 14 = _ := hE 0 14 _ rfl (by kernel_rfl)
    clear hE h0
    refine yes_of (want_free rfl) ?_
    go_simp
    refine (Hc2.out W (HhA.out.kept hW)).mono ?_
    rintro e W2 ⟨rfl, gg⟩
    exact ⟨_, rfl, hK _ _ gg rfl⟩
  -- 4: law.go:36 binOp
  apply told_is
  · intro W f hW hE h0 K hK
    have e13 : f 13 = _ := hE 2 13 _ rfl (by kernel_rfl)
    have e15 : f 15 = _ := hE 0 15 _ rfl (by kernel_rfl)
    clear hE h0
    refine yes_of (want_free rfl) ?_
    go_simp
    first
      | exact hK _ _ (gb_refl _ _) rfl
      | exact hK _ _ (gb_refl _ _) (by simp [Td.isV])
  -- 5: law.go:36 move
  apply told_is
  · intro W f hW hE h0 K hK
    have e16 : f 16 = _ := hE 0 16 _ rfl (by kernel_rfl)
    clear hE h0
    refine yes_of (want_free rfl) ?_
    go_simp; exact hK _ _ (gb_refl _ _) rfl
  -- 6: law.go:36 load
  apply told_is
  · intro W f hW hE h0 K hK
    have e2 := h0 2 (by kernel_rfl)
    conv at e2 => rhs; whnf
    have e17 : f 17 = _ := hE 0 17 _ rfl (by kernel_rfl)
    clear hE h0
    refine yes_of (want_yes rfl rfl e17) ?_
    have hbx := (hW.block _ HlA.out (by simp)).trans HbA.out
    obtain ⟨⟨q0, q1, q2, q3⟩, _, _⟩ := box4 hbx
    clear hbx
    go_simp; exact hK _ _ (gb_refl _ _) rfl
  -- 7: law.go:36 call
  apply told_is
  · intro W f hW hE h0 K hK
    have e18 : f 18 = _ := hE 0 18 _ rfl (by kernel_rfl)
    have e17 : f 17 = _ := hE 1 17 _ rfl (by kernel_rfl)
    clear hE h0
    refine yes_of (want_yes rfl rfl e17) ?_
    go_simp
    refine (Hc3.out W (HhA.out.kept hW)).mono ?_
    rintro e W2 ⟨rfl, gg⟩
    exact ⟨_, rfl, hK _ _ gg rfl⟩
  -- 8: law.go:36 load
  apply told_is
  · intro W f hW hE h0 K hK
    have e2 := h0 2 (by kernel_rfl)
    conv at e2 => rhs; whnf
    have e17 : f 17 = _ := hE 2 17 _ rfl (by kernel_rfl)
    clear hE h0
    refine yes_of (want_yes rfl rfl e17) ?_
    have hbx := (hW.block _ HlA.out (by simp)).trans HbA.out
    obtain ⟨⟨q0, q1, q2, q3⟩, _, _⟩ := box4 hbx
    clear hbx
    go_simp; exact hK _ _ (gb_refl _ _) rfl
  -- 9: law.go:36 call
  apply told_is
  · intro W f hW hE h0 K hK
    have e20 : f 20 = _ := hE 0 20 _ rfl (by kernel_rfl)
    have e17 : f 17 = _ := hE 3 17 _ rfl (by kernel_rfl)
    clear hE h0
    refine yes_of (want_yes rfl rfl e17) ?_
    go_simp
    refine (Hc4.out W (HhA.out.kept hW)).mono ?_
    rintro e W2 ⟨rfl, gg⟩
    exact ⟨_, rfl, hK _ _ gg rfl⟩
  -- 10: law.go:36 binOp
  apply told_is
  · intro W f hW hE h0 K hK
    have e19 : f 19 = _ := hE 2 19 _ rfl (by kernel_rfl)
    have e21 : f 21 = _ := hE 0 21 _ rfl (by kernel_rfl)
    have e17 : f 17 = _ := hE 4 17 _ rfl (by kernel_rfl)
    clear hE h0
    refine yes_of (want_yes rfl rfl e17) ?_
    go_simp
    first
      | exact hK _ _ (gb_refl _ _) rfl
      | exact hK _ _ (gb_refl _ _) (by simp [Td.isV])
  -- 11: law.go:36 pick
  apply told_is
  · intro W f hW hE h0 K hK
    have e17 : f 17 = _ := hE 5 17 _ rfl (by kernel_rfl)
    have e22 : f 22 = _ := hE 0 22 _ rfl (by kernel_rfl)
    clear hE h0
    refine yes_of (want_free rfl) ?_
    go_simp; exact hK _ _ (gb_refl _ _) rfl
  -- 12: law.go:36 move
  apply told_is
  · intro W f hW hE h0 K hK
    have e23 : f 23 = _ := hE 0 23 _ rfl (by kernel_rfl)
    clear hE h0
    refine yes_of (want_free rfl) ?_
    go_simp; exact hK _ _ (gb_refl _ _) rfl
  -- 13: law.go:36 load
  apply told_is
  · intro W f hW hE h0 K hK
    have e2 := h0 2 (by kernel_rfl)
    conv at e2 => rhs; whnf
    have e24 : f 24 = _ := hE 0 24 _ rfl (by kernel_rfl)
    clear hE h0
    refine yes_of (want_yes rfl rfl e24) ?_
    have hbx := (hW.block _ HlA.out (by simp)).trans HbA.out
    obtain ⟨⟨q0, q1, q2, q3⟩, _, _⟩ := box4 hbx
    clear hbx
    go_simp; exact hK _ _ (gb_refl _ _) rfl
  -- 14: law.go:36 load
  apply told_is
  · intro W f hW hE h0 K hK
    have e3 := h0 3 (by kernel_rfl)
    conv at e3 => rhs; whnf
    have e24 : f 24 = _ := hE 1 24 _ rfl (by kernel_rfl)
    clear hE h0
    refine yes_of (want_yes rfl rfl e24) ?_
    have hbx := (hW.block _ HlB.out (by simp)).trans HbB.out
    obtain ⟨⟨q0, q1, q2, q3⟩, _, _⟩ := box4 hbx
    clear hbx
    go_simp; exact hK _ _ (gb_refl _ _) rfl
  -- 15: law.go:36 call
  apply told_is
  · intro W f hW hE h0 K hK
    have e25 : f 25 = _ := hE 1 25 _ rfl (by kernel_rfl)
    have e26 : f 26 = _ := hE 0 26 _ rfl (by kernel_rfl)
    have e24 : f 24 = _ := hE 2 24 _ rfl (by kernel_rfl)
    clear hE h0
    refine yes_of (want_yes rfl rfl e24) ?_
    go_simp
    refine (Hc5.out W (HhA.out.kept hW) (HhB.out.kept hW)).mono ?_
    rintro e W2 ⟨rfl, gg⟩
    exact ⟨_, rfl, hK _ _ gg rfl⟩
  -- 16: law.go:36 load
  apply told_is
  · intro W f hW hE h0 K hK
    have e2 := h0 2 (by kernel_rfl)
    conv at e2 => rhs; whnf
    have e24 : f 24 = _ := hE 3 24 _ rfl (by kernel_rfl)
    clear hE h0
    refine yes_of (want_yes rfl rfl e24) ?_
    have hbx := (hW.block _ HlA.out (by simp)).trans HbA.out
    obtain ⟨⟨q0, q1, q2, q3⟩, _, _⟩ := box4 hbx
    clear hbx
    go_simp; exact hK _ _ (gb_refl _ _) rfl
  -- 17: law.go:36 load
  apply told_is
  · intro W f hW hE h0 K hK
    have e3 := h0 3 (by kernel_rfl)
    conv at e3 => rhs; whnf
    have e24 : f 24 = _ := hE 4 24 _ rfl (by kernel_rfl)
    clear hE h0
    refine yes_of (want_yes rfl rfl e24) ?_
    have hbx := (hW.block _ HlB.out (by simp)).trans HbB.out
    obtain ⟨⟨q0, q1, q2, q3⟩, _, _⟩ := box4 hbx
    clear hbx
    go_simp; exact hK _ _ (gb_refl _ _) rfl
  -- 18: law.go:36 call
  apply told_is
  · intro W f hW hE h0 K hK
    have e28 : f 28 = _ := hE 1 28 _ rfl (by kernel_rfl)
    have e29 : f 29 = _ := hE 0 29 _ rfl (by kernel_rfl)
    have e24 : f 24 = _ := hE 5 24 _ rfl (by kernel_rfl)
    clear hE h0
    refine yes_of (want_yes rfl rfl e24) ?_
    go_simp
    refine (Hc6.out W (HhA.out.kept hW) (HhB.out.kept hW)).mono ?_
    rintro e W2 ⟨rfl, gg⟩
    exact ⟨_, rfl, hK _ _ gg rfl⟩
  -- 19: law.go:36 binOp
  apply told_is
  · intro W f hW hE h0 K hK
    have e27 : f 27 = _ := hE 3 27 _ rfl (by kernel_rfl)
    have e30 : f 30 = _ := hE 0 30 _ rfl (by kernel_rfl)
    have e24 : f 24 = _ := hE 6 24 _ rfl (by kernel_rfl)
    clear hE h0
    refine yes_of (want_yes rfl rfl e24) ?_
    go_simp
    first
      | exact hK _ _ (gb_refl _ _) rfl
      | exact hK _ _ (gb_refl _ _) (by simp [Td.isV])
  -- 20: law.go:36 pick
  apply told_is
  · intro W f hW hE h0 K hK
    have e24 : f 24 = _ := hE 7 24 _ rfl (by kernel_rfl)
    have e31 : f 31 = _ := hE 0 31 _ rfl (by kernel_rfl)
    clear hE h0
    refine yes_of (want_free rfl) ?_
    go_simp; exact hK _ _ (gb_refl _ _) rfl
  -- 21: law.go:36 move
  apply told_is
  · intro W f hW hE h0 K hK
    have e32 : f 32 = _ := hE 0 32 _ rfl (by kernel_rfl)
    clear hE h0
    refine yes_of (want_free rfl) ?_
    go_simp; exact hK _ _ (gb_refl _ _) rfl
  -- 22: law.go:36 load
  apply told_is
  · intro W f hW hE h0 K hK
    have e2 := h0 2 (by kernel_rfl)
    conv at e2 => rhs; whnf
    have e33 : f 33 = _ := hE 0 33 _ rfl (by kernel_rfl)
    clear hE h0
    refine yes_of (want_yes rfl rfl e33) ?_
    have hbx := (hW.block _ HlA.out (by simp)).trans HbA.out
    obtain ⟨⟨q0, q1, q2, q3⟩, _, _⟩ := box4 hbx
    clear hbx
    go_simp; exact hK _ _ (gb_refl _ _) rfl
  -- 23: law.go:36 load
  apply told_is
  · intro W f hW hE h0 K hK
    have e2 := h0 2 (by kernel_rfl)
    conv at e2 => rhs; whnf
    have e33 : f 33 = _ := hE 1 33 _ rfl (by kernel_rfl)
    clear hE h0
    refine yes_of (want_yes rfl rfl e33) ?_
    have hbx := (hW.block _ HlA.out (by simp)).trans HbA.out
    obtain ⟨⟨q0, q1, q2, q3⟩, _, _⟩ := box4 hbx
    clear hbx
    go_simp; exact hK _ _ (gb_refl _ _) rfl
  -- 24: law.go:36 call
  apply told_is
  · intro W f hW hE h0 K hK
    have e34 : f 34 = _ := hE 1 34 _ rfl (by kernel_rfl)
    have e35 : f 35 = _ := hE 0 35 _ rfl (by kernel_rfl)
    have e33 : f 33 = _ := hE 2 33 _ rfl (by kernel_rfl)
    clear hE h0
    refine yes_of (want_yes rfl rfl e33) ?_
    go_simp
    refine (Hc7.out W (HhA.out.kept hW)).mono ?_
    rintro e W2 ⟨rfl, gg⟩
    exact ⟨_, rfl, hK _ _ gg rfl⟩
  -- 25: law.go:36 pick
  apply told_is
  · intro W f hW hE h0 K hK
    have e33 : f 33 = _ := hE 3 33 _ rfl (by kernel_rfl)
    have e36 : f 36 = _ := hE 0 36 _ rfl (by kernel_rfl)
    clear hE h0
    refine yes_of (want_free rfl) ?_
    go_simp; exact hK _ _ (gb_refl _ _) rfl
  -- 26: law.go:36 move
  apply told_is
  · intro W f hW hE h0 K hK
    have e37 : f 37 = _ := hE 0 37 _ rfl (by kernel_rfl)
    clear hE h0
    refine yes_of (want_free rfl) ?_
    go_simp; exact hK _ _ (gb_refl _ _) rfl
  -- 27: law.go:36 call
  apply told_is
  · intro W f hW hE h0 K hK
    have e38 : f 38 = _ := hE 0 38 _ rfl (by kernel_rfl)
    clear hE h0
    refine yes_of (want_yes rfl rfl e38) ?_
    go_simp
    refine (awake_any W (HT.out.grown hW)).mono ?_
    rintro e W2 ⟨rfl, gg⟩
    exact ⟨_, rfl, hK _ _ gg rfl⟩
  -- 28: law.go:36 pick
  apply told_is
  · intro W f hW hE h0 K hK
    have e38 : f 38 = _ := hE 1 38 _ rfl (by kernel_rfl)
    have e39 : f 39 = _ := hE 0 39 _ rfl (by kernel_rfl)
    clear hE h0
    refine yes_of (want_free rfl) ?_
    go_simp; exact hK _ _ (gb_refl _ _) rfl
  -- 29: law.go:36 assign
  apply told_is
  · intro W f hW hE h0 K hK
    have e40 : f 40 = _ := hE 0 40 _ rfl (by kernel_rfl)
    clear hE h0
    refine yes_of (want_free rfl) ?_
    go_simp; exact hK _ _ (gb_refl _ _) rfl
  intro W f hW hA
  simp only [lexIn, Act.put, List.setIfInBounds_toArray, List.set_cons_zero, List.set_cons_succ]
  have e4 : f 4 = _ := hA 0 (some 4) _ rfl
  rw [e4]
  clear hA
  go_wp2_with fail
  go_ret
  exact ⟨rfl, gb_none Hg3.out hW⟩
end Go.Proofs.YtbammjhafgbfkaaDoor
