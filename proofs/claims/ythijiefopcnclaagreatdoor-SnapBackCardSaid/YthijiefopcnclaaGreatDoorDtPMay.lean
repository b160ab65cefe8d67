/- The program's May. -/
import Derived.Test.YthijiefopcnclaaGreatDoorFtA
import Derived.Test.YthijiefopcnclaaGreatDoorDtB
namespace Go.Proofs.YthijiefopcnclaaGreatDoor.Dt
open Go Go.RowKit Go.Proofs.YthijiefopcnclaaGreatDoor.Mm Go.Proofs.YthijiefopcnclaaGreatDoor.Td

/-- The three cells of a run lie here. -/
def At3 (W : World) (g o : Nat) (r : Rn) : Prop := W.cell? ⟨g, o, none⟩ = some (.int .i64 r.d) ∧ W.cell? ⟨g, o + 1, none⟩ = some (.int .i64 r.f) ∧ W.cell? ⟨g, o + 2, none⟩ = some (.int .i64 r.t)
theorem At3.keep {W W' : World} {g o : Nat} {r : Rn} (h : At3 W g o r) (hg : g < W.heap.size) (k : W.grownBy W' none) : At3 W' g o r := by
  have hb := k.block g hg (by simp)
  obtain ⟨h0, h1, h2⟩ := h
  exact ⟨(World.cell?_of_block (a := ⟨g, o, none⟩) hb).trans h0, (World.cell?_of_block (a := ⟨g, o + 1, none⟩) hb).trans h1, (World.cell?_of_block (a := ⟨g, o + 2, none⟩) hb).trans h2⟩
theorem At3.kept {W W' : World} {g o : Nat} {r : Rn} {row : Option Nat} (h : At3 W g o r) (hg : g < W.heap.size) (k : W.grownBy W' row) (hr : some g ≠ row) : At3 W' g o r := by
  have hb := k.block g hg hr
  obtain ⟨h0, h1, h2⟩ := h
  exact ⟨(World.cell?_of_block (a := ⟨g, o, none⟩) hb).trans h0, (World.cell?_of_block (a := ⟨g, o + 1, none⟩) hb).trans h1, (World.cell?_of_block (a := ⟨g, o + 2, none⟩) hb).trans h2⟩
theorem box3 (w : World) (r : Rn) (t : TypeId) : At3 (w.alloc (.cells #[.int .i64 r.d, .int .i64 r.f, .int .i64 r.t] t)) w.heap.size 0 r :=
  ⟨(Row.new w t _).at_ (i := 0) rfl, (Row.new w t _).at_ (i := 1) rfl, (Row.new w t _).at_ (i := 2) rfl⟩
theorem rl_at3 {w : World} {g o n : Nat} {l : List Rn} (h : RL w (some ⟨g, o, none⟩) n l) {i : Nat} {x : Rn} (hx : l[i]? = some x) : At3 w g (o + i * 3) x := by
  have hi : i < l.length := (List.getElem?_eq_some_iff.1 hx).1
  obtain ⟨g', o', e, _, hc⟩ := h.2 (by have := h.1; omega)
  cases e
  exact hc i x hx
attribute [local go_sem] Td.upon_value Td.upon_skip Td.upon_enter Td.upon_row Td.look_tmp Td.look_const Td.look_func Td.look_global
set_option maxHeartbeats 8000000 in
set_option maxRecDepth 100000 in
theorem pMay_any (A : Option Addr) (n c : Nat) (l : List Rn) (w : World) (hl : RL w A n l) (hn : n ≤ 1099511627776) :
    Calls Tryz.prog 73 #[.slice A n c] w (MayIs l w) := by
  have Hl := Lib.hid hl
  clear hl
  go_enter Tryz.func73, Tryz.ntmps73
  go_wp2_with fail
  go_loopw [7] (fun i wr => ∃ k : Nat, k ≤ n ∧ i = .int .i64 k ∧ Hid (May (l.take k)) ∧ w.grownBy wr none) (fun i _ => n - (intOf i).toNat)
  case atStart => exact ⟨0, Nat.zero_le _, rfl, may_nil, gb_refl _ _⟩
  case round =>
    obtain ⟨k, hk, rfl, HX, hg⟩ := hrel
    by_cases hlt : k < n
    · have d1 : decide (k < n) = true := decide_eq_true hlt
      have d2 : decide ((k : Int) < (n : Int)) = true := decide_eq_true (by omega)
      have bk : (k : Int) < (n : Int) := by omega
      have hRL := Hl.out.keep hg
      obtain ⟨g, o, rfl, hgl, _⟩ := hRL.2 (by omega)
      obtain ⟨x, hx⟩ : ∃ x, l[k]? = some x := ⟨_, List.getElem?_eq_getElem (by rw [Hl.out.1]; exact hlt)⟩
      obtain ⟨h0, h1, h2⟩ := rl_at3 hRL hx
      have HRL := Lib.hid hRL
      have Hx := Lib.hid hx
      clear hRL hx
      go_upto_region 4 with fail
      obtain ⟨W4, hW4⟩ : ∃ W4, wr.alloc (.cells #[.int .i64 x.d, .int .i64 x.f, .int .i64 x.t] 50) = W4 := ⟨_, rfl⟩
      have hb4 : At3 W4 wr.heap.size 0 x := by rw [← hW4]; exact box3 _ _ _
      have hs4 : wr.heap.size < W4.heap.size := by rw [← hW4]; simp
      have g4 : wr.grownBy W4 none := by rw [← hW4]; exact gb_alloc (gb_refl _ _) _
      have HR : Hid (∀ W, W4.grownBy W none → At3 W wr.heap.size 0 x) := fun W hW => hb4.keep hs4 hW
      have HRL4 : Hid (RL W4 (some ⟨g, o, none⟩) n l) := HRL.out.keep g4
      have Hg4 : Hid (w.grownBy W4 none) := gb_none hg g4
      have hg4l : g < W4.heap.size := by omega
      have Hg4l := Lib.hid hg4l
      rw [hW4]
      clear hW4 hb4 hs4 g4 h0 h1 h2 hgl hg4l
      generalize wr.heap.size = D4 at *
      by_cases ho : Ok x
      · have so : decide (Ok x) = true := decide_eq_true ho
        have Hox := Lib.hid ho
        clear ho
        rcases k with _ | j
        · apply wp_region_told (le := fun a b => a.grownBy b none) [isV _, isV _, isV _, isV _, isV _, isV _, isV _, isV _, isV _, isV _, isV _, isV _, isV _, isV _, isV _, isV _, isV _]
          case hn => rfl
          case hm => kernel_rfl
          case hB => kernel_rfl
          case ht => exact fun _ _ _ h k => gb_none h k
          case hw => exact gb_drew (gb_refl _ _)
          -- 0: dots.go:15 load
          apply told_is
          · intro W f hW hE h0 K hK
            have e4 := h0 4 (by kernel_rfl)
            conv at e4 => rhs; whnf
            clear hE h0
            refine yes_of (want_free rfl) ?_
            obtain ⟨hc0, hc1, hc2⟩ := HR.out W hW
            go_simp; exact hK _ _ (gb_refl _ _) rfl
          -- 1: dots.go:15 call
          apply told_is
          · intro W f hW hE h0 K hK
            have e12 : f 12 = _ := hE 0 12 _ rfl (by kernel_rfl)
            clear hE h0
            refine yes_of (want_free rfl) ?_
            go_simp
            refine (stands_any x _).mono ?_
            rintro e w1 ⟨rfl, g⟩
            exact ⟨_, rfl, hK _ _ g.gb rfl⟩
          -- 2: dots.go:15 unOp
          apply told_is
          · intro W f hW hE h0 K hK
            have e13 : f 13 = _ := hE 0 13 _ rfl (by kernel_rfl)
            clear hE h0
            refine yes_of (want_free rfl) ?_
            go_simp; exact hK _ _ (gb_refl _ _) rfl
          -- 3: dots.go:15 move
          apply told_is
          · intro W f hW hE h0 K hK
            have e14 : f 14 = _ := hE 0 14 _ rfl (by kernel_rfl)
            clear hE h0
            refine yes_of (want_free rfl) ?_
            go_simp; exact hK _ _ (gb_refl _ _) rfl
          -- 4: dots.go:15 move
          apply told_is
          · intro W f hW hE h0 K hK
            have e3 := h0 3 (by kernel_rfl)
            conv at e3 => rhs; whnf
            have e15 : f 15 = _ := hE 0 15 _ rfl (by kernel_rfl)
            clear hE h0
            refine yes_of (want_yes rfl rfl e15) ?_
            go_simp; exact hK _ _ (gb_refl _ _) rfl
          -- 5: dots.go:15 binOp
          apply told_is
          · intro W f hW hE h0 K hK
            have e16 : f 16 = _ := hE 0 16 _ rfl (by kernel_rfl)
            have e15 : f 15 = _ := hE 1 15 _ rfl (by kernel_rfl)
            clear hE h0
            refine yes_of (want_yes rfl rfl e15) ?_
            go_simp; exact hK _ _ (gb_refl _ _) rfl
          -- 6: dots.go:15 move
          apply told_is
          · intro W f hW hE h0 K hK
            have e17 : f 17 = _ := hE 0 17 _ rfl (by kernel_rfl)
            have e15 : f 15 = _ := hE 2 15 _ rfl (by kernel_rfl)
            clear hE h0
            refine yes_of (want_yes rfl rfl e15) ?_
            go_simp; exact hK _ _ (gb_refl _ _) rfl
          -- 7: dots.go:15 move
          apply told_is
          · intro W f hW hE h0 K hK
            have e18 : f 18 = _ := hE 0 18 _ rfl (by kernel_rfl)
            clear hE h0
            refine no_of (want_no rfl rfl e18 rfl) ?_
            exact hK _ _ (gb_refl _ _) rfl
          -- 8: dots.go:15 move
          apply told_is
          · intro W f hW hE h0 K hK
            have e18 : f 18 = _ := hE 1 18 _ rfl (by kernel_rfl)
            clear hE h0
            refine no_of (want_no rfl rfl e18 rfl) ?_
            exact hK _ _ (gb_refl _ _) rfl
          -- 9: dots.go:15 binOp
          apply told_is
          · intro W f hW hE h0 K hK
            have e18 : f 18 = _ := hE 2 18 _ rfl (by kernel_rfl)
            clear hE h0
            refine no_of (want_no rfl rfl e18 rfl) ?_
            exact hK _ _ (gb_refl _ _) rfl
          -- 10: dots.go:15 indexAddr
          apply told_is
          · intro W f hW hE h0 K hK
            have e18 : f 18 = _ := hE 3 18 _ rfl (by kernel_rfl)
            clear hE h0
            refine no_of (want_no rfl rfl e18 rfl) ?_
            exact hK _ _ (gb_refl _ _) rfl
          -- 11: dots.go:15 load
          apply told_is
          · intro W f hW hE h0 K hK
            have e18 : f 18 = _ := hE 4 18 _ rfl (by kernel_rfl)
            clear hE h0
            refine no_of (want_no rfl rfl e18 rfl) ?_
            exact hK _ _ (gb_refl _ _) rfl
          -- 12: dots.go:15 load
          apply told_is
          · intro W f hW hE h0 K hK
            have e18 : f 18 = _ := hE 5 18 _ rfl (by kernel_rfl)
            clear hE h0
            refine no_of (want_no rfl rfl e18 rfl) ?_
            exact hK _ _ (gb_refl _ _) rfl
          -- 13: dots.go:15 call
          apply told_is
          · intro W f hW hE h0 K hK
            have e18 : f 18 = _ := hE 6 18 _ rfl (by kernel_rfl)
            clear hE h0
            refine no_of (want_no rfl rfl e18 rfl) ?_
            exact hK _ _ (gb_refl _ _) rfl
          -- 14: dots.go:15 unOp
          apply told_is
          · intro W f hW hE h0 K hK
            have e18 : f 18 = _ := hE 7 18 _ rfl (by kernel_rfl)
            clear hE h0
            refine no_of (want_no rfl rfl e18 rfl) ?_
            exact hK _ _ (gb_refl _ _) rfl
          -- 15: dots.go:15 pick
          apply told_is
          · intro W f hW hE h0 K hK
            have e18 : f 18 = _ := hE 8 18 _ rfl (by kernel_rfl)
            have e26 : f 26 = _ := hE 0 26 _ rfl (by kernel_rfl)
            have e15 : f 15 = _ := hE 11 15 _ rfl (by kernel_rfl)
            clear hE h0
            refine yes_of (want_yes rfl rfl e15) ?_
            go_simp; exact hK _ _ (gb_refl _ _) rfl
          -- 16: dots.go:15 pick
          apply told_is
          · intro W f hW hE h0 K hK
            have e15 : f 15 = _ := hE 12 15 _ rfl (by kernel_rfl)
            have e27 : f 27 = _ := hE 0 27 _ rfl (by kernel_rfl)
            clear hE h0
            refine yes_of (want_free rfl) ?_
            go_simp; exact hK _ _ (gb_refl _ _) rfl
          intro W f hW hA
          simp only [lexIn, Act.put, List.setIfInBounds_toArray, List.set_cons_zero, List.set_cons_succ]
          have e28 : f 28 = _ := hA 0 (some 28) _ rfl
          rw [e28]
          clear hA
          go_wp2_with fail
          go_roundw
          case rel => exact ⟨1, by omega, by go_num, (by show May _; rw [take_more Hx.out]; exact may_one Hox.out), gb_none Hg4.out hW⟩
          case measure => simp [intOf]; omega
        · obtain ⟨z, hz⟩ : ∃ z, l[j]? = some z := ⟨_, List.getElem?_eq_getElem (by have := Hl.out.1; omega)⟩
          have HZ : Hid (∀ W, W4.grownBy W none → At3 W g (o + j * 3) z) := fun W hW => (rl_at3 HRL4.out hz).keep Hg4l.out hW
          have Hz := Lib.hid hz
          have Hoz : Hid (Ok z) := HX.out.1 z (by rw [take_more Hz.out]; simp)
          have z1 : ((j + 1 : Nat) : Int) - 1 = (j : Int) := by omega
          have z2 : (j : Int) < (n : Int) := by omega
          have z3 : IntKind.i64.wrap (((j + 1 : Nat) : Int) - 1) = (j : Int) := by rw [IntKind.wrap_i64]; omega
          have z5 : IntKind.i64.wrap (j : Int) = (j : Int) := by rw [IntKind.wrap_i64]; omega
          have z4 : decide (0 < j + 1) = true := by simp
          clear hz
          obtain ⟨bv, hbv⟩ : ∃ bv : Bool, decide (Bef z x) = bv := ⟨_, rfl⟩
          have Hbv := Lib.hid hbv
          clear hbv
          apply wp_region_told (le := fun a b => a.grownBy b none) [isV _, isV _, isV _, isV _, isV _, isV _, isV _, isV _, isV _, isV _, isV _, isV _, isV _, isV _, isV _, isV _, isV _]
          case hn => rfl
          case hm => kernel_rfl
          case hB => kernel_rfl
          case ht => exact fun _ _ _ h k => gb_none h k
          case hw => exact gb_drew (gb_refl _ _)
          -- 0: dots.go:15 load
          apply told_is
          · intro W f hW hE h0 K hK
            have e4 := h0 4 (by kernel_rfl)
            conv at e4 => rhs; whnf
            clear hE h0
            refine yes_of (want_free rfl) ?_
            obtain ⟨hc0, hc1, hc2⟩ := HR.out W hW
            go_simp; exact hK _ _ (gb_refl _ _) rfl
          -- 1: dots.go:15 call
          apply told_is
          · intro W f hW hE h0 K hK
            have e12 : f 12 = _ := hE 0 12 _ rfl (by kernel_rfl)
            clear hE h0
            refine yes_of (want_free rfl) ?_
            go_simp
            refine (stands_any x _).mono ?_
            rintro e w1 ⟨rfl, g⟩
            exact ⟨_, rfl, hK _ _ g.gb rfl⟩
          -- 2: dots.go:15 unOp
          apply told_is
          · intro W f hW hE h0 K hK
            have e13 : f 13 = _ := hE 0 13 _ rfl (by kernel_rfl)
            clear hE h0
            refine yes_of (want_free rfl) ?_
            go_simp; exact hK _ _ (gb_refl _ _) rfl
          -- 3: dots.go:15 move
          apply told_is
          · intro W f hW hE h0 K hK
            have e14 : f 14 = _ := hE 0 14 _ rfl (by kernel_rfl)
            clear hE h0
            refine yes_of (want_free rfl) ?_
            go_simp; exact hK _ _ (gb_refl _ _) rfl
          -- 4: dots.go:15 move
          apply told_is
          · intro W f hW hE h0 K hK
            have e3 := h0 3 (by kernel_rfl)
            conv at e3 => rhs; whnf
            have e15 : f 15 = _ := hE 0 15 _ rfl (by kernel_rfl)
            clear hE h0
            refine yes_of (want_yes rfl rfl e15) ?_
            go_simp; exact hK _ _ (gb_refl _ _) rfl
          -- 5: dots.go:15 binOp
          apply told_is
          · intro W f hW hE h0 K hK
            have e16 : f 16 = _ := hE 0 16 _ rfl (by kernel_rfl)
            have e15 : f 15 = _ := hE 1 15 _ rfl (by kernel_rfl)
            clear hE h0
            refine yes_of (want_yes rfl rfl e15) ?_
            go_simp; exact hK _ _ (gb_refl _ _) rfl
          -- 6: dots.go:15 move
          apply told_is
          · intro W f hW hE h0 K hK
            have e17 : f 17 = _ := hE 0 17 _ rfl (by kernel_rfl)
            have e15 : f 15 = _ := hE 2 15 _ rfl (by kernel_rfl)
            clear hE h0
            refine yes_of (want_yes rfl rfl e15) ?_
            go_simp; exact hK _ _ (gb_refl _ _) rfl
          -- 7: dots.go:15 move
          apply told_is
          · intro W f hW hE h0 K hK
            have e0 := h0 0 (by kernel_rfl)
            conv at e0 => rhs; whnf
            have e18 : f 18 = _ := hE 0 18 _ rfl (by kernel_rfl)
            clear hE h0
            refine yes_of (want_yes rfl rfl e18) ?_
            go_simp; exact hK _ _ (gb_refl _ _) rfl
          -- 8: dots.go:15 move
          apply told_is
          · intro W f hW hE h0 K hK
            have e3 := h0 3 (by kernel_rfl)
            conv at e3 => rhs; whnf
            have e18 : f 18 = _ := hE 1 18 _ rfl (by kernel_rfl)
            clear hE h0
            refine yes_of (want_yes rfl rfl e18) ?_
            go_simp; exact hK _ _ (gb_refl _ _) rfl
          -- 9: dots.go:15 binOp
          apply told_is
          · intro W f hW hE h0 K hK
            have e20 : f 20 = _ := hE 0 20 _ rfl (by kernel_rfl)
            have e18 : f 18 = _ := hE 2 18 _ rfl (by kernel_rfl)
            clear hE h0
            refine yes_of (want_yes rfl rfl e18) ?_
            go_simp; exact hK _ _ (gb_refl _ _) rfl
          -- 10: dots.go:15 indexAddr
          apply told_is
          · intro W f hW hE h0 K hK
            have e19 : f 19 = _ := hE 2 19 _ rfl (by kernel_rfl)
            have e21 : f 21 = _ := hE 0 21 _ rfl (by kernel_rfl)
            have e18 : f 18 = _ := hE 3 18 _ rfl (by kernel_rfl)
            clear hE h0
            refine yes_of (want_yes rfl rfl e18) ?_
            go_simp; exact hK _ _ (gb_refl _ _) rfl
          -- 11: dots.go:15 load
          apply told_is
          · intro W f hW hE h0 K hK
            have e22 : f 22 = _ := hE 0 22 _ rfl (by kernel_rfl)
            have e18 : f 18 = _ := hE 4 18 _ rfl (by kernel_rfl)
            clear hE h0
            refine yes_of (want_yes rfl rfl e18) ?_
            obtain ⟨hc0, hc1, hc2⟩ := HZ.out W hW
            go_simp; exact hK _ _ (gb_refl _ _) rfl
          -- 12: dots.go:15 load
          apply told_is
          · intro W f hW hE h0 K hK
            have e4 := h0 4 (by kernel_rfl)
            conv at e4 => rhs; whnf
            have e18 : f 18 = _ := hE 5 18 _ rfl (by kernel_rfl)
            clear hE h0
            refine yes_of (want_yes rfl rfl e18) ?_
            obtain ⟨hc0, hc1, hc2⟩ := HR.out W hW
            go_simp; exact hK _ _ (gb_refl _ _) rfl
          -- 13: dots.go:15 call
          apply told_is
          · intro W f hW hE h0 K hK
            have e23 : f 23 = _ := hE 1 23 _ rfl (by kernel_rfl)
            have e24 : f 24 = _ := hE 0 24 _ rfl (by kernel_rfl)
            have e18 : f 18 = _ := hE 6 18 _ rfl (by kernel_rfl)
            clear hE h0
            refine yes_of (want_yes rfl rfl e18) ?_
            go_simp
            refine (apart_any z x _ Hoz.out Hox.out).mono ?_
            rintro e w1 ⟨he, g⟩
            rw [Hbv.out] at he
            subst he
            exact ⟨_, rfl, hK _ _ g.gb rfl⟩
          -- 14: dots.go:15 unOp
          apply told_is
          · intro W f hW hE h0 K hK
            have e25 : f 25 = _ := hE 0 25 _ rfl (by kernel_rfl)
            have e18 : f 18 = _ := hE 7 18 _ rfl (by kernel_rfl)
            clear hE h0
            refine yes_of (want_yes rfl rfl e18) ?_
            go_simp; exact hK _ _ (gb_refl _ _) rfl
          -- 15: dots.go:15 pick
          apply told_is
          · intro W f hW hE h0 K hK
            have e18 : f 18 = _ := hE 8 18 _ rfl (by kernel_rfl)
            have e26 : f 26 = _ := hE 0 26 _ rfl (by kernel_rfl)
            have e15 : f 15 = _ := hE 11 15 _ rfl (by kernel_rfl)
            clear hE h0
            refine yes_of (want_yes rfl rfl e15) ?_
            go_simp; exact hK _ _ (gb_refl _ _) rfl
          -- 16: dots.go:15 pick
          apply told_is
          · intro W f hW hE h0 K hK
            have e15 : f 15 = _ := hE 12 15 _ rfl (by kernel_rfl)
            have e27 : f 27 = _ := hE 0 27 _ rfl (by kernel_rfl)
            clear hE h0
            refine yes_of (want_free rfl) ?_
            go_simp; exact hK _ _ (gb_refl _ _) rfl
          intro W f hW hA
          simp only [lexIn, Act.put, List.setIfInBounds_toArray, List.set_cons_zero, List.set_cons_succ]
          have e28 : f 28 = _ := hA 0 (some 28) _ rfl
          rw [e28]
          clear hA
          cases bv with
          | true =>
            go_wp2_with fail
            go_roundw
            case rel => exact ⟨j + 1 + 1, by omega, by go_num, may_next HX.out Hz.out Hx.out Hox.out (of_decide_eq_true Hbv.out), gb_none Hg4.out hW⟩
            case measure => simp [intOf]; omega
          | false =>
            go_wp2_with fail
            go_ret
            exact ⟨⟨false, rfl, ⟨fun h => (by cases h), fun h => absurd h (may_not_bef Hz.out Hx.out (of_decide_eq_false Hbv.out))⟩⟩, gb_none Hg4.out hW⟩
      · have so : decide (Ok x) = false := decide_eq_false ho
        have Hno : Hid (¬ May l) := may_not_ok Hx.out ho
        clear ho
        apply wp_region_told (le := fun a b => a.grownBy b none) [isV _, isV _, isV _, isV _, isV _, isV _, isV _, isV _, isV _, isV _, isV _, isV _, isV _, isV _, isV _, isV _, isV _]
        case hn => rfl
        case hm => kernel_rfl
        case hB => kernel_rfl
        case ht => exact fun _ _ _ h k => gb_none h k
        case hw => exact gb_drew (gb_refl _ _)
        -- 0: dots.go:15 load
        apply told_is
        · intro W f hW hE h0 K hK
          have e4 := h0 4 (by kernel_rfl)
          conv at e4 => rhs; whnf
          clear hE h0
          refine yes_of (want_free rfl) ?_
          obtain ⟨hc0, hc1, hc2⟩ := HR.out W hW
          go_simp; exact hK _ _ (gb_refl _ _) rfl
        -- 1: dots.go:15 call
        apply told_is
        · intro W f hW hE h0 K hK
          have e12 : f 12 = _ := hE 0 12 _ rfl (by kernel_rfl)
          clear hE h0
          refine yes_of (want_free rfl) ?_
          go_simp
          refine (stands_any x _).mono ?_
          rintro e w1 ⟨rfl, g⟩
          exact ⟨_, rfl, hK _ _ g.gb rfl⟩
        -- 2: dots.go:15 unOp
        apply told_is
        · intro W f hW hE h0 K hK
          have e13 : f 13 = _ := hE 0 13 _ rfl (by kernel_rfl)
          clear hE h0
          refine yes_of (want_free rfl) ?_
          go_simp; exact hK _ _ (gb_refl _ _) rfl
        -- 3: dots.go:15 move
        apply told_is
        · intro W f hW hE h0 K hK
          have e14 : f 14 = _ := hE 0 14 _ rfl (by kernel_rfl)
          clear hE h0
          refine yes_of (want_free rfl) ?_
          go_simp; exact hK _ _ (gb_refl _ _) rfl
        -- 4: dots.go:15 move
        apply told_is
        · intro W f hW hE h0 K hK
          have e15 : f 15 = _ := hE 0 15 _ rfl (by kernel_rfl)
          clear hE h0
          refine no_of (want_no rfl rfl e15 rfl) ?_
          exact hK _ _ (gb_refl _ _) rfl
        -- 5: dots.go:15 binOp
        apply told_is
        · intro W f hW hE h0 K hK
          have e15 : f 15 = _ := hE 1 15 _ rfl (by kernel_rfl)
          clear hE h0
          refine no_of (want_no rfl rfl e15 rfl) ?_
          exact hK _ _ (gb_refl _ _) rfl
        -- 6: dots.go:15 move
        apply told_is
        · intro W f hW hE h0 K hK
          have e15 : f 15 = _ := hE 2 15 _ rfl (by kernel_rfl)
          clear hE h0
          refine no_of (want_no rfl rfl e15 rfl) ?_
          exact hK _ _ (gb_refl _ _) rfl
        -- 7: dots.go:15 move
        apply told_is
        · intro W f hW hE h0 K hK
          have e18 : f 18 = _ := hE 0 18 _ rfl (by kernel_rfl)
          clear hE h0
          refine no_of (want_no rfl rfl e18 rfl) ?_
          exact hK _ _ (gb_refl _ _) rfl
        -- 8: dots.go:15 move
        apply told_is
        · intro W f hW hE h0 K hK
          have e18 : f 18 = _ := hE 1 18 _ rfl (by kernel_rfl)
          clear hE h0
          refine no_of (want_no rfl rfl e18 rfl) ?_
          exact hK _ _ (gb_refl _ _) rfl
        -- 9: dots.go:15 binOp
        apply told_is
        · intro W f hW hE h0 K hK
          have e18 : f 18 = _ := hE 2 18 _ rfl (by kernel_rfl)
          clear hE h0
          refine no_of (want_no rfl rfl e18 rfl) ?_
          exact hK _ _ (gb_refl _ _) rfl
        -- 10: dots.go:15 indexAddr
        apply told_is
        · intro W f hW hE h0 K hK
          have e18 : f 18 = _ := hE 3 18 _ rfl (by kernel_rfl)
          clear hE h0
          refine no_of (want_no rfl rfl e18 rfl) ?_
          exact hK _ _ (gb_refl _ _) rfl
        -- 11: dots.go:15 load
        apply told_is
        · intro W f hW hE h0 K hK
          have e18 : f 18 = _ := hE 4 18 _ rfl (by kernel_rfl)
          clear hE h0
          refine no_of (want_no rfl rfl e18 rfl) ?_
          exact hK _ _ (gb_refl _ _) rfl
        -- 12: dots.go:15 load
        apply told_is
        · intro W f hW hE h0 K hK
          have e18 : f 18 = _ := hE 5 18 _ rfl (by kernel_rfl)
          clear hE h0
          refine no_of (want_no rfl rfl e18 rfl) ?_
          exact hK _ _ (gb_refl _ _) rfl
        -- 13: dots.go:15 call
        apply told_is
        · intro W f hW hE h0 K hK
          have e18 : f 18 = _ := hE 6 18 _ rfl (by kernel_rfl)
          clear hE h0
          refine no_of (want_no rfl rfl e18 rfl) ?_
          exact hK _ _ (gb_refl _ _) rfl
        -- 14: dots.go:15 unOp
        apply told_is
        · intro W f hW hE h0 K hK
          have e18 : f 18 = _ := hE 7 18 _ rfl (by kernel_rfl)
          clear hE h0
          refine no_of (want_no rfl rfl e18 rfl) ?_
          exact hK _ _ (gb_refl _ _) rfl
        -- 15: dots.go:15 pick
        apply told_is
        · intro W f hW hE h0 K hK
          have e15 : f 15 = _ := hE 11 15 _ rfl (by kernel_rfl)
          clear hE h0
          refine no_of (want_no rfl rfl e15 rfl) ?_
          exact hK _ _ (gb_refl _ _) rfl
        -- 16: dots.go:15 pick
        apply told_is
        · intro W f hW hE h0 K hK
          have e15 : f 15 = _ := hE 12 15 _ rfl (by kernel_rfl)
          have e27 : f 27 = _ := hE 0 27 _ rfl (by kernel_rfl)
          clear hE h0
          refine yes_of (want_free rfl) ?_
          go_simp; exact hK _ _ (gb_refl _ _) rfl
        intro W f hW hA
        simp only [lexIn, Act.put, List.setIfInBounds_toArray, List.set_cons_zero, List.set_cons_succ]
        have e28 : f 28 = _ := hA 0 (some 28) _ rfl
        rw [e28]
        clear hA
        go_wp2_with fail
        go_ret
        exact ⟨⟨false, rfl, ⟨fun h => (by cases h), fun h => absurd h Hno.out⟩⟩, gb_none Hg4.out hW⟩
    · have hkn : k = n := by omega
      subst hkn
      have d1 : decide (k < k) = false := by simp
      have d2 : decide ((k : Int) < (k : Int)) = false := by simp
      have He : Hid (May l) := by
        have h := HX.out
        rwa [List.take_of_length_le (by rw [Hl.out.1]; exact Nat.le_refl _)] at h
      go_wp2_with fail
      go_ret
      exact ⟨⟨true, rfl, ⟨fun _ => He.out, fun _ => rfl⟩⟩, hg⟩
end Go.Proofs.YthijiefopcnclaaGreatDoor.Dt
