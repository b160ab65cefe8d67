/- buffer.Ack. Written by gen_buack.py. -/
import Derived.Test.YtbdpckphlagijaaDoorBuAdd
import Derived.Test.YtbdpckphlagijaaDoorBuFrom
set_option linter.unusedVariables false
namespace Go.Proofs.YtbdpckphlagijaaDoor.Bf
open Go Go.RowKit Go.Proofs.YtbdpckphlagijaaDoor.Mm Go.Proofs.YtbdpckphlagijaaDoor.Td Go.Proofs.YtbdpckphlagijaaDoor.Dt Go.Proofs.YtbdpckphlagijaaDoor.Er

theorem lsV_keep {N : Nat} {ls : List St} : Stays (fun a b => a.grownBy b none) (lsV N ls) := fun _ _ _ h hl => hl.keep h
theorem bufLV_keep {N : Nat} {first : Int} {ls : List St} : Stays (fun a b => a.grownBy b none) (bufLV N first ls) := fun _ _ _ h ⟨A, m, c, e, hl⟩ => ⟨A, m, c, e, hl.keep h⟩
/-- Which of the two errors an error is. -/
theorem is_at {w : World} {g : Nat} {a : Addr} (h : At w g a) (p : ByteArray) (r : Int) {b : Addr} {g' : Nat} (hb : At w g' b) (q : Bool) (hq : q = true ∧ a = b ∨ q = false ∧ a ≠ b) : Calls Tryd.prog 20 #[refV p r a, .iface 109 (.pointer (some b))] w fun e w' => e = .returned (.bool q) ∧ w.grownBy w' none := by
  obtain ⟨_, cs, t, h2⟩ := h
  obtain ⟨_, ds, u, k2⟩ := hb
  exact is_ref p r a b cs ds t u w h2 k2 q hq

attribute [local go_sem] Td.upon_value Td.upon_skip Td.upon_enter Td.upon_row Td.look_tmp Td.look_const Td.look_func Td.look_global
set_option maxHeartbeats 8000000 in
set_option maxRecDepth 100000 in
theorem ack_at (first m : Int) (A : Option Addr) (n c k : Nat) (ls : List St) (a b : Addr) (w : World) (hb : BL w A n c ls) (hp : ∀ s ∈ ls, Lens s) (hE : Ers w a b) (hf0 : 0 ≤ first) (hf1 : first ≤ 4503599627370496) (hm : m ≤ 4503599629370496) (hk : k ≤ n) (hn : n ≤ 100000) (B : Bu) (hB : B = ⟨first + (k : Int), ls.drop k⟩)
    (hcase : (m < first ∧ k = 0) ∨ (first + (n : Int) < m ∧ k = n) ∨ m = first + (k : Int)) :
    Calls Tryd.prog 8 #[.agg #[.int .i64 first, .slice A n c], .int .i64 m] w (BufIs B.first B.l w) := by
  obtain ⟨b0, hb0⟩ : ∃ b0, w.heap.size = b0 := ⟨_, rfl⟩
  obtain ⟨h0, hh0⟩ : ∃ h0, b0 + 1 = h0 := ⟨_, rfl⟩
  obtain ⟨W0, hW0⟩ : ∃ W0, (w.alloc (.cells #[.int .i64 first, .slice A n c] 32)).alloc (.cells #[.int .i64 0, .slice none 0 0] 32) = W0 := ⟨_, rfl⟩
  have G0 : w.grownBy W0 none := by rw [← hW0]; exact gb_alloc (gb_alloc (gb_refl _ _) _) _
  have HR0 : Hid (Row W0 h0 32 #[.int .i64 0, .slice none 0 0]) := by
    rw [← hW0, ← hh0, ← hb0]
    have h := Row.new (w.alloc (.cells #[.int .i64 first, .slice A n c] 32)) 32 #[.int .i64 0, .slice none 0 0]
    rw [World.size_alloc] at h
    exact h
  have HRb0 : Hid (Row W0 b0 32 #[.int .i64 first, .slice A n c]) := by rw [← hW0, ← hb0]; exact (Row.new _ _ _).alloc _
  have Hh0 : Hid (w.heap.size ≤ h0) := by show _ ≤ _; omega
  have HG := Lib.hid G0
  have y0 := HRb0.out.at_ (i := 0) rfl
  have y1 := HRb0.out.at_ (i := 1) rfl
  obtain ⟨A', hS, hb2⟩ := cut_from hb hk
  have HS := Lib.hid hS
  have HBd := Lib.hid hb2
  have Hp : Hid (∀ s ∈ ls.drop k, Lens s) := fun s hs => hp s (List.mem_of_mem_drop hs)
  have Hn : Hid (n - k ≤ 100000) := by show _ ≤ _; omega
  have Ht1 : Hid (IntKind.i64.wrap (first + (k : Int)) = first + (k : Int)) := by show _ = _; rw [IntKind.wrap_i64]; omega
  have HB := Lib.hid hB

  have HA : Hid (Calls Tryd.prog 19 #[.agg #[.int .i64 first, .slice A n c], .int .i64 m] W0 (AheadIs first n m a b W0)) := ahead_any first m A n c a b W0 (hE.keep G0) hf0 hf1 hm (by omega)
  have HE := Lib.hid (hE.keep G0)
  have HX : Hid (∀ q v, Ahead first n m a b q v → (k = 0 ∧ q = 0 ∧ ∃ p r, v = refV p r a) ∨ (k = n ∧ q = 0 ∧ ∃ p r, v = refV p r b) ∨ (q = (k : Int) ∧ v = .nilIface)) := fun q v h => by
    rcases h with ⟨h, e, v⟩ | ⟨h, e, v⟩ | ⟨h1, h2, h3, h4⟩
    · exact .inl ⟨by omega, e, v⟩
    · exact .inr (.inl ⟨by omega, e, v⟩)
    · exact .inr (.inr ⟨by omega, h4⟩)
  clear G0 hb hp hE hf0 hf1 hm hk hn hcase hb2 hS hB
  go_enter Tryd.func8, Tryd.ntmps8
  go_upto_region 1 with fail
  clear hW0 hh0 hb0
  go_upto_block 0 with (go_at_call 19; refine HA.out.mono ?_; rintro e w1 ⟨q, v, rfl, hq, g1⟩; have Hq := Lib.hid hq; have Hg1 := Lib.hid g1; clear hq g1)
  go_cut [5] (fun v wx => v = .int .i64 (k : Int) ∧ W0.grownBy wx none)
  case first =>
    have hE1 := HE.out.keep Hg1.out
    have z0 := (HRb0.out.kept Hg1.out (by simp)).at_ (i := 0) rfl
    have z1 := (HRb0.out.kept Hg1.out (by simp)).at_ (i := 1) rfl
    have c0 := hE1.gone.1
    rcases HX.out q v Hq.out with ⟨hk0, rfl, p, r, rfl⟩ | ⟨hkn, rfl, p, r, rfl⟩ | ⟨rfl, rfl⟩
    · have HI := Lib.hid (is_at hE1.gone p r hE1.gone true (.inl ⟨rfl, rfl⟩))
      have Hk : Hid ((0 : Int) = (k : Int)) := by show _ = _; omega
      clear hE1 hk0
      go_wp2_with (go_at_call 20; with_reducible refine HI.out.mono ?_; rintro e w2 ⟨rfl, g2⟩; have Hg2 := Lib.hid (gb_none Hg1.out g2); clear g2)
      go_meet
      exact ⟨by rw [Hk.out], Hg2.out⟩
    · have HI := Lib.hid (is_at hE1.yet p r hE1.gone false (.inr ⟨rfl, fun e => hE1.ne e.symm⟩))
      have HE1 := Lib.hid hE1
      have Hk : Hid ((n : Int) = (k : Int)) := by show _ = _; omega
      have HRb1 := Lib.hid (HRb0.out.kept Hg1.out (by simp))
      clear hE1 hkn z0 z1
      go_upto_region 4 with (go_at_call 20; with_reducible refine HI.out.mono ?_; rintro e w2 ⟨rfl, g2⟩; have Hg2 := Lib.hid g2; clear g2)
      have hE2 := HE1.out.keep Hg2.out
      have c1 := hE2.yet.1
      have HI2 := Lib.hid (is_at hE2.yet p r hE2.yet true (.inl ⟨rfl, rfl⟩))
      have HRb2 := Lib.hid (HRb1.out.kept Hg2.out (by simp))
      clear hE2 c0
      go_wp2_with (go_at_call 20; with_reducible refine HI2.out.mono ?_; rintro e w3 ⟨rfl, g3⟩; have z0 := (HRb2.out.kept g3 (by simp)).at_ (i := 0) rfl; have z1 := (HRb2.out.kept g3 (by simp)).at_ (i := 1) rfl; have Hg3 := Lib.hid (gb_none (gb_none Hg1.out Hg2.out) g3); clear g3)
      go_meet
      exact ⟨by rw [Hk.out], Hg3.out⟩
    · obtain ⟨x0, hx0⟩ : ∃ x0, x0 = a := ⟨_, rfl⟩
      have hn0 := is_nil a w1
      have hn1 := is_nil b w1
      have c1 := hE1.yet.1
      have Hn0 := Lib.hid hn0
      have Hn1 := Lib.hid hn1
      clear hE1 hx0 hn0 hn1
      go_wp2_with (first | (go_at_call 20; with_reducible refine Hn0.out.mono ?_; rintro e w2 ⟨rfl, rfl⟩) | (go_at_call 20; with_reducible refine Hn1.out.mono ?_; rintro e w3 ⟨rfl, rfl⟩))
      go_meet
      exact ⟨rfl, Hg1.out⟩
  case rest =>
    obtain ⟨rfl, hgc⟩ := hcut
    have HG1 := Lib.hid (gb_none HG.out hgc)
    have HR1 := Lib.hid (HR0.out.kept hgc (by simp))
    have HRb := Lib.hid (HRb0.out.kept hgc (by simp))
    clear hgc y0 y1
    go_upto_region 6 with fail
    apply wp_region_told_tail (le := fun a b => a.grownBy b none) 10 _ [isV _, isV _, isV _, isV _, isV _, isV _, isV _, isV _, lsV (h0 + 1) (ls.drop k), bufLV (h0 + 1) (first + (k : Int)) (ls.drop k)]
    case hL => rfl
    case hz => rfl
    case hLd => rfl
    case hLg => rfl
    case hLw => kernel_rfl
    case hlen => rfl
    case hn => rfl
    case hm => kernel_rfl
    case hB => kernel_rfl
    case ht => exact fun _ _ _ h k => gb_none h k
    case hw => exact gb_drew (gb_refl _ _)
    -- 0: buffer.go:36 fieldAddr
    apply told_is
    · intro W f hW hE h0 K hK
      have e2 := h0 2 (by kernel_rfl)
      conv at e2 => rhs; whnf
      clear hE h0
      refine yes_of (want_free rfl) ?_
      go_simp; exact hK _ _ (gb_refl _ _) rfl
    -- 1: buffer.go:36 load
    apply told_is
    · intro W f hW hE h0 K hK
      have e24 : f 24 = _ := hE 0 24 _ rfl (by kernel_rfl)
      clear hE h0
      refine yes_of (want_free rfl) ?_
      have z0 := (HRb.out.kept hW (by simp)).at_ (i := 0) rfl
      have z1 := (HRb.out.kept hW (by simp)).at_ (i := 1) rfl
      go_simp; exact hK _ _ (gb_refl _ _) rfl
    -- 2: buffer.go:36 move
    apply told_is
    · intro W f hW hE h0 K hK
      have e5 := h0 5 (by kernel_rfl)
      conv at e5 => rhs; whnf
      clear hE h0
      refine yes_of (want_free rfl) ?_
      go_simp; exact hK _ _ (gb_refl _ _) rfl
    -- 3: buffer.go:36 binOp
    apply told_is
    · intro W f hW hE h0 K hK
      have e25 : f 25 = _ := hE 1 25 _ rfl (by kernel_rfl)
      have e26 : f 26 = _ := hE 0 26 _ rfl (by kernel_rfl)
      clear hE h0
      refine yes_of (want_free rfl) ?_
      have t1 := Ht1.out
      go_simp; exact hK _ _ (gb_refl _ _) rfl
    -- 4: buffer.go:36 fieldAddr
    apply told_is
    · intro W f hW hE h0 K hK
      have e2 := h0 2 (by kernel_rfl)
      conv at e2 => rhs; whnf
      clear hE h0
      refine yes_of (want_free rfl) ?_
      go_simp; exact hK _ _ (gb_refl _ _) rfl
    -- 5: buffer.go:36 load
    apply told_is
    · intro W f hW hE h0 K hK
      have e28 : f 28 = _ := hE 0 28 _ rfl (by kernel_rfl)
      clear hE h0
      refine yes_of (want_free rfl) ?_
      have z0 := (HRb.out.kept hW (by simp)).at_ (i := 0) rfl
      have z1 := (HRb.out.kept hW (by simp)).at_ (i := 1) rfl
      go_simp; exact hK _ _ (gb_refl _ _) rfl
    -- 6: buffer.go:36 move
    apply told_is
    · intro W f hW hE h0 K hK
      have e5 := h0 5 (by kernel_rfl)
      conv at e5 => rhs; whnf
      clear hE h0
      refine yes_of (want_free rfl) ?_
      go_simp; exact hK _ _ (gb_refl _ _) rfl
    -- 7: buffer.go:36 slice
    apply told_is
    · intro W f hW hE h0 K hK
      have e29 : f 29 = _ := hE 1 29 _ rfl (by kernel_rfl)
      have e30 : f 30 = _ := hE 0 30 _ rfl (by kernel_rfl)
      clear hE h0
      refine yes_of (want_free rfl) ?_
      have t2 := HS.out
      go_simp; exact hK _ _ (gb_refl _ _) rfl
    -- 8: buffer.go:36 call
    apply told_at lsV_keep
    · intro W f hW hE h0 K hK
      have e31 : f 31 = _ := hE 0 31 _ rfl (by kernel_rfl)
      clear hE h0
      refine yes_of (want_free rfl) ?_
      go_simp
      refine (copies_any A' (n - k) (c - k) (ls.drop k) W (HBd.out.keep (gb_none HG1.out hW)).al Hp.out Hn.out).mono ?_
      rintro e w1' ⟨v, rfl, hl, g⟩
      exact ⟨_, rfl, hK _ _ g (hl.low (by have := (HR1.out.kept hW (by simp)).lt; omega))⟩
    -- 9: buffer.go:36 build
    apply told_at bufLV_keep
    · intro W f hW hE h0 K hK
      have e27 : f 27 = _ := hE 5 27 _ rfl (by kernel_rfl)
      have e32 := hE 0 32 _ rfl (by kernel_rfl)
      clear hE h0
      refine yes_of (want_free rfl) ?_
      obtain ⟨u, hu⟩ : ∃ u, f 32 = u := ⟨_, rfl⟩
      rw [hu] at e32
      obtain ⟨A2, m2, c2, hv⟩ := e32.slice
      subst hv
      go_simp
      exact hK _ _ (gb_refl _ _) ⟨A2, m2, c2, rfl, e32⟩
    intro W f hW hA
    simp only [lexIn, Act.put, List.setIfInBounds_toArray, List.set_cons_zero, List.set_cons_succ]
    have e33 := hA 0 (some 33) _ rfl
    clear hA
    obtain ⟨A4, m4, c4, e33, hl⟩ := e33
    rw [e33]
    have hr := HR1.out.kept hW (by simp)
    have q0 := hr.free 0
    have q1 := hr.free 1
    have u0 := hr.at_ (i := 0) rfl
    have u1 := hr.at_ (i := 1) rfl
    have g1 := gb_set1 W h0 0 (.int .i64 (first + (k : Int)))
    have x1 := hr.set_ 0 (.int .i64 (first + (k : Int)))
    have g2 := gb_set1 (W.setCell ⟨h0, 0, none⟩ (.int .i64 (first + (k : Int)))) h0 1 (.slice A4 m4 c4)
    have Hx2 := Lib.hid (x1.set_ 1 (.slice A4 m4 c4))
    have hl2 := (hl.small g1 hr (Nat.le_refl 2) (Nat.lt_succ_self h0)).small g2 x1 (Nat.le_refl 2) (Nat.lt_succ_self h0)
    have Hl2 := Lib.hid (hl2.low (show w.heap.size ≤ h0 + 1 by have := Hh0.out; omega))
    have Hgg := Lib.hid (gb_new (gb_new (gb_none HG1.out hW) g1 Hh0.out) g2 Hh0.out)
    clear g1 g2 x1 hl hl2 hW
    rw [ends_is]
    go_simp
    clear q0 q1 u0 u1 hr
    go_wp2_with fail
    rw [HB.out]
    exact bodyPost_ret (results_cell_row rfl _ _ h0 32 _ (0, 0) _ rfl Hx2.out Tryd.underlying32 rfl (by kernel_rfl)) rfl ⟨A4, m4, c4, rfl, Hl2.out, Hgg.out⟩
end Go.Proofs.YtbdpckphlagijaaDoor.Bf
