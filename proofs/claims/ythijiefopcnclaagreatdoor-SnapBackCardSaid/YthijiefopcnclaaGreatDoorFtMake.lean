/- The laws' Make: a state by numbers. -/
import Derived.Test.YthijiefopcnclaaGreatDoorFtDoW
namespace Go.Proofs.YthijiefopcnclaaGreatDoor.Dt
open Go Go.RowKit Go.Proofs.YthijiefopcnclaaGreatDoor.Mm Go.Proofs.YthijiefopcnclaaGreatDoor.Td

/-- Facts stay where a box that begins with two slices is written. -/
theorem fl_beside {w w' : World} {A : Option Addr} {n h : Nat} {l : List Fc} {t : TypeId} {A1 A2 : Option Addr} {n1 c1 n2 c2 : Nat} (hr : FL w A n l) (hg : w.grownBy w' (some h)) (hrow : Row w h t #[.slice A1 n1 c1, .slice A2 n2 c2]) : FL w' A n l := by
  refine ⟨hr.1, fun h0 => ?_⟩
  obtain ⟨g, o, e, hl, hc⟩ := hr.2 h0
  obtain ⟨x, hx⟩ : ∃ x, l[0]? = some x := ⟨_, List.getElem?_eq_getElem (by rw [hr.1]; exact h0)⟩
  have hne : some g ≠ some h := by
    intro e2
    obtain rfl := Option.some.inj e2
    have h1 := (hc 0 x hx).1
    rw [hrow.get] at h1
    obtain ⟨j, hj⟩ : ∃ j, j = o + 0 * 6 := ⟨_, rfl⟩
    rw [← hj] at h1
    match j, h1 with
    | 0, h1 => simp at h1
    | 1, h1 => simp at h1
    | j + 2, h1 => simp at h1
  exact ⟨g, o, e, Nat.lt_of_lt_of_le hl hg.size, fun i y hy => (hc i y hy).kept hl hg hne⟩
theorem fl_beside3 {w w' : World} {A : Option Addr} {n h : Nat} {l : List Fc} {t : TypeId} {A1 A2 : Option Addr} {n1 c1 n2 c2 : Nat} {v : Value} (hr : FL w A n l) (hg : w.grownBy w' (some h)) (hrow : Row w h t #[.slice A1 n1 c1, .slice A2 n2 c2, v]) : FL w' A n l := by
  refine ⟨hr.1, fun h0 => ?_⟩
  obtain ⟨g, o, e, hl, hc⟩ := hr.2 h0
  obtain ⟨x, hx⟩ : ∃ x, l[0]? = some x := ⟨_, List.getElem?_eq_getElem (by rw [hr.1]; exact h0)⟩
  have hne : some g ≠ some h := by
    intro e2
    obtain rfl := Option.some.inj e2
    have h1 := (hc 0 x hx).1
    have h2 := (hc 0 x hx).2.1
    rw [hrow.get] at h1 h2
    obtain ⟨j, hj⟩ : ∃ j, j = o + 0 * 6 := ⟨_, rfl⟩
    rw [← hj] at h1 h2
    match j, h1, h2 with
    | 0, h1, _ => simp at h1
    | 1, h1, _ => simp at h1
    | j + 2, _, h2 => simp at h2
  exact ⟨g, o, e, Nat.lt_of_lt_of_le hl hg.size, fun i y hy => (hc i y hy).kept hl hg hne⟩
theorem sl_beside {w w' : World} {A B : Option Addr} {n m h : Nat} {s : St} {t : TypeId} {A1 A2 : Option Addr} {n1 c1 n2 c2 : Nat} (hr : SL w A n B m s) (hg : w.grownBy w' (some h)) (hrow : Row w h t #[.slice A1 n1 c1, .slice A2 n2 c2]) : SL w' A n B m s := ⟨rl_beside hr.1 hg hrow, fl_beside hr.2 hg hrow⟩
theorem sl_beside3 {w w' : World} {A B : Option Addr} {n m h : Nat} {s : St} {t : TypeId} {A1 A2 : Option Addr} {n1 c1 n2 c2 : Nat} {v : Value} (hr : SL w A n B m s) (hg : w.grownBy w' (some h)) (hrow : Row w h t #[.slice A1 n1 c1, .slice A2 n2 c2, v]) : SL w' A n B m s := ⟨rl_beside3 hr.1 hg hrow, fl_beside3 hr.2 hg hrow⟩
/-- A value that Do told. -/
def doV (s : St) (dev : Int) (o : Opn) : Td.Spec := fun W v => ∃ A n c B m d, v = .agg #[.slice A n c, .slice B m d, .int .i64 (doS s dev o).2] ∧ SL W A n B m (doS s dev o).1 ∧ n ≤ c ∧ m ≤ d
theorem doV_stays {s : St} {dev : Int} {o : Opn} : Stays (fun a b => a.grownBy b none) (doV s dev o) := fun _ _ _ h ⟨A, n, c, B, m, d, e, h1, h2, h3⟩ => ⟨A, n, c, B, m, d, e, h1.keep h, h2, h3⟩
attribute [local go_sem] Td.upon_value Td.upon_skip Td.upon_enter Td.upon_row Td.look_tmp Td.look_const Td.look_func Td.look_global
set_option maxHeartbeats 40000000 in
set_option maxRecDepth 100000 in
theorem make_any (A : Option Addr) (n c : Nat) (ns : List Int) (w : World) (hl : NL w A n ns) :
    Calls Tryz.prog 16 #[.slice A n c] w (States (makeK ns (min (n / 2) 40)) w) := by
  obtain ⟨h0, hh0⟩ : ∃ h0, w.heap.size = h0 := ⟨_, rfl⟩
  obtain ⟨K, hK⟩ : ∃ K, min (n / 2) 40 = K := ⟨_, rfl⟩
  rw [hK]
  have HK : Hid (K ≤ 40 ∧ ∀ k, k < K ↔ 2 * k + 1 < n ∧ 2 * k < 80) := ⟨by omega, fun k => by omega⟩
  have Hl := Lib.hid hl
  have Hh0 := Lib.hid hh0
  obtain ⟨W0, hW0⟩ : ∃ W0, (w.alloc (.cells #[.slice none 0 0, .slice none 0 0] 25)).alloc (.cells #[.slice none 0 0, .slice none 0 0] 25) = W0 := ⟨_, rfl⟩
  have G0 : w.grownBy W0 none := by rw [← hW0]; exact gb_alloc (gb_alloc (gb_refl _ _) _) _
  have hr0 : Row W0 h0 25 #[.slice none 0 0, .slice none 0 0] := by rw [← hW0, ← hh0]; exact (Row.new _ _ _).alloc _
  have hr1 : Row W0 (h0 + 1) 25 #[.slice none 0 0, .slice none 0 0] := by
    rw [← hW0, ← hh0]
    have h := Row.new (w.alloc (.cells #[.slice none 0 0, .slice none 0 0] 25)) 25 #[.slice none 0 0, .slice none 0 0]
    rwa [World.size_alloc] at h
  have HG0 := Lib.hid G0
  have HR0 := Lib.hid hr0
  have HR1 := Lib.hid hr1
  clear hl hK G0 hr0 hr1
  go_enter Tryz.func16, Tryz.ntmps16
  go_upto_region 2 with fail
  clear hW0 hh0
  go_wp2_with fail
  go_loopw [4] (fun i wr => ∃ (k q : Nat) (A1 B1 : Option Addr) (n1 c1 m1 d1 : Nat), q = 2 * k ∧ k ≤ K ∧ i = .int .i64 q ∧ Row wr h0 25 #[.slice none 0 0, .slice none 0 0] ∧ Row wr (h0 + 1) 25 #[.slice A1 n1 c1, .slice B1 m1 d1] ∧ SL wr A1 n1 B1 m1 (makeK ns k) ∧ n1 ≤ c1 ∧ m1 ≤ d1 ∧ w.grownBy wr none) (fun i _ => 2 * K - (intOf i).toNat)
  case atStart => exact ⟨0, 0, none, none, 0, 0, 0, 0, rfl, Nat.zero_le _, rfl, HR0.out, HR1.out, ⟨RL.none _ _, FL.none _ _⟩, Nat.le_refl _, Nat.le_refl _, HG0.out⟩
  case round =>
    obtain ⟨k, q, A1, B1, n1, c1, m1, d1, hq, hk, rfl, hr0, hr1, hs, hc1', hd1, hg⟩ := hrel
    by_cases hlt : k < K
    · have hin := (HK.out.2 k).1 hlt
      obtain ⟨x, hx⟩ : ∃ x, ns[q]? = some x := ⟨_, List.getElem?_eq_getElem (by rw [Hl.out.1]; omega)⟩
      obtain ⟨y, hy⟩ : ∃ y, ns[q + 1]? = some y := ⟨_, List.getElem?_eq_getElem (by rw [Hl.out.1]; omega)⟩
      obtain ⟨g, o, rfl, hgl, hcc⟩ := (Hl.out.keep hg).2.1 (by omega)
      obtain ⟨x0, x1⟩ := Hl.out.2.2 x (List.mem_of_getElem? hx)
      obtain ⟨y0, y1⟩ := Hl.out.2.2 y (List.mem_of_getElem? hy)
      have hc0 := hcc q x hx
      have hc1 := hcc (q + 1) y hy
      have HCs : Hid (∀ W, wr.grownBy W none → W.cell? ⟨g, o + q, none⟩ = some (.int .u8 x) ∧ W.cell? ⟨g, o + (q + 1), none⟩ = some (.int .u8 y)) := fun W hW => ⟨(World.cell?_of_block (a := ⟨g, o + q, none⟩) (hW.block g hgl (by simp))).trans hc0, (World.cell?_of_block (a := ⟨g, o + (q + 1), none⟩) (hW.block g hgl (by simp))).trans hc1⟩
      obtain ⟨oo, hoo⟩ : ∃ oo, opN x y = oo := ⟨_, rfl⟩
      obtain ⟨e16, he16⟩ : ∃ e16, x / 16 = e16 := ⟨_, rfl⟩
      obtain ⟨dev, hdev⟩ : ∃ dev, e16 % 4 = dev := ⟨_, rfl⟩
      have Hnext : Hid (makeK ns (k + 1) = stepM (makeK ns k) dev oo) := by
        show _ = _
        rw [makeK, ← hq, List.getD_eq_getElem?_getD, List.getD_eq_getElem?_getD, hx, hy, Option.getD_some, Option.getD_some, hoo, he16, hdev]
      have HB0 : Hid ((q : Int) < (n : Int)) := by show _ < _; omega
      have HB1 : Hid (((q + 1 : Nat) : Int) < (n : Int)) := by show _ < _; omega
      have Ht1 : Hid (IntKind.i64.wrap x = x) := by show _ = _; rw [IntKind.wrap_i64]; omega
      have Ht2 : Hid (x.tdiv 16 = e16) := by show _ = _; rw [Int.tdiv_eq_ediv_of_nonneg x0, he16]
      have Ht3 : Hid (IntKind.i64.wrap e16 = e16) := by show _ = _; rw [IntKind.wrap_i64]; omega
      have Ht4 : Hid (e16.tmod 4 = dev) := by show _ = _; rw [Int.tmod_eq_emod_of_nonneg (by omega), hdev]
      have Ht5 : Hid (IntKind.i64.wrap dev = dev) := by show _ = _; rw [IntKind.wrap_i64]; omega
      have Ht6 : Hid (IntKind.i64.wrap ((q : Int) + 1) = ((q + 1 : Nat) : Int)) := by show _ = _; rw [IntKind.wrap_i64]; omega
      have Ht7 : Hid (IntKind.i64.wrap ((q : Int) + 2) = ((q + 2 : Nat) : Int)) := by show _ = _; rw [IntKind.wrap_i64]; omega
      have HO : Hid (∀ W, Calls Tryz.prog 37 #[.int .u8 x, .int .u8 y] W fun e w' => e = .returned (.agg #[.int .i64 oo.kind, .string oo.key, .string oo.item, .int .i64 oo.v]) ∧ W.grownBy w' none) := fun W => by rw [← hoo]; exact op_any x y W x0 x1 y0 y1
      have hlow := (makeK_low ns k).short (makeK_may ns k)
      have hov : IntKind.i64.wrap oo.v = oo.v := by rw [← hoo]; show IntKind.i64.wrap (y - 100) = y - 100; rw [IntKind.wrap_i64]; omega
      have hn1 : n1 ≤ 320 := by have := hs.1.1; omega
      have hm1 : m1 ≤ 320 := by have := hs.2.1; omega
      have Hs := Lib.hid hs
      have HD : Hid (∀ W, wr.grownBy W none → Calls Tryz.prog 36 #[.agg #[.slice A1 n1 c1, .slice B1 m1 d1], .int .i64 dev, .agg #[.int .i64 oo.kind, .string oo.key, .string oo.item, .int .i64 oo.v]] W (DoneIs (makeK ns k) dev oo W)) := fun W hW => refDo_any A1 B1 n1 c1 m1 d1 (makeK ns k) dev oo W (Hs.out.keep hW) (makeK_may ns k) (by omega) hov
      have HRow0 := Lib.hid hr0
      have HRow1 := Lib.hid hr1
      have Hg := Lib.hid hg
      have Hq := Lib.hid hq
      have Hlt := Lib.hid hlt
      have Hnm : Hid (n1 ≤ 320 ∧ m1 ≤ 320) := ⟨hn1, hm1⟩
      have Hcd : Hid (n1 ≤ c1 ∧ m1 ≤ d1) := ⟨hc1', hd1⟩
      have d1' : decide (q + 1 < n) = true := decide_eq_true (by omega)
      have d2' : decide (((q + 1 : Nat) : Int) < (n : Int)) = true := decide_eq_true (by omega)
      have d3' : decide ((q : Int) < 80) = true := decide_eq_true (by omega)
      have d4' : decide (q < 80) = true := decide_eq_true (by omega)
      have t6 := Ht6.out
      clear hin hcc hc0 hc1 hgl hx hy hoo hdev he16 x0 x1 y0 y1 hs hr0 hr1 hg hq hk hlt hn1 hm1 hlow hov hc1' hd1
      go_upto_region 5 with fail
      clear d1' d2' d3' d4' t6
      apply wp_region_told_tail (le := fun a b => a.grownBy b none) 20 _ [isV _, isV _, isV _, isV _, isV _, isV _, isV _, isV _, isV _, isV _, isV _, isV _, isV _, isV _, isV _, isV _, isV _, isV _, doV (makeK ns k) dev oo, newB _ 80 #[.slice none 0 0, .slice none 0 0, .int .i64 0]]
      case hL => rfl
      case hz => rfl
      case hLd => rfl
      case hLg => rfl
      case hLw => kernel_rfl
      case hlen => rfl
      case hn => rfl
      case hm => kernel_rfl
      case hB => kernel_rfl
      case ht => exact fun _ _ _ h k => gb_none h k
      case hw => exact gb_drew (gb_refl _ _)
      -- 0: law.go:44 load
      apply told_is
      · intro W f hW hE h0 K hK
        have e3 := h0 3 (by kernel_rfl)
        conv at e3 => rhs; whnf
        clear hE h0
        refine yes_of (want_free rfl) ?_
        have z0 := (HRow1.out.kept hW (by simp)).at_ (i := 0) rfl
        have z1 := (HRow1.out.kept hW (by simp)).at_ (i := 1) rfl
        go_simp; exact hK _ _ (gb_refl _ _) rfl
      -- 1: law.go:44 move
      apply told_is
      · intro W f hW hE h0 K hK
        have e0 := h0 0 (by kernel_rfl)
        conv at e0 => rhs; whnf
        clear hE h0
        refine yes_of (want_free rfl) ?_
        go_simp; exact hK _ _ (gb_refl _ _) rfl
      -- 2: law.go:44 move
      apply told_is
      · intro W f hW hE h0 K hK
        have e4 := h0 4 (by kernel_rfl)
        conv at e4 => rhs; whnf
        clear hE h0
        refine yes_of (want_free rfl) ?_
        go_simp; exact hK _ _ (gb_refl _ _) rfl
      -- 3: law.go:44 indexAddr
      apply told_is
      · intro W f hW hE h0 K hK
        have e18 : f 18 = _ := hE 1 18 _ rfl (by kernel_rfl)
        have e19 : f 19 = _ := hE 0 19 _ rfl (by kernel_rfl)
        clear hE h0
        refine yes_of (want_free rfl) ?_
        have b0 := HB0.out
        go_simp; exact hK _ _ (gb_refl _ _) rfl
      -- 4: law.go:44 load
      apply told_is
      · intro W f hW hE h0 K hK
        have e20 : f 20 = _ := hE 0 20 _ rfl (by kernel_rfl)
        clear hE h0
        refine yes_of (want_free rfl) ?_
        obtain ⟨c0, c1⟩ := HCs.out W hW
        go_simp; exact hK _ _ (gb_refl _ _) rfl
      -- 5: law.go:44 convert
      apply told_is
      · intro W f hW hE h0 K hK
        have e21 : f 21 = _ := hE 0 21 _ rfl (by kernel_rfl)
        clear hE h0
        refine yes_of (want_free rfl) ?_
        have t1 := Ht1.out
        go_simp; exact hK _ _ (gb_refl _ _) rfl
      -- 6: law.go:44 binOp
      apply told_is
      · intro W f hW hE h0 K hK
        have e22 : f 22 = _ := hE 0 22 _ rfl (by kernel_rfl)
        clear hE h0
        refine yes_of (want_free rfl) ?_
        have t1 := Ht2.out; have t2 := Ht3.out
        go_simp; exact hK _ _ (gb_refl _ _) rfl
      -- 7: law.go:44 binOp
      apply told_is
      · intro W f hW hE h0 K hK
        have e23 : f 23 = _ := hE 0 23 _ rfl (by kernel_rfl)
        clear hE h0
        refine yes_of (want_free rfl) ?_
        have t1 := Ht4.out; have t2 := Ht5.out
        go_simp; exact hK _ _ (gb_refl _ _) rfl
      -- 8: law.go:44 move
      apply told_is
      · intro W f hW hE h0 K hK
        have e0 := h0 0 (by kernel_rfl)
        conv at e0 => rhs; whnf
        clear hE h0
        refine yes_of (want_free rfl) ?_
        go_simp; exact hK _ _ (gb_refl _ _) rfl
      -- 9: law.go:44 move
      apply told_is
      · intro W f hW hE h0 K hK
        have e4 := h0 4 (by kernel_rfl)
        conv at e4 => rhs; whnf
        clear hE h0
        refine yes_of (want_free rfl) ?_
        go_simp; exact hK _ _ (gb_refl _ _) rfl
      -- 10: law.go:44 indexAddr
      apply told_is
      · intro W f hW hE h0 K hK
        have e25 : f 25 = _ := hE 1 25 _ rfl (by kernel_rfl)
        have e26 : f 26 = _ := hE 0 26 _ rfl (by kernel_rfl)
        clear hE h0
        refine yes_of (want_free rfl) ?_
        have b0 := HB0.out
        go_simp; exact hK _ _ (gb_refl _ _) rfl
      -- 11: law.go:44 load
      apply told_is
      · intro W f hW hE h0 K hK
        have e27 : f 27 = _ := hE 0 27 _ rfl (by kernel_rfl)
        clear hE h0
        refine yes_of (want_free rfl) ?_
        obtain ⟨c0, c1⟩ := HCs.out W hW
        go_simp; exact hK _ _ (gb_refl _ _) rfl
      -- 12: law.go:44 move
      apply told_is
      · intro W f hW hE h0 K hK
        have e0 := h0 0 (by kernel_rfl)
        conv at e0 => rhs; whnf
        clear hE h0
        refine yes_of (want_free rfl) ?_
        go_simp; exact hK _ _ (gb_refl _ _) rfl
      -- 13: law.go:44 move
      apply told_is
      · intro W f hW hE h0 K hK
        have e4 := h0 4 (by kernel_rfl)
        conv at e4 => rhs; whnf
        clear hE h0
        refine yes_of (want_free rfl) ?_
        go_simp; exact hK _ _ (gb_refl _ _) rfl
      -- 14: law.go:44 binOp
      apply told_is
      · intro W f hW hE h0 K hK
        have e30 : f 30 = _ := hE 0 30 _ rfl (by kernel_rfl)
        clear hE h0
        refine yes_of (want_free rfl) ?_
        have t1 := Ht6.out
        go_simp; exact hK _ _ (gb_refl _ _) rfl
      -- 15: law.go:44 indexAddr
      apply told_is
      · intro W f hW hE h0 K hK
        have e29 : f 29 = _ := hE 2 29 _ rfl (by kernel_rfl)
        have e31 : f 31 = _ := hE 0 31 _ rfl (by kernel_rfl)
        clear hE h0
        refine yes_of (want_free rfl) ?_
        have b0 := HB1.out
        go_simp; exact hK _ _ (gb_refl _ _) rfl
      -- 16: law.go:44 load
      apply told_is
      · intro W f hW hE h0 K hK
        have e32 : f 32 = _ := hE 0 32 _ rfl (by kernel_rfl)
        clear hE h0
        refine yes_of (want_free rfl) ?_
        obtain ⟨c0, c1⟩ := HCs.out W hW
        go_simp; exact hK _ _ (gb_refl _ _) rfl
      -- 17: law.go:44 call
      apply told_is
      · intro W f hW hE h0 K hK
        have e28 : f 28 = _ := hE 5 28 _ rfl (by kernel_rfl)
        have e33 : f 33 = _ := hE 0 33 _ rfl (by kernel_rfl)
        clear hE h0
        refine yes_of (want_free rfl) ?_
        go_simp
        refine (HO.out W).mono ?_
        rintro e w1' ⟨rfl, g⟩
        exact ⟨_, rfl, hK _ _ g rfl⟩
      -- 18: law.go:44 call
      apply told_at doV_stays
      · intro W f hW hE h0 K hK
        have e17 : f 17 = _ := hE 17 17 _ rfl (by kernel_rfl)
        have e24 : f 24 = _ := hE 10 24 _ rfl (by kernel_rfl)
        have e34 : f 34 = _ := hE 0 34 _ rfl (by kernel_rfl)
        clear hE h0
        refine yes_of (want_free rfl) ?_
        go_simp
        refine (HD.out W hW).mono ?_
        rintro e w1' ⟨A2, n2, c2, B2, m2, d2, rfl, h1, h2, h3, g⟩
        exact ⟨_, rfl, hK _ _ g ⟨A2, n2, c2, B2, m2, d2, rfl, h1, h2, h3⟩⟩
      -- 19: law.go:44 alloc
      apply told_at newB_stays
      · intro W f hW hE h0 K hK
        clear hE h0
        refine yes_of (want_free rfl) ?_
        go_simp
        exact hK _ _ (gb_alloc (gb_refl _ _) _) ⟨_, rfl, hW.size, Row.new _ _ _⟩
      intro W f hW hA
      simp only [lexIn, Act.put, List.setIfInBounds_toArray, List.set_cons_zero, List.set_cons_succ]
      have e35 := hA 1 (some 35) _ rfl
      have e5 := hA 0 (some 5) _ rfl
      clear hA
      obtain ⟨A2, n2, c2, B2, m2, d2, e35, hs2, hc2, hd2⟩ := e35
      rw [e35]
      obtain ⟨gq, eq_, hgN, hr⟩ := e5
      rw [eq_]
      have q0 := hr.free 0
      have q1 := hr.free 1
      have q2 := hr.free 2
      have u0 := hr.at_ (i := 0) rfl
      have u1 := hr.at_ (i := 1) rfl
      have u2 := hr.at_ (i := 2) rfl
      have k1 := gb_set1 W gq 0 (.slice A2 n2 c2)
      have r1 := hr.set_ 0 (.slice A2 n2 c2)
      have k2 := gb_set1 (W.setCell ⟨gq, 0, none⟩ (.slice A2 n2 c2)) gq 1 (.slice B2 m2 d2)
      have r2 := r1.set_ 1 (.slice B2 m2 d2)
      have k3 := gb_set1 ((W.setCell ⟨gq, 0, none⟩ (.slice A2 n2 c2)).setCell ⟨gq, 1, none⟩ (.slice B2 m2 d2)) gq 2 (.int .i64 (doS (makeK ns k) dev oo).2)
      have r3 := r2.set_ 2 (.int .i64 (doS (makeK ns k) dev oo).2)
      have Hs2 := Lib.hid (sl_beside3 (sl_beside3 (sl_beside3 hs2 k1 hr) k2 r1) k3 r2)
      have Hr3 := Lib.hid r3
      have Gw := Lib.hid (gb_new (gb_new (gb_new hW k1 hgN) k2 hgN) k3 hgN)
      have HgN := Lib.hid hgN
      have Hcd2 : Hid (n2 ≤ c2 ∧ m2 ≤ d2) := ⟨hc2, hd2⟩
      clear hgN hW k1 k2 k3 r1 r2 r3 hs2 hc2 hd2
      rw [ends_is]
      go_simp
      clear q0 q1 q2 u0 u1 u2 hr
      go_upto_region 6 with fail
      refine Td.named (fun W' => wr.grownBy W' none ∧ Row W' gq 80 #[.slice A2 n2 c2, .slice B2 m2 d2, .int .i64 (doS (makeK ns k) dev oo).2] ∧ SL W' A2 n2 B2 m2 (doS (makeK ns k) dev oo).1) ⟨Gw.out, Hr3.out, Hs2.out⟩ ?_
      rintro W8 ⟨hg8, hrow8, hs8⟩
      clear Gw Hr3 Hs2
      have HG8 := Lib.hid hg8
      have Hrow8 := Lib.hid hrow8
      have Hs8 := Lib.hid hs8
      have p0 := hrow8.at_ (i := 0) rfl
      have p1 := hrow8.at_ (i := 1) rfl
      have p2 := hrow8.at_ (i := 2) rfl
      have v0 := (HRow1.out.kept hg8 (by simp)).at_ (i := 0) rfl
      have v1 := (HRow1.out.kept hg8 (by simp)).at_ (i := 1) rfl
      obtain ⟨E, hE⟩ : ∃ E, (doS (makeK ns k) dev oo).2 = E := ⟨_, rfl⟩
      have HE := Lib.hid hE
      rw [hE] at p2
      obtain ⟨D, hD⟩ : ∃ D, (doS (makeK ns k) dev oo).1 = D := ⟨_, rfl⟩
      rw [hD] at Hs8
      have HDd := Lib.hid hD
      clear hE hD hg8 hrow8 hs8
      by_cases h0E : E = 0
      · have f1 : (E == 0) = true := by rw [h0E]; rfl
        have hz : (doS (makeK ns k) dev oo).2 = 0 := HE.out.trans h0E
        have hmay := do_may (makeK_may ns k) hz
        rw [HDd.out] at hmay
        have hst : makeK ns (k + 1) = joinS (makeK ns k) D := by rw [Hnext.out]; unfold stepM; rw [if_pos hz, HDd.out]
        have hlowD : Low D (k + 1) := fun d m hh => by
          have h := makeK_low ns (k + 1) d m
          rw [hst] at h
          exact h ((join_seen (makeK_may ns k).ss hmay.1.ss d m).2 (.inr hh))
        have hsh := hlowD.short hmay.1
        have hn2 : n2 ≤ 10000 := by have := Hs8.out.1.1; have := Hlt.out; have := HK.out.1; omega
        have hm2 : m2 ≤ 10000 := by have := Hs8.out.2.1; have := Hlt.out; have := HK.out.1; omega
        have HJ : Hid (Calls Tryz.prog 35 #[.agg #[.slice A1 n1 c1, .slice B1 m1 d1], .agg #[.slice A2 n2 c2, .slice B2 m2 d2]] W8 (States (makeK ns (k + 1)) W8)) := by
          have h := refJoin_any A1 B1 A2 B2 n1 c1 m1 d1 n2 c2 m2 d2 (makeK ns k) D W8 (Hs.out.keep HG8.out) Hs8.out (makeK_may ns k).ss hmay.1.ss (by have := Hnm.out; omega) (by have := Hnm.out; omega) hn2 hm2
          rw [← hst] at h
          exact h
        have HR8 := Lib.hid (HRow1.out.kept HG8.out (by simp))
        clear hz hmay hst hlowD hsh hn2 hm2 h0E
        have t7 := Ht7.out
        go_wp2_with (go_at_call 35; refine HJ.out.mono ?_; rintro e w3 ⟨A3, n3, c3, B3, m3, d3, rfl, hs3, hc3, hd3, g3⟩; have r0 := HR8.out.kept g3 (by simp); have s0 := r0.at_ (i := 0) rfl; have s1 := r0.at_ (i := 1) rfl; have y0 := r0.free 0; have y1 := r0.free 1; have Hr0 := Lib.hid r0; have Hs3 := Lib.hid hs3; have Hg3 := Lib.hid g3; have Hcd3 : Hid (n3 ≤ c3 ∧ m3 ≤ d3) := ⟨hc3, hd3⟩; clear r0 hs3 g3 hc3 hd3)
        have k1 := gb_set1 w3 (h0 + 1) 0 (.slice A3 n3 c3)
        have k2 := gb_set1 (w3.setCell ⟨h0 + 1, 0, none⟩ (.slice A3 n3 c3)) (h0 + 1) 1 (.slice B3 m3 d3)
        have r1 := Hr0.out.set_ 0 (.slice A3 n3 c3)
        have r2 := r1.set_ 1 (.slice B3 m3 d3)
        have r00 := (((HRow0.out.kept HG8.out (by simp)).kept Hg3.out (by simp)).kept k1 (by simp)).kept k2 (by simp)
        have hs4 := sl_beside (sl_beside Hs3.out k1 Hr0.out) k2 r1
        have hb : w.heap.size ≤ h0 + 1 := by have := Hh0.out; omega
        have gg := gb_new (gb_new (gb_none (gb_none Hg.out HG8.out) Hg3.out) k1 hb) k2 hb
        have HF : Hid _ := And.intro r00 (And.intro r2 (And.intro hs4 gg))
        clear k1 k2 r1 r2 r00 hs4 gg hb
        go_wp2_with fail
        go_roundw
        case rel => exact ⟨k + 1, q + 2, A3, B3, n3, c3, m3, d3, by have := Hq.out; omega, by have := Hlt.out; omega, rfl, HF.out.1, HF.out.2.1, HF.out.2.2.1, Hcd3.out.1, Hcd3.out.2, HF.out.2.2.2⟩
        case measure => simp [intOf]; have := Hq.out; have := Hlt.out; omega
      · have f1 : (E == 0) = false := by rw [beq_eq_false_iff_ne]; exact h0E
        have hst : makeK ns (k + 1) = makeK ns k := by rw [Hnext.out]; unfold stepM; rw [if_neg (by rw [HE.out]; exact h0E)]
        have Hst := Lib.hid hst
        have t7 := Ht7.out
        clear h0E hst
        go_wp2_with fail
        go_roundw
        case rel => exact ⟨k + 1, q + 2, A1, B1, n1, c1, m1, d1, by have := Hq.out; omega, by have := Hlt.out; omega, rfl, HRow0.out.kept HG8.out (by simp), HRow1.out.kept HG8.out (by simp), by rw [Hst.out]; exact Hs.out.keep HG8.out, Hcd.out.1, Hcd.out.2, gb_none Hg.out HG8.out⟩
        case measure => simp [intOf]; have := Hq.out; have := Hlt.out; omega
    · have hkK : k = K := by omega
      subst hkK
      have t6 : IntKind.i64.wrap ((q : Int) + 1) = ((q + 1 : Nat) : Int) := by rw [IntKind.wrap_i64]; have := HK.out.1; omega
      have hout : ¬ (q + 1 < n ∧ q < 80) := fun h => by have := (HK.out.2 k).2 ⟨by omega, by omega⟩; omega
      have e0 := hr0.at_ (i := 0) rfl
      have e1 := hr0.at_ (i := 1) rfl
      have f0 := hr0.free 0
      have f1 := hr0.free 1
      have u0 := hr1.at_ (i := 0) rfl
      have u1 := hr1.at_ (i := 1) rfl
      have HR0 := Lib.hid hr0
      have Hs := Lib.hid hs
      have Hg := Lib.hid hg
      have Hcd : Hid (n1 ≤ c1 ∧ m1 ≤ d1) := ⟨hc1', hd1⟩
      clear hr0 hr1 hs hg hc1' hd1 hlt hq hk
      by_cases hz : q + 1 < n
      · have d1' : decide (q + 1 < n) = true := decide_eq_true hz
        have d2' : decide (((q + 1 : Nat) : Int) < (n : Int)) = true := decide_eq_true (by omega)
        have d5' : decide ((q : Int) + 1 < (n : Int)) = true := decide_eq_true (by omega)
        have d3' : decide ((q : Int) < 80) = false := decide_eq_false (by omega)
        have d4' : decide (q < 80) = false := decide_eq_false (by omega)
        clear hz hout
        go_wp2_with fail
        have k1 := gb_set1 wr h0 0 (.slice A1 n1 c1)
        have k2 := gb_set1 (wr.setCell ⟨h0, 0, none⟩ (.slice A1 n1 c1)) h0 1 (.slice B1 m1 d1)
        have r1 := HR0.out.set_ 0 (.slice A1 n1 c1)
        have r2 := r1.set_ 1 (.slice B1 m1 d1)
        have hb : w.heap.size ≤ h0 := by have := Hh0.out; omega
        refine bodyPost_ret (results_cell_row rfl _ _ h0 25 _ (0, 0) _ rfl r2 Tryz.underlying25 rfl (by kernel_rfl)) rfl ⟨A1, n1, c1, B1, m1, d1, rfl, sl_beside (sl_beside Hs.out k1 HR0.out) k2 r1, Hcd.out.1, Hcd.out.2, gb_new (gb_new Hg.out k1 hb) k2 hb⟩
      · have d1' : decide (q + 1 < n) = false := decide_eq_false hz
        have d2' : decide (((q + 1 : Nat) : Int) < (n : Int)) = false := decide_eq_false (by omega)
        have d5' : decide ((q : Int) + 1 < (n : Int)) = false := decide_eq_false (by omega)
        clear hz hout
        go_wp2_with fail
        have k1 := gb_set1 wr h0 0 (.slice A1 n1 c1)
        have k2 := gb_set1 (wr.setCell ⟨h0, 0, none⟩ (.slice A1 n1 c1)) h0 1 (.slice B1 m1 d1)
        have r1 := HR0.out.set_ 0 (.slice A1 n1 c1)
        have r2 := r1.set_ 1 (.slice B1 m1 d1)
        have hb : w.heap.size ≤ h0 := by have := Hh0.out; omega
        refine bodyPost_ret (results_cell_row rfl _ _ h0 25 _ (0, 0) _ rfl r2 Tryz.underlying25 rfl (by kernel_rfl)) rfl ⟨A1, n1, c1, B1, m1, d1, rfl, sl_beside (sl_beside Hs.out k1 HR0.out) k2 r1, Hcd.out.1, Hcd.out.2, gb_new (gb_new Hg.out k1 hb) k2 hb⟩
end Go.Proofs.YthijiefopcnclaaGreatDoor.Dt
