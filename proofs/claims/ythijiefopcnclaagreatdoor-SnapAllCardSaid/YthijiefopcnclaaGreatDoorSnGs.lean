/- The document's GetState. Written by gen_sngs.py. -/
import Derived.Test.YthijiefopcnclaaGreatDoorSnRef
set_option linter.unusedVariables false
namespace Go.Proofs.YthijiefopcnclaaGreatDoor.Dt
open Go Go.RowKit Go.Proofs.YthijiefopcnclaaGreatDoor.Mm Go.Proofs.YthijiefopcnclaaGreatDoor.Td Go.Proofs.YthijiefopcnclaaGreatDoor.Vw

def boxV (N : Nat) : Td.Spec := fun W v => ∃ g, v = .pointer (some ⟨g, 0, none⟩) ∧ Row W g 60 #[.int .i64 0, .int .i64 0, .string ⟨#[]⟩, .slice none 0 0] ∧ N ≤ g
theorem boxV_stays {N : Nat} : Stays (fun a b => a.grownBy b none) (boxV N) := fun _ _ _ h ⟨g, e, hr, hn⟩ => ⟨g, e, hr.kept h (by simp), hn⟩
def oneR (r : Rn) : Td.Spec := fun W v => ∃ g, v = .slice (some ⟨g, 0, none⟩) 1 1 ∧ Row W g 50 #[.int .i64 r.d, .int .i64 r.f, .int .i64 r.t]
theorem oneR_stays {r : Rn} : Stays (fun a b => a.grownBy b none) (oneR r) := fun _ _ _ h ⟨g, e, hr⟩ => ⟨g, e, hr.kept h (by simp)⟩
def oneF (r : Fc) : Td.Spec := fun W v => ∃ g, v = .slice (some ⟨g, 0, none⟩) 1 1 ∧ Row W g 46 #[.int .i64 r.d, .int .i64 r.n, .string r.key, .int .i64 r.kind, .string r.item, .int .i64 r.v]
theorem oneF_stays {r : Fc} : Stays (fun a b => a.grownBy b none) (oneF r) := fun _ _ _ h ⟨g, e, hr⟩ => ⟨g, e, hr.kept h (by simp)⟩
theorem app_rv {w : World} {N k : Nat} {L : List Rn} {x : Wr} {v : Value} (h : w.ownsRow N 50 3 v (k + 1) (rv L ++ [.int .i64 (partW x 0).n, .int .i64 (partW x 1).n, .int .i64 (partW x 2).n])) (hL : L.length = k) : ∃ A c, v = .slice A (k + 1) c ∧ Hid (w.ownsRow N 50 3 (.slice A (k + 1) c) (k + 1) (rv (L ++ [runR x]))) := by
  have h2 : w.ownsRow N 50 3 v (k + 1) (rv (L ++ [runR x])) := by rw [rv_append]; exact h
  obtain ⟨A, c, rfl, _, _⟩ := own_rl h2 (by rw [List.length_append, hL]; rfl)
  exact ⟨A, c, rfl, h2⟩
theorem app_fv {w : World} {N k : Nat} {L : List Fc} {x : Wr} {v : Value} (h : w.ownsRow N 46 6 v (k + 1) (fv L ++ [.int .i64 (partW x 0).n, .int .i64 (partW x 1).n, .string (partW x 2).s, .int .i64 (partW x 3).n, .string (partW x 4).s, .int .i64 (partW x 5).n])) (hL : L.length = k) : ∃ A c, v = .slice A (k + 1) c ∧ Hid (w.ownsRow N 46 6 (.slice A (k + 1) c) (k + 1) (fv (L ++ [factR x]))) := by
  have h2 : w.ownsRow N 46 6 v (k + 1) (fv (L ++ [factR x])) := by rw [fv_append]; exact h
  obtain ⟨A, c, rfl, _, _⟩ := own_fl h2 (by rw [List.length_append, hL]; rfl)
  exact ⟨A, c, rfl, h2⟩
theorem app_grow {B W w8 : World} {N b s k : Nat} {T E : TypeId} {v : Value} {xs : List Value} {cs : Array Value} (hg : W.grownBy w8 v.ownBlock) (ho : W.ownsRow N E s v k xs) (hr : Row W b T cs) (hB : B.grownBy W (some b)) (hb : b < N) (hN : N ≤ W.heap.size) (hE : B.heap.size = N) : Hid (Row w8 b T cs) ∧ Hid (B.grownBy w8 (some b)) ∧ Hid (N ≤ w8.heap.size) := by
  refine ⟨hr.kept hg (fun e => ?_), ?_, Nat.le_trans hN hg.size⟩
  · have := (ho.lt b e.symm).1; omega
  · exact gb_step hB hg (fun i e => .inr (by have := (ho.lt i e).1; omega))
/-- What GetState says of bytes. -/
def RefGetIs (s : ByteArray) (w : World) (e : Ending) (w' : World) : Prop := ((∃ t A p c B n d, IsPut s.data.toList t ∧ e = .returned (.agg #[.slice A p c, .slice B n d, .bool true]) ∧ SL w' A p B n t) ∨ ((∀ t, ¬ IsPut s.data.toList t) ∧ e = .returned (.agg #[.slice none 0 0, .slice none 0 0, .bool false]))) ∧ w.grownBy w' none
attribute [local go_sem] Td.upon_value Td.upon_skip Td.upon_enter Td.upon_row Td.look_tmp Td.look_const Td.look_func Td.look_global
set_option maxHeartbeats 40000000 in
set_option maxRecDepth 100000 in
theorem refGetS_any (s : ByteArray) (w : World) (hs : s.size ≤ 3000) : Calls Tryz.prog 10 #[.string s] w (RefGetIs s w) := by
  obtain ⟨h0, hh0⟩ : ∃ h0, w.heap.size = h0 := ⟨_, rfl⟩
  obtain ⟨W0, hW0⟩ : ∃ W0, w.alloc (.cells #[.slice none 0 0, .slice none 0 0, .bool false] 31) = W0 := ⟨_, rfl⟩
  have G0 : w.grownBy W0 none := by rw [← hW0]; exact gb_alloc (gb_refl _ _) _
  have HR0 : Hid (Row W0 h0 31 #[.slice none 0 0, .slice none 0 0, .bool false]) := by rw [← hW0, ← hh0]; exact Row.new _ _ _
  have Hh0 : Hid (w.heap.size ≤ h0) := by show _ ≤ _; omega
  have HG := Lib.hid G0
  have Hsz0 := Lib.hid hs
  cases hg : get s.data.toList with
  | none =>
    have HGet := Lib.hid (refGet_none s W0 (by omega) hg)
    have HNo : Hid (∀ t, ¬ IsPut s.data.toList t) := isPut_none hg
    clear G0 hg hs
    go_enter Tryz.func10, Tryz.ntmps10
    go_upto_region 1 with fail
    clear hW0 hh0
    go_wp2_with fail
    refine HGet.out.mono ?_
    rintro e w1 ⟨rfl, g1⟩
    have Hgz := Lib.hid (gb_alloc g1 (.cells #[.int .i64 0, .int .i64 0, .string ⟨#[]⟩, .slice none 0 0, .bool false] 62))
    clear g1
    have hr := HR0.out.kept (Hgz.out) (by simp)
    have f0 := hr.free 0
    have f1 := hr.free 1
    have f2 := hr.free 2
    have u0 : (w1.alloc (.cells #[.int .i64 0, .int .i64 0, .string ⟨#[]⟩, .slice none 0 0, .bool false] 62)).cell? ⟨h0, 0, none⟩ = some (.slice none 0 0) := hr.at_ (i := 0) rfl
    have u1 : (w1.alloc (.cells #[.int .i64 0, .int .i64 0, .string ⟨#[]⟩, .slice none 0 0, .bool false] 62)).cell? ⟨h0, 1, none⟩ = some (.slice none 0 0) := hr.at_ (i := 1) rfl
    have u2 : (w1.alloc (.cells #[.int .i64 0, .int .i64 0, .string ⟨#[]⟩, .slice none 0 0, .bool false] 62)).cell? ⟨h0, 2, none⟩ = some (.bool false) := hr.at_ (i := 2) rfl
    have Hr := Lib.hid hr
    clear hr
    go_wp2_with fail
    have Hx := Lib.hid (((Hr.out.set_ 0 (.slice none 0 0)).set_ 1 (.slice none 0 0)).set_ 2 (.bool false))
    have kk : (w1.alloc (.cells #[.int .i64 0, .int .i64 0, .string ⟨#[]⟩, .slice none 0 0, .bool false] 62)).grownBy ((((w1.alloc (.cells #[.int .i64 0, .int .i64 0, .string ⟨#[]⟩, .slice none 0 0, .bool false] 62)).setCell ⟨h0, 0, none⟩ (.slice none 0 0)).setCell ⟨h0, 1, none⟩ (.slice none 0 0)).setCell ⟨h0, 2, none⟩ (.bool false)) (some h0) := gb_then (gb_then (gb_set1 _ _ _ _) (gb_set1 _ _ _ _)) (gb_set1 _ _ _ _)
    exact bodyPost_ret (results_cell_row rfl _ _ h0 31 _ (0, 0) _ rfl Hx.out Tryz.underlying31 rfl (by kernel_rfl)) rfl ⟨.inr ⟨HNo.out, rfl⟩, gb_new (gb_none HG.out Hgz.out) kk Hh0.out⟩
  | some x0 =>
    have HGet := Lib.hid (refGet_some s W0 (by omega) x0 hg)
    have Hgx := Lib.hid hg
    obtain ⟨i3, hi3, hz3, hs3, hb3⟩ := info_parts run_inf
    have Hi3 := Lib.hid hi3
    have Hz3 := Lib.hid hz3
    have Hs3 := Lib.hid hs3
    have Hb3 := Lib.hid hb3
    obtain ⟨i6, hi6, hz6, hs6, hb6⟩ := info_parts6 fact_inf
    have Hi6 := Lib.hid hi6
    have Hz6 := Lib.hid hz6
    have Hs6 := Lib.hid hs6
    have Hb6 := Lib.hid hb6
    clear G0 hg hs hi3 hz3 hs3 hb3 hi6 hz6 hs6 hb6
    go_enter Tryz.func10, Tryz.ntmps10
    go_upto_region 1 with fail
    clear hW0 hh0
    go_upto_region 2 with fail
    refine HGet.out.mono ?_
    rintro e w1 ⟨A, c, rfl, hx, g1⟩
    obtain ⟨ln, hln⟩ : ∃ ln, x0.l.length = ln := ⟨_, rfl⟩
    rw [hln] at hx ⊢
    obtain ⟨b3, hb3⟩ : ∃ b3, w1.heap.size = b3 := ⟨_, rfl⟩
    obtain ⟨b4, hb4⟩ : ∃ b4, b3 + 1 = b4 := ⟨_, rfl⟩
    obtain ⟨W4, hW4⟩ : ∃ W4, (w1.alloc (.cells #[.int .i64 x0.k, .int .i64 x0.n, .string x0.s, .slice A ln c, .bool true] 62)).alloc (.cells #[.slice none 0 0, .slice none 0 0] 25) = W4 := ⟨_, rfl⟩
    have g4 : w1.grownBy W4 none := by rw [← hW4]; exact gb_alloc (gb_alloc (gb_refl _ _) _) _
    have hs4 : W4.heap.size = b4 + 1 := by rw [← hW4, World.size_alloc, World.size_alloc, hb3, hb4]
    have hr3 : Row W4 b3 62 #[.int .i64 x0.k, .int .i64 x0.n, .string x0.s, .slice A ln c, .bool true] := by rw [← hW4, ← hb3]; exact (Row.new _ _ _).alloc _
    have hr4 : Row W4 b4 25 #[.slice none 0 0, .slice none 0 0] := by rw [← hW4, ← hb4, ← hb3]; exact row1 w1 _ _ _
    have hx1 : HL w1 0 (.slice A x0.l.length c) x0.l := by rw [hln]; exact hx.low (Nat.zero_le _)
    obtain ⟨A0, c0, hPa⟩ := part_at x0 A c 0 w1 hx1
    obtain ⟨A1, c1, hPb⟩ := part_at x0 A c 1 w1 hx1
    have hl0 : 5 * (partW x0 0).l.length ≤ 3000 := Nat.le_trans (part_short Hgx.out 0) (by rw [data_len]; exact Hsz0.out)
    have hl1 : 5 * (partW x0 1).l.length ≤ 3000 := Nat.le_trans (part_short Hgx.out 1) (by rw [data_len]; exact Hsz0.out)
    obtain ⟨y0, hy0⟩ : ∃ y0, partW x0 0 = y0 := ⟨_, rfl⟩
    obtain ⟨y1, hy1⟩ : ∃ y1, partW x0 1 = y1 := ⟨_, rfl⟩
    have Hy0 : Hid ((stR x0).seen = y0.l.map runR) := by show (partW x0 0).l.map runR = _; rw [hy0]
    have Hy1 : Hid ((stR x0).facts = y1.l.map factR) := by show (partW x0 1).l.map factR = _; rw [hy1]
    unfold PartAt at hPa hPb
    rw [hy0] at hPa hl0
    rw [hy1] at hPb hl1
    rw [hln] at hPa hPb
    obtain ⟨p, hp⟩ : ∃ p, y0.l.length = p := ⟨_, rfl⟩
    obtain ⟨q, hq⟩ : ∃ q, y1.l.length = q := ⟨_, rfl⟩
    rw [hp] at hPa hl0
    rw [hq] at hPb hl1
    have Hp := Lib.hid hp
    have Hq := Lib.hid hq
    have Hpb : Hid (p ≤ 600) := by show _ ≤ _; omega
    have Hqb : Hid (q ≤ 600) := by show _ ≤ _; omega
    have HPa : Hid (∀ W, W4.grownBy W none → Calls Tryz.prog 21 #[.agg #[.int .i64 x0.k, .int .i64 x0.n, .string x0.s, .slice A ln c], .int .i64 0] W fun e w' => e = .returned (.agg #[.int .i64 y0.k, .int .i64 y0.n, .string y0.s, .slice A0 p c0]) ∧ W.grownBy w' none) := fun W hW => hPa.2 W (gb_none g4 hW)
    have HPb : Hid (∀ W, W4.grownBy W none → Calls Tryz.prog 21 #[.agg #[.int .i64 x0.k, .int .i64 x0.n, .string x0.s, .slice A ln c], .int .i64 1] W fun e w' => e = .returned (.agg #[.int .i64 y1.k, .int .i64 y1.n, .string y1.s, .slice A1 q c1]) ∧ W.grownBy w' none) := fun W hW => hPb.2 W (gb_none g4 hW)
    have HY0 : Hid (∀ W, W4.grownBy W (some b4) → HL W 0 (.slice A0 y0.l.length c0) y0.l) := fun W hW => by
      rw [Hp.out]; exact hl_past hPa.1 (by omega) (gb_then (gb_none' g4) hW)
    have HY1 : Hid (∀ W, W4.grownBy W (some b4) → HL W 0 (.slice A1 y1.l.length c1) y1.l) := fun W hW => by
      rw [Hq.out]; exact hl_past hPb.1 (by omega) (gb_then (gb_none' g4) hW)
    have HX3 : Hid (∀ W, W4.grownBy W none → W.cell? ⟨b3, 0, none⟩ = some (.int .i64 x0.k) ∧ W.cell? ⟨b3, 1, none⟩ = some (.int .i64 x0.n) ∧ W.cell? ⟨b3, 2, none⟩ = some (.string x0.s) ∧ W.cell? ⟨b3, 3, none⟩ = some (.slice A ln c) ∧ W.cell? ⟨b3, 4, none⟩ = some (.bool true)) := fun W hW => by
      have k := hr3.kept hW (by simp)
      exact ⟨k.at_ (i := 0) rfl, k.at_ (i := 1) rfl, k.at_ (i := 2) rfl, k.at_ (i := 3) rfl, k.at_ (i := 4) rfl⟩
    have HR4 := Lib.hid hr4
    have Hgr0 : Hid (W0.grownBy W4 none) := gb_none g1 g4
    have Hs4 := Lib.hid hs4
    have Hb4 : Hid (W0.heap.size ≤ b4) := by show _ ≤ _; have := g1.size; omega
    clear hx hln hx1 hPa hPb hl0 hl1 hy0 hy1 hp hq g4 hr3 hr4 g1 hs4
    go_upto_region 5 with fail
    clear hW4 hb3 hb4
    apply Tp.wp_region_told_list (le := fun a b => a.grownBy b none) 8 [6, 7] [isV _, isV _, isV _, isV _, isV _, isV _, boxV W4.heap.size, boxV W4.heap.size]
    case hC => kernel_rfl
    case hlen => rfl
    case hFr =>
      intro i hi
      simp only [List.mem_cons, List.not_mem_nil, or_false] at hi
      rcases hi with rfl | rfl
      · exact ⟨_, rfl, rfl, rfl, fun f W => ⟨W.alloc (.cells #[.int .i64 0, .int .i64 0, .string ⟨#[]⟩, .slice none 0 0] 60), by go_simp, by rw [World.size_alloc]; omega⟩⟩
      · exact ⟨_, rfl, rfl, rfl, fun f W => ⟨W.alloc (.cells #[.int .i64 0, .int .i64 0, .string ⟨#[]⟩, .slice none 0 0] 60), by go_simp, by rw [World.size_alloc]; omega⟩⟩
    case hFm => rfl
    case hgrow => exact fun _ _ h => h.size
    case hn => rfl
    case hm => kernel_rfl
    case hB => kernel_rfl
    case ht => exact fun _ _ _ h k => gb_none h k
    case hw => exact gb_drew (gb_refl _ _)
    -- 0: ref.go:421 fieldAddr
    apply Tp.head_is
    · intro W f hW hE h0 K hK
      have e3 := h0 3 (by kernel_rfl)
      conv at e3 => rhs; whnf
      clear hE h0
      refine yes_of (want_free rfl) ?_
      go_simp; exact hK _ _ (gb_refl _ _) rfl
    -- 1: ref.go:421 load
    apply Tp.head_is
    · intro W f hW hE h0 K hK
      have e17 : f 17 = _ := hE 0 17 _ rfl (by kernel_rfl)
      clear hE h0
      refine yes_of (want_free rfl) ?_
      obtain ⟨z0, z1, z2, z3, z4⟩ := HX3.out W (gb_none (gb_refl _ _) hW)
      go_simp; exact hK _ _ (gb_refl _ _) rfl
    -- 2: ref.go:421 call
    apply Tp.head_is
    · intro W f hW hE h0 K hK
      have e18 : f 18 = _ := hE 0 18 _ rfl (by kernel_rfl)
      clear hE h0
      refine yes_of (want_free rfl) ?_
      go_simp
      refine (HPa.out W (gb_none (gb_refl _ _) hW)).mono ?_
      rintro e w1' ⟨rfl, g'⟩
      exact ⟨_, rfl, hK _ _ g' rfl⟩
    -- 3: ref.go:421 fieldAddr
    apply Tp.head_is
    · intro W f hW hE h0 K hK
      have e3 := h0 3 (by kernel_rfl)
      conv at e3 => rhs; whnf
      clear hE h0
      refine yes_of (want_free rfl) ?_
      go_simp; exact hK _ _ (gb_refl _ _) rfl
    -- 4: ref.go:421 load
    apply Tp.head_is
    · intro W f hW hE h0 K hK
      have e20 : f 20 = _ := hE 0 20 _ rfl (by kernel_rfl)
      clear hE h0
      refine yes_of (want_free rfl) ?_
      obtain ⟨z0, z1, z2, z3, z4⟩ := HX3.out W (gb_none (gb_refl _ _) hW)
      go_simp; exact hK _ _ (gb_refl _ _) rfl
    -- 5: ref.go:421 call
    apply Tp.head_is
    · intro W f hW hE h0 K hK
      have e21 : f 21 = _ := hE 0 21 _ rfl (by kernel_rfl)
      clear hE h0
      refine yes_of (want_free rfl) ?_
      go_simp
      refine (HPb.out W (gb_none (gb_refl _ _) hW)).mono ?_
      rintro e w1' ⟨rfl, g'⟩
      exact ⟨_, rfl, hK _ _ g' rfl⟩
    -- 6: ref.go:421 alloc
    apply Tp.head_at boxV_stays
    · intro W f hW hE h0 K hK
      clear hE h0
      refine yes_of (want_free rfl) ?_
      go_simp
      exact hK _ _ (gb_alloc (gb_refl _ _) _) ⟨_, rfl, Row.new _ _ _, hW.size⟩
    -- 7: ref.go:421 alloc
    apply Tp.head_at boxV_stays
    · intro W f hW hE h0 K hK
      clear hE h0
      refine yes_of (want_free rfl) ?_
      go_simp
      exact hK _ _ (gb_alloc (gb_refl _ _) _) ⟨_, rfl, Row.new _ _ _, hW.size⟩
    intro W f hW hAp hA
    simp only [List.take_succ_cons, List.take_zero, List.drop_succ_cons, List.drop_zero, lexIn, Act.put, List.setIfInBounds_toArray, List.set_cons_zero, List.set_cons_succ]
    have e19 : f 19 = _ := hA 5 (some 19) _ rfl
    rw [e19]
    have e22 : f 22 = _ := hA 2 (some 22) _ rfl
    rw [e22]
    have e5 := hA 1 (some 5) _ rfl
    have e6 := hA 0 (some 6) _ rfl
    clear hA
    obtain ⟨g5, e5, hr5, hg5⟩ := e5
    obtain ⟨g6, e6, hr6, hg6⟩ := e6
    have hne : g5 ≠ g6 := fun e => hAp 6 7 5 6 (by decide) (by decide) (by decide) rfl rfl (by rw [e5, e6, e])
    rw [e5, e6]
    have hr4 := HR4.out.kept hW (by simp)
    have hs4 := Hs4.out
    have ka : W.grownBy (((((W).setCell ⟨g5, 0, none⟩ (.int .i64 y0.k)).setCell ⟨g5, 1, none⟩ (.int .i64 y0.n)).setCell ⟨g5, 2, none⟩ (.string y0.s)).setCell ⟨g5, 3, none⟩ (.slice A0 p c0)) (some g5) := gb_then (gb_then (gb_then (gb_set1 _ _ _ _) (gb_set1 _ _ _ _)) (gb_set1 _ _ _ _)) (gb_set1 _ _ _ _)
    have kb : (((((W).setCell ⟨g5, 0, none⟩ (.int .i64 y0.k)).setCell ⟨g5, 1, none⟩ (.int .i64 y0.n)).setCell ⟨g5, 2, none⟩ (.string y0.s)).setCell ⟨g5, 3, none⟩ (.slice A0 p c0)).grownBy (((((((((W).setCell ⟨g5, 0, none⟩ (.int .i64 y0.k)).setCell ⟨g5, 1, none⟩ (.int .i64 y0.n)).setCell ⟨g5, 2, none⟩ (.string y0.s)).setCell ⟨g5, 3, none⟩ (.slice A0 p c0)).setCell ⟨g6, 0, none⟩ (.int .i64 y1.k)).setCell ⟨g6, 1, none⟩ (.int .i64 y1.n)).setCell ⟨g6, 2, none⟩ (.string y1.s)).setCell ⟨g6, 3, none⟩ (.slice A1 q c1)) (some g6) := gb_then (gb_then (gb_then (gb_set1 _ _ _ _) (gb_set1 _ _ _ _)) (gb_set1 _ _ _ _)) (gb_set1 _ _ _ _)
    have f0 : W.frozen? ⟨g5, 0, none⟩ = false := hr5.free 0
    have f1 : W.frozen? ⟨g5, 1, none⟩ = false := hr5.free 1
    have f2 : W.frozen? ⟨g5, 2, none⟩ = false := hr5.free 2
    have f3 : W.frozen? ⟨g5, 3, none⟩ = false := hr5.free 3
    have a0 : W.cell? ⟨g5, 0, none⟩ = some (.int .i64 0) := hr5.at_ (i := 0) rfl
    have a1 : W.cell? ⟨g5, 1, none⟩ = some (.int .i64 0) := hr5.at_ (i := 1) rfl
    have a2 : W.cell? ⟨g5, 2, none⟩ = some (.string ⟨#[]⟩) := hr5.at_ (i := 2) rfl
    have a3 : W.cell? ⟨g5, 3, none⟩ = some (.slice none 0 0) := hr5.at_ (i := 3) rfl
    have hr6a := hr6.kept ka (by simpa using Ne.symm hne)
    have q0 : (((((W).setCell ⟨g5, 0, none⟩ (.int .i64 y0.k)).setCell ⟨g5, 1, none⟩ (.int .i64 y0.n)).setCell ⟨g5, 2, none⟩ (.string y0.s)).setCell ⟨g5, 3, none⟩ (.slice A0 p c0)).frozen? ⟨g6, 0, none⟩ = false := hr6a.free 0
    have q1 : (((((W).setCell ⟨g5, 0, none⟩ (.int .i64 y0.k)).setCell ⟨g5, 1, none⟩ (.int .i64 y0.n)).setCell ⟨g5, 2, none⟩ (.string y0.s)).setCell ⟨g5, 3, none⟩ (.slice A0 p c0)).frozen? ⟨g6, 1, none⟩ = false := hr6a.free 1
    have q2 : (((((W).setCell ⟨g5, 0, none⟩ (.int .i64 y0.k)).setCell ⟨g5, 1, none⟩ (.int .i64 y0.n)).setCell ⟨g5, 2, none⟩ (.string y0.s)).setCell ⟨g5, 3, none⟩ (.slice A0 p c0)).frozen? ⟨g6, 2, none⟩ = false := hr6a.free 2
    have q3 : (((((W).setCell ⟨g5, 0, none⟩ (.int .i64 y0.k)).setCell ⟨g5, 1, none⟩ (.int .i64 y0.n)).setCell ⟨g5, 2, none⟩ (.string y0.s)).setCell ⟨g5, 3, none⟩ (.slice A0 p c0)).frozen? ⟨g6, 3, none⟩ = false := hr6a.free 3
    have b0 : (((((W).setCell ⟨g5, 0, none⟩ (.int .i64 y0.k)).setCell ⟨g5, 1, none⟩ (.int .i64 y0.n)).setCell ⟨g5, 2, none⟩ (.string y0.s)).setCell ⟨g5, 3, none⟩ (.slice A0 p c0)).cell? ⟨g6, 0, none⟩ = some (.int .i64 0) := hr6a.at_ (i := 0) rfl
    have b1 : (((((W).setCell ⟨g5, 0, none⟩ (.int .i64 y0.k)).setCell ⟨g5, 1, none⟩ (.int .i64 y0.n)).setCell ⟨g5, 2, none⟩ (.string y0.s)).setCell ⟨g5, 3, none⟩ (.slice A0 p c0)).cell? ⟨g6, 1, none⟩ = some (.int .i64 0) := hr6a.at_ (i := 1) rfl
    have b2 : (((((W).setCell ⟨g5, 0, none⟩ (.int .i64 y0.k)).setCell ⟨g5, 1, none⟩ (.int .i64 y0.n)).setCell ⟨g5, 2, none⟩ (.string y0.s)).setCell ⟨g5, 3, none⟩ (.slice A0 p c0)).cell? ⟨g6, 2, none⟩ = some (.string ⟨#[]⟩) := hr6a.at_ (i := 2) rfl
    have b3' : (((((W).setCell ⟨g5, 0, none⟩ (.int .i64 y0.k)).setCell ⟨g5, 1, none⟩ (.int .i64 y0.n)).setCell ⟨g5, 2, none⟩ (.string y0.s)).setCell ⟨g5, 3, none⟩ (.slice A0 p c0)).cell? ⟨g6, 3, none⟩ = some (.slice none 0 0) := hr6a.at_ (i := 3) rfl
    have ra := ((((hr5.set_ 0 (.int .i64 y0.k)).set_ 1 (.int .i64 y0.n)).set_ 2 (.string y0.s)).set_ 3 (.slice A0 p c0))
    have ra2 := ra.kept kb (by simpa using hne)
    have rb := (((((hr6.kept ka (by simpa using Ne.symm hne)).set_ 0 (.int .i64 y1.k)).set_ 1 (.int .i64 y1.n)).set_ 2 (.string y1.s)).set_ 3 (.slice A1 q c1))
    have r4 := (hr4.kept ka (by simp; omega)).kept kb (by simp; omega)
    have gS : W4.grownBy (((((((((W).setCell ⟨g5, 0, none⟩ (.int .i64 y0.k)).setCell ⟨g5, 1, none⟩ (.int .i64 y0.n)).setCell ⟨g5, 2, none⟩ (.string y0.s)).setCell ⟨g5, 3, none⟩ (.slice A0 p c0)).setCell ⟨g6, 0, none⟩ (.int .i64 y1.k)).setCell ⟨g6, 1, none⟩ (.int .i64 y1.n)).setCell ⟨g6, 2, none⟩ (.string y1.s)).setCell ⟨g6, 3, none⟩ (.slice A1 q c1)) none := gb_new (gb_new hW ka hg5) kb hg6
    have HW5 : Hid (W4.grownBy (((((((((W).setCell ⟨g5, 0, none⟩ (.int .i64 y0.k)).setCell ⟨g5, 1, none⟩ (.int .i64 y0.n)).setCell ⟨g5, 2, none⟩ (.string y0.s)).setCell ⟨g5, 3, none⟩ (.slice A0 p c0)).setCell ⟨g6, 0, none⟩ (.int .i64 y1.k)).setCell ⟨g6, 1, none⟩ (.int .i64 y1.n)).setCell ⟨g6, 2, none⟩ (.string y1.s)).setCell ⟨g6, 3, none⟩ (.slice A1 q c1)) none ∧ Row (((((((((W).setCell ⟨g5, 0, none⟩ (.int .i64 y0.k)).setCell ⟨g5, 1, none⟩ (.int .i64 y0.n)).setCell ⟨g5, 2, none⟩ (.string y0.s)).setCell ⟨g5, 3, none⟩ (.slice A0 p c0)).setCell ⟨g6, 0, none⟩ (.int .i64 y1.k)).setCell ⟨g6, 1, none⟩ (.int .i64 y1.n)).setCell ⟨g6, 2, none⟩ (.string y1.s)).setCell ⟨g6, 3, none⟩ (.slice A1 q c1)) g5 60 #[.int .i64 y0.k, .int .i64 y0.n, .string y0.s, .slice A0 p c0] ∧ Row (((((((((W).setCell ⟨g5, 0, none⟩ (.int .i64 y0.k)).setCell ⟨g5, 1, none⟩ (.int .i64 y0.n)).setCell ⟨g5, 2, none⟩ (.string y0.s)).setCell ⟨g5, 3, none⟩ (.slice A0 p c0)).setCell ⟨g6, 0, none⟩ (.int .i64 y1.k)).setCell ⟨g6, 1, none⟩ (.int .i64 y1.n)).setCell ⟨g6, 2, none⟩ (.string y1.s)).setCell ⟨g6, 3, none⟩ (.slice A1 q c1)) g6 60 #[.int .i64 y1.k, .int .i64 y1.n, .string y1.s, .slice A1 q c1] ∧ Row (((((((((W).setCell ⟨g5, 0, none⟩ (.int .i64 y0.k)).setCell ⟨g5, 1, none⟩ (.int .i64 y0.n)).setCell ⟨g5, 2, none⟩ (.string y0.s)).setCell ⟨g5, 3, none⟩ (.slice A0 p c0)).setCell ⟨g6, 0, none⟩ (.int .i64 y1.k)).setCell ⟨g6, 1, none⟩ (.int .i64 y1.n)).setCell ⟨g6, 2, none⟩ (.string y1.s)).setCell ⟨g6, 3, none⟩ (.slice A1 q c1)) b4 25 #[.slice none 0 0, .slice none 0 0]) := ⟨gS, ra2, rb, r4⟩
    have hb56 : b4 < g5 ∧ b4 < g6 := by omega
    have Hb56 := Lib.hid hb56
    clear ka kb ra ra2 rb r4 hr6a hr4 hs4 hr5 hr6 hW hAp hg5 hg6 gS hb56 e5 e6 e19 e22
    go_upto_region 6 with fail
    clear f0 f1 f2 f3 q0 q1 q2 q3 a0 a1 a2 a3 b0 b1 b2 b3' hne
    refine Td.named (fun W' => W4.grownBy W' none ∧ Row W' g5 60 #[.int .i64 y0.k, .int .i64 y0.n, .string y0.s, .slice A0 p c0] ∧ Row W' g6 60 #[.int .i64 y1.k, .int .i64 y1.n, .string y1.s, .slice A1 q c1] ∧ Row W' b4 25 #[.slice none 0 0, .slice none 0 0]) HW5.out ?_
    clear HW5
    rintro W5 ⟨n1, n2, n3, n4⟩
    have HR5a := Lib.hid n4
    obtain ⟨N5, hN5⟩ : ∃ N5, W5.heap.size = N5 := ⟨_, rfl⟩
    have HN5e : Hid (W5.heap.size = N5) := hN5
    have HN5 : Hid (b4 < N5) := by show _ < _; have := n4.lt; omega
    have hne5 : some g5 ≠ some b4 := fun e => by have := Option.some.inj e; have := Hb56.out; omega
    have hne6 : some g6 ≠ some b4 := fun e => by have := Option.some.inj e; have := Hb56.out; omega
    have HXa : Hid (∀ W, W5.grownBy W (some b4) → W.cell? ⟨g5, 0, none⟩ = some (.int .i64 y0.k) ∧ W.cell? ⟨g5, 1, none⟩ = some (.int .i64 y0.n) ∧ W.cell? ⟨g5, 2, none⟩ = some (.string y0.s) ∧ W.cell? ⟨g5, 3, none⟩ = some (.slice A0 p c0)) := fun W hW => by
      have k := n2.kept hW hne5
      exact ⟨k.at_ (i := 0) rfl, k.at_ (i := 1) rfl, k.at_ (i := 2) rfl, k.at_ (i := 3) rfl⟩
    have HXb : Hid (∀ W, W5.grownBy W (some b4) → W.cell? ⟨g6, 0, none⟩ = some (.int .i64 y1.k) ∧ W.cell? ⟨g6, 1, none⟩ = some (.int .i64 y1.n) ∧ W.cell? ⟨g6, 2, none⟩ = some (.string y1.s) ∧ W.cell? ⟨g6, 3, none⟩ = some (.slice A1 q c1)) := fun W hW => by
      have k := n3.kept hW hne6
      exact ⟨k.at_ (i := 0) rfl, k.at_ (i := 1) rfl, k.at_ (i := 2) rfl, k.at_ (i := 3) rfl⟩
    have HY0b : Hid (∀ W, W5.grownBy W (some b4) → HL W 0 (.slice A0 y0.l.length c0) y0.l) := fun W hW => HY0.out W (gb_then (gb_none' n1) hW)
    have HY1b : Hid (∀ W, W5.grownBy W (some b4) → HL W 0 (.slice A1 y1.l.length c1) y1.l) := fun W hW => HY1.out W (gb_then (gb_none' n1) hW)
    have Hgr0 : Hid (W0.grownBy W5 none) := gb_none Hgr0.out n1
    clear n1 n2 n3 n4 hN5 hne5 hne6
    go_wp2_with fail
    go_loopw [7] (fun iv wr => ∃ (k : Nat) (A5 : Option Addr) (c5 : Nat), k ≤ p ∧ iv = .int .i64 k ∧ Hid (wr.ownsRow N5 50 3 (.slice A5 k c5) k (rv ((y0.l.take k).map runR))) ∧ Hid (Row wr b4 25 #[.slice A5 k c5, .slice none 0 0]) ∧ W5.grownBy wr (some b4) ∧ Hid (N5 ≤ wr.heap.size)) (fun iv _ => p - (intOf iv).toNat)
    case atStart => exact ⟨0, none, 0, Nat.zero_le _, rfl, World.ownsRow_nil _ _ _ _, HR5a, gb_refl _ _, Nat.le_of_eq HN5e.out.symm⟩
    case round =>
      obtain ⟨k, A5, c5, hk, rfl, Ho, H4, hg, Hbw⟩ := hrel
      obtain ⟨xr0, xr1, xr2, xr3⟩ := HXa.out wr hg
      by_cases hlt : k < p
      · have d1 : decide (k < p) = true := decide_eq_true hlt
        have d2 : decide ((k : Int) < (p : Int)) = true := decide_eq_true (by omega)
        obtain ⟨x, hx⟩ : ∃ x, y0.l[k]? = some x := ⟨_, List.getElem?_eq_getElem (by rw [Hp.out]; exact hlt)⟩
        have Hnx : Hid ((y0.l.take (k + 1)).map runR = (y0.l.take k).map runR ++ [runR x]) := by
          show _ = _
          rw [List.take_add_one, hx, List.map_append]; rfl
        obtain ⟨gx, ox, Ax, cx, eA, _, hgx, e0, e1, e2, e3, hxl⟩ := (HY0b.out wr hg).item hx
        rw [eA] at xr3
        clear eA
        have Hg := Lib.hid hg
        have Hlt := Lib.hid hlt
        have t1 : IntKind.i64.wrap ((k : Int) + 1) = ((k + 1 : Nat) : Int) := by rw [IntKind.wrap_i64]; have := Hpb.out; omega
        obtain ⟨b8, hb8⟩ : ∃ b8, wr.heap.size = b8 := ⟨_, rfl⟩
        obtain ⟨W6, hW6⟩ : ∃ W6, wr.alloc (.cells #[.int .i64 x.k, .int .i64 x.n, .string x.s, .slice Ax x.l.length cx] 60) = W6 := ⟨_, rfl⟩
        have g6 : wr.grownBy W6 none := by rw [← hW6]; exact gb_alloc (gb_refl _ _) _
        have hr8 : Row W6 b8 60 #[.int .i64 x.k, .int .i64 x.n, .string x.s, .slice Ax x.l.length cx] := by rw [← hW6, ← hb8]; exact Row.new _ _ _
        have hr4 := H4.out.kept g6 (by simp)
        have Hx6 := Lib.hid (hxl.kept g6)
        have HX8 : Hid (∀ W, W6.grownBy W none → W.cell? ⟨b8, 0, none⟩ = some (.int .i64 x.k) ∧ W.cell? ⟨b8, 1, none⟩ = some (.int .i64 x.n) ∧ W.cell? ⟨b8, 2, none⟩ = some (.string x.s) ∧ W.cell? ⟨b8, 3, none⟩ = some (.slice Ax x.l.length cx)) := fun W hW => by
          have k := hr8.kept hW (by simp)
          exact ⟨k.at_ (i := 0) rfl, k.at_ (i := 1) rfl, k.at_ (i := 2) rfl, k.at_ (i := 3) rfl⟩
        have HX4 : Hid (∀ W, W6.grownBy W none → W.cell? ⟨b4, 0, none⟩ = some (.slice A5 k c5) ∧ W.cell? ⟨b4, 1, none⟩ = some (.slice none 0 0)) := fun W hW => by
          have k := hr4.kept hW (by simp)
          exact ⟨k.at_ (i := 0) rfl, k.at_ (i := 1) rfl⟩
        have HR4 := Lib.hid hr4
        have Ho6 := Lib.hid (own_keep Ho.out g6)
        have Hg6 : Hid (W5.grownBy W6 (some b4)) := gb_then hg (gb_none' g6)
        have Hbw6 : Hid (N5 ≤ W6.heap.size) := Nat.le_trans Hbw.out g6.size
        obtain ⟨Ap0, cp0, hp0⟩ := part_at x Ax cx 0 W6 Hx6.out
        have HP0 := Lib.hid hp0
        clear hp0
        obtain ⟨Ap1, cp1, hp1⟩ := part_at x Ax cx 1 W6 Hx6.out
        have HP1 := Lib.hid hp1
        clear hp1
        obtain ⟨Ap2, cp2, hp2⟩ := part_at x Ax cx 2 W6 Hx6.out
        have HP2 := Lib.hid hp2
        clear hp2
        clear hx hlt hk hr4 hr8 hg hxl g6 Ho H4 Hx6
        go_upto_region 10 with fail
        clear hW6 hb8 d1 d2 xr0 xr1 xr2 xr3 e0 e1 e2 e3 hgx
        apply wp_region_told_list (le := fun a b => a.grownBy b none) 13 [isV _, isV _, isV _, isV _, isV _, isV _, isV _, isV _, isV _, isV _, isV _, isV _, oneR (runR x)]
        case hC => kernel_rfl
        case hlen => rfl
        case hn => rfl
        case hm => kernel_rfl
        case hB => kernel_rfl
        case ht => exact fun _ _ _ h k => gb_none h k
        case hw => exact gb_drew (gb_refl _ _)
        -- 0: ref.go:424 fieldAddr
        apply head_is
        · intro W f hW hE h0 K hK
          have e4 := h0 4 (by kernel_rfl)
          conv at e4 => rhs; whnf
          clear hE h0
          refine yes_of (want_free rfl) ?_
          go_simp; exact hK _ _ (gb_refl _ _) rfl
        -- 1: ref.go:424 load
        apply head_is
        · intro W f hW hE h0 K hK
          have e35 : f 35 = _ := hE 0 35 _ rfl (by kernel_rfl)
          clear hE h0
          refine yes_of (want_free rfl) ?_
          obtain ⟨v0, v1⟩ := HX4.out W hW
          go_simp; exact hK _ _ (gb_refl _ _) rfl
        -- 2: ref.go:424 load
        apply head_is
        · intro W f hW hE h0 K hK
          have e8 := h0 8 (by kernel_rfl)
          conv at e8 => rhs; whnf
          clear hE h0
          refine yes_of (want_free rfl) ?_
          obtain ⟨z0, z1, z2, z3⟩ := HX8.out W hW
          go_simp; exact hK _ _ (gb_refl _ _) rfl
        -- 3: ref.go:424 call
        apply head_is
        · intro W f hW hE h0 K hK
          have e37 : f 37 = _ := hE 0 37 _ rfl (by kernel_rfl)
          clear hE h0
          refine yes_of (want_free rfl) ?_
          go_simp
          refine (HP0.out.2 W hW).mono ?_
          rintro e w1' ⟨rfl, g'⟩
          exact ⟨_, rfl, hK _ _ g' rfl⟩
        -- 4: ref.go:424 field
        apply head_is
        · intro W f hW hE h0 K hK
          have e38 : f 38 = _ := hE 0 38 _ rfl (by kernel_rfl)
          clear hE h0
          refine yes_of (want_free rfl) ?_
          go_simp; exact hK _ _ (gb_refl _ _) rfl
        -- 5: ref.go:424 load
        apply head_is
        · intro W f hW hE h0 K hK
          have e8 := h0 8 (by kernel_rfl)
          conv at e8 => rhs; whnf
          clear hE h0
          refine yes_of (want_free rfl) ?_
          obtain ⟨z0, z1, z2, z3⟩ := HX8.out W hW
          go_simp; exact hK _ _ (gb_refl _ _) rfl
        -- 6: ref.go:424 call
        apply head_is
        · intro W f hW hE h0 K hK
          have e40 : f 40 = _ := hE 0 40 _ rfl (by kernel_rfl)
          clear hE h0
          refine yes_of (want_free rfl) ?_
          go_simp
          refine (HP1.out.2 W hW).mono ?_
          rintro e w1' ⟨rfl, g'⟩
          exact ⟨_, rfl, hK _ _ g' rfl⟩
        -- 7: ref.go:424 field
        apply head_is
        · intro W f hW hE h0 K hK
          have e41 : f 41 = _ := hE 0 41 _ rfl (by kernel_rfl)
          clear hE h0
          refine yes_of (want_free rfl) ?_
          go_simp; exact hK _ _ (gb_refl _ _) rfl
        -- 8: ref.go:424 load
        apply head_is
        · intro W f hW hE h0 K hK
          have e8 := h0 8 (by kernel_rfl)
          conv at e8 => rhs; whnf
          clear hE h0
          refine yes_of (want_free rfl) ?_
          obtain ⟨z0, z1, z2, z3⟩ := HX8.out W hW
          go_simp; exact hK _ _ (gb_refl _ _) rfl
        -- 9: ref.go:424 call
        apply head_is
        · intro W f hW hE h0 K hK
          have e43 : f 43 = _ := hE 0 43 _ rfl (by kernel_rfl)
          clear hE h0
          refine yes_of (want_free rfl) ?_
          go_simp
          refine (HP2.out.2 W hW).mono ?_
          rintro e w1' ⟨rfl, g'⟩
          exact ⟨_, rfl, hK _ _ g' rfl⟩
        -- 10: ref.go:424 field
        apply head_is
        · intro W f hW hE h0 K hK
          have e44 : f 44 = _ := hE 0 44 _ rfl (by kernel_rfl)
          clear hE h0
          refine yes_of (want_free rfl) ?_
          go_simp; exact hK _ _ (gb_refl _ _) rfl
        -- 11: ref.go:424 build
        apply head_is
        · intro W f hW hE h0 K hK
          have e39 : f 39 = _ := hE 6 39 _ rfl (by kernel_rfl)
          have e42 : f 42 = _ := hE 3 42 _ rfl (by kernel_rfl)
          have e45 : f 45 = _ := hE 0 45 _ rfl (by kernel_rfl)
          clear hE h0
          refine yes_of (want_free rfl) ?_
          go_simp; exact hK _ _ (gb_refl _ _) rfl
        -- 12: ref.go:424 buildSlice
        apply head_at oneR_stays
        · intro W f hW hE h0 K hK
          have e46 : f 46 = _ := hE 0 46 _ rfl (by kernel_rfl)
          clear hE h0
          refine yes_of (want_free rfl) ?_
          go_simp
          exact hK _ _ (gb_alloc (gb_refl _ _) _) ⟨_, rfl, Row.new _ _ _⟩
        intro W f hW hA
        simp only [List.take_succ_cons, List.take_zero, List.drop_succ_cons, List.drop_zero, lexIn, Act.put, List.setIfInBounds_toArray, List.set_cons_zero, List.set_cons_succ]
        have e36 : f 36 = _ := hA 11 (some 36) _ rfl
        rw [e36]
        have e47 := hA 0 (some 47) _ rfl
        clear hA
        obtain ⟨gn, e47, hrn⟩ := e47
        rw [e47]
        have Ho7 := Lib.hid (own_keep Ho6.out hW)
        have HR7 := Lib.hid (HR4.out.kept hW (by simp))
        have Hrn := Lib.hid hrn
        have Hg7 : Hid (W5.grownBy W (some b4)) := gb_then Hg6.out (gb_none' hW)
        have hgs : N5 ≤ W.heap.size := Nat.le_trans Hbw6.out hW.size
        have HLk : Hid (((y0.l.take k).map runR).length = k) := by
          show _ = _
          rw [List.length_map, List.length_take, Hp.out]; have := Hlt.out; omega
        clear hW hrn
        go_wp2_with (at_builtin; go_must (refine wpList_append_own _ rfl (.tmp 36) (.tmp 47) 22 rfl N5 50 i3 (.agg #[.int .i64 0, .int .i64 0, .int .i64 0]) 3 24 Tryz.underlying22 Hi3.out Hz3.out Hs3.out Hb3.out rfl (by decide) _ k _ rfl Ho7.out ⟨gn, 0, none⟩ 1 1 [.int .i64 (partW x 0).n, .int .i64 (partW x 1).n, .int .i64 (partW x 2).n] rfl rfl (World.news_of_block (cs := #[.int .i64 (partW x 0).n, .int .i64 (partW x 1).n, .int .i64 (partW x 2).n]) (t := 50) (fr := (0, 0)) Hrn.out) (ints3' _ _ _) (by have := Hlt.out; have := Hpb.out; simp only [maxLen]; omega) (by have := Hlt.out; have := Hpb.out; omega) hgs ?_); intro v8 w8 own8 hgrow _; obtain ⟨A8, c8, rfl, Hown8⟩ := app_rv own8 HLk.out; obtain ⟨HR9, Hg9, Hw8⟩ := app_grow hgrow Ho7.out HR7.out Hg7.out HN5.out hgs HN5e.out; have s0 : w8.cell? ⟨b4, 0, none⟩ = some (.slice A5 k c5) := HR9.out.at_ (i := 0) rfl; have q0 := HR9.out.free 0; clear own8 hgrow)
        have hown9 := Hown8.out
        rw [← Hnx.out] at hown9
        have hown := own_set (i := 0) (x := .slice A8 (k + 1) c8) hown9 (show b4 < N5 from HN5.out)
        have hrow := HR9.out.set_ 0 (.slice A8 (k + 1) c8)
        have hg9 := gb_then Hg9.out (gb_set1 w8 b4 0 (.slice A8 (k + 1) c8))
        have hsz : N5 ≤ (w8.setCell ⟨b4, 0, none⟩ (.slice A8 (k + 1) c8)).heap.size := Nat.le_trans Hw8.out (gb_set1 w8 b4 0 (.slice A8 (k + 1) c8)).size
        go_roundw
        case rel => first | exact ⟨k + 1, A8, c8, by have := Hlt.out; omega, rfl, hown, hrow, hg9, hsz⟩ | ((repeat apply Exists.intro); refine ⟨?_, rfl⟩; exact ⟨k + 1, A8, c8, by have := Hlt.out; omega, rfl, hown, hrow, hg9, hsz⟩)
        case measure => simp [intOf]; have := Hlt.out; omega
      · obtain rfl : p = k := by omega
        obtain ⟨wa, rfl⟩ : ∃ wa, wa = wr := ⟨_, rfl⟩
        have d1 : decide (p < p) = false := by simp
        have d2 : decide ((p : Int) < (p : Int)) = false := by simp
        obtain ⟨A', c', e5, hR5, _⟩ := own_rl Ho.out (by rw [List.length_map, List.length_take, Hp.out]; omega)
        injection e5 with e5 _ e5'
        subst e5 e5'
        have HR5 : Hid (RL wa A5 p (y0.l.map runR)) := by
          have h := hR5
          rwa [List.take_of_length_le (by rw [Hp.out]; exact Nat.le_refl _)] at h
        have HR4b := H4
        have Hgr := Lib.hid hg
        obtain ⟨N6, hN6⟩ : ∃ N6, wa.heap.size = N6 := ⟨_, rfl⟩
        have HN6e : Hid (wa.heap.size = N6) := hN6
        have HN6 : Hid (b4 < N6) := by show _ < _; have h1 := Hbw.out; have h2 := HN5.out; omega
        have HXb2 : Hid (∀ W, wa.grownBy W (some b4) → W.cell? ⟨g6, 0, none⟩ = some (.int .i64 y1.k) ∧ W.cell? ⟨g6, 1, none⟩ = some (.int .i64 y1.n) ∧ W.cell? ⟨g6, 2, none⟩ = some (.string y1.s) ∧ W.cell? ⟨g6, 3, none⟩ = some (.slice A1 q c1)) := fun W hW => HXb.out W (gb_then Hgr.out hW)
        have HY1c : Hid (∀ W, wa.grownBy W (some b4) → HL W 0 (.slice A1 y1.l.length c1) y1.l) := fun W hW => HY1b.out W (gb_then Hgr.out hW)
        clear hlt hk hg hR5 Ho hN6
        go_wp2_with fail
        clear d1 d2 xr0 xr1 xr2 xr3
        go_loopw [9] (fun iv wr => ∃ (k : Nat) (Au : Option Addr) (cu : Nat), k ≤ q ∧ iv = .int .i64 k ∧ Hid (wr.ownsRow N6 46 6 (.slice Au k cu) k (fv ((y1.l.take k).map factR))) ∧ Hid (Row wr b4 25 #[.slice A5 p c5, .slice Au k cu]) ∧ wa.grownBy wr (some b4) ∧ Hid (N6 ≤ wr.heap.size)) (fun iv _ => q - (intOf iv).toNat)
        case atStart => exact ⟨0, none, 0, Nat.zero_le _, rfl, World.ownsRow_nil _ _ _ _, HR4b, gb_refl _ _, Nat.le_of_eq HN6e.out.symm⟩
        case round =>
          obtain ⟨k, Au, cu, hk, rfl, Ho, H4, hg, Hbw⟩ := hrel
          obtain ⟨xr0, xr1, xr2, xr3⟩ := HXb2.out wr hg
          by_cases hlt : k < q
          · have d1 : decide (k < q) = true := decide_eq_true hlt
            have d2 : decide ((k : Int) < (q : Int)) = true := decide_eq_true (by omega)
            obtain ⟨x, hx⟩ : ∃ x, y1.l[k]? = some x := ⟨_, List.getElem?_eq_getElem (by rw [Hq.out]; exact hlt)⟩
            have Hnx : Hid ((y1.l.take (k + 1)).map factR = (y1.l.take k).map factR ++ [factR x]) := by
              show _ = _
              rw [List.take_add_one, hx, List.map_append]; rfl
            obtain ⟨gx, ox, Ax, cx, eA, _, hgx, e0, e1, e2, e3, hxl⟩ := (HY1c.out wr hg).item hx
            rw [eA] at xr3
            clear eA
            have Hg := Lib.hid hg
            have Hlt := Lib.hid hlt
            have t1 : IntKind.i64.wrap ((k : Int) + 1) = ((k + 1 : Nat) : Int) := by rw [IntKind.wrap_i64]; have := Hqb.out; omega
            obtain ⟨b8, hb8⟩ : ∃ b8, wr.heap.size = b8 := ⟨_, rfl⟩
            obtain ⟨W6, hW6⟩ : ∃ W6, wr.alloc (.cells #[.int .i64 x.k, .int .i64 x.n, .string x.s, .slice Ax x.l.length cx] 60) = W6 := ⟨_, rfl⟩
            have g6 : wr.grownBy W6 none := by rw [← hW6]; exact gb_alloc (gb_refl _ _) _
            have hr8 : Row W6 b8 60 #[.int .i64 x.k, .int .i64 x.n, .string x.s, .slice Ax x.l.length cx] := by rw [← hW6, ← hb8]; exact Row.new _ _ _
            have hr4 := H4.out.kept g6 (by simp)
            have Hx6 := Lib.hid (hxl.kept g6)
            have HX8 : Hid (∀ W, W6.grownBy W none → W.cell? ⟨b8, 0, none⟩ = some (.int .i64 x.k) ∧ W.cell? ⟨b8, 1, none⟩ = some (.int .i64 x.n) ∧ W.cell? ⟨b8, 2, none⟩ = some (.string x.s) ∧ W.cell? ⟨b8, 3, none⟩ = some (.slice Ax x.l.length cx)) := fun W hW => by
              have k := hr8.kept hW (by simp)
              exact ⟨k.at_ (i := 0) rfl, k.at_ (i := 1) rfl, k.at_ (i := 2) rfl, k.at_ (i := 3) rfl⟩
            have HX4 : Hid (∀ W, W6.grownBy W none → W.cell? ⟨b4, 0, none⟩ = some (.slice A5 p c5) ∧ W.cell? ⟨b4, 1, none⟩ = some (.slice Au k cu)) := fun W hW => by
              have k := hr4.kept hW (by simp)
              exact ⟨k.at_ (i := 0) rfl, k.at_ (i := 1) rfl⟩
            have HR4 := Lib.hid hr4
            have Ho6 := Lib.hid (own_keep Ho.out g6)
            have Hg6 : Hid (wa.grownBy W6 (some b4)) := gb_then hg (gb_none' g6)
            have Hbw6 : Hid (N6 ≤ W6.heap.size) := Nat.le_trans Hbw.out g6.size
            obtain ⟨Ap0, cp0, hp0⟩ := part_at x Ax cx 0 W6 Hx6.out
            have HP0 := Lib.hid hp0
            clear hp0
            obtain ⟨Ap1, cp1, hp1⟩ := part_at x Ax cx 1 W6 Hx6.out
            have HP1 := Lib.hid hp1
            clear hp1
            obtain ⟨Ap2, cp2, hp2⟩ := part_at x Ax cx 2 W6 Hx6.out
            have HP2 := Lib.hid hp2
            clear hp2
            obtain ⟨Ap3, cp3, hp3⟩ := part_at x Ax cx 3 W6 Hx6.out
            have HP3 := Lib.hid hp3
            clear hp3
            obtain ⟨Ap4, cp4, hp4⟩ := part_at x Ax cx 4 W6 Hx6.out
            have HP4 := Lib.hid hp4
            clear hp4
            obtain ⟨Ap5, cp5, hp5⟩ := part_at x Ax cx 5 W6 Hx6.out
            have HP5 := Lib.hid hp5
            clear hp5
            clear hx hlt hk hr4 hr8 hg hxl g6 Ho H4 Hx6
            go_upto_region 15 with fail
            clear hW6 hb8 d1 d2 xr0 xr1 xr2 xr3 e0 e1 e2 e3 hgx
            apply wp_region_told_list (le := fun a b => a.grownBy b none) 23 [isV _, isV _, isV _, isV _, isV _, isV _, isV _, isV _, isV _, isV _, isV _, isV _, isV _, isV _, isV _, isV _, isV _, isV _, isV _, isV _, isV _, isV _, oneF (factR x)]
            case hC => kernel_rfl
            case hlen => rfl
            case hn => rfl
            case hm => kernel_rfl
            case hB => kernel_rfl
            case ht => exact fun _ _ _ h k => gb_none h k
            case hw => exact gb_drew (gb_refl _ _)
            -- 0: ref.go:428 fieldAddr
            apply head_is
            · intro W f hW hE h0 K hK
              have e4 := h0 4 (by kernel_rfl)
              conv at e4 => rhs; whnf
              clear hE h0
              refine yes_of (want_free rfl) ?_
              go_simp; exact hK _ _ (gb_refl _ _) rfl
            -- 1: ref.go:428 load
            apply head_is
            · intro W f hW hE h0 K hK
              have e62 : f 62 = _ := hE 0 62 _ rfl (by kernel_rfl)
              clear hE h0
              refine yes_of (want_free rfl) ?_
              obtain ⟨v0, v1⟩ := HX4.out W hW
              go_simp; exact hK _ _ (gb_refl _ _) rfl
            -- 2: ref.go:428 load
            apply head_is
            · intro W f hW hE h0 K hK
              have e10 := h0 10 (by kernel_rfl)
              conv at e10 => rhs; whnf
              clear hE h0
              refine yes_of (want_free rfl) ?_
              obtain ⟨z0, z1, z2, z3⟩ := HX8.out W hW
              go_simp; exact hK _ _ (gb_refl _ _) rfl
            -- 3: ref.go:428 call
            apply head_is
            · intro W f hW hE h0 K hK
              have e64 : f 64 = _ := hE 0 64 _ rfl (by kernel_rfl)
              clear hE h0
              refine yes_of (want_free rfl) ?_
              go_simp
              refine (HP0.out.2 W hW).mono ?_
              rintro e w1' ⟨rfl, g'⟩
              exact ⟨_, rfl, hK _ _ g' rfl⟩
            -- 4: ref.go:428 field
            apply head_is
            · intro W f hW hE h0 K hK
              have e65 : f 65 = _ := hE 0 65 _ rfl (by kernel_rfl)
              clear hE h0
              refine yes_of (want_free rfl) ?_
              go_simp; exact hK _ _ (gb_refl _ _) rfl
            -- 5: ref.go:428 load
            apply head_is
            · intro W f hW hE h0 K hK
              have e10 := h0 10 (by kernel_rfl)
              conv at e10 => rhs; whnf
              clear hE h0
              refine yes_of (want_free rfl) ?_
              obtain ⟨z0, z1, z2, z3⟩ := HX8.out W hW
              go_simp; exact hK _ _ (gb_refl _ _) rfl
            -- 6: ref.go:428 call
            apply head_is
            · intro W f hW hE h0 K hK
              have e67 : f 67 = _ := hE 0 67 _ rfl (by kernel_rfl)
              clear hE h0
              refine yes_of (want_free rfl) ?_
              go_simp
              refine (HP1.out.2 W hW).mono ?_
              rintro e w1' ⟨rfl, g'⟩
              exact ⟨_, rfl, hK _ _ g' rfl⟩
            -- 7: ref.go:428 field
            apply head_is
            · intro W f hW hE h0 K hK
              have e68 : f 68 = _ := hE 0 68 _ rfl (by kernel_rfl)
              clear hE h0
              refine yes_of (want_free rfl) ?_
              go_simp; exact hK _ _ (gb_refl _ _) rfl
            -- 8: ref.go:428 build
            apply head_is
            · intro W f hW hE h0 K hK
              have e66 : f 66 = _ := hE 3 66 _ rfl (by kernel_rfl)
              have e69 : f 69 = _ := hE 0 69 _ rfl (by kernel_rfl)
              clear hE h0
              refine yes_of (want_free rfl) ?_
              go_simp; exact hK _ _ (gb_refl _ _) rfl
            -- 9: ref.go:428 load
            apply head_is
            · intro W f hW hE h0 K hK
              have e10 := h0 10 (by kernel_rfl)
              conv at e10 => rhs; whnf
              clear hE h0
              refine yes_of (want_free rfl) ?_
              obtain ⟨z0, z1, z2, z3⟩ := HX8.out W hW
              go_simp; exact hK _ _ (gb_refl _ _) rfl
            -- 10: ref.go:428 call
            apply head_is
            · intro W f hW hE h0 K hK
              have e71 : f 71 = _ := hE 0 71 _ rfl (by kernel_rfl)
              clear hE h0
              refine yes_of (want_free rfl) ?_
              go_simp
              refine (HP2.out.2 W hW).mono ?_
              rintro e w1' ⟨rfl, g'⟩
              exact ⟨_, rfl, hK _ _ g' rfl⟩
            -- 11: ref.go:428 field
            apply head_is
            · intro W f hW hE h0 K hK
              have e72 : f 72 = _ := hE 0 72 _ rfl (by kernel_rfl)
              clear hE h0
              refine yes_of (want_free rfl) ?_
              go_simp; exact hK _ _ (gb_refl _ _) rfl
            -- 12: ref.go:428 load
            apply head_is
            · intro W f hW hE h0 K hK
              have e10 := h0 10 (by kernel_rfl)
              conv at e10 => rhs; whnf
              clear hE h0
              refine yes_of (want_free rfl) ?_
              obtain ⟨z0, z1, z2, z3⟩ := HX8.out W hW
              go_simp; exact hK _ _ (gb_refl _ _) rfl
            -- 13: ref.go:428 call
            apply head_is
            · intro W f hW hE h0 K hK
              have e74 : f 74 = _ := hE 0 74 _ rfl (by kernel_rfl)
              clear hE h0
              refine yes_of (want_free rfl) ?_
              go_simp
              refine (HP3.out.2 W hW).mono ?_
              rintro e w1' ⟨rfl, g'⟩
              exact ⟨_, rfl, hK _ _ g' rfl⟩
            -- 14: ref.go:428 field
            apply head_is
            · intro W f hW hE h0 K hK
              have e75 : f 75 = _ := hE 0 75 _ rfl (by kernel_rfl)
              clear hE h0
              refine yes_of (want_free rfl) ?_
              go_simp; exact hK _ _ (gb_refl _ _) rfl
            -- 15: ref.go:428 load
            apply head_is
            · intro W f hW hE h0 K hK
              have e10 := h0 10 (by kernel_rfl)
              conv at e10 => rhs; whnf
              clear hE h0
              refine yes_of (want_free rfl) ?_
              obtain ⟨z0, z1, z2, z3⟩ := HX8.out W hW
              go_simp; exact hK _ _ (gb_refl _ _) rfl
            -- 16: ref.go:428 call
            apply head_is
            · intro W f hW hE h0 K hK
              have e77 : f 77 = _ := hE 0 77 _ rfl (by kernel_rfl)
              clear hE h0
              refine yes_of (want_free rfl) ?_
              go_simp
              refine (HP4.out.2 W hW).mono ?_
              rintro e w1' ⟨rfl, g'⟩
              exact ⟨_, rfl, hK _ _ g' rfl⟩
            -- 17: ref.go:428 field
            apply head_is
            · intro W f hW hE h0 K hK
              have e78 : f 78 = _ := hE 0 78 _ rfl (by kernel_rfl)
              clear hE h0
              refine yes_of (want_free rfl) ?_
              go_simp; exact hK _ _ (gb_refl _ _) rfl
            -- 18: ref.go:428 load
            apply head_is
            · intro W f hW hE h0 K hK
              have e10 := h0 10 (by kernel_rfl)
              conv at e10 => rhs; whnf
              clear hE h0
              refine yes_of (want_free rfl) ?_
              obtain ⟨z0, z1, z2, z3⟩ := HX8.out W hW
              go_simp; exact hK _ _ (gb_refl _ _) rfl
            -- 19: ref.go:428 call
            apply head_is
            · intro W f hW hE h0 K hK
              have e80 : f 80 = _ := hE 0 80 _ rfl (by kernel_rfl)
              clear hE h0
              refine yes_of (want_free rfl) ?_
              go_simp
              refine (HP5.out.2 W hW).mono ?_
              rintro e w1' ⟨rfl, g'⟩
              exact ⟨_, rfl, hK _ _ g' rfl⟩
            -- 20: ref.go:428 field
            apply head_is
            · intro W f hW hE h0 K hK
              have e81 : f 81 = _ := hE 0 81 _ rfl (by kernel_rfl)
              clear hE h0
              refine yes_of (want_free rfl) ?_
              go_simp; exact hK _ _ (gb_refl _ _) rfl
            -- 21: ref.go:428 build
            apply head_is
            · intro W f hW hE h0 K hK
              have e70 : f 70 = _ := hE 12 70 _ rfl (by kernel_rfl)
              have e73 : f 73 = _ := hE 9 73 _ rfl (by kernel_rfl)
              have e76 : f 76 = _ := hE 6 76 _ rfl (by kernel_rfl)
              have e79 : f 79 = _ := hE 3 79 _ rfl (by kernel_rfl)
              have e82 : f 82 = _ := hE 0 82 _ rfl (by kernel_rfl)
              clear hE h0
              refine yes_of (want_free rfl) ?_
              go_simp; exact hK _ _ (gb_refl _ _) rfl
            -- 22: ref.go:428 buildSlice
            apply head_at oneF_stays
            · intro W f hW hE h0 K hK
              have e83 : f 83 = _ := hE 0 83 _ rfl (by kernel_rfl)
              clear hE h0
              refine yes_of (want_free rfl) ?_
              go_simp
              exact hK _ _ (gb_alloc (gb_refl _ _) _) ⟨_, rfl, Row.new _ _ _⟩
            intro W f hW hA
            simp only [List.take_succ_cons, List.take_zero, List.drop_succ_cons, List.drop_zero, lexIn, Act.put, List.setIfInBounds_toArray, List.set_cons_zero, List.set_cons_succ]
            have e63 : f 63 = _ := hA 21 (some 63) _ rfl
            rw [e63]
            have e84 := hA 0 (some 84) _ rfl
            clear hA
            obtain ⟨gn, e84, hrn⟩ := e84
            rw [e84]
            have Ho7 := Lib.hid (own_keep Ho6.out hW)
            have HR7 := Lib.hid (HR4.out.kept hW (by simp))
            have Hrn := Lib.hid hrn
            have Hg7 : Hid (wa.grownBy W (some b4)) := gb_then Hg6.out (gb_none' hW)
            have hgs : N6 ≤ W.heap.size := Nat.le_trans Hbw6.out hW.size
            have HLk : Hid (((y1.l.take k).map factR).length = k) := by
              show _ = _
              rw [List.length_map, List.length_take, Hq.out]; have := Hlt.out; omega
            clear hW hrn
            go_wp2_with (at_builtin; go_must (refine wpList_append_own _ rfl (.tmp 63) (.tmp 84) 23 rfl N6 46 i6 (.agg #[.int .i64 0, .int .i64 0, .string ⟨#[]⟩, .int .i64 0, .string ⟨#[]⟩, .int .i64 0]) 6 64 Tryz.underlying23 Hi6.out Hz6.out Hs6.out Hb6.out rfl (by decide) _ k _ rfl Ho7.out ⟨gn, 0, none⟩ 1 1 [.int .i64 (partW x 0).n, .int .i64 (partW x 1).n, .string (partW x 2).s, .int .i64 (partW x 3).n, .string (partW x 4).s, .int .i64 (partW x 5).n] rfl rfl (World.news_of_block (cs := #[.int .i64 (partW x 0).n, .int .i64 (partW x 1).n, .string (partW x 2).s, .int .i64 (partW x 3).n, .string (partW x 4).s, .int .i64 (partW x 5).n]) (t := 46) (fr := (0, 0)) Hrn.out) (fv1_one (factR x)) (by have := Hlt.out; have := Hqb.out; simp only [maxLen]; omega) (by have := Hlt.out; have := Hqb.out; omega) hgs ?_); intro v8 w8 own8 hgrow _; obtain ⟨A8, c8, rfl, Hown8⟩ := app_fv own8 HLk.out; obtain ⟨HR9, Hg9, Hw8⟩ := app_grow hgrow Ho7.out HR7.out Hg7.out HN6.out hgs HN6e.out; have s0 : w8.cell? ⟨b4, 1, none⟩ = some (.slice Au k cu) := HR9.out.at_ (i := 1) rfl; have q0 := HR9.out.free 1; clear own8 hgrow)
            have hown9 := Hown8.out
            rw [← Hnx.out] at hown9
            have hown := own_set (i := 1) (x := .slice A8 (k + 1) c8) hown9 (show b4 < N6 from HN6.out)
            have hrow := HR9.out.set_ 1 (.slice A8 (k + 1) c8)
            have hg9 := gb_then Hg9.out (gb_set1 w8 b4 1 (.slice A8 (k + 1) c8))
            have hsz : N6 ≤ (w8.setCell ⟨b4, 1, none⟩ (.slice A8 (k + 1) c8)).heap.size := Nat.le_trans Hw8.out (gb_set1 w8 b4 1 (.slice A8 (k + 1) c8)).size
            go_roundw
            case rel => first | exact ⟨k + 1, A8, c8, by have := Hlt.out; omega, rfl, hown, hrow, hg9, hsz⟩ | ((repeat apply Exists.intro); refine ⟨?_, rfl⟩; exact ⟨k + 1, A8, c8, by have := Hlt.out; omega, rfl, hown, hrow, hg9, hsz⟩)
            case measure => simp [intOf]; have := Hlt.out; omega
          · obtain rfl : q = k := by omega
            have d1 : decide (q < q) = false := by simp
            have d2 : decide ((q : Int) < (q : Int)) = false := by simp
            obtain ⟨A', c', e6, hF6, _⟩ := own_fl Ho.out (by rw [List.length_map, List.length_take, Hq.out]; omega)
            injection e6 with e6 _ e6'
            subst e6 e6'
            have HSLt : Hid (SL wr A5 p Au q (stR x0)) := by
              have h := hF6
              rw [List.take_of_length_le (by rw [Hq.out]; exact Nat.le_refl _)] at h
              have h5 := rl_beside HR5.out hg HR4b.out
              rw [← Hy0.out] at h5
              rw [← Hy1.out] at h
              exact ⟨h5, h⟩
            have Hg2 := Lib.hid (gb_new Hgr0.out (gb_then Hgr.out hg) Hb4.out)
            have hr4 := H4.out
            have s0 : wr.cell? ⟨b4, 0, none⟩ = some (.slice A5 p c5) := hr4.at_ (i := 0) rfl
            have s1 : wr.cell? ⟨b4, 1, none⟩ = some (.slice Au q cu) := hr4.at_ (i := 1) rfl
            have HR4c := Lib.hid hr4
            clear hk hlt hg hF6 hr4 Ho H4
            by_cases hm : MayS (stR x0)
            · have HPut : Hid (Calls Tryz.prog 12 #[.agg #[.slice A5 p c5, .slice Au q cu]] wr fun e w' => e = .returned (.string (stW (stR x0)).bytes) ∧ wr.grownBy w' none) := putState_any A5 Au p c5 q cu (stR x0) wr HSLt.out hm (by have := Hpb.out; omega)
              have Hm := Lib.hid hm
              obtain ⟨pb, hpb⟩ : ∃ pb, (stW (stR x0)).bytes = pb := ⟨_, rfl⟩
              have HPb := Lib.hid hpb
              rw [hpb] at HPut
              clear hm hpb
              by_cases hs : pb = s
              · have k1 := str_eq hs
                have k2 := str_eq hs.symm
                by_cases h0 : s.size = 0
                · have k3 := str_none h0
                  have HNo : Hid (∀ t, ¬ IsPut s.data.toList t) := fun t hp => put_ne hp (List.eq_nil_of_length_eq_zero (by rw [data_len]; exact h0))
                  clear hs h0
                  go_wp2_with fail
                  refine HPut.out.mono ?_
                  rintro e w9 ⟨rfl, g9⟩
                  have HgF := Lib.hid (gb_none Hg2.out g9)
                  have hr := HR0.out.kept (HgF.out) (by simp)
                  have f0 := hr.free 0
                  have f1 := hr.free 1
                  have f2 := hr.free 2
                  have u0 : (w9).cell? ⟨h0, 0, none⟩ = some (.slice none 0 0) := hr.at_ (i := 0) rfl
                  have u1 : (w9).cell? ⟨h0, 1, none⟩ = some (.slice none 0 0) := hr.at_ (i := 1) rfl
                  have u2 : (w9).cell? ⟨h0, 2, none⟩ = some (.bool false) := hr.at_ (i := 2) rfl
                  have Hr := Lib.hid hr
                  clear hr
                  clear g9
                  go_wp2_with fail
                  have Hx := Lib.hid (((Hr.out.set_ 0 (.slice none 0 0)).set_ 1 (.slice none 0 0)).set_ 2 (.bool false))
                  have kk : (w9).grownBy ((((w9).setCell ⟨h0, 0, none⟩ (.slice none 0 0)).setCell ⟨h0, 1, none⟩ (.slice none 0 0)).setCell ⟨h0, 2, none⟩ (.bool false)) (some h0) := gb_then (gb_then (gb_set1 _ _ _ _) (gb_set1 _ _ _ _)) (gb_set1 _ _ _ _)
                  exact bodyPost_ret (results_cell_row rfl _ _ h0 31 _ (0, 0) _ rfl Hx.out Tryz.underlying31 rfl (by kernel_rfl)) rfl ⟨.inr ⟨HNo.out, rfl⟩, gb_new (gb_none HG.out HgF.out) kk Hh0.out⟩
                · have k3 := str_some h0
                  have HP : Hid (IsPut s.data.toList (stR x0)) := stR_back Hgx.out Hm.out (HPb.out.trans hs) Hsz0.out
                  clear hs h0
                  go_wp2_with fail
                  refine HPut.out.mono ?_
                  rintro e w9 ⟨rfl, g9⟩
                  have HgF := Lib.hid (gb_none Hg2.out g9)
                  have r4 := HR4c.out.kept g9 (by simp)
                  have s2 : w9.cell? ⟨b4, 0, none⟩ = some (.slice A5 p c5) := r4.at_ (i := 0) rfl
                  have s3 : w9.cell? ⟨b4, 1, none⟩ = some (.slice Au q cu) := r4.at_ (i := 1) rfl
                  have HS9 := Lib.hid (HSLt.out.keep g9)
                  have hr := HR0.out.kept (HgF.out) (by simp)
                  have f0 := hr.free 0
                  have f1 := hr.free 1
                  have f2 := hr.free 2
                  have u0 : (w9).cell? ⟨h0, 0, none⟩ = some (.slice none 0 0) := hr.at_ (i := 0) rfl
                  have u1 : (w9).cell? ⟨h0, 1, none⟩ = some (.slice none 0 0) := hr.at_ (i := 1) rfl
                  have u2 : (w9).cell? ⟨h0, 2, none⟩ = some (.bool false) := hr.at_ (i := 2) rfl
                  have Hr := Lib.hid hr
                  clear hr
                  clear g9 r4
                  go_wp2_with fail
                  have Hx := Lib.hid (((Hr.out.set_ 0 (.slice A5 p c5)).set_ 1 (.slice Au q cu)).set_ 2 (.bool true))
                  have kk : (w9).grownBy ((((w9).setCell ⟨h0, 0, none⟩ (.slice A5 p c5)).setCell ⟨h0, 1, none⟩ (.slice Au q cu)).setCell ⟨h0, 2, none⟩ (.bool true)) (some h0) := gb_then (gb_then (gb_set1 _ _ _ _) (gb_set1 _ _ _ _)) (gb_set1 _ _ _ _)
                  exact bodyPost_ret (results_cell_row rfl _ _ h0 31 _ (0, 0) _ rfl Hx.out Tryz.underlying31 rfl (by kernel_rfl)) rfl ⟨.inl ⟨_, A5, p, c5, Au, q, cu, HP.out, rfl, ⟨rl_beside3 HS9.out.1 kk Hr.out, fl_beside3 HS9.out.2 kk Hr.out⟩⟩, gb_new (gb_none HG.out HgF.out) kk Hh0.out⟩
              · have k1 := str_ne hs
                have k2 := str_ne (fun e => hs e.symm)
                have HNo : Hid (∀ t, ¬ IsPut s.data.toList t) := fun t hp => hs (by
                  have h1 := stR_put Hgx.out hp
                  rw [← HPb.out, h1, put_bytes hp.1]
                  have h2 := hp.2
                  apply ByteArray.ext
                  apply Array.ext'
                  exact h2.symm)
                clear hs
                go_wp2_with fail
                refine HPut.out.mono ?_
                rintro e w9 ⟨rfl, g9⟩
                have HgF := Lib.hid (gb_none Hg2.out g9)
                have hr := HR0.out.kept (HgF.out) (by simp)
                have f0 := hr.free 0
                have f1 := hr.free 1
                have f2 := hr.free 2
                have u0 : (w9).cell? ⟨h0, 0, none⟩ = some (.slice none 0 0) := hr.at_ (i := 0) rfl
                have u1 : (w9).cell? ⟨h0, 1, none⟩ = some (.slice none 0 0) := hr.at_ (i := 1) rfl
                have u2 : (w9).cell? ⟨h0, 2, none⟩ = some (.bool false) := hr.at_ (i := 2) rfl
                have Hr := Lib.hid hr
                clear hr
                clear g9
                go_wp2_with fail
                have Hx := Lib.hid (((Hr.out.set_ 0 (.slice none 0 0)).set_ 1 (.slice none 0 0)).set_ 2 (.bool false))
                have kk : (w9).grownBy ((((w9).setCell ⟨h0, 0, none⟩ (.slice none 0 0)).setCell ⟨h0, 1, none⟩ (.slice none 0 0)).setCell ⟨h0, 2, none⟩ (.bool false)) (some h0) := gb_then (gb_then (gb_set1 _ _ _ _) (gb_set1 _ _ _ _)) (gb_set1 _ _ _ _)
                exact bodyPost_ret (results_cell_row rfl _ _ h0 31 _ (0, 0) _ rfl Hx.out Tryz.underlying31 rfl (by kernel_rfl)) rfl ⟨.inr ⟨HNo.out, rfl⟩, gb_new (gb_none HG.out HgF.out) kk Hh0.out⟩
            · have HPut : Hid (Calls Tryz.prog 12 #[.agg #[.slice A5 p c5, .slice Au q cu]] wr fun e w' => e = .returned (.string ⟨#[]⟩) ∧ wr.grownBy w' none) := refPut_no A5 Au p c5 q cu (stR x0) wr HSLt.out hm (by have := Hpb.out; omega) (by have := Hqb.out; omega)
              have HNo : Hid (∀ t, ¬ IsPut s.data.toList t) := fun t hp => hm (by rw [stR_put Hgx.out hp]; exact hp.1.1)
              clear hm
              by_cases h0 : s.size = 0
              · have k3 := str_none h0
                have k4 : s.toList.isEmpty = true := by rw [size_zero h0, ByteArray.toList_eq]; rfl
                have k5 : ([] == s.toList) = true := by rw [size_zero h0, ByteArray.toList_eq]; rfl
                clear h0
                go_wp2_with fail
                refine HPut.out.mono ?_
                rintro e w9 ⟨rfl, g9⟩
                have HgF := Lib.hid (gb_none Hg2.out g9)
                have hr := HR0.out.kept (HgF.out) (by simp)
                have f0 := hr.free 0
                have f1 := hr.free 1
                have f2 := hr.free 2
                have u0 : (w9).cell? ⟨h0, 0, none⟩ = some (.slice none 0 0) := hr.at_ (i := 0) rfl
                have u1 : (w9).cell? ⟨h0, 1, none⟩ = some (.slice none 0 0) := hr.at_ (i := 1) rfl
                have u2 : (w9).cell? ⟨h0, 2, none⟩ = some (.bool false) := hr.at_ (i := 2) rfl
                have Hr := Lib.hid hr
                clear hr
                clear g9
                go_wp2_with fail
                have Hx := Lib.hid (((Hr.out.set_ 0 (.slice none 0 0)).set_ 1 (.slice none 0 0)).set_ 2 (.bool false))
                have kk : (w9).grownBy ((((w9).setCell ⟨h0, 0, none⟩ (.slice none 0 0)).setCell ⟨h0, 1, none⟩ (.slice none 0 0)).setCell ⟨h0, 2, none⟩ (.bool false)) (some h0) := gb_then (gb_then (gb_set1 _ _ _ _) (gb_set1 _ _ _ _)) (gb_set1 _ _ _ _)
                exact bodyPost_ret (results_cell_row rfl _ _ h0 31 _ (0, 0) _ rfl Hx.out Tryz.underlying31 rfl (by kernel_rfl)) rfl ⟨.inr ⟨HNo.out, rfl⟩, gb_new (gb_none HG.out HgF.out) kk Hh0.out⟩
              · have k3 := str_some h0
                have k4 : s.toList.isEmpty = false := list_ne h0
                have k5 : ([] == s.toList) = false := by cases hh : s.toList with | nil => rw [hh] at k4; cases k4 | cons a l => rfl
                clear h0
                go_wp2_with fail
                refine HPut.out.mono ?_
                rintro e w9 ⟨rfl, g9⟩
                have HgF := Lib.hid (gb_none Hg2.out g9)
                have hr := HR0.out.kept (HgF.out) (by simp)
                have f0 := hr.free 0
                have f1 := hr.free 1
                have f2 := hr.free 2
                have u0 : (w9).cell? ⟨h0, 0, none⟩ = some (.slice none 0 0) := hr.at_ (i := 0) rfl
                have u1 : (w9).cell? ⟨h0, 1, none⟩ = some (.slice none 0 0) := hr.at_ (i := 1) rfl
                have u2 : (w9).cell? ⟨h0, 2, none⟩ = some (.bool false) := hr.at_ (i := 2) rfl
                have Hr := Lib.hid hr
                clear hr
                clear g9
                go_wp2_with fail
                have Hx := Lib.hid (((Hr.out.set_ 0 (.slice none 0 0)).set_ 1 (.slice none 0 0)).set_ 2 (.bool false))
                have kk : (w9).grownBy ((((w9).setCell ⟨h0, 0, none⟩ (.slice none 0 0)).setCell ⟨h0, 1, none⟩ (.slice none 0 0)).setCell ⟨h0, 2, none⟩ (.bool false)) (some h0) := gb_then (gb_then (gb_set1 _ _ _ _) (gb_set1 _ _ _ _)) (gb_set1 _ _ _ _)
                exact bodyPost_ret (results_cell_row rfl _ _ h0 31 _ (0, 0) _ rfl Hx.out Tryz.underlying31 rfl (by kernel_rfl)) rfl ⟨.inr ⟨HNo.out, rfl⟩, gb_new (gb_none HG.out HgF.out) kk Hh0.out⟩
end Go.Proofs.YthijiefopcnclaaGreatDoor.Dt
