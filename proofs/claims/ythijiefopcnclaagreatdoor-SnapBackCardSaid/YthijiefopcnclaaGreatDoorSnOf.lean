/- Package snap: runOf, factOf. Written by gen_snget.py. -/
import Derived.Test.YthijiefopcnclaaGreatDoorSnIt
import Derived.Test.YthijiefopcnclaaGreatDoorToldM
set_option linter.unusedVariables false
namespace Go.Proofs.YthijiefopcnclaaGreatDoor.Dt
open Go Go.RowKit Go.Proofs.YthijiefopcnclaaGreatDoor.Mm Go.Proofs.YthijiefopcnclaaGreatDoor.Td Go.Proofs.YthijiefopcnclaaGreatDoor.Vw

theorem ints_row {W : World} {g : Nat} {T : TypeId} (ks : List Int) (hr : Row W g T (ks.map (fun k => Value.int .i64 k)).toArray) : ∀ i k, ks[i]? = some k → W.cell? ⟨g, i, none⟩ = some (.int .i64 k) := fun i k hi => hr.at_ (by rw [List.getElem?_toArray, List.getElem?_map, hi]; rfl)
attribute [local go_sem] Td.upon_value Td.upon_skip Td.upon_enter Td.upon_row Td.look_tmp Td.look_const Td.look_func Td.look_global
/-- What runOf says of a wire. -/
def RunOfIs (x : Wr) (w : World) (e : Ending) (w' : World) : Prop := ((∃ r, runOfW x = some r ∧ e = .returned (.tuple #[.agg #[.int .i64 r.d, .int .i64 r.f, .int .i64 r.t], .nilIface])) ∨ (runOfW x = none ∧ ∃ v d f, e = .returned (.tuple #[.agg #[.int .i64 0, .int .i64 0, .int .i64 0], v]) ∧ Sp.ErrV d v f ∧ f ≠ 0 ∧ d ≤ 2)) ∧ w.grownBy w' none
set_option maxHeartbeats 8000000 in
set_option maxRecDepth 100000 in
theorem runOf_yes (a1 a2 a3 : Wr) (n : Int) (s : ByteArray) (A : Option Addr) (c : Nat) (w : World) (h : HL w 0 (.slice A 3 c) [a1, a2, a3]) (hk : [a1, a2, a3].map Wr.k = [1, 1, 1]) : Calls Tryz.prog 45 #[.agg #[.int .i64 3, .int .i64 n, .string s, .slice A 3 c]] w fun e w' => e = .returned (.tuple #[.agg #[.int .i64 a1.n, .int .i64 a2.n, .int .i64 a3.n], .nilIface]) ∧ w.grownBy w' none := by
  obtain ⟨b0, hb0⟩ : ∃ b0, w.heap.size = b0 := ⟨_, rfl⟩
  obtain ⟨h0, hh0⟩ : ∃ h0, b0 + 1 = h0 := ⟨_, rfl⟩
  obtain ⟨W0, hW0⟩ : ∃ W0, (w.alloc (.cells #[.int .i64 3, .int .i64 n, .string s, .slice A 3 c] 60)).alloc (.cells #[.int .i64 0, .int .i64 0, .int .i64 0] 50) = W0 := ⟨_, rfl⟩
  have G0 : w.grownBy W0 none := by rw [← hW0]; exact gb_alloc (gb_alloc (gb_refl _ _) _) _
  have HR0 : Hid (Row W0 h0 50 #[.int .i64 0, .int .i64 0, .int .i64 0]) := by
    rw [← hW0, ← hh0, ← hb0]
    have h := Row.new (w.alloc (.cells #[.int .i64 3, .int .i64 n, .string s, .slice A 3 c] 60)) 50 #[.int .i64 0, .int .i64 0, .int .i64 0]
    rw [World.size_alloc] at h
    exact h
  have hRb : Row W0 b0 60 #[.int .i64 3, .int .i64 n, .string s, .slice A 3 c] := by rw [← hW0, ← hb0]; exact (Row.new _ _ _).alloc _
  have y0 : W0.cell? ⟨b0, 0, none⟩ = some (.int .i64 3) := hRb.at_ (i := 0) rfl
  have y1 : W0.cell? ⟨b0, 1, none⟩ = some (.int .i64 n) := hRb.at_ (i := 1) rfl
  have y2 : W0.cell? ⟨b0, 2, none⟩ = some (.string s) := hRb.at_ (i := 2) rfl
  have y3 : W0.cell? ⟨b0, 3, none⟩ = some (.slice A 3 c) := hRb.at_ (i := 3) rfl
  have Hh0 : Hid (w.heap.size ≤ h0) := by show _ ≤ _; omega
  have HG := Lib.hid G0
  have HI : Hid (∀ W, W0.grownBy W none → ∀ g, Row W g 3 #[.int .i64 1, .int .i64 1, .int .i64 1] → Calls Tryz.prog 43 #[.agg #[.int .i64 3, .int .i64 n, .string s, .slice A 3 c], .slice (some ⟨g, 0, none⟩) 3 3] W fun e w' => e = .returned (.tuple #[.slice A 3 c, .nilIface]) ∧ W.grownBy w' none) := fun W hW g hr =>
    (items_any (.mk 3 n s [a1, a2, a3]) A c g 3 [1, 1, 1] W (h.kept (gb_none G0 hW)) (ints_row [1, 1, 1] hr) hr.lt rfl (by decide)).mono fun e w' hh => ⟨by
      rcases hh.1 with ⟨_, e1⟩ | ⟨hn, _⟩
      · exact e1
      · exact absurd ⟨rfl, hk⟩ hn, hh.2⟩
  obtain ⟨g2, o, _, _, eA, _, hg2, _, n0, _, _, _⟩ := (h.kept G0).item (i := 0) (x := a1) rfl
  subst eA
  obtain ⟨g4, o4, _, _, eA, _, _, _, n1, _, _, _⟩ := (h.kept G0).item (i := 1) (x := a2) rfl
  cases eA
  obtain ⟨g5, o5, _, _, eA, _, _, _, n2, _, _, _⟩ := (h.kept G0).item (i := 2) (x := a3) rfl
  cases eA
  have HX : Hid (∀ W, W0.grownBy W none → W.cell? ⟨g2, o + 1, none⟩ = some (.int .i64 a1.n) ∧ W.cell? ⟨g2, o + 4 + 1, none⟩ = some (.int .i64 a2.n) ∧ W.cell? ⟨g2, o + 8 + 1, none⟩ = some (.int .i64 a3.n)) := fun W hW => ⟨(World.cell?_of_block (a := ⟨g2, o + 1, none⟩) (hW.block g2 hg2 (by simp))).trans (by simpa using n0), (World.cell?_of_block (a := ⟨g2, o + 4 + 1, none⟩) (hW.block g2 hg2 (by simp))).trans (by simpa using n1), (World.cell?_of_block (a := ⟨g2, o + 8 + 1, none⟩) (hW.block g2 hg2 (by simp))).trans (by simpa using n2)⟩
  clear hRb h G0 hk hg2 n0 n1 n2
  go_enter Tryz.func45, Tryz.ntmps45
  go_upto_region 1 with fail
  clear hW0 hh0 hb0
  go_wp2_with fail
  refine (HI.out _ (gb_alloc (gb_refl _ _) _) _ (Row.new _ _ _)).mono ?_
  rintro e w1 ⟨rfl, g1⟩
  have Hg1 := Lib.hid (gb_none (gb_alloc (gb_refl W0 none) _) g1)
  clear g1 y0 y1 y2 y3
  go_upto_region 4 with fail
  apply wp_region_told_list (le := fun a b => a.grownBy b none) 13 [isV _, isV _, isV _, isV _, isV _, isV _, isV _, isV _, isV _, isV _, isV _, isV _, isV _]
  case hC => kernel_rfl
  case hlen => rfl
  case hn => rfl
  case hm => kernel_rfl
  case hB => kernel_rfl
  case ht => exact fun _ _ _ h k => gb_none h k
  case hw => exact gb_drew (gb_refl _ _)
  -- 0: parts.go:53 move
  apply head_is
  · intro W f hW hE h0 K hK
    have e4 := h0 4 (by kernel_rfl)
    conv at e4 => rhs; whnf
    clear hE h0
    refine yes_of (want_free rfl) ?_
    go_simp; exact hK _ _ (gb_refl _ _) rfl
  -- 1: parts.go:53 indexAddr
  apply head_is
  · intro W f hW hE h0 K hK
    have e16 : f 16 = _ := hE 0 16 _ rfl (by kernel_rfl)
    clear hE h0
    refine yes_of (want_free rfl) ?_
    go_simp; exact hK _ _ (gb_refl _ _) rfl
  -- 2: parts.go:53 fieldAddr
  apply head_is
  · intro W f hW hE h0 K hK
    have e17 : f 17 = _ := hE 0 17 _ rfl (by kernel_rfl)
    clear hE h0
    refine yes_of (want_free rfl) ?_
    go_simp; exact hK _ _ (gb_refl _ _) rfl
  -- 3: parts.go:53 load
  apply head_is
  · intro W f hW hE h0 K hK
    have e18 : f 18 = _ := hE 0 18 _ rfl (by kernel_rfl)
    clear hE h0
    refine yes_of (want_free rfl) ?_
    obtain ⟨c0, c1, c2⟩ := HX.out W (gb_none Hg1.out hW)
    go_simp; exact hK _ _ (gb_refl _ _) rfl
  -- 4: parts.go:53 move
  apply head_is
  · intro W f hW hE h0 K hK
    have e4 := h0 4 (by kernel_rfl)
    conv at e4 => rhs; whnf
    clear hE h0
    refine yes_of (want_free rfl) ?_
    go_simp; exact hK _ _ (gb_refl _ _) rfl
  -- 5: parts.go:53 indexAddr
  apply head_is
  · intro W f hW hE h0 K hK
    have e20 : f 20 = _ := hE 0 20 _ rfl (by kernel_rfl)
    clear hE h0
    refine yes_of (want_free rfl) ?_
    go_simp; exact hK _ _ (gb_refl _ _) rfl
  -- 6: parts.go:53 fieldAddr
  apply head_is
  · intro W f hW hE h0 K hK
    have e21 : f 21 = _ := hE 0 21 _ rfl (by kernel_rfl)
    clear hE h0
    refine yes_of (want_free rfl) ?_
    go_simp; exact hK _ _ (gb_refl _ _) rfl
  -- 7: parts.go:53 load
  apply head_is
  · intro W f hW hE h0 K hK
    have e22 : f 22 = _ := hE 0 22 _ rfl (by kernel_rfl)
    clear hE h0
    refine yes_of (want_free rfl) ?_
    obtain ⟨c0, c1, c2⟩ := HX.out W (gb_none Hg1.out hW)
    go_simp; exact hK _ _ (gb_refl _ _) rfl
  -- 8: parts.go:53 move
  apply head_is
  · intro W f hW hE h0 K hK
    have e4 := h0 4 (by kernel_rfl)
    conv at e4 => rhs; whnf
    clear hE h0
    refine yes_of (want_free rfl) ?_
    go_simp; exact hK _ _ (gb_refl _ _) rfl
  -- 9: parts.go:53 indexAddr
  apply head_is
  · intro W f hW hE h0 K hK
    have e24 : f 24 = _ := hE 0 24 _ rfl (by kernel_rfl)
    clear hE h0
    refine yes_of (want_free rfl) ?_
    go_simp; exact hK _ _ (gb_refl _ _) rfl
  -- 10: parts.go:53 fieldAddr
  apply head_is
  · intro W f hW hE h0 K hK
    have e25 : f 25 = _ := hE 0 25 _ rfl (by kernel_rfl)
    clear hE h0
    refine yes_of (want_free rfl) ?_
    go_simp; exact hK _ _ (gb_refl _ _) rfl
  -- 11: parts.go:53 load
  apply head_is
  · intro W f hW hE h0 K hK
    have e26 : f 26 = _ := hE 0 26 _ rfl (by kernel_rfl)
    clear hE h0
    refine yes_of (want_free rfl) ?_
    obtain ⟨c0, c1, c2⟩ := HX.out W (gb_none Hg1.out hW)
    go_simp; exact hK _ _ (gb_refl _ _) rfl
  -- 12: parts.go:53 build
  apply head_is
  · intro W f hW hE h0 K hK
    have e19 : f 19 = _ := hE 8 19 _ rfl (by kernel_rfl)
    have e23 : f 23 = _ := hE 4 23 _ rfl (by kernel_rfl)
    have e27 : f 27 = _ := hE 0 27 _ rfl (by kernel_rfl)
    clear hE h0
    refine yes_of (want_free rfl) ?_
    go_simp; exact hK _ _ (gb_refl _ _) rfl
  intro W f hW hA
  simp only [List.take_succ_cons, List.take_zero, List.drop_succ_cons, List.drop_zero, lexIn, Act.put, List.setIfInBounds_toArray, List.set_cons_zero, List.set_cons_succ]
  have e28 : f 28 = _ := hA 0 (some 28) _ rfl
  rw [e28]
  clear hA
  have HGW := Lib.hid (gb_none HG.out (gb_none Hg1.out hW))
  have hr := HR0.out.kept (gb_none Hg1.out hW) (by simp)
  have f0 := hr.free 0
  have f1 := hr.free 1
  have f2 := hr.free 2
  have u0 := hr.at_ (i := 0) rfl
  have u1 := hr.at_ (i := 1) rfl
  have u2 := hr.at_ (i := 2) rfl
  have Hr := Lib.hid hr
  clear hr
  clear hW
  go_wp2_with fail
  have Hx := Lib.hid (((Hr.out.set_ 0 (.int .i64 a1.n)).set_ 1 (.int .i64 a2.n)).set_ 2 (.int .i64 a3.n))
  have kk : W.grownBy (((W.setCell ⟨h0, 0, none⟩ (.int .i64 a1.n)).setCell ⟨h0, 1, none⟩ (.int .i64 a2.n)).setCell ⟨h0, 2, none⟩ (.int .i64 a3.n)) (some h0) := gb_then (gb_then (gb_set1 _ _ _ _) (gb_set1 _ _ _ _)) (gb_set1 _ _ _ _)
  have q0 : (((W.setCell ⟨h0, 0, none⟩ (.int .i64 a1.n)).setCell ⟨h0, 1, none⟩ (.int .i64 a2.n)).setCell ⟨h0, 2, none⟩ (.int .i64 a3.n)).cell? ⟨h0, 0, none⟩ = some (.int .i64 a1.n) := Hx.out.at_ (i := 0) rfl
  have q1 : (((W.setCell ⟨h0, 0, none⟩ (.int .i64 a1.n)).setCell ⟨h0, 1, none⟩ (.int .i64 a2.n)).setCell ⟨h0, 2, none⟩ (.int .i64 a3.n)).cell? ⟨h0, 1, none⟩ = some (.int .i64 a2.n) := Hx.out.at_ (i := 1) rfl
  have q2 : (((W.setCell ⟨h0, 0, none⟩ (.int .i64 a1.n)).setCell ⟨h0, 1, none⟩ (.int .i64 a2.n)).setCell ⟨h0, 2, none⟩ (.int .i64 a3.n)).cell? ⟨h0, 2, none⟩ = some (.int .i64 a3.n) := Hx.out.at_ (i := 2) rfl
  refine bodyPost_ret (v := .tuple #[.agg #[.int .i64 a1.n, .int .i64 a2.n, .int .i64 a3.n], .nilIface]) (by simp [results, Tryz.results45, go_sem, q0, q1, q2]) rfl ?_
  exact ⟨rfl, gb_new (HGW.out) kk Hh0.out⟩
set_option maxHeartbeats 8000000 in
set_option maxRecDepth 100000 in
theorem runOf_no (x : Wr) (A : Option Addr) (c : Nat) (w : World) (h : HL w 0 (.slice A x.l.length c) x.l) (hk : ¬ (x.k = 3 ∧ x.l.map Wr.k = [1, 1, 1])) : Calls Tryz.prog 45 #[.agg #[.int .i64 x.k, .int .i64 x.n, .string x.s, .slice A x.l.length c]] w fun e w' => (∃ v d f, e = .returned (.tuple #[.agg #[.int .i64 0, .int .i64 0, .int .i64 0], v]) ∧ Sp.ErrV d v f ∧ f ≠ 0 ∧ d ≤ 2) ∧ w.grownBy w' none := by
  obtain ⟨b0, hb0⟩ : ∃ b0, w.heap.size = b0 := ⟨_, rfl⟩
  obtain ⟨h0, hh0⟩ : ∃ h0, b0 + 1 = h0 := ⟨_, rfl⟩
  obtain ⟨W0, hW0⟩ : ∃ W0, (w.alloc (.cells #[.int .i64 x.k, .int .i64 x.n, .string x.s, .slice A x.l.length c] 60)).alloc (.cells #[.int .i64 0, .int .i64 0, .int .i64 0] 50) = W0 := ⟨_, rfl⟩
  have G0 : w.grownBy W0 none := by rw [← hW0]; exact gb_alloc (gb_alloc (gb_refl _ _) _) _
  have HR0 : Hid (Row W0 h0 50 #[.int .i64 0, .int .i64 0, .int .i64 0]) := by
    rw [← hW0, ← hh0, ← hb0]
    have h := Row.new (w.alloc (.cells #[.int .i64 x.k, .int .i64 x.n, .string x.s, .slice A x.l.length c] 60)) 50 #[.int .i64 0, .int .i64 0, .int .i64 0]
    rw [World.size_alloc] at h
    exact h
  have hRb : Row W0 b0 60 #[.int .i64 x.k, .int .i64 x.n, .string x.s, .slice A x.l.length c] := by rw [← hW0, ← hb0]; exact (Row.new _ _ _).alloc _
  have y0 : W0.cell? ⟨b0, 0, none⟩ = some (.int .i64 x.k) := hRb.at_ (i := 0) rfl
  have y1 : W0.cell? ⟨b0, 1, none⟩ = some (.int .i64 x.n) := hRb.at_ (i := 1) rfl
  have y2 : W0.cell? ⟨b0, 2, none⟩ = some (.string x.s) := hRb.at_ (i := 2) rfl
  have y3 : W0.cell? ⟨b0, 3, none⟩ = some (.slice A x.l.length c) := hRb.at_ (i := 3) rfl
  have Hh0 : Hid (w.heap.size ≤ h0) := by show _ ≤ _; omega
  have HG := Lib.hid G0
  have HI : Hid (∀ W, W0.grownBy W none → ∀ g, Row W g 3 #[.int .i64 1, .int .i64 1, .int .i64 1] → Calls Tryz.prog 43 #[.agg #[.int .i64 x.k, .int .i64 x.n, .string x.s, .slice A x.l.length c], .slice (some ⟨g, 0, none⟩) 3 3] W fun e w' => (∃ v d f, e = .returned (.tuple #[.slice none 0 0, v]) ∧ Sp.ErrV d v f ∧ f ≠ 0 ∧ d ≤ 2) ∧ W.grownBy w' none) := fun W hW g hr =>
    (items_any x A c g 3 [1, 1, 1] W (h.kept (gb_none G0 hW)) (ints_row [1, 1, 1] hr) hr.lt rfl (by decide)).mono fun e w' hh => ⟨by
      rcases hh.1 with ⟨hy, _⟩ | ⟨_, e1⟩
      · exact absurd hy hk
      · exact e1, hh.2⟩
  clear hRb h G0 hk
  generalize x.l.length = ln at *
  generalize x.k = xk at *
  generalize x.n = xn at *
  generalize x.s = xs at *
  go_enter Tryz.func45, Tryz.ntmps45
  go_upto_region 1 with fail
  clear hW0 hh0 hb0
  go_wp2_with fail
  refine (HI.out _ (gb_alloc (gb_refl _ _) _) _ (Row.new _ _ _)).mono ?_
  rintro e w1 ⟨⟨v, d, f, rfl, hE, hf, hd⟩, g1⟩
  obtain ⟨t0, p0, rfl⟩ := hE.iface
  have HE := Lib.hid hE
  have Hf := Lib.hid hf
  have Hd := Lib.hid hd
  have hr := HR0.out.kept (gb_none (gb_alloc (gb_refl W0 none) _) g1) (by simp)
  have f0 := hr.free 0
  have f1 := hr.free 1
  have f2 := hr.free 2
  have u0 := hr.at_ (i := 0) rfl
  have u1 := hr.at_ (i := 1) rfl
  have u2 := hr.at_ (i := 2) rfl
  have Hr := Lib.hid hr
  clear hr
  have Hg1 := Lib.hid (gb_none HG.out (gb_none (gb_alloc (gb_refl W0 none) _) g1))
  clear g1 y0 y1 y2 y3 hE hf hd
  go_wp2_with fail
  have Hx := Lib.hid (((Hr.out.set_ 0 (.int .i64 0)).set_ 1 (.int .i64 0)).set_ 2 (.int .i64 0))
  have kk : w1.grownBy (((w1.setCell ⟨h0, 0, none⟩ (.int .i64 0)).setCell ⟨h0, 1, none⟩ (.int .i64 0)).setCell ⟨h0, 2, none⟩ (.int .i64 0)) (some h0) := gb_then (gb_then (gb_set1 _ _ _ _) (gb_set1 _ _ _ _)) (gb_set1 _ _ _ _)
  have q0 : (((w1.setCell ⟨h0, 0, none⟩ (.int .i64 0)).setCell ⟨h0, 1, none⟩ (.int .i64 0)).setCell ⟨h0, 2, none⟩ (.int .i64 0)).cell? ⟨h0, 0, none⟩ = some (.int .i64 0) := Hx.out.at_ (i := 0) rfl
  have q1 : (((w1.setCell ⟨h0, 0, none⟩ (.int .i64 0)).setCell ⟨h0, 1, none⟩ (.int .i64 0)).setCell ⟨h0, 2, none⟩ (.int .i64 0)).cell? ⟨h0, 1, none⟩ = some (.int .i64 0) := Hx.out.at_ (i := 1) rfl
  have q2 : (((w1.setCell ⟨h0, 0, none⟩ (.int .i64 0)).setCell ⟨h0, 1, none⟩ (.int .i64 0)).setCell ⟨h0, 2, none⟩ (.int .i64 0)).cell? ⟨h0, 2, none⟩ = some (.int .i64 0) := Hx.out.at_ (i := 2) rfl
  refine bodyPost_ret (v := .tuple #[.agg #[.int .i64 0, .int .i64 0, .int .i64 0], .iface t0 p0]) (by simp [results, Tryz.results45, go_sem, q0, q1, q2]) rfl ?_
  exact ⟨⟨_, d, f, rfl, HE.out, Hf.out, Hd.out⟩, gb_new (Hg1.out) kk Hh0.out⟩
theorem runOf_any (x : Wr) (A : Option Addr) (c : Nat) (w : World) (h : HL w 0 (.slice A x.l.length c) x.l) : Calls Tryz.prog 45 #[.agg #[.int .i64 x.k, .int .i64 x.n, .string x.s, .slice A x.l.length c]] w (RunOfIs x w) := by
  by_cases hc : x.k = 3 ∧ x.l.map Wr.k = [1, 1, 1]
  · obtain ⟨a1, a2, a3, el, he⟩ := runOfW_of hc
    obtain ⟨k, n, s, l⟩ := x
    obtain rfl : k = 3 := hc.1
    obtain rfl : l = [a1, a2, a3] := el
    exact (runOf_yes a1 a2 a3 n s A c w h hc.2).mono fun e w' hh => ⟨.inl ⟨_, he, hh.1⟩, hh.2⟩
  · exact (runOf_no x A c w h hc).mono fun e w' hh => ⟨.inr ⟨runOfW_no hc, hh.1⟩, hh.2⟩
/-- What factOf says of a wire. -/
def FactOfIs (x : Wr) (w : World) (e : Ending) (w' : World) : Prop := ((∃ r, factOfW x = some r ∧ e = .returned (.tuple #[.agg #[.int .i64 r.d, .int .i64 r.n, .string r.key, .int .i64 r.kind, .string r.item, .int .i64 r.v], .nilIface])) ∨ (factOfW x = none ∧ ∃ v d f, e = .returned (.tuple #[.agg #[.int .i64 0, .int .i64 0, .string ⟨#[]⟩, .int .i64 0, .string ⟨#[]⟩, .int .i64 0], v]) ∧ Sp.ErrV d v f ∧ f ≠ 0 ∧ d ≤ 2)) ∧ w.grownBy w' none
set_option maxHeartbeats 8000000 in
set_option maxRecDepth 100000 in
theorem factOf_yes (a1 a2 a3 a4 a5 a6 : Wr) (n : Int) (s : ByteArray) (A : Option Addr) (c : Nat) (w : World) (h : HL w 0 (.slice A 6 c) [a1, a2, a3, a4, a5, a6]) (hk : [a1, a2, a3, a4, a5, a6].map Wr.k = [1, 1, 2, 1, 2, 1]) : Calls Tryz.prog 47 #[.agg #[.int .i64 3, .int .i64 n, .string s, .slice A 6 c]] w fun e w' => e = .returned (.tuple #[.agg #[.int .i64 a1.n, .int .i64 a2.n, .string a3.s, .int .i64 a4.n, .string a5.s, .int .i64 a6.n], .nilIface]) ∧ w.grownBy w' none := by
  obtain ⟨b0, hb0⟩ : ∃ b0, w.heap.size = b0 := ⟨_, rfl⟩
  obtain ⟨h0, hh0⟩ : ∃ h0, b0 + 1 = h0 := ⟨_, rfl⟩
  obtain ⟨W0, hW0⟩ : ∃ W0, (w.alloc (.cells #[.int .i64 3, .int .i64 n, .string s, .slice A 6 c] 60)).alloc (.cells #[.int .i64 0, .int .i64 0, .string ⟨#[]⟩, .int .i64 0, .string ⟨#[]⟩, .int .i64 0] 46) = W0 := ⟨_, rfl⟩
  have G0 : w.grownBy W0 none := by rw [← hW0]; exact gb_alloc (gb_alloc (gb_refl _ _) _) _
  have HR0 : Hid (Row W0 h0 46 #[.int .i64 0, .int .i64 0, .string ⟨#[]⟩, .int .i64 0, .string ⟨#[]⟩, .int .i64 0]) := by
    rw [← hW0, ← hh0, ← hb0]
    have h := Row.new (w.alloc (.cells #[.int .i64 3, .int .i64 n, .string s, .slice A 6 c] 60)) 46 #[.int .i64 0, .int .i64 0, .string ⟨#[]⟩, .int .i64 0, .string ⟨#[]⟩, .int .i64 0]
    rw [World.size_alloc] at h
    exact h
  have hRb : Row W0 b0 60 #[.int .i64 3, .int .i64 n, .string s, .slice A 6 c] := by rw [← hW0, ← hb0]; exact (Row.new _ _ _).alloc _
  have y0 : W0.cell? ⟨b0, 0, none⟩ = some (.int .i64 3) := hRb.at_ (i := 0) rfl
  have y1 : W0.cell? ⟨b0, 1, none⟩ = some (.int .i64 n) := hRb.at_ (i := 1) rfl
  have y2 : W0.cell? ⟨b0, 2, none⟩ = some (.string s) := hRb.at_ (i := 2) rfl
  have y3 : W0.cell? ⟨b0, 3, none⟩ = some (.slice A 6 c) := hRb.at_ (i := 3) rfl
  have Hh0 : Hid (w.heap.size ≤ h0) := by show _ ≤ _; omega
  have HG := Lib.hid G0
  have HI : Hid (∀ W, W0.grownBy W none → ∀ g, Row W g 3 #[.int .i64 1, .int .i64 1, .int .i64 2, .int .i64 1, .int .i64 2, .int .i64 1] → Calls Tryz.prog 43 #[.agg #[.int .i64 3, .int .i64 n, .string s, .slice A 6 c], .slice (some ⟨g, 0, none⟩) 6 6] W fun e w' => e = .returned (.tuple #[.slice A 6 c, .nilIface]) ∧ W.grownBy w' none) := fun W hW g hr =>
    (items_any (.mk 3 n s [a1, a2, a3, a4, a5, a6]) A c g 6 [1, 1, 2, 1, 2, 1] W (h.kept (gb_none G0 hW)) (ints_row [1, 1, 2, 1, 2, 1] hr) hr.lt rfl (by decide)).mono fun e w' hh => ⟨by
      rcases hh.1 with ⟨_, e1⟩ | ⟨hn, _⟩
      · exact e1
      · exact absurd ⟨rfl, hk⟩ hn, hh.2⟩
  obtain ⟨g2, o, _, _, eA, _, hg2, _, n0, _, _, _⟩ := (h.kept G0).item (i := 0) (x := a1) rfl
  subst eA
  obtain ⟨g4, o4, _, _, eA, _, _, _, n1, _, _, _⟩ := (h.kept G0).item (i := 1) (x := a2) rfl
  cases eA
  obtain ⟨g5, o5, _, _, eA, _, _, _, _, n2, _, _⟩ := (h.kept G0).item (i := 2) (x := a3) rfl
  cases eA
  obtain ⟨g6, o6, _, _, eA, _, _, _, n3, _, _, _⟩ := (h.kept G0).item (i := 3) (x := a4) rfl
  cases eA
  obtain ⟨g7, o7, _, _, eA, _, _, _, _, n4, _, _⟩ := (h.kept G0).item (i := 4) (x := a5) rfl
  cases eA
  obtain ⟨g8, o8, _, _, eA, _, _, _, n5, _, _, _⟩ := (h.kept G0).item (i := 5) (x := a6) rfl
  cases eA
  have HX : Hid (∀ W, W0.grownBy W none → W.cell? ⟨g2, o + 1, none⟩ = some (.int .i64 a1.n) ∧ W.cell? ⟨g2, o + 4 + 1, none⟩ = some (.int .i64 a2.n) ∧ W.cell? ⟨g2, o + 8 + 2, none⟩ = some (.string a3.s) ∧ W.cell? ⟨g2, o + 12 + 1, none⟩ = some (.int .i64 a4.n) ∧ W.cell? ⟨g2, o + 16 + 2, none⟩ = some (.string a5.s) ∧ W.cell? ⟨g2, o + 20 + 1, none⟩ = some (.int .i64 a6.n)) := fun W hW => ⟨(World.cell?_of_block (a := ⟨g2, o + 1, none⟩) (hW.block g2 hg2 (by simp))).trans (by simpa using n0), (World.cell?_of_block (a := ⟨g2, o + 4 + 1, none⟩) (hW.block g2 hg2 (by simp))).trans (by simpa using n1), (World.cell?_of_block (a := ⟨g2, o + 8 + 2, none⟩) (hW.block g2 hg2 (by simp))).trans (by simpa using n2), (World.cell?_of_block (a := ⟨g2, o + 12 + 1, none⟩) (hW.block g2 hg2 (by simp))).trans (by simpa using n3), (World.cell?_of_block (a := ⟨g2, o + 16 + 2, none⟩) (hW.block g2 hg2 (by simp))).trans (by simpa using n4), (World.cell?_of_block (a := ⟨g2, o + 20 + 1, none⟩) (hW.block g2 hg2 (by simp))).trans (by simpa using n5)⟩
  clear hRb h G0 hk hg2 n0 n1 n2 n3 n4 n5
  go_enter Tryz.func47, Tryz.ntmps47
  go_upto_region 1 with fail
  clear hW0 hh0 hb0
  go_wp2_with fail
  refine (HI.out _ (gb_alloc (gb_refl _ _) _) _ (Row.new _ _ _)).mono ?_
  rintro e w1 ⟨rfl, g1⟩
  have Hg1 := Lib.hid (gb_none (gb_alloc (gb_refl W0 none) _) g1)
  clear g1 y0 y1 y2 y3
  go_upto_region 4 with fail
  apply wp_region_told_list (le := fun a b => a.grownBy b none) 26 [isV _, isV _, isV _, isV _, isV _, isV _, isV _, isV _, isV _, isV _, isV _, isV _, isV _, isV _, isV _, isV _, isV _, isV _, isV _, isV _, isV _, isV _, isV _, isV _, isV _, isV _]
  case hC => kernel_rfl
  case hlen => rfl
  case hn => rfl
  case hm => kernel_rfl
  case hB => kernel_rfl
  case ht => exact fun _ _ _ h k => gb_none h k
  case hw => exact gb_drew (gb_refl _ _)
  -- 0: parts.go:62 move
  apply head_is
  · intro W f hW hE h0 K hK
    have e4 := h0 4 (by kernel_rfl)
    conv at e4 => rhs; whnf
    clear hE h0
    refine yes_of (want_free rfl) ?_
    go_simp; exact hK _ _ (gb_refl _ _) rfl
  -- 1: parts.go:62 indexAddr
  apply head_is
  · intro W f hW hE h0 K hK
    have e16 : f 16 = _ := hE 0 16 _ rfl (by kernel_rfl)
    clear hE h0
    refine yes_of (want_free rfl) ?_
    go_simp; exact hK _ _ (gb_refl _ _) rfl
  -- 2: parts.go:62 fieldAddr
  apply head_is
  · intro W f hW hE h0 K hK
    have e17 : f 17 = _ := hE 0 17 _ rfl (by kernel_rfl)
    clear hE h0
    refine yes_of (want_free rfl) ?_
    go_simp; exact hK _ _ (gb_refl _ _) rfl
  -- 3: parts.go:62 load
  apply head_is
  · intro W f hW hE h0 K hK
    have e18 : f 18 = _ := hE 0 18 _ rfl (by kernel_rfl)
    clear hE h0
    refine yes_of (want_free rfl) ?_
    obtain ⟨c0, c1, c2, c3, c4, c5⟩ := HX.out W (gb_none Hg1.out hW)
    go_simp; exact hK _ _ (gb_refl _ _) rfl
  -- 4: parts.go:62 move
  apply head_is
  · intro W f hW hE h0 K hK
    have e4 := h0 4 (by kernel_rfl)
    conv at e4 => rhs; whnf
    clear hE h0
    refine yes_of (want_free rfl) ?_
    go_simp; exact hK _ _ (gb_refl _ _) rfl
  -- 5: parts.go:62 indexAddr
  apply head_is
  · intro W f hW hE h0 K hK
    have e20 : f 20 = _ := hE 0 20 _ rfl (by kernel_rfl)
    clear hE h0
    refine yes_of (want_free rfl) ?_
    go_simp; exact hK _ _ (gb_refl _ _) rfl
  -- 6: parts.go:62 fieldAddr
  apply head_is
  · intro W f hW hE h0 K hK
    have e21 : f 21 = _ := hE 0 21 _ rfl (by kernel_rfl)
    clear hE h0
    refine yes_of (want_free rfl) ?_
    go_simp; exact hK _ _ (gb_refl _ _) rfl
  -- 7: parts.go:62 load
  apply head_is
  · intro W f hW hE h0 K hK
    have e22 : f 22 = _ := hE 0 22 _ rfl (by kernel_rfl)
    clear hE h0
    refine yes_of (want_free rfl) ?_
    obtain ⟨c0, c1, c2, c3, c4, c5⟩ := HX.out W (gb_none Hg1.out hW)
    go_simp; exact hK _ _ (gb_refl _ _) rfl
  -- 8: parts.go:62 build
  apply head_is
  · intro W f hW hE h0 K hK
    have e19 : f 19 = _ := hE 4 19 _ rfl (by kernel_rfl)
    have e23 : f 23 = _ := hE 0 23 _ rfl (by kernel_rfl)
    clear hE h0
    refine yes_of (want_free rfl) ?_
    go_simp; exact hK _ _ (gb_refl _ _) rfl
  -- 9: parts.go:62 move
  apply head_is
  · intro W f hW hE h0 K hK
    have e4 := h0 4 (by kernel_rfl)
    conv at e4 => rhs; whnf
    clear hE h0
    refine yes_of (want_free rfl) ?_
    go_simp; exact hK _ _ (gb_refl _ _) rfl
  -- 10: parts.go:62 indexAddr
  apply head_is
  · intro W f hW hE h0 K hK
    have e25 : f 25 = _ := hE 0 25 _ rfl (by kernel_rfl)
    clear hE h0
    refine yes_of (want_free rfl) ?_
    go_simp; exact hK _ _ (gb_refl _ _) rfl
  -- 11: parts.go:62 fieldAddr
  apply head_is
  · intro W f hW hE h0 K hK
    have e26 : f 26 = _ := hE 0 26 _ rfl (by kernel_rfl)
    clear hE h0
    refine yes_of (want_free rfl) ?_
    go_simp; exact hK _ _ (gb_refl _ _) rfl
  -- 12: parts.go:62 load
  apply head_is
  · intro W f hW hE h0 K hK
    have e27 : f 27 = _ := hE 0 27 _ rfl (by kernel_rfl)
    clear hE h0
    refine yes_of (want_free rfl) ?_
    obtain ⟨c0, c1, c2, c3, c4, c5⟩ := HX.out W (gb_none Hg1.out hW)
    go_simp; exact hK _ _ (gb_refl _ _) rfl
  -- 13: parts.go:62 move
  apply head_is
  · intro W f hW hE h0 K hK
    have e4 := h0 4 (by kernel_rfl)
    conv at e4 => rhs; whnf
    clear hE h0
    refine yes_of (want_free rfl) ?_
    go_simp; exact hK _ _ (gb_refl _ _) rfl
  -- 14: parts.go:62 indexAddr
  apply head_is
  · intro W f hW hE h0 K hK
    have e29 : f 29 = _ := hE 0 29 _ rfl (by kernel_rfl)
    clear hE h0
    refine yes_of (want_free rfl) ?_
    go_simp; exact hK _ _ (gb_refl _ _) rfl
  -- 15: parts.go:62 fieldAddr
  apply head_is
  · intro W f hW hE h0 K hK
    have e30 : f 30 = _ := hE 0 30 _ rfl (by kernel_rfl)
    clear hE h0
    refine yes_of (want_free rfl) ?_
    go_simp; exact hK _ _ (gb_refl _ _) rfl
  -- 16: parts.go:62 load
  apply head_is
  · intro W f hW hE h0 K hK
    have e31 : f 31 = _ := hE 0 31 _ rfl (by kernel_rfl)
    clear hE h0
    refine yes_of (want_free rfl) ?_
    obtain ⟨c0, c1, c2, c3, c4, c5⟩ := HX.out W (gb_none Hg1.out hW)
    go_simp; exact hK _ _ (gb_refl _ _) rfl
  -- 17: parts.go:62 move
  apply head_is
  · intro W f hW hE h0 K hK
    have e4 := h0 4 (by kernel_rfl)
    conv at e4 => rhs; whnf
    clear hE h0
    refine yes_of (want_free rfl) ?_
    go_simp; exact hK _ _ (gb_refl _ _) rfl
  -- 18: parts.go:62 indexAddr
  apply head_is
  · intro W f hW hE h0 K hK
    have e33 : f 33 = _ := hE 0 33 _ rfl (by kernel_rfl)
    clear hE h0
    refine yes_of (want_free rfl) ?_
    go_simp; exact hK _ _ (gb_refl _ _) rfl
  -- 19: parts.go:62 fieldAddr
  apply head_is
  · intro W f hW hE h0 K hK
    have e34 : f 34 = _ := hE 0 34 _ rfl (by kernel_rfl)
    clear hE h0
    refine yes_of (want_free rfl) ?_
    go_simp; exact hK _ _ (gb_refl _ _) rfl
  -- 20: parts.go:62 load
  apply head_is
  · intro W f hW hE h0 K hK
    have e35 : f 35 = _ := hE 0 35 _ rfl (by kernel_rfl)
    clear hE h0
    refine yes_of (want_free rfl) ?_
    obtain ⟨c0, c1, c2, c3, c4, c5⟩ := HX.out W (gb_none Hg1.out hW)
    go_simp; exact hK _ _ (gb_refl _ _) rfl
  -- 21: parts.go:62 move
  apply head_is
  · intro W f hW hE h0 K hK
    have e4 := h0 4 (by kernel_rfl)
    conv at e4 => rhs; whnf
    clear hE h0
    refine yes_of (want_free rfl) ?_
    go_simp; exact hK _ _ (gb_refl _ _) rfl
  -- 22: parts.go:62 indexAddr
  apply head_is
  · intro W f hW hE h0 K hK
    have e37 : f 37 = _ := hE 0 37 _ rfl (by kernel_rfl)
    clear hE h0
    refine yes_of (want_free rfl) ?_
    go_simp; exact hK _ _ (gb_refl _ _) rfl
  -- 23: parts.go:62 fieldAddr
  apply head_is
  · intro W f hW hE h0 K hK
    have e38 : f 38 = _ := hE 0 38 _ rfl (by kernel_rfl)
    clear hE h0
    refine yes_of (want_free rfl) ?_
    go_simp; exact hK _ _ (gb_refl _ _) rfl
  -- 24: parts.go:62 load
  apply head_is
  · intro W f hW hE h0 K hK
    have e39 : f 39 = _ := hE 0 39 _ rfl (by kernel_rfl)
    clear hE h0
    refine yes_of (want_free rfl) ?_
    obtain ⟨c0, c1, c2, c3, c4, c5⟩ := HX.out W (gb_none Hg1.out hW)
    go_simp; exact hK _ _ (gb_refl _ _) rfl
  -- 25: parts.go:62 build
  apply head_is
  · intro W f hW hE h0 K hK
    have e24 : f 24 = _ := hE 16 24 _ rfl (by kernel_rfl)
    have e28 : f 28 = _ := hE 12 28 _ rfl (by kernel_rfl)
    have e32 : f 32 = _ := hE 8 32 _ rfl (by kernel_rfl)
    have e36 : f 36 = _ := hE 4 36 _ rfl (by kernel_rfl)
    have e40 : f 40 = _ := hE 0 40 _ rfl (by kernel_rfl)
    clear hE h0
    refine yes_of (want_free rfl) ?_
    go_simp; exact hK _ _ (gb_refl _ _) rfl
  intro W f hW hA
  simp only [List.take_succ_cons, List.take_zero, List.drop_succ_cons, List.drop_zero, lexIn, Act.put, List.setIfInBounds_toArray, List.set_cons_zero, List.set_cons_succ]
  have e41 : f 41 = _ := hA 0 (some 41) _ rfl
  rw [e41]
  clear hA
  have HGW := Lib.hid (gb_none HG.out (gb_none Hg1.out hW))
  have hr := HR0.out.kept (gb_none Hg1.out hW) (by simp)
  have f0 := hr.free 0
  have f1 := hr.free 1
  have f2 := hr.free 2
  have f3 := hr.free 3
  have f4 := hr.free 4
  have f5 := hr.free 5
  have u0 := hr.at_ (i := 0) rfl
  have u1 := hr.at_ (i := 1) rfl
  have u2 := hr.at_ (i := 2) rfl
  have u3 := hr.at_ (i := 3) rfl
  have u4 := hr.at_ (i := 4) rfl
  have u5 := hr.at_ (i := 5) rfl
  have Hr := Lib.hid hr
  clear hr
  clear hW
  go_wp2_with fail
  have Hx := Lib.hid ((((((Hr.out.set_ 0 (.int .i64 a1.n)).set_ 1 (.int .i64 a2.n)).set_ 2 (.string a3.s)).set_ 3 (.int .i64 a4.n)).set_ 4 (.string a5.s)).set_ 5 (.int .i64 a6.n))
  have kk : W.grownBy ((((((W.setCell ⟨h0, 0, none⟩ (.int .i64 a1.n)).setCell ⟨h0, 1, none⟩ (.int .i64 a2.n)).setCell ⟨h0, 2, none⟩ (.string a3.s)).setCell ⟨h0, 3, none⟩ (.int .i64 a4.n)).setCell ⟨h0, 4, none⟩ (.string a5.s)).setCell ⟨h0, 5, none⟩ (.int .i64 a6.n)) (some h0) := gb_then (gb_then (gb_then (gb_then (gb_then (gb_set1 _ _ _ _) (gb_set1 _ _ _ _)) (gb_set1 _ _ _ _)) (gb_set1 _ _ _ _)) (gb_set1 _ _ _ _)) (gb_set1 _ _ _ _)
  have q0 : ((((((W.setCell ⟨h0, 0, none⟩ (.int .i64 a1.n)).setCell ⟨h0, 1, none⟩ (.int .i64 a2.n)).setCell ⟨h0, 2, none⟩ (.string a3.s)).setCell ⟨h0, 3, none⟩ (.int .i64 a4.n)).setCell ⟨h0, 4, none⟩ (.string a5.s)).setCell ⟨h0, 5, none⟩ (.int .i64 a6.n)).cell? ⟨h0, 0, none⟩ = some (.int .i64 a1.n) := Hx.out.at_ (i := 0) rfl
  have q1 : ((((((W.setCell ⟨h0, 0, none⟩ (.int .i64 a1.n)).setCell ⟨h0, 1, none⟩ (.int .i64 a2.n)).setCell ⟨h0, 2, none⟩ (.string a3.s)).setCell ⟨h0, 3, none⟩ (.int .i64 a4.n)).setCell ⟨h0, 4, none⟩ (.string a5.s)).setCell ⟨h0, 5, none⟩ (.int .i64 a6.n)).cell? ⟨h0, 1, none⟩ = some (.int .i64 a2.n) := Hx.out.at_ (i := 1) rfl
  have q2 : ((((((W.setCell ⟨h0, 0, none⟩ (.int .i64 a1.n)).setCell ⟨h0, 1, none⟩ (.int .i64 a2.n)).setCell ⟨h0, 2, none⟩ (.string a3.s)).setCell ⟨h0, 3, none⟩ (.int .i64 a4.n)).setCell ⟨h0, 4, none⟩ (.string a5.s)).setCell ⟨h0, 5, none⟩ (.int .i64 a6.n)).cell? ⟨h0, 2, none⟩ = some (.string a3.s) := Hx.out.at_ (i := 2) rfl
  have q3 : ((((((W.setCell ⟨h0, 0, none⟩ (.int .i64 a1.n)).setCell ⟨h0, 1, none⟩ (.int .i64 a2.n)).setCell ⟨h0, 2, none⟩ (.string a3.s)).setCell ⟨h0, 3, none⟩ (.int .i64 a4.n)).setCell ⟨h0, 4, none⟩ (.string a5.s)).setCell ⟨h0, 5, none⟩ (.int .i64 a6.n)).cell? ⟨h0, 3, none⟩ = some (.int .i64 a4.n) := Hx.out.at_ (i := 3) rfl
  have q4 : ((((((W.setCell ⟨h0, 0, none⟩ (.int .i64 a1.n)).setCell ⟨h0, 1, none⟩ (.int .i64 a2.n)).setCell ⟨h0, 2, none⟩ (.string a3.s)).setCell ⟨h0, 3, none⟩ (.int .i64 a4.n)).setCell ⟨h0, 4, none⟩ (.string a5.s)).setCell ⟨h0, 5, none⟩ (.int .i64 a6.n)).cell? ⟨h0, 4, none⟩ = some (.string a5.s) := Hx.out.at_ (i := 4) rfl
  have q5 : ((((((W.setCell ⟨h0, 0, none⟩ (.int .i64 a1.n)).setCell ⟨h0, 1, none⟩ (.int .i64 a2.n)).setCell ⟨h0, 2, none⟩ (.string a3.s)).setCell ⟨h0, 3, none⟩ (.int .i64 a4.n)).setCell ⟨h0, 4, none⟩ (.string a5.s)).setCell ⟨h0, 5, none⟩ (.int .i64 a6.n)).cell? ⟨h0, 5, none⟩ = some (.int .i64 a6.n) := Hx.out.at_ (i := 5) rfl
  refine bodyPost_ret (v := .tuple #[.agg #[.int .i64 a1.n, .int .i64 a2.n, .string a3.s, .int .i64 a4.n, .string a5.s, .int .i64 a6.n], .nilIface]) (by simp [results, Tryz.results47, go_sem, q0, q1, q2, q3, q4, q5]) rfl ?_
  exact ⟨rfl, gb_new (HGW.out) kk Hh0.out⟩
set_option maxHeartbeats 8000000 in
set_option maxRecDepth 100000 in
theorem factOf_no (x : Wr) (A : Option Addr) (c : Nat) (w : World) (h : HL w 0 (.slice A x.l.length c) x.l) (hk : ¬ (x.k = 3 ∧ x.l.map Wr.k = [1, 1, 2, 1, 2, 1])) : Calls Tryz.prog 47 #[.agg #[.int .i64 x.k, .int .i64 x.n, .string x.s, .slice A x.l.length c]] w fun e w' => (∃ v d f, e = .returned (.tuple #[.agg #[.int .i64 0, .int .i64 0, .string ⟨#[]⟩, .int .i64 0, .string ⟨#[]⟩, .int .i64 0], v]) ∧ Sp.ErrV d v f ∧ f ≠ 0 ∧ d ≤ 2) ∧ w.grownBy w' none := by
  obtain ⟨b0, hb0⟩ : ∃ b0, w.heap.size = b0 := ⟨_, rfl⟩
  obtain ⟨h0, hh0⟩ : ∃ h0, b0 + 1 = h0 := ⟨_, rfl⟩
  obtain ⟨W0, hW0⟩ : ∃ W0, (w.alloc (.cells #[.int .i64 x.k, .int .i64 x.n, .string x.s, .slice A x.l.length c] 60)).alloc (.cells #[.int .i64 0, .int .i64 0, .string ⟨#[]⟩, .int .i64 0, .string ⟨#[]⟩, .int .i64 0] 46) = W0 := ⟨_, rfl⟩
  have G0 : w.grownBy W0 none := by rw [← hW0]; exact gb_alloc (gb_alloc (gb_refl _ _) _) _
  have HR0 : Hid (Row W0 h0 46 #[.int .i64 0, .int .i64 0, .string ⟨#[]⟩, .int .i64 0, .string ⟨#[]⟩, .int .i64 0]) := by
    rw [← hW0, ← hh0, ← hb0]
    have h := Row.new (w.alloc (.cells #[.int .i64 x.k, .int .i64 x.n, .string x.s, .slice A x.l.length c] 60)) 46 #[.int .i64 0, .int .i64 0, .string ⟨#[]⟩, .int .i64 0, .string ⟨#[]⟩, .int .i64 0]
    rw [World.size_alloc] at h
    exact h
  have hRb : Row W0 b0 60 #[.int .i64 x.k, .int .i64 x.n, .string x.s, .slice A x.l.length c] := by rw [← hW0, ← hb0]; exact (Row.new _ _ _).alloc _
  have y0 : W0.cell? ⟨b0, 0, none⟩ = some (.int .i64 x.k) := hRb.at_ (i := 0) rfl
  have y1 : W0.cell? ⟨b0, 1, none⟩ = some (.int .i64 x.n) := hRb.at_ (i := 1) rfl
  have y2 : W0.cell? ⟨b0, 2, none⟩ = some (.string x.s) := hRb.at_ (i := 2) rfl
  have y3 : W0.cell? ⟨b0, 3, none⟩ = some (.slice A x.l.length c) := hRb.at_ (i := 3) rfl
  have Hh0 : Hid (w.heap.size ≤ h0) := by show _ ≤ _; omega
  have HG := Lib.hid G0
  have HI : Hid (∀ W, W0.grownBy W none → ∀ g, Row W g 3 #[.int .i64 1, .int .i64 1, .int .i64 2, .int .i64 1, .int .i64 2, .int .i64 1] → Calls Tryz.prog 43 #[.agg #[.int .i64 x.k, .int .i64 x.n, .string x.s, .slice A x.l.length c], .slice (some ⟨g, 0, none⟩) 6 6] W fun e w' => (∃ v d f, e = .returned (.tuple #[.slice none 0 0, v]) ∧ Sp.ErrV d v f ∧ f ≠ 0 ∧ d ≤ 2) ∧ W.grownBy w' none) := fun W hW g hr =>
    (items_any x A c g 6 [1, 1, 2, 1, 2, 1] W (h.kept (gb_none G0 hW)) (ints_row [1, 1, 2, 1, 2, 1] hr) hr.lt rfl (by decide)).mono fun e w' hh => ⟨by
      rcases hh.1 with ⟨hy, _⟩ | ⟨_, e1⟩
      · exact absurd hy hk
      · exact e1, hh.2⟩
  clear hRb h G0 hk
  generalize x.l.length = ln at *
  generalize x.k = xk at *
  generalize x.n = xn at *
  generalize x.s = xs at *
  go_enter Tryz.func47, Tryz.ntmps47
  go_upto_region 1 with fail
  clear hW0 hh0 hb0
  go_wp2_with fail
  refine (HI.out _ (gb_alloc (gb_refl _ _) _) _ (Row.new _ _ _)).mono ?_
  rintro e w1 ⟨⟨v, d, f, rfl, hE, hf, hd⟩, g1⟩
  obtain ⟨t0, p0, rfl⟩ := hE.iface
  have HE := Lib.hid hE
  have Hf := Lib.hid hf
  have Hd := Lib.hid hd
  have hr := HR0.out.kept (gb_none (gb_alloc (gb_refl W0 none) _) g1) (by simp)
  have f0 := hr.free 0
  have f1 := hr.free 1
  have f2 := hr.free 2
  have f3 := hr.free 3
  have f4 := hr.free 4
  have f5 := hr.free 5
  have u0 := hr.at_ (i := 0) rfl
  have u1 := hr.at_ (i := 1) rfl
  have u2 := hr.at_ (i := 2) rfl
  have u3 := hr.at_ (i := 3) rfl
  have u4 := hr.at_ (i := 4) rfl
  have u5 := hr.at_ (i := 5) rfl
  have Hr := Lib.hid hr
  clear hr
  have Hg1 := Lib.hid (gb_none HG.out (gb_none (gb_alloc (gb_refl W0 none) _) g1))
  clear g1 y0 y1 y2 y3 hE hf hd
  go_wp2_with fail
  have Hx := Lib.hid ((((((Hr.out.set_ 0 (.int .i64 0)).set_ 1 (.int .i64 0)).set_ 2 (.string ⟨#[]⟩)).set_ 3 (.int .i64 0)).set_ 4 (.string ⟨#[]⟩)).set_ 5 (.int .i64 0))
  have kk : w1.grownBy ((((((w1.setCell ⟨h0, 0, none⟩ (.int .i64 0)).setCell ⟨h0, 1, none⟩ (.int .i64 0)).setCell ⟨h0, 2, none⟩ (.string ⟨#[]⟩)).setCell ⟨h0, 3, none⟩ (.int .i64 0)).setCell ⟨h0, 4, none⟩ (.string ⟨#[]⟩)).setCell ⟨h0, 5, none⟩ (.int .i64 0)) (some h0) := gb_then (gb_then (gb_then (gb_then (gb_then (gb_set1 _ _ _ _) (gb_set1 _ _ _ _)) (gb_set1 _ _ _ _)) (gb_set1 _ _ _ _)) (gb_set1 _ _ _ _)) (gb_set1 _ _ _ _)
  have q0 : ((((((w1.setCell ⟨h0, 0, none⟩ (.int .i64 0)).setCell ⟨h0, 1, none⟩ (.int .i64 0)).setCell ⟨h0, 2, none⟩ (.string ⟨#[]⟩)).setCell ⟨h0, 3, none⟩ (.int .i64 0)).setCell ⟨h0, 4, none⟩ (.string ⟨#[]⟩)).setCell ⟨h0, 5, none⟩ (.int .i64 0)).cell? ⟨h0, 0, none⟩ = some (.int .i64 0) := Hx.out.at_ (i := 0) rfl
  have q1 : ((((((w1.setCell ⟨h0, 0, none⟩ (.int .i64 0)).setCell ⟨h0, 1, none⟩ (.int .i64 0)).setCell ⟨h0, 2, none⟩ (.string ⟨#[]⟩)).setCell ⟨h0, 3, none⟩ (.int .i64 0)).setCell ⟨h0, 4, none⟩ (.string ⟨#[]⟩)).setCell ⟨h0, 5, none⟩ (.int .i64 0)).cell? ⟨h0, 1, none⟩ = some (.int .i64 0) := Hx.out.at_ (i := 1) rfl
  have q2 : ((((((w1.setCell ⟨h0, 0, none⟩ (.int .i64 0)).setCell ⟨h0, 1, none⟩ (.int .i64 0)).setCell ⟨h0, 2, none⟩ (.string ⟨#[]⟩)).setCell ⟨h0, 3, none⟩ (.int .i64 0)).setCell ⟨h0, 4, none⟩ (.string ⟨#[]⟩)).setCell ⟨h0, 5, none⟩ (.int .i64 0)).cell? ⟨h0, 2, none⟩ = some (.string ⟨#[]⟩) := Hx.out.at_ (i := 2) rfl
  have q3 : ((((((w1.setCell ⟨h0, 0, none⟩ (.int .i64 0)).setCell ⟨h0, 1, none⟩ (.int .i64 0)).setCell ⟨h0, 2, none⟩ (.string ⟨#[]⟩)).setCell ⟨h0, 3, none⟩ (.int .i64 0)).setCell ⟨h0, 4, none⟩ (.string ⟨#[]⟩)).setCell ⟨h0, 5, none⟩ (.int .i64 0)).cell? ⟨h0, 3, none⟩ = some (.int .i64 0) := Hx.out.at_ (i := 3) rfl
  have q4 : ((((((w1.setCell ⟨h0, 0, none⟩ (.int .i64 0)).setCell ⟨h0, 1, none⟩ (.int .i64 0)).setCell ⟨h0, 2, none⟩ (.string ⟨#[]⟩)).setCell ⟨h0, 3, none⟩ (.int .i64 0)).setCell ⟨h0, 4, none⟩ (.string ⟨#[]⟩)).setCell ⟨h0, 5, none⟩ (.int .i64 0)).cell? ⟨h0, 4, none⟩ = some (.string ⟨#[]⟩) := Hx.out.at_ (i := 4) rfl
  have q5 : ((((((w1.setCell ⟨h0, 0, none⟩ (.int .i64 0)).setCell ⟨h0, 1, none⟩ (.int .i64 0)).setCell ⟨h0, 2, none⟩ (.string ⟨#[]⟩)).setCell ⟨h0, 3, none⟩ (.int .i64 0)).setCell ⟨h0, 4, none⟩ (.string ⟨#[]⟩)).setCell ⟨h0, 5, none⟩ (.int .i64 0)).cell? ⟨h0, 5, none⟩ = some (.int .i64 0) := Hx.out.at_ (i := 5) rfl
  refine bodyPost_ret (v := .tuple #[.agg #[.int .i64 0, .int .i64 0, .string ⟨#[]⟩, .int .i64 0, .string ⟨#[]⟩, .int .i64 0], .iface t0 p0]) (by simp [results, Tryz.results47, go_sem, q0, q1, q2, q3, q4, q5]) rfl ?_
  exact ⟨⟨_, d, f, rfl, HE.out, Hf.out, Hd.out⟩, gb_new (Hg1.out) kk Hh0.out⟩
theorem factOf_any (x : Wr) (A : Option Addr) (c : Nat) (w : World) (h : HL w 0 (.slice A x.l.length c) x.l) : Calls Tryz.prog 47 #[.agg #[.int .i64 x.k, .int .i64 x.n, .string x.s, .slice A x.l.length c]] w (FactOfIs x w) := by
  by_cases hc : x.k = 3 ∧ x.l.map Wr.k = [1, 1, 2, 1, 2, 1]
  · obtain ⟨a1, a2, a3, a4, a5, a6, el, he⟩ := factOfW_of hc
    obtain ⟨k, n, s, l⟩ := x
    obtain rfl : k = 3 := hc.1
    obtain rfl : l = [a1, a2, a3, a4, a5, a6] := el
    exact (factOf_yes a1 a2 a3 a4 a5 a6 n s A c w h hc.2).mono fun e w' hh => ⟨.inl ⟨_, he, hh.1⟩, hh.2⟩
  · exact (factOf_no x A c w h hc).mono fun e w' hh => ⟨.inr ⟨factOfW_no hc, hh.1⟩, hh.2⟩
end Go.Proofs.YthijiefopcnclaaGreatDoor.Dt
