/- buffer.Add. Written by gen_buadd.py. -/
import Derived.Test.YtbdpckphlagijaaDoorBuCopy
set_option linter.unusedVariables false
namespace Go.Proofs.YtbdpckphlagijaaDoor.Bf
open Go Go.RowKit Go.Proofs.YtbdpckphlagijaaDoor.Mm Go.Proofs.YtbdpckphlagijaaDoor.Td Go.Proofs.YtbdpckphlagijaaDoor.Dt

def lsV (N : Nat) (ls : List St) : Td.Spec := fun W v => LS W N v ls
theorem lsV_stays {N0 n N : Nat} {s : St} {ls : List St} (hn : ls.length ≤ n ∨ ∃ l, l.length = n ∧ ls = l ++ [s]) : Stays (Le N0 n s) (lsV N ls) := fun _ _ _ h hl => h.ls hl hn
theorem stateV_le {N0 n : Nat} {s t : St} : Stays (Le N0 n s) (stateV t) := fun _ _ _ h ⟨A, n, c, B, m, d, e, h1, h2, h3⟩ => ⟨A, n, c, B, m, d, e, h.sl h1, h2, h3⟩
/-- A literal of one state. -/
def litV (N : Nat) (s : St) : Td.Spec := fun W v => ∃ (q : Nat) (A : Option Addr) (n c : Nat) (B : Option Addr) (m d : Nat), v = .slice (some ⟨q, 0, none⟩) 1 1 ∧ Row W q 28 #[.slice A n c, .slice B m d] ∧ SL W A n B m s ∧ n ≤ c ∧ m ≤ d
theorem litV_stays {N0 n N : Nat} {s t : St} : Stays (Le N0 n s) (litV N t) := fun _ _ _ h ⟨q, A, n, c, B, m, d, e, h1, h2, h3⟩ => ⟨q, A, n, c, B, m, d, e, h.row h1 (.inr (Nat.le_refl 2)), h.sl h2, h3⟩
/-- A buffer with a list of the call's own. -/
def bufLV (N : Nat) (first : Int) (ls : List St) : Td.Spec := fun W v => ∃ A m c, v = .agg #[.int .i64 first, .slice A m c] ∧ LS W N (.slice A m c) ls
theorem bufLV_stays {N0 n N : Nat} {s : St} {first : Int} {ls : List St} (hn : ls.length ≤ n ∨ ∃ l, l.length = n ∧ ls = l ++ [s]) : Stays (Le N0 n s) (bufLV N first ls) := fun _ _ _ h ⟨A, m, c, e, hl⟩ => ⟨A, m, c, e, h.ls hl hn⟩
/-- A buffer that was told. -/
def BufIs (first : Int) (ls : List St) (w : World) (e : Ending) (w' : World) : Prop := ∃ A m c, e = .returned (.agg #[.int .i64 first, .slice A m c]) ∧ LS w' w.heap.size (.slice A m c) ls ∧ w.grownBy w' none

attribute [local go_sem] Td.upon_value Td.upon_skip Td.upon_enter Td.upon_row Td.look_tmp Td.look_const Td.look_func Td.look_global
set_option maxHeartbeats 8000000 in
set_option maxRecDepth 100000 in
theorem add_any (first : Int) (A : Option Addr) (n c : Nat) (ls : List St) (A1 B1 : Option Addr) (n1 c1 m1 d1 : Nat) (s : St) (w : World) (ha : AL w A n ls) (hp : ∀ s ∈ ls, Lens s) (hn : n ≤ 100000) (hs : SL w A1 n1 B1 m1 s) (hnm : n1 ≤ 1000000 ∧ m1 ≤ 1000000) :
    Calls Tryd.prog 6 #[.agg #[.int .i64 first, .slice A n c], .agg #[.slice A1 n1 c1, .slice B1 m1 d1]] w (BufIs first (ls ++ [s]) w) := by
  obtain ⟨b2, hb2⟩ : ∃ b2, w.heap.size = b2 := ⟨_, rfl⟩
  obtain ⟨b3, hb3⟩ : ∃ b3, b2 + 1 = b3 := ⟨_, rfl⟩
  obtain ⟨h0, hh0⟩ : ∃ h0, b3 + 1 = h0 := ⟨_, rfl⟩
  obtain ⟨W0, hW0⟩ : ∃ W0, ((w.alloc (.cells #[.int .i64 first, .slice A n c] 32)).alloc (.cells #[.slice A1 n1 c1, .slice B1 m1 d1] 28)).alloc (.cells #[.int .i64 0, .slice none 0 0] 32) = W0 := ⟨_, rfl⟩
  have G0 : w.grownBy W0 none := by rw [← hW0]; exact gb_alloc (gb_alloc (gb_alloc (gb_refl _ _) _) _) _
  have HG := Lib.hid G0
  have HR2 : Hid (Row W0 b2 32 #[.int .i64 first, .slice A n c]) := by rw [← hW0, ← hb2]; exact ((Row.new _ _ _).alloc _).alloc _
  have HR3 : Hid (Row W0 b3 28 #[.slice A1 n1 c1, .slice B1 m1 d1]) := by
    rw [← hW0, ← hb3, ← hb2]
    have h := Row.new (w.alloc (.cells #[.int .i64 first, .slice A n c] 32)) 28 #[.slice A1 n1 c1, .slice B1 m1 d1]
    rw [World.size_alloc] at h
    exact h.alloc _
  have HR0 : Hid (Row W0 h0 32 #[.int .i64 0, .slice none 0 0]) := by
    rw [← hW0, ← hh0, ← hb3, ← hb2]
    have h := Row.new ((w.alloc (.cells #[.int .i64 first, .slice A n c] 32)).alloc (.cells #[.slice A1 n1 c1, .slice B1 m1 d1] 28)) 32 #[.int .i64 0, .slice none 0 0]
    rw [World.size_alloc, World.size_alloc] at h
    exact h
  obtain ⟨N0, hN0⟩ : ∃ N0, W0.heap.size = N0 := ⟨_, rfl⟩
  have HN0 := Lib.hid hN0
  have Hlt2 : Hid (b2 < N0) := by show _ < _; have := HR2.out.lt; omega
  have Hlt3 : Hid (b3 < N0) := by show _ < _; have := HR3.out.lt; omega
  have Hlt0 : Hid (h0 < N0 ∧ w.heap.size ≤ h0) := by have := HR0.out.lt; exact ⟨by omega, by omega⟩
  have HC : Hid (∀ W, Le N0 n s W0 W → AL W A n ls) := fun W hW => (ha.keep G0).keep (by have h := hW; rw [← HN0.out] at h; exact h.gb)
  have Hlen : Hid (ls.length = n) := ha.1
  have Hn : Hid (ls.length ≤ n ∧ n ≤ 100000) := ⟨by have := Hlen.out; omega, hn⟩
  have Hll : Hid (ls.length ≤ 1000000) := by show _ ≤ _; have := Hn.out; omega
  have Hp := Lib.hid hp
  have Hs := Lib.hid (hs.keep G0)
  have Hnm := Lib.hid hnm
  clear G0 ha hp hn hs hnm
  go_enter Tryd.func6, Tryd.ntmps6
  go_upto_region 1 with fail
  clear hW0 hh0 hb3 hb2 hN0
  have hN1 : N0 ≤ W0.heap.size := by rw [HN0.out]; exact Nat.le_refl _
  have HN1 := Lib.hid hN1
  clear hN1
  apply wp_region_told_tail (le := Le N0 n s) 10 _ [isV _, isV _, isV _, isV _, lsV N0 ls, isV _, stateV s, litV N0 s, lsV N0 (ls ++ [s]), bufLV N0 first (ls ++ [s])]
  case hL => rfl
  case hz => rfl
  case hLd => rfl
  case hLg => rfl
  case hLw => kernel_rfl
  case hlen => rfl
  case hn => rfl
  case hm => kernel_rfl
  case hB => kernel_rfl
  case ht => exact fun _ _ _ h k => h.trans k
  case hw => exact .of_gb (gb_drew (gb_refl _ _))
  -- 0: buffer.go:14 fieldAddr
  apply told_is
  · intro W f hW hE h0 K hK
    have e2 := h0 2 (by kernel_rfl)
    conv at e2 => rhs; whnf
    clear hE h0
    refine yes_of (want_free rfl) ?_
    go_simp; exact hK _ _ (Le.refl _) rfl
  -- 1: buffer.go:14 load
  apply told_is
  · intro W f hW hE h0 K hK
    have e5 : f 5 = _ := hE 0 5 _ rfl (by kernel_rfl)
    clear hE h0
    refine yes_of (want_free rfl) ?_
    have z0 := (hW.row HR2.out (.inl Hlt2.out)).at_ (i := 0) rfl
    have z1 := (hW.row HR2.out (.inl Hlt2.out)).at_ (i := 1) rfl
    go_simp; exact hK _ _ (Le.refl _) rfl
  -- 2: buffer.go:14 fieldAddr
  apply told_is
  · intro W f hW hE h0 K hK
    have e2 := h0 2 (by kernel_rfl)
    conv at e2 => rhs; whnf
    clear hE h0
    refine yes_of (want_free rfl) ?_
    go_simp; exact hK _ _ (Le.refl _) rfl
  -- 3: buffer.go:14 load
  apply told_is
  · intro W f hW hE h0 K hK
    have e7 : f 7 = _ := hE 0 7 _ rfl (by kernel_rfl)
    clear hE h0
    refine yes_of (want_free rfl) ?_
    have z0 := (hW.row HR2.out (.inl Hlt2.out)).at_ (i := 0) rfl
    have z1 := (hW.row HR2.out (.inl Hlt2.out)).at_ (i := 1) rfl
    go_simp; exact hK _ _ (Le.refl _) rfl
  -- 4: buffer.go:14 call
  apply told_at (lsV_stays (.inl Hn.out.1))
  · intro W f hW hE h0 K hK
    have e8 : f 8 = _ := hE 0 8 _ rfl (by kernel_rfl)
    clear hE h0
    refine yes_of (want_free rfl) ?_
    go_simp
    refine (copies_any A n c ls W (HC.out W hW) Hp.out Hn.out.2).mono ?_
    rintro e w1' ⟨v, rfl, hl, g⟩
    exact ⟨_, rfl, hK _ _ (.of_gb g) (hl.low (Nat.le_trans HN1.out hW.size))⟩
  -- 5: buffer.go:14 load
  apply told_is
  · intro W f hW hE h0 K hK
    have e3 := h0 3 (by kernel_rfl)
    conv at e3 => rhs; whnf
    clear hE h0
    refine yes_of (want_free rfl) ?_
    have z0 := (hW.row HR3.out (.inl Hlt3.out)).at_ (i := 0) rfl
    have z1 := (hW.row HR3.out (.inl Hlt3.out)).at_ (i := 1) rfl
    go_simp; exact hK _ _ (Le.refl _) rfl
  -- 6: buffer.go:14 call
  apply told_at stateV_le
  · intro W f hW hE h0 K hK
    have e10 : f 10 = _ := hE 0 10 _ rfl (by kernel_rfl)
    clear hE h0
    refine yes_of (want_free rfl) ?_
    go_simp
    refine (copied_any A1 B1 n1 c1 m1 d1 s W (hW.sl Hs.out) Hnm.out.1 Hnm.out.2).mono ?_
    rintro e w1' ⟨A2, n2, c2, B2, m2, d2, rfl, h1, h2, h3, g⟩
    exact ⟨_, rfl, hK _ _ (.of_gb g) ⟨A2, n2, c2, B2, m2, d2, rfl, h1, h2, h3⟩⟩
  -- 7: buffer.go:14 buildSlice
  apply told_at litV_stays
  · intro W f hW hE h0 K hK
    have e11 := hE 0 11 _ rfl (by kernel_rfl)
    clear hE h0
    refine yes_of (want_free rfl) ?_
    obtain ⟨A2, n2, c2, B2, m2, d2, e11, h1, h2, h3⟩ := e11
    go_simp
    exact hK _ _ (.of_gb (gb_alloc (gb_refl _ _) _)) ⟨_, A2, n2, c2, B2, m2, d2, rfl, Row.new _ _ _, h1.keep (gb_alloc (gb_refl _ _) _), h2, h3⟩
  -- 8: buffer.go:14 call
  apply told_at (lsV_stays (.inr ⟨ls, Hlen.out, rfl⟩))
  · intro W f hW hE h0 K hK
    have e9 := hE 3 9 _ rfl (by kernel_rfl)
    have e12 := hE 0 12 _ rfl (by kernel_rfl)
    clear hE h0
    refine yes_of (want_free rfl) ?_
    obtain ⟨q, A2, n2, c2, B2, m2, d2, e12, h1, h2, h3, h4⟩ := e12
    exact upon_append_st (.tmp 9) (.tmp 12) rfl N0 _ ls rfl e9 Hll.out (Nat.le_trans HN1.out hW.size) h2 h3 h4 q 1 e12 (h1.at_ (i := 0) rfl) (h1.at_ (i := 1) rfl) fun v' w' k1 k2 => hK _ _ (by rw [← Hlen.out]; exact k2) k1
  -- 9: buffer.go:14 build
  apply told_at (bufLV_stays (.inr ⟨ls, Hlen.out, rfl⟩))
  · intro W f hW hE h0 K hK
    have e6 : f 6 = _ := hE 7 6 _ rfl (by kernel_rfl)
    have e13 := hE 0 13 _ rfl (by kernel_rfl)
    clear hE h0
    refine yes_of (want_free rfl) ?_
    obtain ⟨u, hu⟩ : ∃ u, f 13 = u := ⟨_, rfl⟩
    rw [hu] at e13
    obtain ⟨A2, m2, c2, hv⟩ := e13.slice
    subst hv
    go_simp
    exact hK _ _ (Le.refl _) ⟨A2, m2, c2, rfl, e13⟩
  intro W f hW hA
  simp only [lexIn, Act.put, List.setIfInBounds_toArray, List.set_cons_zero, List.set_cons_succ]
  have e14 := hA 0 (some 14) _ rfl
  clear hA
  obtain ⟨A4, m4, c4, e14, hl⟩ := e14
  rw [e14]
  have hWg : W0.grownBy W none := by have h := hW; rw [← HN0.out] at h; exact h.gb
  have hr := HR0.out.kept hWg (by simp)
  have q0 := hr.free 0
  have q1 := hr.free 1
  have u0 := hr.at_ (i := 0) rfl
  have u1 := hr.at_ (i := 1) rfl
  have g1 := gb_set1 W h0 0 (.int .i64 first)
  have x1 := hr.set_ 0 (.int .i64 first)
  have g2 := gb_set1 (W.setCell ⟨h0, 0, none⟩ (.int .i64 first)) h0 1 (.slice A4 m4 c4)
  have Hx2 := Lib.hid (x1.set_ 1 (.slice A4 m4 c4))
  have hb0 : h0 < N0 ∧ w.heap.size ≤ h0 := Hlt0.out
  have hl2 := ((hl.small g1 hr (Nat.le_refl 2) (by omega)).small g2 x1 (Nat.le_refl 2) (by omega))
  have Hl2 := Lib.hid (hl2.low (show w.heap.size ≤ N0 by omega))
  have Hgg := Lib.hid (gb_new (gb_new (gb_none HG.out hWg) g1 hb0.2) g2 hb0.2)
  clear g1 g2 x1 hl hl2 hW hWg hb0
  rw [ends_is]
  go_simp
  clear q0 q1 u0 u1 hr
  go_wp2_with fail
  exact bodyPost_ret (results_cell_row rfl _ _ h0 32 _ (0, 0) _ rfl Hx2.out Tryd.underlying32 rfl (by kernel_rfl)) rfl ⟨A4, m4, c4, rfl, Hl2.out, Hgg.out⟩
end Go.Proofs.YtbdpckphlagijaaDoor.Bf
