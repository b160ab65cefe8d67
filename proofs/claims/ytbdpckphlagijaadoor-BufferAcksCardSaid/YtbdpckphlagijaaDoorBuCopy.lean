/- buffer.copied, copies: states in memory of their own. Written by gen_bu.py. -/
import Derived.Test.YtbdpckphlagijaaDoorBuMem
import Derived.Test.YtbdpckphlagijaaDoorTdA
set_option linter.unusedVariables false
namespace Go.Proofs.YtbdpckphlagijaaDoor.Bf
open Go Go.RowKit Go.Proofs.YtbdpckphlagijaaDoor.Mm Go.Proofs.YtbdpckphlagijaaDoor.Td Go.Proofs.YtbdpckphlagijaaDoor.Dt

/-- What the append of runs to the nil slice gives: a copy. -/
theorem uponR {W : World} {K : Value → World → Prop} {f : Tmp → Value} {o : Oper} (x : Operand) (ho : o.op = .call { callee := .builtin .append, args := #[.const (.slice none 0 0), x], argTypes := #[25, 25] })
    (A : Option Addr) (n c : Nat) (l : List Rn) (hx : Td.look f x = .slice A n c) (hl : RL W A n l) (hb : n ≤ 1000000)
    (h : ∀ A' c' W', RL W' A' n l → n ≤ c' → W.grownBy W' none → K (.slice A' n c') W') : Upon Tryd.prog K ((execOp (Td.look f) o).run Tryd.prog W) := by
  obtain ⟨i0, hi0, hz0, hz1, hz2⟩ := info_parts run_inf
  by_cases h0 : n = 0
  · subst h0
    have hl0 : l = [] := List.eq_nil_of_length_eq_zero hl.1
    have hr : (Builtin.append_ #[25, 25] o.type #[.slice none 0 0, .slice A 0 c]).run Tryd.prog W = .ok (.slice none 0 0) W := by
      cases A <;> simp [Builtin.append_, run_underlying Tryd.underlying25, sizeOf, typeInfo, hi0, Builtin.lenOf, Builtin.firstCells, loadCells, loadCellsFrom]
    unfold execOp
    simp only [ho, resolve, invoke, builtin, Sem.run_bind, Sem.run_pure, Result.andThen_ok, List.map_toArray, List.map_cons, List.map_nil, Td.look_const, hx, hr, Upon]
    exact h none 0 W (by rw [hl0]; exact RL.none _ _) (Nat.le_refl _) (gb_refl _ _)
  · obtain ⟨ga, oa, rfl, hga, hat⟩ := hl.2 (by omega)
    obtain ⟨v', w', hr, hown, hgr, _⟩ := run_append_own (P := Tryd.prog) W W.heap.size 25 o.type 81 i0 (.agg #[.int .i64 0, .int .i64 0, .int .i64 0]) 3 24 Tryd.underlying25 hi0 hz0 hz1 hz2 rfl (by decide)
      (.slice none 0 0) 0 [] (World.ownsRow_nil _ _ _ _) ⟨ga, oa, none⟩ n c (rv l) (by rw [rv_len, hl.1]) (fun j u hu => by
        have hj : j < n * 3 := by have := (List.getElem?_eq_some_iff.1 hu).1; rw [rv_len, hl.1] at this; exact this
        obtain ⟨y, hy⟩ : ∃ y, l[j / 3]? = some y := ⟨_, List.getElem?_eq_getElem (by rw [hl.1]; omega)⟩
        have hadd : (⟨ga, oa, none⟩ : Addr).add j = ⟨ga, oa + j, none⟩ := by unfold Addr.add; split <;> simp_all
        rw [hadd]
        obtain ⟨c0, c1, c2⟩ := hat (j / 3) y hy
        obtain ⟨r0, r1, r2⟩ := rv_at l (j / 3) y hy
        obtain ⟨q, hq⟩ : ∃ q, j % 3 = q := ⟨_, rfl⟩
        have hjj : oa + j = oa + j / 3 * 3 + q := by omega
        have hj3 : j = j / 3 * 3 + q := by omega
        rw [hjj]
        rw [hj3] at hu
        have hq3 : q < 3 := by omega
        match q, hq3, hu with
        | 0, _, hu => rw [Nat.add_zero, r0] at hu; rw [← hu]; exact c0
        | 1, _, hu => rw [r1] at hu; rw [← hu]; exact c1
        | 2, _, hu => rw [r2] at hu; rw [← hu]; exact c2) (rv_one l) (by simp only [maxLen]; omega) (by omega) (Nat.le_refl _)
    rw [Nat.zero_add, List.nil_append] at hown
    obtain ⟨A', c', rfl, hr2, hle⟩ := own_rl hown hl.1
    unfold execOp
    simp only [ho, resolve, invoke, builtin, Sem.run_bind, Sem.run_pure, Result.andThen_ok, List.map_toArray, List.map_cons, List.map_nil, Td.look_const, hx, hr, Upon]
    exact h A' c' w' hr2 hle hgr
/-- What the append of facts to the nil slice gives: a copy. -/
theorem uponF {W : World} {K : Value → World → Prop} {f : Tmp → Value} {o : Oper} (x : Operand) (ho : o.op = .call { callee := .builtin .append, args := #[.const (.slice none 0 0), x], argTypes := #[26, 26] })
    (A : Option Addr) (n c : Nat) (l : List Fc) (hx : Td.look f x = .slice A n c) (hl : FL W A n l) (hb : n ≤ 1000000)
    (h : ∀ A' c' W', FL W' A' n l → n ≤ c' → W.grownBy W' none → K (.slice A' n c') W') : Upon Tryd.prog K ((execOp (Td.look f) o).run Tryd.prog W) := by
  obtain ⟨i0, hi0, hz0, hz1, hz2⟩ := info_parts6 fact_inf
  by_cases h0 : n = 0
  · subst h0
    have hl0 : l = [] := List.eq_nil_of_length_eq_zero hl.1
    have hr : (Builtin.append_ #[26, 26] o.type #[.slice none 0 0, .slice A 0 c]).run Tryd.prog W = .ok (.slice none 0 0) W := by
      cases A <;> simp [Builtin.append_, run_underlying Tryd.underlying26, sizeOf, typeInfo, hi0, Builtin.lenOf, Builtin.firstCells, loadCells, loadCellsFrom]
    unfold execOp
    simp only [ho, resolve, invoke, builtin, Sem.run_bind, Sem.run_pure, Result.andThen_ok, List.map_toArray, List.map_cons, List.map_nil, Td.look_const, hx, hr, Upon]
    exact h none 0 W (by rw [hl0]; exact FL.none _ _) (Nat.le_refl _) (gb_refl _ _)
  · obtain ⟨ga, oa, rfl, hga, hat⟩ := hl.2 (by omega)
    obtain ⟨v', w', hr, hown, hgr, _⟩ := run_append_own (P := Tryd.prog) W W.heap.size 26 o.type 63 i0 (.agg #[.int .i64 0, .int .i64 0, .string ⟨#[]⟩, .int .i64 0, .string ⟨#[]⟩, .int .i64 0]) 6 64 Tryd.underlying26 hi0 hz0 hz1 hz2 rfl (by decide)
      (.slice none 0 0) 0 [] (World.ownsRow_nil _ _ _ _) ⟨ga, oa, none⟩ n c (fv l) (by rw [fv_len, hl.1]) (fun j u hu => by
        have hj : j < n * 6 := by have := (List.getElem?_eq_some_iff.1 hu).1; rw [fv_len, hl.1] at this; exact this
        obtain ⟨y, hy⟩ : ∃ y, l[j / 6]? = some y := ⟨_, List.getElem?_eq_getElem (by rw [hl.1]; omega)⟩
        have hadd : (⟨ga, oa, none⟩ : Addr).add j = ⟨ga, oa + j, none⟩ := by unfold Addr.add; split <;> simp_all
        rw [hadd]
        have hc := fv_at l (j / 6) y hy (j % 6) (Nat.mod_lt _ (by decide))
        rw [show j / 6 * 6 + j % 6 = j by omega, hu] at hc
        obtain ⟨c0, c1, c2, c3, c4, c5⟩ := hat (j / 6) y hy
        obtain ⟨q, hq⟩ : ∃ q, j % 6 = q := ⟨_, rfl⟩
        have hjj : oa + j = oa + j / 6 * 6 + q := by omega
        rw [hq] at hc
        rw [hjj]
        have hq6 : q < 6 := by omega
        match q, hq6, hc with
        | 0, _, hc => rw [hc]; exact c0
        | 1, _, hc => rw [hc]; exact c1
        | 2, _, hc => rw [hc]; exact c2
        | 3, _, hc => rw [hc]; exact c3
        | 4, _, hc => rw [hc]; exact c4
        | 5, _, hc => rw [hc]; exact c5) (fv_one l) (by simp only [maxLen]; omega) (by omega) (Nat.le_refl _)
    rw [Nat.zero_add, List.nil_append] at hown
    obtain ⟨A', c', rfl, hr2, hle⟩ := own_fl hown hl.1
    unfold execOp
    simp only [ho, resolve, invoke, builtin, Sem.run_bind, Sem.run_pure, Result.andThen_ok, List.map_toArray, List.map_cons, List.map_nil, Td.look_const, hx, hr, Upon]
    exact h A' c' w' hr2 hle hgr

attribute [local go_sem] Td.upon_value Td.upon_skip Td.upon_enter Td.upon_row Td.look_tmp Td.look_const Td.look_func Td.look_global
set_option maxHeartbeats 8000000 in
set_option maxRecDepth 100000 in
theorem copied_any (A B : Option Addr) (n c m d : Nat) (s : St) (w : World) (hs : SL w A n B m s) (hn : n ≤ 1000000) (hm : m ≤ 1000000) : Calls Tryd.prog 16 #[.agg #[.slice A n c, .slice B m d]] w (States s w) := by
  obtain ⟨b0, hb0⟩ : ∃ b0, w.heap.size = b0 := ⟨_, rfl⟩
  obtain ⟨h0, hh0⟩ : ∃ h0, b0 + 1 = h0 := ⟨_, rfl⟩
  have Hh0 : Hid (w.heap.size ≤ h0) := by show _ ≤ _; omega
  obtain ⟨W0, hW0⟩ : ∃ W0, (w.alloc (.cells #[.slice A n c, .slice B m d] 28)).alloc (.cells #[.slice none 0 0, .slice none 0 0] 28) = W0 := ⟨_, rfl⟩
  have G0 : w.grownBy W0 none := by rw [← hW0]; exact gb_alloc (gb_alloc (gb_refl _ _) _) _
  have HG := Lib.hid G0
  have hr1 : Row W0 b0 28 #[.slice A n c, .slice B m d] := by rw [← hW0, ← hb0]; exact (Row.new _ _ _).alloc _
  have HR0 : Hid (Row W0 h0 28 #[.slice none 0 0, .slice none 0 0]) := by
    rw [← hW0, ← hh0, ← hb0]
    have h := Row.new (w.alloc (.cells #[.slice A n c, .slice B m d] 28)) 28 #[.slice none 0 0, .slice none 0 0]
    rw [World.size_alloc] at h
    exact h
  have HB1 : Hid (∀ W, W0.grownBy W none → W.cell? ⟨b0, 0, none⟩ = some (.slice A n c) ∧ W.cell? ⟨b0, 1, none⟩ = some (.slice B m d)) := fun W hW => ⟨(hr1.kept hW (by simp)).at_ (i := 0) rfl, (hr1.kept hW (by simp)).at_ (i := 1) rfl⟩
  have Hs := Lib.hid (hs.keep G0)
  have Hn := Lib.hid hn
  have Hm := Lib.hid hm
  clear G0 hs hn hm hr1
  go_enter Tryd.func16, Tryd.ntmps16
  go_upto_region 1 with fail
  clear hW0 hh0 hb0
  apply wp_region_told_tail (le := fun a b => a.grownBy b none) 7 _ [isV _, isV _, unV n s.seen, isV _, isV _, factsV m s.facts, stateV s]
  case hL => rfl
  case hz => rfl
  case hLd => rfl
  case hLg => rfl
  case hLw => kernel_rfl
  case hlen => rfl
  case hn => rfl
  case hm => kernel_rfl
  case hB => kernel_rfl
  case ht => exact fun _ _ _ h k => gb_none h k
  case hw => exact gb_drew (gb_refl _ _)
  -- 0: buffer.go:78 fieldAddr
  apply told_is
  · intro W f hW hE h0 K hK
    have e1 := h0 1 (by kernel_rfl)
    conv at e1 => rhs; whnf
    clear hE h0
    refine yes_of (want_free rfl) ?_
    go_simp; exact hK _ _ (gb_refl _ _) rfl
  -- 1: buffer.go:78 load
  apply told_is
  · intro W f hW hE h0 K hK
    have e3 : f 3 = _ := hE 0 3 _ rfl (by kernel_rfl)
    clear hE h0
    refine yes_of (want_free rfl) ?_
    obtain ⟨z0, z1⟩ := HB1.out W hW
    go_simp; exact hK _ _ (gb_refl _ _) rfl
  -- 2: buffer.go:78 call
  apply told_at unV_stays
  · intro W f hW hE h0 K hK
    have e4 : f 4 = _ := hE 0 4 _ rfl (by kernel_rfl)
    clear hE h0
    refine yes_of (want_free rfl) ?_
    exact uponR (.tmp 4) rfl A n c s.seen e4 (Hs.out.1.keep hW) Hn.out fun A' c' W' h1 h2 h3 => hK _ _ h3 ⟨A', c', rfl, h1, h2⟩
  -- 3: buffer.go:78 fieldAddr
  apply told_is
  · intro W f hW hE h0 K hK
    have e1 := h0 1 (by kernel_rfl)
    conv at e1 => rhs; whnf
    clear hE h0
    refine yes_of (want_free rfl) ?_
    go_simp; exact hK _ _ (gb_refl _ _) rfl
  -- 4: buffer.go:78 load
  apply told_is
  · intro W f hW hE h0 K hK
    have e6 : f 6 = _ := hE 0 6 _ rfl (by kernel_rfl)
    clear hE h0
    refine yes_of (want_free rfl) ?_
    obtain ⟨z0, z1⟩ := HB1.out W hW
    go_simp; exact hK _ _ (gb_refl _ _) rfl
  -- 5: buffer.go:78 call
  apply told_at factsV_stays
  · intro W f hW hE h0 K hK
    have e7 : f 7 = _ := hE 0 7 _ rfl (by kernel_rfl)
    clear hE h0
    refine yes_of (want_free rfl) ?_
    exact uponF (.tmp 7) rfl B m d s.facts e7 (Hs.out.2.keep hW) Hm.out fun A' c' W' h1 h2 h3 => hK _ _ h3 ⟨A', c', rfl, h1, h2⟩
  -- 6: buffer.go:78 build
  apply told_at stateV_stays
  · intro W f hW hE h0 K hK
    have e5 := hE 3 5 _ rfl (by kernel_rfl)
    have e8 := hE 0 8 _ rfl (by kernel_rfl)
    clear hE h0
    refine yes_of (want_free rfl) ?_
    obtain ⟨A2, c2, e5, h1, h2⟩ := e5
    obtain ⟨B2, d2, e8, k1, k2⟩ := e8
    go_simp
    exact hK _ _ (gb_refl _ _) ⟨A2, n, c2, B2, m, d2, rfl, ⟨h1, k1⟩, h2, k2⟩
  intro W f hW hA
  simp only [lexIn, Act.put, List.setIfInBounds_toArray, List.set_cons_zero, List.set_cons_succ]
  have e9 := hA 0 (some 9) _ rfl
  clear hA
  obtain ⟨A4, n4, c4, B4, m4, d4, e9, hs4, hc4, hd4⟩ := e9
  rw [e9]
  have hr := HR0.out.kept hW (by simp)
  have q0 := hr.free 0
  have q1 := hr.free 1
  have u0 := hr.at_ (i := 0) rfl
  have u1 := hr.at_ (i := 1) rfl
  have g1 := gb_set1 W h0 0 (.slice A4 n4 c4)
  have x1 := hr.set_ 0 (.slice A4 n4 c4)
  have g2 := gb_set1 (W.setCell ⟨h0, 0, none⟩ (.slice A4 n4 c4)) h0 1 (.slice B4 m4 d4)
  have Hx2 := Lib.hid (x1.set_ 1 (.slice B4 m4 d4))
  have Hs4 := Lib.hid (sl_beside (sl_beside hs4 g1 hr) g2 x1)
  have Hgg := Lib.hid (gb_new (gb_new (gb_none HG.out hW) g1 Hh0.out) g2 Hh0.out)
  have Hcd4 : Hid (n4 ≤ c4 ∧ m4 ≤ d4) := ⟨hc4, hd4⟩
  clear g1 g2 x1 hs4 hc4 hd4 hW
  rw [ends_is]
  go_simp
  clear q0 q1 u0 u1 hr
  go_wp2_with fail
  exact bodyPost_ret (results_cell_row rfl _ _ h0 28 _ (0, 0) _ rfl Hx2.out Tryd.underlying28 rfl (by kernel_rfl)) rfl ⟨A4, n4, c4, B4, m4, d4, rfl, Hs4.out, Hcd4.out.1, Hcd4.out.2, Hgg.out⟩

/-- A list that was told, of the call's own. -/
def Lists (ls : List St) (w : World) (e : Ending) (w' : World) : Prop := ∃ v, e = .returned v ∧ LS w' w.heap.size v ls ∧ w.grownBy w' none
set_option maxHeartbeats 8000000 in
set_option maxRecDepth 100000 in
theorem copies_any (A : Option Addr) (n c : Nat) (ls : List St) (w : World) (ha : AL w A n ls) (hp : ∀ s ∈ ls, Lens s) (hn : n ≤ 100000) : Calls Tryd.prog 15 #[.slice A n c] w (Lists ls w) := by
  have Ha := Lib.hid ha
  have Hp := Lib.hid hp
  have Hn := Lib.hid hn
  clear ha hp hn
  go_enter Tryd.func15, Tryd.ntmps15
  go_wp2_with fail
  go_loopw [8, 3] (fun i v wr => ∃ k : Nat, k ≤ n ∧ i = .int .i64 k ∧ LS wr w.heap.size v (ls.take k) ∧ w.grownBy wr none) (fun i _ _ => n - (intOf i).toNat)
  case atStart => exact ⟨0, Nat.zero_le _, rfl, LS.nil _ _, gb_refl _ _⟩
  case round =>
    obtain ⟨k, hk, rfl, hls, hg⟩ := hrel
    by_cases hlt : k < n
    · have d1 : decide (k < n) = true := decide_eq_true hlt
      have d2 : decide ((k : Int) < (n : Int)) = true := decide_eq_true (by omega)
      have bk : (k : Int) < (n : Int) := by omega
      have hlen := Ha.out.1
      obtain ⟨s, hs⟩ : ∃ s, ls[k]? = some s := ⟨_, List.getElem?_eq_getElem (by omega)⟩
      obtain ⟨g, o, rfl, _, _⟩ := Ha.out.2 (by omega)
      obtain ⟨A1, n1, c1, B1, m1, d1', hc1, hd1, hn1, hm1, hget⟩ := Ha.out.get hs
      obtain ⟨z0, z1, hsl⟩ := hget wr hg
      have hsL := Hp.out s (List.mem_of_getElem? hs)
      have hnm : n1 ≤ 1000000 ∧ m1 ≤ 1000000 := by have := hsL.1; have := hsL.2; exact ⟨by omega, by omega⟩
      have HS := Lib.hid hsl
      have Hnm := Lib.hid hnm
      have hmore : ls.take (k + 1) = ls.take k ++ [s] := by rw [List.take_add_one, hs]; rfl
      have Hmore := Lib.hid hmore
      have hkl : (ls.take k).length ≤ 1000000 := by have := Hn.out; rw [List.length_take]; omega
      have Hkl := Lib.hid hkl
      have Hls := Lib.hid hls
      have Hg := Lib.hid hg
      have Hlt := Lib.hid hlt
      clear hlen hs hc1 hd1 hn1 hm1 hget hsl hsL hnm hmore hkl hls hg hk hlt
      go_wp2_with fail
      refine (copied_any A1 B1 n1 c1 m1 d1' s _ (HS.out.keep (gb_alloc (gb_refl _ _) _)) Hnm.out.1 Hnm.out.2).mono ?_
      rintro e w1 ⟨A2, n2, c2, B2, m2, d2', rfl, hs2, hc2, hd2, g2⟩
      have Hs2 := Lib.hid (hs2.keep (gb_alloc (gb_refl w1 none) (.cells #[.slice A2 n2 c2, .slice B2 m2 d2'] 28)))
      have Hcd : Hid (n2 ≤ c2 ∧ m2 ≤ d2') := ⟨hc2, hd2⟩
      have Hg2 : Hid (w.grownBy (w1.alloc (.cells #[.slice A2 n2 c2, .slice B2 m2 d2'] 28)) none) := gb_alloc (gb_none (gb_alloc Hg.out _) g2) _
      have Hls2 := Lib.hid (((Hls.out.keep (gb_alloc (gb_refl _ _) _)).keep g2).keep (gb_alloc (gb_refl w1 none) (.cells #[.slice A2 n2 c2, .slice B2 m2 d2'] 28)))
      have hsz := g2.size
      rw [World.size_alloc] at hsz
      have hsz2 := Hg.out.size
      have HB : Hid (w.heap.size ≤ (w1.alloc (.cells #[.slice A2 n2 c2, .slice B2 m2 d2'] 28)).heap.size) := by show _ ≤ _; rw [World.size_alloc]; omega
      have hr := Row.new w1 28 #[.slice A2 n2 c2, .slice B2 m2 d2']
      have Hq0 := Lib.hid (hr.at_ (i := 0) rfl)
      have Hq1 := Lib.hid (hr.at_ (i := 1) rfl)
      have t8 : IntKind.i64.wrap ((k : Int) + 1) = ((k + 1 : Nat) : Int) := by rw [IntKind.wrap_i64]; have := Hlt.out; have := Hn.out; omega
      clear hs2 hc2 hd2 g2 hsz hsz2 hr
      go_wp2_with (at_builtin; go_must (refine wpList_append_st rfl (.tmp 12) (.tmp 15) rfl w.heap.size _ (ls.take k) rfl Hls2.out Hkl.out HB.out Hs2.out Hcd.out.1 Hcd.out.2 w1.heap.size 1 rfl Hq0.out Hq1.out ?_); intro v3 w3 hl3 hg3; have Hl3 := Lib.hid hl3; have Hg3 := Lib.hid hg3; obtain ⟨A3, c3, hv3, _⟩ := hl3.al; obtain ⟨N3, hN3⟩ : ∃ N3, (ls.take k ++ [s]).length = N3 := ⟨_, rfl⟩; rw [hN3] at hv3; subst hv3; clear hl3 hg3 hN3)
      go_roundw
      case rel => exact ⟨k + 1, by have := Hlt.out; omega, rfl, by rw [Hmore.out]; exact Hl3.out, gb_step Hg2.out Hg3.out fun i e => .inr (Hls2.out.far i e)⟩
      case measure => simp [intOf]; have := Hlt.out; omega
    · have hkn : k = n := by omega
      subst hkn
      have d1 : decide (k < k) = false := by simp
      have d2 : decide ((k : Int) < (k : Int)) = false := by simp
      have hfin : ls.take k = ls := List.take_of_length_le (by rw [Ha.out.1]; exact Nat.le_refl _)
      rw [hfin] at hls
      obtain ⟨A2, c2, rfl, _, _⟩ := hls.al
      have HF : Hid _ := And.intro hls hg
      clear hls hg hlt hk hfin
      go_wp2_with fail
      go_ret
      exact ⟨_, rfl, HF.out.1, HF.out.2⟩
end Go.Proofs.YtbdpckphlagijaaDoor.Bf
