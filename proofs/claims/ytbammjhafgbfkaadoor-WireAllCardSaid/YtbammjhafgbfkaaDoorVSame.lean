/- The document's SameWire. -/
import Derived.Test.YtbammjhafgbfkaaDoorVCopy
import Derived.Test.YtbammjhafgbfkaaDoorVEq
import Derived.Test.YtbammjhafgbfkaaDoorQTail
namespace Go.Proofs.YtbammjhafgbfkaaDoor
open Go.RowKit Mm Vw

set_option maxHeartbeats 1000000 in
theorem same_nokind (k k2 n n2 : Int) (s s2 : ByteArray) (len len2 : Nat) (h : (k == k2) = false) (A A2 : Option Addr) (c c2 : Nat) (w : World) : Calls Tryd.prog 17 #[.agg #[.int .i64 k, .int .i64 n, .string s, .slice A len c], .agg #[.int .i64 k2, .int .i64 n2, .string s2, .slice A2 len2 c2]] w fun e w' => e = .returned (.bool false) ∧ w.grownBy w' none := by
  have h2 : (k != k2) = true := by simp only [bne, h]; rfl
  go_enter Tryd.func17, Tryd.ntmps17
  go_wp2_with fail
  go_ret
  exact ⟨rfl, gb_alloc (gb_alloc (gb_refl _ _) _) _⟩
set_option maxHeartbeats 1000000 in
theorem same_nonum (k n n2 : Int) (s s2 : ByteArray) (len len2 : Nat) (h : (n == n2) = false) (A A2 : Option Addr) (c c2 : Nat) (w : World) : Calls Tryd.prog 17 #[.agg #[.int .i64 k, .int .i64 n, .string s, .slice A len c], .agg #[.int .i64 k, .int .i64 n2, .string s2, .slice A2 len2 c2]] w fun e w' => e = .returned (.bool false) ∧ w.grownBy w' none := by
  have h2 : (n != n2) = true := by simp only [bne, h]; rfl
  go_enter Tryd.func17, Tryd.ntmps17
  go_wp2_with fail
  go_ret
  exact ⟨rfl, gb_alloc (gb_alloc (gb_refl _ _) _) _⟩
set_option maxHeartbeats 1000000 in
theorem same_notext (k n : Int) (s s2 : ByteArray) (len len2 : Nat) (h : (s.toList == s2.toList) = false) (A A2 : Option Addr) (c c2 : Nat) (w : World) : Calls Tryd.prog 17 #[.agg #[.int .i64 k, .int .i64 n, .string s, .slice A len c], .agg #[.int .i64 k, .int .i64 n, .string s2, .slice A2 len2 c2]] w fun e w' => e = .returned (.bool false) ∧ w.grownBy w' none := by
  have h2 : (s.toList != s2.toList) = true := by simp only [bne, h]; rfl
  go_enter Tryd.func17, Tryd.ntmps17
  go_wp2_with fail
  go_ret
  exact ⟨rfl, gb_alloc (gb_alloc (gb_refl _ _) _) _⟩
set_option maxHeartbeats 1000000 in
theorem same_nolen (k n : Int) (s : ByteArray) (len len2 : Nat) (h : (len == len2) = false) (A A2 : Option Addr) (c c2 : Nat) (w : World) : Calls Tryd.prog 17 #[.agg #[.int .i64 k, .int .i64 n, .string s, .slice A len c], .agg #[.int .i64 k, .int .i64 n, .string s, .slice A2 len2 c2]] w fun e w' => e = .returned (.bool false) ∧ w.grownBy w' none := by
  have h1 : ((len : Int) == (len2 : Int)) = false := by
    simp only [beq_eq_false_iff_ne, ne_eq] at h ⊢; omega
  have h2 : ((len : Int) != (len2 : Int)) = true := by simp only [bne, h1]; rfl
  clear h
  go_enter Tryd.func17, Tryd.ntmps17
  go_wp2_with fail
  go_ret
  exact ⟨rfl, gb_alloc (gb_alloc (gb_refl _ _) _) _⟩
set_option maxHeartbeats 4000000 in
set_option maxRecDepth 100000 in
theorem same_goes (k n : Int) (s : ByteArray) (l q : List Wr) (hlq : l.length = q.length) (va vb : Value) (w : World) (ha : HL w 0 va l) (hb : HL w 0 vb q)
    (ih : ∀ x ∈ l, ∀ (y : Wr) (L M : Value) (w : World), HL w 0 L x.l → HL w 0 M y.l → Calls Tryd.prog 17 #[.agg #[.int .i64 x.k, .int .i64 x.n, .string x.s, L], .agg #[.int .i64 y.k, .int .i64 y.n, .string y.s, M]] w fun e w' => e = .returned (.bool (x.same y)) ∧ w.grownBy w' none) :
    Calls Tryd.prog 17 #[.agg #[.int .i64 k, .int .i64 n, .string s, va], .agg #[.int .i64 k, .int .i64 n, .string s, vb]] w fun e w' => e = .returned (.bool (sameAll l q)) ∧ w.grownBy w' none := by
  obtain ⟨A, c, rfl⟩ := ha.slice
  obtain ⟨A2, c2, rfl⟩ := hb.slice
  have hlen := ha.len
  obtain ⟨N, HN⟩ : ∃ N : Nat, Hid (N = l.length) := ⟨_, rfl⟩
  have HNq : Hid (N = q.length) := by show _ = _; rw [HN.out, hlq]
  have Ha := Lib.hid ha
  have Hb := Lib.hid hb
  have Hih := Lib.hid ih
  clear ha hb ih hlq
  rw [← HN.out] at Ha hlen ⊢
  rw [← HNq.out] at Hb ⊢
  go_enter Tryd.func17, Tryd.ntmps17
  go_wp2_with fail
  go_loopw [5] (fun i wr => ∃ j : Nat, j ≤ N ∧ i = .int .i64 j ∧ Hid (sameAll l q = sameAll (l.drop j) (q.drop j)) ∧ Hid (((w.alloc (.cells #[.int .i64 k, .int .i64 n, .string s, .slice A N c] 24)).alloc (.cells #[.int .i64 k, .int .i64 n, .string s, .slice A2 N c2] 24)).grownBy wr none)) (fun i _ => N - (intOf i).toNat)
  case atStart => exact ⟨0, Nat.zero_le _, rfl, rfl, gb_refl _ _⟩
  case round =>
    obtain ⟨j, hj, rfl, Hs, Hg⟩ := hrel
    have hgw := gb_none (gb_alloc (gb_alloc (gb_refl w none) (.cells #[.int .i64 k, .int .i64 n, .string s, .slice A N c] 24)) (.cells #[.int .i64 k, .int .i64 n, .string s, .slice A2 N c2] 24)) Hg.out
    have Hgw := Lib.hid hgw
    obtain ⟨⟨b0, b1, b2, b3⟩, _, hbl⟩ := box4 (show wr.heap[w.heap.size]? = some (.cells #[.int .i64 k, .int .i64 n, .string s, .slice A N c] 24 (0, 0)) from (Hg.out.block _ (by simp; omega) (by simp)).trans ((Below.heap_alloc _ _ w.heap.size (by simp)).trans (heap_alloc_new w _)))
    obtain ⟨⟨d0, d1, d2, d3⟩, _, hdl⟩ := box4 (show wr.heap[w.heap.size + 1]? = some (.cells #[.int .i64 k, .int .i64 n, .string s, .slice A2 N c2] 24 (0, 0)) from (Hg.out.block _ (by simp) (by simp)).trans (by have := heap_alloc_new (w.alloc (.cells #[.int .i64 k, .int .i64 n, .string s, .slice A N c] 24)) (.cells #[.int .i64 k, .int .i64 n, .string s, .slice A2 N c2] 24); simpa using this))
    clear hgw b0 b1 b2 d0 d1 d2
    by_cases hlt : j < N
    · have z1 : decide (j < N) = true := decide_eq_true hlt
      obtain ⟨x, hx⟩ : ∃ x, l[j]? = some x := ⟨_, List.getElem?_eq_getElem (by rw [← HN.out]; exact hlt)⟩
      obtain ⟨y, hy⟩ : ∃ y, q[j]? = some y := ⟨_, List.getElem?_eq_getElem (by rw [← HNq.out]; exact hlt)⟩
      obtain ⟨g, o, B, m, rfl, _, hgs, c0, c1, c2', c3, hxl⟩ := (Ha.out.kept Hgw.out).item hx
      obtain ⟨g2, o2, B2, m2, rfl, _, hgs2, e0, e1, e2', e3, hyl⟩ := (Hb.out.kept Hgw.out).item hy
      have Hx := Lib.hid hx
      have Hxl := Lib.hid hxl
      have Hyl := Lib.hid hyl
      have hd := sameAll_drop l q j x y hx hy
      have Hd := Lib.hid hd
      clear hx hy hxl hyl hd
      go_wp2_with fail
      refine wp_region_quiet_tail 10 (by kernel_rfl) (by kernel_rfl) ?_
      simp only [List.take_succ_cons, List.take_zero, List.drop_succ_cons, List.drop_zero]
      iterate 10 (go_big_quiet_step (fail))
      refine wpQuiet_nil ?_
      go_wp2_with fail
      refine (Hih.out x (List.mem_of_getElem? Hx.out) y _ _ _ (Hxl.out.kept (gb_drew (gb_refl _ _))) (Hyl.out.kept (gb_drew (gb_refl _ _)))).mono ?_
      rintro e w2 ⟨rfl, gg⟩
      have Hg2 := Lib.hid (gb_none (gb_drew Hg.out) gg)
      have Hgw2 := Lib.hid (gb_none (gb_drew Hgw.out) gg)
      clear gg
      cases hxy : x.same y with
      | true =>
        have Hd2 : Hid (sameAll l q = sameAll (l.drop (j + 1)) (q.drop (j + 1))) := by
          show _ = _
          rw [Hs.out, Hd.out, hxy, Bool.true_and]
        clear hxy
        go_wp2_with fail
        go_roundw
        case rel => exact ⟨j + 1, by omega, by go_num, Hd2, Hg2⟩
        case measure => simp [intOf]; omega
      | false =>
        have Hd2 : Hid (sameAll l q = false) := by
          show _ = _
          rw [Hs.out, Hd.out, hxy, Bool.false_and]
        clear hxy
        go_wp2_with fail
        go_ret
        exact ⟨ret_bool Hd2.out.symm, Hgw2.out⟩
    · have z1 : decide (j < N) = false := decide_eq_false hlt
      have Hd2 : Hid (sameAll l q = true) := by
        show _ = _
        rw [Hs.out, List.drop_eq_nil_of_le (by rw [← HN.out]; omega), sameAll_nil]
      clear hlt
      go_wp2_with fail
      go_ret
      exact ⟨ret_bool Hd2.out.symm, Hgw.out⟩
theorem same_any : ∀ (x y : Wr) (L M : Value) (w : World), HL w 0 L x.l → HL w 0 M y.l → Calls Tryd.prog 17 #[.agg #[.int .i64 x.k, .int .i64 x.n, .string x.s, L], .agg #[.int .i64 y.k, .int .i64 y.n, .string y.s, M]] w fun e w' => e = .returned (.bool (x.same y)) ∧ w.grownBy w' none
  | .mk k n s l, .mk k' n' s' l', L, M, w, hL, hM => by
    replace hL : HL w 0 L l := hL
    replace hM : HL w 0 M l' := hM
    obtain ⟨A, c, rfl⟩ := hL.slice
    obtain ⟨A2, c2, rfl⟩ := hM.slice
    show Calls Tryd.prog 17 #[.agg #[.int .i64 k, .int .i64 n, .string s, .slice A l.length c], .agg #[.int .i64 k', .int .i64 n', .string s', .slice A2 l'.length c2]] w fun e w' => e = .returned (.bool ((Wr.mk k n s l).same (.mk k' n' s' l'))) ∧ w.grownBy w' none
    rw [same_mk]
    cases h1 : (k == k') with
    | false => exact same_nokind k k' n n' s s' l.length l'.length h1 A A2 c c2 w
    | true =>
    obtain rfl := beq_iff_eq.1 h1
    cases h2 : (n == n') with
    | false => exact same_nonum k n n' s s' l.length l'.length h2 A A2 c c2 w
    | true =>
    obtain rfl := beq_iff_eq.1 h2
    cases h3 : (s.toList == s'.toList) with
    | false => exact same_notext k n s s' l.length l'.length h3 A A2 c c2 w
    | true =>
    obtain rfl := text_ext (beq_iff_eq.1 h3)
    cases h4 : (l.length == l'.length) with
    | false => exact same_nolen k n s l.length l'.length h4 A A2 c c2 w
    | true => exact same_goes k n s l l' (beq_iff_eq.1 h4) _ _ w hL hM (fun x hx y L M w h1 h2 => same_any x y L M w h1 h2)
termination_by x => SizeOf.sizeOf x
decreasing_by
  have := List.sizeOf_lt_of_mem hx
  simp
  omega
end Go.Proofs.YtbammjhafgbfkaaDoor
