/- slices.EqualFunc at the wires, wire.Same. -/
import Derived.Test.YtbammjhafgbfkaaDoorVSame
import Derived.Test.YtbammjhafgbfkaaDoorVFit
namespace Go.Proofs.YtbammjhafgbfkaaDoor
open Go.RowKit Mm Vw

set_option maxHeartbeats 4000000 in
set_option maxRecDepth 100000 in
theorem eqf_goes (l q : List Wr) (va vb : Value) (w : World) (ha : HL w 0 va l) (hb : HL w 0 vb q)
    (ih : ∀ x ∈ l, ∀ (y : Wr) (L M : Value) (w : World), HL w 0 L x.l → HL w 0 M y.l → Calls Tryd.prog 16 #[.agg #[.int .i64 x.k, .int .i64 x.n, .string x.s, L], .agg #[.int .i64 y.k, .int .i64 y.n, .string y.s, M]] w fun e w' => e = .returned (.bool (x.same y)) ∧ w.grownBy w' none) :
    Calls Tryd.prog 33 #[va, vb, .func (.func 16) #[] #[]] w fun e w' => e = .returned (.bool (l.length == q.length && sameAll l q)) ∧ w.grownBy w' none := by
  obtain ⟨A, c, rfl⟩ := ha.slice
  obtain ⟨A2, c2, rfl⟩ := hb.slice
  by_cases hlq : l.length = q.length
  · have hlen := ha.len
    obtain ⟨N, HN⟩ : ∃ N : Nat, Hid (N = l.length) := ⟨_, rfl⟩
    have HNq : Hid (N = q.length) := by show _ = _; rw [HN.out, hlq]
    have hres : (l.length == q.length && sameAll l q) = sameAll l q := by rw [hlq]; simp
    have Ha := Lib.hid ha
    have Hb := Lib.hid hb
    have Hih := Lib.hid ih
    rw [hres]
    clear ha hb ih hlq hres
    rw [← HN.out] at Ha hlen ⊢
    rw [← HNq.out] at Hb ⊢
    go_enter Tryd.func33, Tryd.ntmps33
    go_wp2_with fail
    go_loopw [17] (fun i wr => ∃ j : Nat, j ≤ N ∧ i = .int .i64 j ∧ Hid (sameAll l q = sameAll (l.drop j) (q.drop j)) ∧ Hid (w.grownBy wr none)) (fun i _ => N - (intOf i).toNat)
    case atStart => exact ⟨0, Nat.zero_le _, rfl, rfl, gb_refl _ _⟩
    case round =>
      obtain ⟨j, hj, rfl, Hs, Hg⟩ := hrel
      by_cases hlt : j < N
      · have z1 : decide (j < N) = true := decide_eq_true hlt
        obtain ⟨x, hx⟩ : ∃ x, l[j]? = some x := ⟨_, List.getElem?_eq_getElem (by rw [← HN.out]; exact hlt)⟩
        obtain ⟨y, hy⟩ : ∃ y, q[j]? = some y := ⟨_, List.getElem?_eq_getElem (by rw [← HNq.out]; exact hlt)⟩
        obtain ⟨g, o, B, m, rfl, _, hgs, c0, c1, c2', c3, hxl⟩ := (Ha.out.kept Hg.out).item hx
        obtain ⟨g2, o2, B2, m2, rfl, _, hgs2, e0, e1, e2', e3, hyl⟩ := (Hb.out.kept Hg.out).item hy
        have Hx := Lib.hid hx
        have Hxl := Lib.hid hxl
        have Hyl := Lib.hid hyl
        have Hd := Lib.hid (sameAll_drop l q j x y hx hy)
        clear hx hy hxl hyl
        go_wp2_with fail
        refine (Hih.out x (List.mem_of_getElem? Hx.out) y _ _ _ (Hxl.out.kept (gb_alloc (gb_alloc (gb_refl _ _) _) _)) (Hyl.out.kept (gb_alloc (gb_alloc (gb_refl _ _) _) _))).mono ?_
        rintro e w2 ⟨rfl, gg⟩
        have Hg2 := Lib.hid (gb_none (gb_alloc (gb_alloc Hg.out _) _) gg)
        clear gg
        cases hxy : x.same y with
        | true =>
          have Hd2 : Hid (sameAll l q = sameAll (l.drop (j + 1)) (q.drop (j + 1))) := by
            show _ = _
            rw [Hs.out, Hd.out, hxy, Bool.true_and]
          clear hxy
          go_wp2_with fail
          go_roundw
          case rel => exact ⟨j + 1, by omega, by go_num, Hd2, Hg2⟩
          case measure => simp [intOf]; omega
        | false =>
          have Hd2 : Hid (sameAll l q = false) := by
            show _ = _
            rw [Hs.out, Hd.out, hxy, Bool.false_and]
          clear hxy
          go_wp2_with fail
          go_ret
          exact ⟨ret_bool Hd2.out.symm, Hg2.out⟩
      · have z1 : decide (j < N) = false := decide_eq_false hlt
        have Hd2 : Hid (sameAll l q = true) := by
          show _ = _
          rw [Hs.out, List.drop_eq_nil_of_le (by rw [← HN.out]; omega), sameAll_nil]
        clear hlt
        go_wp2_with fail
        go_ret
        exact ⟨ret_bool Hd2.out.symm, Hg.out⟩
  · have t0 : (l.length == q.length) = false := by simpa using hlq
    have t1 : ((l.length : Int) == (q.length : Int)) = false := by
      simp only [beq_eq_false_iff_ne, ne_eq]; omega
    have t2 : ((l.length : Int) != (q.length : Int)) = true := by simp only [bne, t1]; rfl
    rw [t0, Bool.false_and]
    clear t0 hlq ha hb ih
    generalize l.length = a at *
    generalize q.length = b at *
    go_enter Tryd.func33, Tryd.ntmps33
    go_wp2_with fail
    go_ret
    exact ⟨rfl, gb_refl _ _⟩
set_option maxHeartbeats 1000000 in
/-- Where kind, number or text differ. -/
theorem samew_not (k k2 n n2 : Int) (s s2 : ByteArray) (len len2 : Nat) (h : (k == k2 && n == n2 && s.toList == s2.toList) = false) (A A2 : Option Addr) (c c2 : Nat) (w : World) : Calls Tryd.prog 16 #[.agg #[.int .i64 k, .int .i64 n, .string s, .slice A len c], .agg #[.int .i64 k2, .int .i64 n2, .string s2, .slice A2 len2 c2]] w fun e w' => e = .returned (.bool false) ∧ w.grownBy w' none := by
  cases h1 : (k == k2) with
  | false =>
    clear h
    go_enter Tryd.func16, Tryd.ntmps16
    go_wp2_with fail
    go_ret
    exact ⟨rfl, gb_alloc (gb_alloc (gb_refl _ _) _) _⟩
  | true =>
  cases h2 : (n == n2) with
  | false =>
    clear h
    go_enter Tryd.func16, Tryd.ntmps16
    go_wp2_with fail
    go_ret
    exact ⟨rfl, gb_alloc (gb_alloc (gb_refl _ _) _) _⟩
  | true =>
    have h3 : (s.toList == s2.toList) = false := by rw [h1, h2] at h; simpa using h
    clear h
    go_enter Tryd.func16, Tryd.ntmps16
    go_wp2_with fail
    go_ret
    exact ⟨rfl, gb_alloc (gb_alloc (gb_refl _ _) _) _⟩
set_option maxHeartbeats 1000000 in
theorem samew_yes (k n : Int) (s : ByteArray) (l q : List Wr) (va vb : Value) (w : World) (ha : HL w 0 va l) (hb : HL w 0 vb q)
    (ih : ∀ (va vb : Value) (w : World), HL w 0 va l → HL w 0 vb q → Calls Tryd.prog 33 #[va, vb, .func (.func 16) #[] #[]] w fun e w' => e = .returned (.bool (l.length == q.length && sameAll l q)) ∧ w.grownBy w' none) :
    Calls Tryd.prog 16 #[.agg #[.int .i64 k, .int .i64 n, .string s, va], .agg #[.int .i64 k, .int .i64 n, .string s, vb]] w fun e w' => e = .returned (.bool (l.length == q.length && sameAll l q)) ∧ w.grownBy w' none := by
  obtain ⟨A, c, rfl⟩ := ha.slice
  obtain ⟨A2, c2, rfl⟩ := hb.slice
  have Ha := Lib.hid ha
  have Hb := Lib.hid hb
  have Hih := Lib.hid ih
  clear ha hb ih
  generalize (l.length == q.length && sameAll l q) = r at *
  go_enter Tryd.func16, Tryd.ntmps16
  go_wp2_with fail
  refine (Hih.out _ _ _ (Ha.out.kept (gb_alloc (gb_alloc (gb_refl _ _) _) _)) (Hb.out.kept (gb_alloc (gb_alloc (gb_refl _ _) _) _))).mono ?_
  rintro e w2 ⟨rfl, gg⟩
  have Hg2 := Lib.hid (gb_none (gb_alloc (gb_alloc (gb_refl w none) _) _) gg)
  clear gg
  go_wp2_with fail
  go_ret
  exact ⟨rfl, Hg2.out⟩
theorem samew_any : ∀ (x y : Wr) (L M : Value) (w : World), HL w 0 L x.l → HL w 0 M y.l → Calls Tryd.prog 16 #[.agg #[.int .i64 x.k, .int .i64 x.n, .string x.s, L], .agg #[.int .i64 y.k, .int .i64 y.n, .string y.s, M]] w fun e w' => e = .returned (.bool (x.same y)) ∧ w.grownBy w' none
  | .mk k n s l, .mk k' n' s' l', L, M, w, hL, hM => by
    replace hL : HL w 0 L l := hL
    replace hM : HL w 0 M l' := hM
    show Calls Tryd.prog 16 #[.agg #[.int .i64 k, .int .i64 n, .string s, L], .agg #[.int .i64 k', .int .i64 n', .string s', M]] w fun e w' => e = .returned (.bool ((Wr.mk k n s l).same (.mk k' n' s' l'))) ∧ w.grownBy w' none
    rw [same_mk]
    cases h1 : (k == k' && n == n' && s.toList == s'.toList) with
    | false =>
      rw [Bool.false_and, Bool.false_and]
      obtain ⟨A, c, rfl⟩ := hL.slice
      obtain ⟨A2, c2, rfl⟩ := hM.slice
      exact samew_not k k' n n' s s' l.length l'.length h1 A A2 c c2 w
    | true =>
      rw [Bool.true_and]
      simp only [Bool.and_eq_true, beq_iff_eq] at h1
      obtain ⟨⟨rfl, rfl⟩, hs⟩ := h1
      obtain rfl := text_ext hs
      exact samew_yes k n s l l' L M w hL hM (fun va vb w' h1 h2 => eqf_goes l l' va vb w' h1 h2 (fun x hx y L M w h1 h2 => samew_any x y L M w h1 h2))
termination_by x => SizeOf.sizeOf x
decreasing_by
  have := List.sizeOf_lt_of_mem hx
  simp
  omega
end Go.Proofs.YtbammjhafgbfkaaDoor
