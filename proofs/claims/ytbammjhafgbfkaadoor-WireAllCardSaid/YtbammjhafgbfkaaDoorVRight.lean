/- The document's right. -/
import Derived.Test.YtbammjhafgbfkaaDoorVSame
import Derived.Test.YtbammjhafgbfkaaDoorVFit
namespace Go.Proofs.YtbammjhafgbfkaaDoor
open Go.RowKit Mm Vw

set_option maxHeartbeats 1000000 in
theorem right_num (n room : Int) (s : ByteArray) (A : Option Addr) (len c : Nat) (w : World) :
    Calls Tryd.prog 26 #[.agg #[.int .i64 1, .int .i64 n, .string s, .slice A len c], .int .i64 room] w fun e w' => e = .returned (.bool (s.size == 0 && len == 0)) ∧ w.grownBy w' none := by
  by_cases hs : s.size = 0
  · obtain rfl := size_zero hs
    clear hs
    go_enter Tryd.func26, Tryd.ntmps26
    go_wp2_with fail
    go_ret
    exact ⟨ret_bool (cast_zero len), gb_alloc (gb_refl _ _) _⟩
  · have h1 := list_ne hs
    have h2 : (s.size == 0) = false := by simpa using hs
    rw [h2]
    clear h2 hs
    go_enter Tryd.func26, Tryd.ntmps26
    go_wp2_with fail
    go_ret
    exact ⟨ret_bool (by simp), gb_alloc (gb_refl _ _) _⟩
set_option maxHeartbeats 1000000 in
theorem right_text (n room : Int) (s : ByteArray) (A : Option Addr) (len c : Nat) (w : World) :
    Calls Tryd.prog 26 #[.agg #[.int .i64 2, .int .i64 n, .string s, .slice A len c], .int .i64 room] w fun e w' => e = .returned (.bool (n == 0 && decide (s.size ≤ 1048576) && len == 0)) ∧ w.grownBy w' none := by
  by_cases hn : n = 0
  · subst hn
    by_cases hl : len = 0
    · subst hl
      by_cases hs : s.size ≤ 1048576
      · have d1 : decide ((s.size : Int) ≤ 1048576) = true := decide_eq_true (by omega)
        have d2 : decide (s.size ≤ 1048576) = true := decide_eq_true hs
        rw [d2]
        clear d2
        go_enter Tryd.func26, Tryd.ntmps26
        go_wp2_with fail
        go_ret
        exact ⟨rfl, gb_alloc (gb_refl _ _) _⟩
      · have d1 : decide ((s.size : Int) ≤ 1048576) = false := decide_eq_false (by omega)
        have d2 : decide (s.size ≤ 1048576) = false := decide_eq_false hs
        rw [d2]
        clear d2 hs
        go_enter Tryd.func26, Tryd.ntmps26
        go_wp2_with fail
        go_ret
        exact ⟨rfl, gb_alloc (gb_refl _ _) _⟩
    · have h2 : ((len : Int) == 0) = false := by simpa using hl
      have h3 : (len == 0) = false := by simpa using hl
      rw [h3, Bool.and_false]
      clear h3 hl
      go_enter Tryd.func26, Tryd.ntmps26
      go_wp2_with fail
      go_ret
      exact ⟨rfl, gb_alloc (gb_refl _ _) _⟩
  · have h2 : (n == 0) = false := by simpa using hn
    rw [h2]
    clear hn
    go_enter Tryd.func26, Tryd.ntmps26
    go_wp2_with fail
    go_ret
    exact ⟨ret_bool (by simp), gb_alloc (gb_refl _ _) _⟩
set_option maxHeartbeats 1000000 in
theorem right_none (k n room : Int) (s : ByteArray) (A : Option Addr) (len c : Nat) (w : World) (h1 : k ≠ 1) (h2 : k ≠ 2) (h3 : k ≠ 3) :
    Calls Tryd.prog 26 #[.agg #[.int .i64 k, .int .i64 n, .string s, .slice A len c], .int .i64 room] w fun e w' => e = .returned (.bool false) ∧ w.grownBy w' none := by
  have t1 : (k == 1) = false := by simpa using h1
  have t2 : (k == 2) = false := by simpa using h2
  have t3 : (k == 3) = false := by simpa using h3
  clear h1 h2 h3
  go_enter Tryd.func26, Tryd.ntmps26
  go_wp2_with fail
  go_ret
  exact ⟨ret_bool (by simp), gb_alloc (gb_refl _ _) _⟩

set_option maxHeartbeats 1000000 in
theorem right_listno (n room : Int) (s : ByteArray) (A : Option Addr) (len c : Nat) (w : World) (h : (headB n s room && decide (len ≤ 65536)) = false) :
    Calls Tryd.prog 26 #[.agg #[.int .i64 3, .int .i64 n, .string s, .slice A len c], .int .i64 room] w fun e w' => e = .returned (.bool false) ∧ w.grownBy w' none := by
  unfold headB at h
  by_cases hn : n = 0
  · subst hn
    by_cases hs : s.size = 0
    · obtain rfl := size_zero hs
      by_cases hl : len ≤ 65536
      · have d1 : decide (room < 1) = true := decide_eq_true (by
          rcases Int.lt_or_le 0 room with hp | hp
          · exfalso
            rw [decide_eq_true hp, decide_eq_true hl] at h
            simp [ByteArray.size] at h
          · omega)
        have d2 : decide ((65536 : Int) < (len : Int)) = false := decide_eq_false (by omega)
        clear h hs hl
        go_enter Tryd.func26, Tryd.ntmps26
        go_wp2_with fail
        go_ret
        exact ⟨ret_bool (by simp), gb_alloc (gb_refl _ _) _⟩
      · have d2 : decide ((65536 : Int) < (len : Int)) = true := decide_eq_true (by omega)
        clear h hs hl
        go_enter Tryd.func26, Tryd.ntmps26
        go_wp2_with fail
        go_ret
        exact ⟨ret_bool (by simp), gb_alloc (gb_refl _ _) _⟩
    · have h1 := list_ne hs
      clear hs h
      go_enter Tryd.func26, Tryd.ntmps26
      go_wp2_with fail
      go_ret
      exact ⟨ret_bool (by simp), gb_alloc (gb_refl _ _) _⟩
  · have h2 : (n == 0) = false := by simpa using hn
    have h3 : (n != 0) = true := by simpa using hn
    clear hn h
    go_enter Tryd.func26, Tryd.ntmps26
    go_wp2_with fail
    go_ret
    exact ⟨ret_bool (by simp), gb_alloc (gb_refl _ _) _⟩
set_option maxHeartbeats 4000000 in
set_option maxRecDepth 100000 in
theorem right_goes (room : Int) (l : List Wr) (hr1 : 0 < room) (hr2 : room ≤ 100) (hl : l.length ≤ 65536) (va : Value) (w : World) (ha : HL w 0 va l)
    (ih : ∀ x ∈ l, ∀ (L : Value) (w : World), HL w 0 L x.l → Calls Tryd.prog 26 #[.agg #[.int .i64 x.k, .int .i64 x.n, .string x.s, L], .int .i64 (room - 1)] w fun e w' => e = .returned (.bool (x.fit (room - 1))) ∧ w.grownBy w' none) :
    Calls Tryd.prog 26 #[.agg #[.int .i64 3, .int .i64 0, .string ⟨#[]⟩, va], .int .i64 room] w fun e w' => e = .returned (.bool (allFit (room - 1) l)) ∧ w.grownBy w' none := by
  obtain ⟨A, c, rfl⟩ := ha.slice
  have d1 : decide (room < 1) = false := decide_eq_false (by omega)
  obtain ⟨N, HN⟩ : ∃ N : Nat, Hid (N = l.length) := ⟨_, rfl⟩
  have Ha := Lib.hid ha
  have Hih := Lib.hid ih
  clear ha ih
  rw [← HN.out] at Ha hl ⊢
  have d2 : decide ((65536 : Int) < (N : Int)) = false := decide_eq_false (by omega)
  go_enter Tryd.func26, Tryd.ntmps26
  go_wp2_with fail
  go_loopw [5] (fun i wr => ∃ j : Nat, j ≤ N ∧ i = .int .i64 j ∧ Hid (allFit (room - 1) l = allFit (room - 1) (l.drop j)) ∧ Hid ((w.alloc (.cells #[.int .i64 3, .int .i64 0, .string ⟨#[]⟩, .slice A N c] 24)).grownBy wr none)) (fun i _ => N - (intOf i).toNat)
  case atStart => exact ⟨0, Nat.zero_le _, rfl, rfl, gb_refl _ _⟩
  case round =>
    obtain ⟨j, hj, rfl, Hs, Hg⟩ := hrel
    have hgw := gb_none (gb_alloc (gb_refl w none) (.cells #[.int .i64 3, .int .i64 0, .string ⟨#[]⟩, .slice A N c] 24)) Hg.out
    have Hgw := Lib.hid hgw
    obtain ⟨⟨b0, b1, b2, b3⟩, _, hbl⟩ := box4 (show wr.heap[w.heap.size]? = some (.cells #[.int .i64 3, .int .i64 0, .string ⟨#[]⟩, .slice A N c] 24 (0, 0)) from (Hg.out.block _ (by simp) (by simp)).trans (heap_alloc_new w _))
    clear hgw b0 b1 b2
    by_cases hlt : j < N
    · have z1 : decide (j < N) = true := decide_eq_true hlt
      obtain ⟨x, hx⟩ : ∃ x, l[j]? = some x := ⟨_, List.getElem?_eq_getElem (by rw [← HN.out]; exact hlt)⟩
      obtain ⟨g, o, B, m, rfl, _, hgs, c0, c1, c2', c3, hxl⟩ := (Ha.out.kept Hgw.out).item hx
      have Hx := Lib.hid hx
      have Hxl := Lib.hid hxl
      have hd := allFit_drop (room - 1) l j x hx
      have Hd := Lib.hid hd
      clear hx hxl hd
      go_wp2_with fail
      refine (Hih.out x (List.mem_of_getElem? Hx.out) _ _ Hxl.out).mono ?_
      rintro e w2 ⟨rfl, gg⟩
      have Hg2 := Lib.hid (gb_none Hg.out gg)
      have Hgw2 := Lib.hid (gb_none Hgw.out gg)
      clear gg
      cases hxy : x.fit (room - 1) with
      | true =>
        have Hd2 : Hid (allFit (room - 1) l = allFit (room - 1) (l.drop (j + 1))) := by
          show _ = _
          rw [Hs.out, Hd.out, hxy, Bool.true_and]
        clear hxy
        go_wp2_with fail
        go_roundw
        case rel => exact ⟨j + 1, by omega, by go_num, Hd2, Hg2⟩
        case measure => simp [intOf]; omega
      | false =>
        have Hd2 : Hid (allFit (room - 1) l = false) := by
          show _ = _
          rw [Hs.out, Hd.out, hxy, Bool.false_and]
        clear hxy
        go_wp2_with fail
        go_ret
        exact ⟨ret_bool Hd2.out.symm, Hgw2.out⟩
    · have z1 : decide (j < N) = false := decide_eq_false hlt
      have Hd2 : Hid (allFit (room - 1) l = true) := by
        show _ = _
        rw [Hs.out, List.drop_eq_nil_of_le (by rw [← HN.out]; omega), allFit_nil]
      clear hlt
      go_wp2_with fail
      go_ret
      exact ⟨ret_bool Hd2.out.symm, Hgw.out⟩
theorem right_any : ∀ (x : Wr) (room : Int), -100 ≤ room → room ≤ 100 → ∀ (L : Value) (w : World), HL w 0 L x.l →
    Calls Tryd.prog 26 #[.agg #[.int .i64 x.k, .int .i64 x.n, .string x.s, L], .int .i64 room] w fun e w' => e = .returned (.bool (x.fit room)) ∧ w.grownBy w' none
  | .mk k n s l, room, hr1, hr2, L, w, hL => by
    have hL' : HL w 0 L l := hL
    obtain ⟨A, c, rfl⟩ := hL'.slice
    show Calls Tryd.prog 26 #[.agg #[.int .i64 k, .int .i64 n, .string s, .slice A l.length c], .int .i64 room] w fun e w' => e = .returned (.bool ((Wr.mk k n s l).fit room)) ∧ w.grownBy w' none
    rw [fit_mk]
    by_cases h1 : k = 1
    · subst h1; rw [if_pos rfl]; exact right_num n room s A l.length c w
    by_cases h2 : k = 2
    · subst h2; rw [if_neg (by decide), if_pos rfl]; exact right_text n room s A l.length c w
    by_cases h3 : k = 3
    · subst h3; rw [if_neg (by decide), if_neg (by decide), if_pos rfl, ← Bool.and_assoc]
      cases hb : (headB n s room && decide (l.length ≤ 65536)) with
      | false =>
        have hb' := hb
        unfold headB at hb'
        rw [hb', Bool.false_and]
        exact right_listno n room s A l.length c w hb
      | true =>
        have hb' := hb
        unfold headB at hb'
        rw [hb', Bool.true_and]
        simp only [Bool.and_eq_true, beq_iff_eq, decide_eq_true_eq] at hb'
        obtain ⟨⟨⟨rfl, hs⟩, hr⟩, hl⟩ := hb'
        obtain rfl := size_zero hs
        exact right_goes room l hr hr2 hl _ w hL' (fun x hx L w hxl => right_any x (room - 1) (by omega) (by omega) L w hxl)
    · rw [if_neg h1, if_neg h2, if_neg h3]; exact right_none k n room s A l.length c w h1 h2 h3
termination_by x => SizeOf.sizeOf x
decreasing_by
  have := List.sizeOf_lt_of_mem hx
  simp
  omega
end Go.Proofs.YtbammjhafgbfkaaDoor
