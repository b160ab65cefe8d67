/- The document's right. The document's deep, MayWire. The document's Eight and four, of whatever number. The document's put: a wire's bytes behind a row of bytes. The document's PutWire. -/
import Derived.Test.YtaecfcodldbnhaaVC
import Derived.Test.YtaecfcodldbnhaaVA
import Derived.Test.YtaecfcodldbnhaaVD
namespace Go.Proofs.Ytaecfcodldbnhaa
open Go.RowKit Mm Vw

set_option maxHeartbeats 1000000 in
theorem right_num (n room : Int) (s : ByteArray) (A : Option Addr) (len c : Nat) (w : World) :
    Calls Try.prog 30 #[.agg #[.int .i64 1, .int .i64 n, .string s, .slice A len c], .int .i64 room] w fun e w' => e = .returned (.bool (s.size == 0 && len == 0)) ∧ w.grownBy w' none := by
  by_cases hs : s.size = 0
  · obtain rfl := size_zero hs
    clear hs
    go_enter Try.func30, Try.ntmps30
    go_wp2_with fail
    go_ret
    exact ⟨ret_bool (cast_zero len), gb_alloc (gb_refl _ _) _⟩
  · have h1 := list_ne hs
    have h2 : (s.size == 0) = false := by simpa using hs
    rw [h2]
    clear h2 hs
    go_enter Try.func30, Try.ntmps30
    go_wp2_with fail
    go_ret
    exact ⟨ret_bool (by simp), gb_alloc (gb_refl _ _) _⟩
set_option maxHeartbeats 1000000 in
theorem right_text (n room : Int) (s : ByteArray) (A : Option Addr) (len c : Nat) (w : World) :
    Calls Try.prog 30 #[.agg #[.int .i64 2, .int .i64 n, .string s, .slice A len c], .int .i64 room] w fun e w' => e = .returned (.bool (n == 0 && decide (s.size ≤ 1048576) && len == 0)) ∧ w.grownBy w' none := by
  by_cases hn : n = 0
  · subst hn
    by_cases hl : len = 0
    · subst hl
      by_cases hs : s.size ≤ 1048576
      · have d1 : decide ((s.size : Int) ≤ 1048576) = true := decide_eq_true (by omega)
        have d2 : decide (s.size ≤ 1048576) = true := decide_eq_true hs
        rw [d2]
        clear d2
        go_enter Try.func30, Try.ntmps30
        go_wp2_with fail
        go_ret
        exact ⟨rfl, gb_alloc (gb_refl _ _) _⟩
      · have d1 : decide ((s.size : Int) ≤ 1048576) = false := decide_eq_false (by omega)
        have d2 : decide (s.size ≤ 1048576) = false := decide_eq_false hs
        rw [d2]
        clear d2 hs
        go_enter Try.func30, Try.ntmps30
        go_wp2_with fail
        go_ret
        exact ⟨rfl, gb_alloc (gb_refl _ _) _⟩
    · have h2 : ((len : Int) == 0) = false := by simpa using hl
      have h3 : (len == 0) = false := by simpa using hl
      rw [h3, Bool.and_false]
      clear h3 hl
      go_enter Try.func30, Try.ntmps30
      go_wp2_with fail
      go_ret
      exact ⟨rfl, gb_alloc (gb_refl _ _) _⟩
  · have h2 : (n == 0) = false := by simpa using hn
    rw [h2]
    clear hn
    go_enter Try.func30, Try.ntmps30
    go_wp2_with fail
    go_ret
    exact ⟨ret_bool (by simp), gb_alloc (gb_refl _ _) _⟩
set_option maxHeartbeats 1000000 in
theorem right_none (k n room : Int) (s : ByteArray) (A : Option Addr) (len c : Nat) (w : World) (h1 : k ≠ 1) (h2 : k ≠ 2) (h3 : k ≠ 3) :
    Calls Try.prog 30 #[.agg #[.int .i64 k, .int .i64 n, .string s, .slice A len c], .int .i64 room] w fun e w' => e = .returned (.bool false) ∧ w.grownBy w' none := by
  have t1 : (k == 1) = false := by simpa using h1
  have t2 : (k == 2) = false := by simpa using h2
  have t3 : (k == 3) = false := by simpa using h3
  clear h1 h2 h3
  go_enter Try.func30, Try.ntmps30
  go_wp2_with fail
  go_ret
  exact ⟨ret_bool (by simp), gb_alloc (gb_refl _ _) _⟩

set_option maxHeartbeats 1000000 in
theorem right_listno (n room : Int) (s : ByteArray) (A : Option Addr) (len c : Nat) (w : World) (h : (headB n s room && decide (len ≤ 65536)) = false) :
    Calls Try.prog 30 #[.agg #[.int .i64 3, .int .i64 n, .string s, .slice A len c], .int .i64 room] w fun e w' => e = .returned (.bool false) ∧ w.grownBy w' none := by
  unfold headB at h
  by_cases hn : n = 0
  · subst hn
    by_cases hs : s.size = 0
    · obtain rfl := size_zero hs
      by_cases hl : len ≤ 65536
      · have d1 : decide (room < 1) = true := decide_eq_true (by
          rcases Int.lt_or_le 0 room with hp | hp
          · exfalso
            rw [decide_eq_true hp, decide_eq_true hl] at h
            simp [ByteArray.size] at h
          · omega)
        have d2 : decide ((65536 : Int) < (len : Int)) = false := decide_eq_false (by omega)
        clear h hs hl
        go_enter Try.func30, Try.ntmps30
        go_wp2_with fail
        go_ret
        exact ⟨ret_bool (by simp), gb_alloc (gb_refl _ _) _⟩
      · have d2 : decide ((65536 : Int) < (len : Int)) = true := decide_eq_true (by omega)
        clear h hs hl
        go_enter Try.func30, Try.ntmps30
        go_wp2_with fail
        go_ret
        exact ⟨ret_bool (by simp), gb_alloc (gb_refl _ _) _⟩
    · have h1 := list_ne hs
      clear hs h
      go_enter Try.func30, Try.ntmps30
      go_wp2_with fail
      go_ret
      exact ⟨ret_bool (by simp), gb_alloc (gb_refl _ _) _⟩
  · have h2 : (n == 0) = false := by simpa using hn
    have h3 : (n != 0) = true := by simpa using hn
    clear hn h
    go_enter Try.func30, Try.ntmps30
    go_wp2_with fail
    go_ret
    exact ⟨ret_bool (by simp), gb_alloc (gb_refl _ _) _⟩
set_option maxHeartbeats 4000000 in
set_option maxRecDepth 100000 in
theorem right_goes (room : Int) (l : List Wr) (hr1 : 0 < room) (hr2 : room ≤ 100) (hl : l.length ≤ 65536) (va : Value) (w : World) (ha : HL w 0 va l)
    (ih : ∀ x ∈ l, ∀ (L : Value) (w : World), HL w 0 L x.l → Calls Try.prog 30 #[.agg #[.int .i64 x.k, .int .i64 x.n, .string x.s, L], .int .i64 (room - 1)] w fun e w' => e = .returned (.bool (x.fit (room - 1))) ∧ w.grownBy w' none) :
    Calls Try.prog 30 #[.agg #[.int .i64 3, .int .i64 0, .string ⟨#[]⟩, va], .int .i64 room] w fun e w' => e = .returned (.bool (allFit (room - 1) l)) ∧ w.grownBy w' none := by
  obtain ⟨A, c, rfl⟩ := ha.slice
  have d1 : decide (room < 1) = false := decide_eq_false (by omega)
  obtain ⟨N, HN⟩ : ∃ N : Nat, Hid (N = l.length) := ⟨_, rfl⟩
  have Ha := Lib.hid ha
  have Hih := Lib.hid ih
  clear ha ih
  rw [← HN.out] at Ha hl ⊢
  have d2 : decide ((65536 : Int) < (N : Int)) = false := decide_eq_false (by omega)
  go_enter Try.func30, Try.ntmps30
  go_wp2_with fail
  go_loopw [5] (fun i wr => ∃ j : Nat, j ≤ N ∧ i = .int .i64 j ∧ Hid (allFit (room - 1) l = allFit (room - 1) (l.drop j)) ∧ Hid ((w.alloc (.cells #[.int .i64 3, .int .i64 0, .string ⟨#[]⟩, .slice A N c] 54)).grownBy wr none)) (fun i _ => N - (intOf i).toNat)
  case atStart => exact ⟨0, Nat.zero_le _, rfl, rfl, gb_refl _ _⟩
  case round =>
    obtain ⟨j, hj, rfl, Hs, Hg⟩ := hrel
    have hgw := gb_none (gb_alloc (gb_refl w none) (.cells #[.int .i64 3, .int .i64 0, .string ⟨#[]⟩, .slice A N c] 54)) Hg.out
    have Hgw := Lib.hid hgw
    obtain ⟨⟨b0, b1, b2, b3⟩, _, hbl⟩ := box4 (show wr.heap[w.heap.size]? = some (.cells #[.int .i64 3, .int .i64 0, .string ⟨#[]⟩, .slice A N c] 54 (0, 0)) from (Hg.out.block _ (by simp) (by simp)).trans (heap_alloc_new w _))
    clear hgw b0 b1 b2
    by_cases hlt : j < N
    · have z1 : decide (j < N) = true := decide_eq_true hlt
      obtain ⟨x, hx⟩ : ∃ x, l[j]? = some x := ⟨_, List.getElem?_eq_getElem (by rw [← HN.out]; exact hlt)⟩
      obtain ⟨g, o, B, m, rfl, _, hgs, c0, c1, c2', c3, hxl⟩ := (Ha.out.kept Hgw.out).item hx
      have Hx := Lib.hid hx
      have Hxl := Lib.hid hxl
      have hd := allFit_drop (room - 1) l j x hx
      have Hd := Lib.hid hd
      clear hx hxl hd
      go_wp2_with fail
      refine (Hih.out x (List.mem_of_getElem? Hx.out) _ _ Hxl.out).mono ?_
      rintro e w2 ⟨rfl, gg⟩
      have Hg2 := Lib.hid (gb_none Hg.out gg)
      have Hgw2 := Lib.hid (gb_none Hgw.out gg)
      clear gg
      cases hxy : x.fit (room - 1) with
      | true =>
        have Hd2 : Hid (allFit (room - 1) l = allFit (room - 1) (l.drop (j + 1))) := by
          show _ = _
          rw [Hs.out, Hd.out, hxy, Bool.true_and]
        clear hxy
        go_wp2_with fail
        go_roundw
        case rel => exact ⟨j + 1, by omega, by go_num, Hd2, Hg2⟩
        case measure => simp [intOf]; omega
      | false =>
        have Hd2 : Hid (allFit (room - 1) l = false) := by
          show _ = _
          rw [Hs.out, Hd.out, hxy, Bool.false_and]
        clear hxy
        go_wp2_with fail
        go_ret
        exact ⟨ret_bool Hd2.out.symm, Hgw2.out⟩
    · have z1 : decide (j < N) = false := decide_eq_false hlt
      have Hd2 : Hid (allFit (room - 1) l = true) := by
        show _ = _
        rw [Hs.out, List.drop_eq_nil_of_le (by rw [← HN.out]; omega), allFit_nil]
      clear hlt
      go_wp2_with fail
      go_ret
      exact ⟨ret_bool Hd2.out.symm, Hgw.out⟩
theorem right_any : ∀ (x : Wr) (room : Int), -100 ≤ room → room ≤ 100 → ∀ (L : Value) (w : World), HL w 0 L x.l →
    Calls Try.prog 30 #[.agg #[.int .i64 x.k, .int .i64 x.n, .string x.s, L], .int .i64 room] w fun e w' => e = .returned (.bool (x.fit room)) ∧ w.grownBy w' none
  | .mk k n s l, room, hr1, hr2, L, w, hL => by
    have hL' : HL w 0 L l := hL
    obtain ⟨A, c, rfl⟩ := hL'.slice
    show Calls Try.prog 30 #[.agg #[.int .i64 k, .int .i64 n, .string s, .slice A l.length c], .int .i64 room] w fun e w' => e = .returned (.bool ((Wr.mk k n s l).fit room)) ∧ w.grownBy w' none
    rw [fit_mk]
    by_cases h1 : k = 1
    · subst h1; rw [if_pos rfl]; exact right_num n room s A l.length c w
    by_cases h2 : k = 2
    · subst h2; rw [if_neg (by decide), if_pos rfl]; exact right_text n room s A l.length c w
    by_cases h3 : k = 3
    · subst h3; rw [if_neg (by decide), if_neg (by decide), if_pos rfl, ← Bool.and_assoc]
      cases hb : (headB n s room && decide (l.length ≤ 65536)) with
      | false =>
        have hb' := hb
        unfold headB at hb'
        rw [hb', Bool.false_and]
        exact right_listno n room s A l.length c w hb
      | true =>
        have hb' := hb
        unfold headB at hb'
        rw [hb', Bool.true_and]
        simp only [Bool.and_eq_true, beq_iff_eq, decide_eq_true_eq] at hb'
        obtain ⟨⟨⟨rfl, hs⟩, hr⟩, hl⟩ := hb'
        obtain rfl := size_zero hs
        exact right_goes room l hr hr2 hl _ w hL' (fun x hx L w hxl => right_any x (room - 1) (by omega) (by omega) L w hxl)
    · rw [if_neg h1, if_neg h2, if_neg h3]; exact right_none k n room s A l.length c w h1 h2 h3
termination_by x => SizeOf.sizeOf x
decreasing_by
  have := List.sizeOf_lt_of_mem hx
  simp
  omega
end Go.Proofs.Ytaecfcodldbnhaa

namespace Go.Proofs.Ytaecfcodldbnhaa
open Go.RowKit Mm Vw

set_option maxHeartbeats 1000000 in
theorem deep_none (k n room : Int) (s : ByteArray) (A : Option Addr) (len c : Nat) (w : World) (h3 : k ≠ 3) :
    Calls Try.prog 31 #[.agg #[.int .i64 k, .int .i64 n, .string s, .slice A len c], .int .i64 room] w fun e w' => e = .returned (.int .i64 0) ∧ w.grownBy w' none := by
  have t3 : (k == 3) = false := by simpa using h3
  have t4 : (k != 3) = true := by simpa using h3
  clear h3
  go_enter Try.func31, Try.ntmps31
  go_wp2_with fail
  go_ret
  exact ⟨rfl, gb_alloc (gb_refl _ _) _⟩
set_option maxHeartbeats 4000000 in
set_option maxRecDepth 100000 in
theorem deep_goes (n room : Int) (s : ByteArray) (l : List Wr) (hr1 : 0 < room) (hr2 : room ≤ 100) (va : Value) (w : World) (ha : HL w 0 va l)
    (ih : ∀ x ∈ l, ∀ (L : Value) (w : World), HL w 0 L x.l → Calls Try.prog 31 #[.agg #[.int .i64 x.k, .int .i64 x.n, .string x.s, L], .int .i64 (room - 1)] w fun e w' => (∃ d : Int, 0 ≤ d ∧ d ≤ room - 2 ∧ e = .returned (.int .i64 d)) ∧ w.grownBy w' none) :
    Calls Try.prog 31 #[.agg #[.int .i64 3, .int .i64 n, .string s, va], .int .i64 room] w fun e w' => (∃ d : Int, 0 ≤ d ∧ d ≤ max 1 (room - 1) ∧ e = .returned (.int .i64 d)) ∧ w.grownBy w' none := by
  obtain ⟨A, c, rfl⟩ := ha.slice
  have d1 : decide (0 < room) = true := decide_eq_true (by omega)
  have hlen := ha.len
  obtain ⟨N, HN⟩ : ∃ N : Nat, Hid (N = l.length) := ⟨_, rfl⟩
  have Ha := Lib.hid ha
  have Hih := Lib.hid ih
  clear ha ih
  rw [← HN.out] at Ha hlen ⊢
  go_enter Try.func31, Try.ntmps31
  go_wp2_with fail
  go_loopw [6, 5] (fun i m wr => ∃ (j : Nat) (d : Int), j ≤ N ∧ i = .int .i64 j ∧ m = .int .i64 d ∧ 1 ≤ d ∧ d ≤ max 1 (room - 1) ∧ Hid ((w.alloc (.cells #[.int .i64 3, .int .i64 n, .string s, .slice A N c] 54)).grownBy wr none)) (fun i _ _ => N - (intOf i).toNat)
  case atStart => exact ⟨0, 1, Nat.zero_le _, rfl, rfl, Int.le_refl _, by omega, gb_refl _ _⟩
  case round =>
    obtain ⟨j, d, hj, rfl, rfl, hd1, hd2, Hg⟩ := hrel
    have hgw := gb_none (gb_alloc (gb_refl w none) (.cells #[.int .i64 3, .int .i64 n, .string s, .slice A N c] 54)) Hg.out
    have Hgw := Lib.hid hgw
    obtain ⟨⟨b0, b1, b2, b3⟩, _, hbl⟩ := box4 (show wr.heap[w.heap.size]? = some (.cells #[.int .i64 3, .int .i64 n, .string s, .slice A N c] 54 (0, 0)) from (Hg.out.block _ (by simp) (by simp)).trans (heap_alloc_new w _))
    clear hgw b0 b1 b2
    by_cases hlt : j < N
    · have z1 : decide (j < N) = true := decide_eq_true hlt
      obtain ⟨x, hx⟩ : ∃ x, l[j]? = some x := ⟨_, List.getElem?_eq_getElem (by rw [← HN.out]; exact hlt)⟩
      obtain ⟨g, o, B, m, rfl, _, hgs, c0, c1, c2', c3, hxl⟩ := (Ha.out.kept Hgw.out).item hx
      have Hx := Lib.hid hx
      have Hxl := Lib.hid hxl
      clear hx hxl
      go_wp2_with fail
      refine (Hih.out x (List.mem_of_getElem? Hx.out) _ _ Hxl.out).mono ?_
      rintro e w2 ⟨⟨q, hq1, hq2, rfl⟩, gg⟩
      have Hg2 := Lib.hid (gb_none Hg.out gg)
      have Hgw2 := Lib.hid (gb_none Hgw.out gg)
      clear gg
      go_wp2_with fail
      go_roundw
      case rel => exact ⟨j + 1, max d (1 + q), by omega, by go_num, by go_num, by omega, by omega, Hg2⟩
      case measure => simp [intOf]; omega
    · have z1 : decide (j < N) = false := decide_eq_false hlt
      clear hlt
      go_wp2_with fail
      go_ret
      exact ⟨⟨d, by omega, hd2, rfl⟩, Hgw.out⟩
theorem deep_fit : ∀ (x : Wr) (lim : Int), 1 ≤ lim → lim ≤ 100 → x.fit (lim - 1) = true → ∀ (L : Value) (w : World), HL w 0 L x.l →
    Calls Try.prog 31 #[.agg #[.int .i64 x.k, .int .i64 x.n, .string x.s, L], .int .i64 lim] w fun e w' => (∃ d : Int, 0 ≤ d ∧ d ≤ lim - 1 ∧ e = .returned (.int .i64 d)) ∧ w.grownBy w' none
  | .mk k n s l, lim, hr1, hr2, hf, L, w, hL => by
    have hL' : HL w 0 L l := hL
    obtain ⟨A, c, rfl⟩ := hL'.slice
    show Calls Try.prog 31 #[.agg #[.int .i64 k, .int .i64 n, .string s, .slice A l.length c], .int .i64 lim] w _
    by_cases h3 : k = 3
    · subst h3
      rw [fit_mk, if_neg (by decide), if_neg (by decide), if_pos rfl] at hf
      simp only [Bool.and_eq_true, decide_eq_true_eq] at hf
      obtain ⟨⟨_, hp⟩, _, ha⟩ := hf
      refine (deep_goes n lim s l (by omega) hr2 _ w hL' (fun x hx L w hxl => (deep_fit x (lim - 1) (by omega) (by omega) (all_fit ha x hx) L w hxl).mono ?_)).mono ?_
      · rintro e w2 ⟨⟨d, h1, h2, rfl⟩, g⟩; exact ⟨⟨d, h1, by omega, rfl⟩, g⟩
      · rintro e w2 ⟨⟨d, h1, h2, rfl⟩, g⟩; exact ⟨⟨d, h1, by omega, rfl⟩, g⟩
    · refine (deep_none k n lim s A l.length c w h3).mono ?_
      rintro e w2 ⟨rfl, g⟩
      exact ⟨⟨0, by omega, by omega, rfl⟩, g⟩
termination_by x => SizeOf.sizeOf x
decreasing_by
  have := List.sizeOf_lt_of_mem hx
  simp
  omega

set_option maxHeartbeats 1000000 in
theorem maywire_any (x : Wr) (L : Value) (w : World) (h : HL w 0 L x.l) :
    Calls Try.prog 28 #[.agg #[.int .i64 x.k, .int .i64 x.n, .string x.s, L]] w fun e w' => e = .returned (.bool x.may) ∧ w.grownBy w' none := by
  have Hf := Lib.hid (fun w hL => right_any x 6 (by omega) (by omega) L w hL)
  have Hd := Lib.hid (fun h6 w hL => deep_fit x 7 (by omega) (by omega) h6 L w hL)
  have HH := Lib.hid h
  obtain ⟨A, c, rfl⟩ := h.slice
  clear h
  generalize Hm : x.may = r
  have Hm' : x.fit 6 = r := Hm
  rw [Hm'] at Hf
  have Hm2 := Lib.hid Hm'
  clear Hm Hm'
  cases r with
  | false =>
    go_enter Try.func28, Try.ntmps28
    go_wp2_with fail
    refine (Hf.out _ (HH.out.kept (gb_alloc (gb_refl _ _) _))).mono ?_
    rintro e w2 ⟨rfl, g2⟩
    go_wp2_with fail
    go_ret
    exact ⟨rfl, gb_none (gb_alloc (gb_refl _ _) _) g2⟩
  | true =>
    go_enter Try.func28, Try.ntmps28
    go_wp2_with fail
    refine (Hf.out _ (HH.out.kept (gb_alloc (gb_refl _ _) _))).mono ?_
    rintro e w2 ⟨rfl, g2⟩
    have hb : w2.heap[w.heap.size]? = some (.cells #[.int .i64 x.k, .int .i64 x.n, .string x.s, .slice A x.l.length c] 54 (0, 0)) := (g2.block _ (by simp) (by simp)).trans (heap_alloc_new w _)
    obtain ⟨⟨b0, b1, b2, b3⟩, _, hbl⟩ := box4 hb
    have Hg2 := Lib.hid (gb_none (gb_alloc (gb_refl w none) _) g2)
    clear g2
    go_wp2_with fail
    refine (Hd.out Hm2.out _ (HH.out.kept Hg2.out)).mono ?_
    rintro e w3 ⟨⟨d, h1, h2, rfl⟩, g3⟩
    have h2' : d ≤ 6 := h2
    have z1 : decide (d ≤ 6) = true := decide_eq_true h2'
    clear h2
    go_wp2_with fail
    go_ret
    exact ⟨rfl, gb_none Hg2.out g3⟩
end Go.Proofs.Ytaecfcodldbnhaa

namespace Go.Proofs.Ytaecfcodldbnhaa
open Go.RowKit Wd Mm Vw

theorem bytes_one (l : List UInt8) : ∀ u ∈ l.map w8, u.oneCell' = true := by
  intro u hu
  simp only [List.mem_map] at hu
  obtain ⟨x, _, rfl⟩ := hu
  rfl
theorem cell_new {w : World} {t : TypeId} (u : Value) : ∀ j v, ([u] : List Value)[j]? = some v → (w.alloc (.cells #[u] t)).cell? ((⟨w.heap.size, 0, none⟩ : Addr).add j) = some v := fun j v hv => by
  have hj : j = 0 := by
    rcases j with _ | j
    · rfl
    · simp at hv
  subst hj
  have hadd : (⟨w.heap.size, 0, none⟩ : Addr).add 0 = ⟨w.heap.size, 0, none⟩ := by unfold Addr.add; split <;> simp_all
  rw [hadd, ← hv]
  exact cell_of_row _ _ 0 #[u] t (0, 0) (heap_alloc_new _ _)
/-- An owned row of bytes, as a string. -/
theorem own_string {w : World} {base : Nat} {v : Value} {n : Nat} {l : List UInt8} (h : w.ownsRow base 5 1 v n (l.map w8)) (h0 : 0 < n) : (convert 28 9 v).run Try.prog w = .ok (.string ⟨l.toArray⟩) w := by
  have hl : l.length = n := by have := h.1; simpa using this
  rcases h.2 with ⟨_, hz⟩ | ⟨g, cap, cur, rfl, _⟩
  · omega
  · have r := run_convert_bytes_back (P := Try.prog) w 28 9 5 ⟨g, 0, none⟩ cap l Try.underlying28 Try.underlying5 Try.underlying9 (fun j hj => h.cells (g := g) rfl j _ (by simp [hj, w8]))
    rw [hl] at r
    exact r
theorem one_int {k : IntKind} (z : Int) : ∀ u ∈ ([.int k z] : List Value), u.oneCell' = true := by
  intro u hu
  rw [List.mem_singleton.1 hu]; rfl
theorem highs_succ (n : Int) : ∀ (m k : Nat), k < m → (highs n m).take (k + 1) = (highs n m).take k ++ [hiB n (m - 1 - k)]
  | 0, k, h => by omega
  | m + 1, 0, _ => by simp [highs]
  | m + 1, k + 1, h => by
    rw [highs, List.take_succ_cons, List.take_succ_cons, highs_succ n m k (by omega), List.cons_append, show m + 1 - 1 - (k + 1) = m - 1 - k by omega]
theorem high_byte (n : Int) (k q : Nat) (hk : k < 8) (hq : q = 8 * (7 - k)) : Value.int .u8 (n % 18446744073709551616 / 2 ^ q % 256) = w8 (hiB n (8 - 1 - k)) := by
  unfold w8
  rw [hiB_nat, show 8 * (8 - 1 - k) = q by omega]
  have : k = 0 ∨ k = 1 ∨ k = 2 ∨ k = 3 ∨ k = 4 ∨ k = 5 ∨ k = 6 ∨ k = 7 := by omega
  congr 1
  subst hq
  rcases this with rfl | rfl | rfl | rfl | rfl | rfl | rfl | rfl <;> simp only [Nat.reduceSub, Nat.reduceMul, Int.reducePow] <;> omega

set_option maxHeartbeats 1000000 in
theorem eight_any (n : Int) (w : World) :
    Calls Try.prog 19 #[.int .i64 n] w fun e w' => e = .returned (.string ⟨(highs n 8).toArray⟩) ∧ w.grownBy w' none := by
  obtain ⟨N, hN⟩ : ∃ N : Int, N = n % 18446744073709551616 := ⟨_, rfl⟩
  have hN0 : 0 ≤ N := by omega
  have hN1 : N < 18446744073709551616 := by omega
  have hc1 : IntKind.u64.wrap n = N := by rw [IntKind.wrap_u64]; omega
  have hc2 : n % 18446744073709551616 = N := hN.symm
  have HN := Lib.hid hN
  clear hN
  obtain ⟨i0, hi0, hz0, hz1, hz2⟩ := info_parts byte_inf
  have Hi0 := Lib.hid hi0
  have Hz0 := Lib.hid hz0
  have Hz1 := Lib.hid hz1
  have Hz2 := Lib.hid hz2
  clear hi0 hz0 hz1 hz2
  go_enter Try.func19, Try.ntmps19
  go_wp2_with fail
  go_loopw [5, 4] (fun i v wr => ∃ k : Nat, k ≤ 8 ∧ i = .int .i64 k ∧ wr.ownsRow w.heap.size 5 1 v k (((highs n 8).take k).map w8) ∧ w.grownBy wr none) (fun i _ _ => 8 - (intOf i).toNat)
  case atStart => exact ⟨0, Nat.zero_le _, rfl, World.ownsRow_nil _ _ _ _, gb_refl _ _⟩
  case round =>
    obtain ⟨k, hk, rfl, hown, hg⟩ := hrel
    by_cases hlt : k < 8
    · have hdec : decide ((k : Int) < 8) = true := decide_eq_true (by omega)
      obtain ⟨m, Hm⟩ : ∃ m : Nat, Hid (m = 8 * k) := ⟨_, rfl⟩
      have hm : 8 * (k : Int) = (m : Int) := by have := Hm.out; omega
      obtain ⟨q, Hq⟩ : ∃ q : Nat, Hid (q + m = 56) := ⟨56 - m, by show _ = _; have := Hm.out; omega⟩
      have hq : 56 - (m : Int) = (q : Int) := by have := Hq.out; omega
      have hq2 : (q : Int) ≤ 56 := by omega
      go_wp2_with (at_builtin; refine wpList_append_own _ rfl (.tmp 12) (.tmp 20) 28 rfl w.heap.size 5 i0 (.int .u8 0) 1 1 Try.underlying28 Hi0.out Hz0.out Hz1.out Hz2.out rfl (by decide) _ k _ rfl (hown.alloc _) ⟨wr.heap.size, 0, none⟩ 1 1 [.int .u8 (N / 2 ^ q % 256)] rfl rfl (cell_new _) (one_int _) (by simp only [maxLen]; omega) (by omega) (by have := hg.size; simp; omega) ?_; intro v' w' own' grow' _)
      go_roundw
      case rel =>
        refine ⟨k + 1, by omega, by go_num, ?_, gb_step (gb_alloc hg _) grow' (fun i e => .inr (hown.lt i e).1)⟩
        rw [highs_succ n 8 k hlt, List.map_append]
        have e : Value.int .u8 (N / 2 ^ q % 256) = w8 (hiB n (8 - 1 - k)) := by rw [HN.out]; exact high_byte n k q hlt (by have := Hq.out; have := Hm.out; omega)
        rw [e] at own'
        exact own'
      case measure => simp [intOf]; omega
    · have hk8 : k = 8 := by omega
      subst hk8
      have hdec : decide (((8 : Nat) : Int) < 8) = false := by decide
      rw [List.take_of_length_le (by rw [highs_len]; exact Nat.le_refl _)] at hown
      have hconv := own_string hown (by decide)
      clear hlt hk hown
      go_wp2_with fail
      go_ret
      exact ⟨rfl, hg⟩
theorem highs_drop (n : Int) : (highs n 8).drop 4 = highs n 4 := rfl
theorem four_part (n : Int) : (⟨(highs n 8).toArray⟩ : ByteArray).extract 4 8 = ⟨(highs n 4).toArray⟩ := by
  apply ByteArray.ext
  apply Array.ext'
  simp [highs]
set_option maxHeartbeats 1000000 in
theorem four_any (n : Int) (w : World) :
    Calls Try.prog 32 #[.int .i64 n] w fun e w' => e = .returned (.string ⟨(highs n 4).toArray⟩) ∧ w.grownBy w' none := by
  have He := Lib.hid (fun w => eight_any n w)
  obtain ⟨s, hs⟩ : ∃ s : ByteArray, s = ⟨(highs n 8).toArray⟩ := ⟨_, rfl⟩
  have hz : s.size = 8 := by rw [hs]; simp [ByteArray.size, highs]
  have Hx : Hid (s.extract 4 8 = ⟨(highs n 4).toArray⟩) := by show _ = _; rw [hs]; exact four_part n
  rw [← hs] at He
  rw [← Hx.out]
  clear hs
  go_enter Try.func32, Try.ntmps32
  go_wp2_with fail
  refine (He.out _).mono ?_
  rintro e w2 ⟨rfl, g2⟩
  go_wp2_with fail
  go_ret
  exact ⟨rfl, g2⟩
end Go.Proofs.Ytaecfcodldbnhaa

namespace Go.Proofs.Ytaecfcodldbnhaa
open Go.RowKit Wd Mm Vw

/-- A row of bytes of the call's own, and what making it longer turned. -/
def Ap (B : Nat) (w : World) (v v' : Value) (w' : World) (l : List UInt8) : Prop :=
  w'.ownsRow B 5 1 v' l.length (l.map w8) ∧ w.grownBy w' v.ownBlock ∧ (v'.ownBlock = v.ownBlock ∨ ∃ g, v'.ownBlock = some g ∧ w.heap.size ≤ g)
theorem Ap.slice {B : Nat} {w w' : World} {v v' : Value} {l : List UInt8} (h : Ap B w v v' w' l) : ∃ A m c, v' = .slice A m c := own_slice h.1
theorem Ap.trans {B : Nat} {w w1 w2 : World} {v v1 v2 : Value} {l1 l2 : List UInt8} (h : Ap B w v v1 w1 l1) (k : Ap B w1 v1 v2 w2 l2) : Ap B w v v2 w2 l2 := by
  refine ⟨k.1, gb_step h.2.1 k.2.1 (fun i e => ?_), ?_⟩
  · rcases h.2.2 with h2 | ⟨g, h2, hg⟩
    · exact .inl (h2.symm.trans e)
    · exact .inr (by rw [h2] at e; cases e; exact hg)
  · have hs := h.2.1.size
    rcases k.2.2 with k2 | ⟨g, k2, hg⟩
    · rw [k2]; exact h.2.2
    · exact .inr ⟨g, k2, by omega⟩
theorem Ap.start {B : Nat} {w : World} {v : Value} {l : List UInt8} (h : w.ownsRow B 5 1 v l.length (l.map w8)) : Ap B w v v w l := ⟨h, gb_refl _ _, .inl rfl⟩
theorem row_stays {B : Nat} {w w' : World} {v : Value} {l : List UInt8} (h : w.ownsRow B 5 1 v l.length (l.map w8)) (k : w.grownBy w' none) : w'.ownsRow B 5 1 v l.length (l.map w8) := by
  refine h.kept k ?_
  by_cases hv : v.ownBlock = none
  · exact .inl hv
  · exact .inr hv
theorem Ap.more {B : Nat} {w w1 w2 : World} {v v1 : Value} {l : List UInt8} (h : Ap B w v v1 w1 l) (k : w1.grownBy w2 none) : Ap B w v v1 w2 l :=
  ⟨row_stays h.1 k, gb_none h.2.1 k, h.2.2⟩
theorem Ap.ahead {B : Nat} {w w1 w2 : World} {v v2 : Value} {l : List UInt8} (k : w.grownBy w1 none) (h : Ap B w1 v v2 w2 l) : Ap B w v v2 w2 l :=
  ⟨h.1, gb_step (gb_none' k) h.2.1 (fun _ e => .inl e), h.2.2.imp id (fun ⟨g, e, hg⟩ => ⟨g, e, Nat.le_trans k.size hg⟩)⟩
/-- A block of the call's own, none of the row's, stays. -/
theorem Ap.block {B : Nat} {w0 w w' : World} {v v' : Value} {l0 l : List UInt8} (h0 : w0.ownsRow B 5 1 v l0.length (l0.map w8)) (hs : w0.heap.size < w.heap.size) (h : Ap B w v v' w' l) : w'.heap[w0.heap.size]? = w.heap[w0.heap.size]? :=
  h.2.1.block _ hs (fun e => by have := (h0.lt _ e.symm).2; omega)
/-- All that was there before the row was begun. -/
theorem Ap.old {w0 w w' : World} {v v' : Value} {l0 l : List UInt8} (h0 : w.ownsRow w0.heap.size 5 1 v l0.length (l0.map w8)) (hg : w0.grownBy w none) (h : Ap w0.heap.size w v v' w' l) : w0.grownBy w' none :=
  gb_step hg h.2.1 (fun i e => .inr (h0.lt i e).1)
/-- Appending a text. -/
theorem ap_text {B : Nat} {w : World} {v : Value} {l : List UInt8} (h : w.ownsRow B 5 1 v l.length (l.map w8)) (s : ByteArray) (hlen : l.length + s.size ≤ 140737488355328) (hB : B ≤ w.heap.size) :
    ∃ v' w', (Builtin.append_ #[28, 9] 28 #[v, .string s]).run Try.prog w = .ok v' w' ∧ Ap B w v v' w' (l ++ s.data.toList) := by
  obtain ⟨i, hi, hz, hs1, hs2⟩ := byte_parts
  obtain ⟨v', w', hrun, hown', hgrow, hnn⟩ := Lib.run_append_own_string (P := Try.prog) w B 28 9 28 5 i Try.underlying28 Try.underlying9 hi hz hs1 hs2 v _ _ h s (by simp only [maxLen]; omega) hlen hB
  have hloc := text_loc h hlen hrun hnn
  refine ⟨v', w', hrun, ?_, hgrow, hloc.imp id fun h => ⟨_, h, Nat.le_refl _⟩⟩
  have e1 : (l ++ s.data.toList).map w8 = l.map w8 ++ Lib.strCells s := by rw [List.map_append, text_cells]
  have e2 : (l ++ s.data.toList).length = l.length + s.size := by simp
  rw [e1, e2]
  exact hown'
/-- Appending a byte. -/
theorem ap_byte {B : Nat} {w w' : World} {v v' : Value} {l : List UInt8} {y : UInt8} {n : Int} (hn : n = (y.toNat : Int)) (own' : w'.ownsRow B 5 1 v' (l.length + 1) (l.map w8 ++ [.int .u8 n])) (grow' : w.grownBy w' v.ownBlock) (hloc : v'.ownBlock = v.ownBlock ∨ v'.ownBlock = some w.heap.size) : Ap B w v v' w' (l ++ [y]) := by
  refine ⟨?_, grow', hloc.imp id fun h => ⟨_, h, Nat.le_refl _⟩⟩
  have e1 : (l ++ [y]).map w8 = l.map w8 ++ [.int .u8 n] := by rw [List.map_append, hn]; rfl
  rw [e1, List.length_append]
  exact own'
/-- What put gives. -/
def Putted (B : Nat) (w : World) (v : Value) (l : List UInt8) (e : Ending) (w' : World) : Prop := ∃ v', e = .returned v' ∧ Ap B w v v' w' l
def DPut (w0 : World) (x : Wr) : Prop := ∀ (L v : Value) (p : List UInt8) (w : World), HL w0 0 L x.l → w0.grownBy w none → w.ownsRow w0.heap.size 5 1 v p.length (p.map w8) → p.length + x.enc.length ≤ 1099511627776 →
  Calls Try.prog 29 #[v, .agg #[.int .i64 x.k, .int .i64 x.n, .string x.s, L]] w (Putted w0.heap.size w v (p ++ x.enc))

theorem box_stays {B : Nat} {w w1 : World} {v : Value} {l : List UInt8} {cs : Array Value} {o : Obj} (h : w.ownsRow B 5 1 v l.length (l.map w8)) (k : ((w.alloc (.cells cs 54)).alloc o).grownBy w1 v.ownBlock) : w1.heap[w.heap.size]? = some (.cells cs 54 (0, 0)) :=
  (k.block _ (by simp; omega) (fun e => by have := (h.lt _ e.symm).2; omega)).trans ((Below.heap_alloc _ _ _ (by simp)).trans (heap_alloc_new w _))
theorem first_byte {B : Nat} {w w1 : World} {v v1 : Value} {l : List UInt8} {y : UInt8} {n : Int} {o1 o2 : Obj} (hn : n = (y.toNat : Int)) (own' : w1.ownsRow B 5 1 v1 (l.length + 1) (l.map w8 ++ [.int .u8 n])) (grow' : ((w.alloc o1).alloc o2).grownBy w1 v.ownBlock) (hloc : v1.ownBlock = v.ownBlock ∨ v1.ownBlock = some ((w.alloc o1).alloc o2).heap.size) : Ap B w v v1 w1 (l ++ [y]) :=
  Ap.ahead (gb_alloc (gb_alloc (gb_refl w none) o1) o2) (ap_byte hn own' grow' hloc)

theorem Ap.off {B b : Nat} {w w' : World} {v v' : Value} {l : List UInt8} (h : Ap B w v v' w' l) (hv : v.ownBlock ≠ some b) (hb : b < w.heap.size) : v'.ownBlock ≠ some b := by
  rcases h.2.2 with h2 | ⟨g, h2, hg⟩
  · rw [h2]; exact hv
  · rw [h2]; intro e; cases e; omega
theorem Ap.keeps {B b : Nat} {w w' : World} {v v' : Value} {l : List UInt8} (h : Ap B w v v' w' l) (hv : v.ownBlock ≠ some b) (hb : b < w.heap.size) : w'.heap[b]? = w.heap[b]? :=
  h.2.1.block b hb (fun e => hv e.symm)
theorem first_off {B : Nat} {w : World} {v v1 : Value} {l : List UInt8} {o1 o2 : Obj} (h : w.ownsRow B 5 1 v l.length (l.map w8)) (hloc : v1.ownBlock = v.ownBlock ∨ v1.ownBlock = some ((w.alloc o1).alloc o2).heap.size) : v1.ownBlock ≠ some w.heap.size := by
  rcases hloc with h2 | h2
  · rw [h2]; intro e; have := (h.lt _ e).2; omega
  · rw [h2]; intro e; have := Option.some.inj e; simp at this; omega

set_option maxHeartbeats 4000000 in
set_option maxRecDepth 100000 in
theorem dput_num (w0 : World) (n : Int) (s : ByteArray) (l : List Wr) : DPut w0 (.mk 1 n s l) := by
  intro L v p w hL hg hown hlen
  replace hL : HL w0 0 L l := hL
  obtain ⟨A, c, rfl⟩ := hL.slice
  rw [enc_mk, if_pos rfl] at hlen ⊢
  have hlen2 : p.length ≤ 1099511627776 := by omega
  obtain ⟨vA, vn, vc, rfl⟩ := own_slice hown
  show Calls Try.prog 29 #[.slice vA vn vc, .agg #[.int .i64 1, .int .i64 n, .string s, .slice A l.length c]] w _
  obtain ⟨N, HN⟩ : ∃ N : Nat, Hid (N = l.length) := ⟨_, rfl⟩
  rw [← HN.out]
  have hB : w0.heap.size ≤ w.heap.size := hg.size
  have Hown := Lib.hid hown
  have Hown1 := Lib.hid ((hown.alloc (.cells #[.int .i64 1, .int .i64 n, .string s, .slice A N c] 54)).alloc (.cells #[.int .u8 1] 5))
  have He := Lib.hid (fun w => eight_any n w)
  obtain ⟨t, ht⟩ : ∃ t : ByteArray, t = ⟨(highs n 8).toArray⟩ := ⟨_, rfl⟩
  have Ht : Hid (t.data.toList = highs n 8) := by show _ = _; rw [ht]
  have htz : t.size = 8 := by rw [ht]; simp [ByteArray.size, highs]
  rw [← ht] at He
  have Hq : Hid (UInt8.ofNat ((1 : Int) % 256).toNat :: highs n 8 = [1] ++ t.data.toList) := by show _ = _; rw [Ht.out]; rfl
  rw [Hq.out]
  obtain ⟨i, hi, hz, hs1, hs2⟩ := byte_parts
  have Hi := Lib.hid hi
  have Hz := Lib.hid hz
  have Hs1 := Lib.hid hs1
  have Hs2 := Lib.hid hs2
  clear hL hg hown hlen hi hz hs1 hs2 ht
  go_enter Try.func29, Try.ntmps29
  go_wp2_with (at_builtin; refine wpList_append_own_at _ rfl (.tmp 6) (.tmp 10) 28 rfl w0.heap.size 5 i (.int .u8 0) 1 1 Try.underlying28 Hi.out Hz.out Hs1.out Hs2.out rfl (by decide) _ p.length _ rfl Hown1.out ⟨w.heap.size + 1, 0, none⟩ 1 1 [.int .u8 1] rfl rfl (by have := one_byte (w.alloc (.cells #[.int .i64 1, .int .i64 n, .string s, .slice A N c] 54)) 1; simpa using this) (one_small1 1) (by simp only [maxLen]; omega) (by omega) (by simp; omega) ?_; intro v' w' own' grow' _ hloc; obtain ⟨uA, un, uc, rfl⟩ := own_slice own'; have hbx := box_stays Hown.out grow'; obtain ⟨⟨b0, b1, b2, b3⟩, _, hbl⟩ := box4 hbx; have Hap := Lib.hid (first_byte (y := 1) rfl own' grow' hloc); clear own' grow' hloc hbx)
  refine (He.out _).mono ?_
  rintro e w2 ⟨rfl, g2⟩
  have Hap2 := Lib.hid (Hap.out.more g2)
  obtain ⟨v3, w3, hrun, hap3⟩ := ap_text Hap2.out.1 t (by rw [List.length_append, htz]; simp; omega) (Nat.le_trans hB Hap2.out.2.1.size)
  have Hap3 := Lib.hid (Hap2.out.trans hap3)
  obtain ⟨qA, qn, qc, rfl⟩ := hap3.slice
  have Hrun := Lib.hid hrun
  clear hrun hap3 g2
  go_wp2_with (at_builtin; refine Lib.wpList_append_run _ rfl (.tmp 16) (.tmp 19) 28 9 rfl _ _ rfl rfl _ _ Hrun.out ?_)
  go_ret
  refine ⟨_, rfl, ?_⟩
  have := Hap3.out
  rw [List.append_assoc] at this
  exact this
set_option maxHeartbeats 4000000 in
set_option maxRecDepth 100000 in
theorem dput_text (w0 : World) (n : Int) (s : ByteArray) (l : List Wr) : DPut w0 (.mk 2 n s l) := by
  intro L v p w hL hg hown hlen
  replace hL : HL w0 0 L l := hL
  obtain ⟨A, c, rfl⟩ := hL.slice
  rw [enc_mk, if_neg (by decide), if_pos rfl] at hlen ⊢
  have hlen2 : p.length + s.size ≤ 1099511627776 := by simp at hlen; omega
  obtain ⟨vA, vn, vc, rfl⟩ := own_slice hown
  show Calls Try.prog 29 #[.slice vA vn vc, .agg #[.int .i64 2, .int .i64 n, .string s, .slice A l.length c]] w _
  obtain ⟨N, HN⟩ : ∃ N : Nat, Hid (N = l.length) := ⟨_, rfl⟩
  rw [← HN.out]
  have hB : w0.heap.size ≤ w.heap.size := hg.size
  have Hown := Lib.hid hown
  have Hown1 := Lib.hid ((hown.alloc (.cells #[.int .i64 2, .int .i64 n, .string s, .slice A N c] 54)).alloc (.cells #[.int .u8 2] 5))
  have He := Lib.hid (fun w => four_any s.size w)
  obtain ⟨t, ht⟩ : ∃ t : ByteArray, t = ⟨(highs s.size 4).toArray⟩ := ⟨_, rfl⟩
  have Ht : Hid (t.data.toList = highs s.size 4) := by show _ = _; rw [ht]
  have htz : t.size = 4 := by rw [ht]; show (List.toArray _).size = 4; rw [List.size_toArray, highs_len]
  rw [← ht] at He
  have Hq : Hid (UInt8.ofNat ((2 : Int) % 256).toNat :: (highs s.size 4 ++ s.data.toList) = [2] ++ t.data.toList ++ s.data.toList) := by show _ = _; rw [Ht.out]; rfl
  rw [Hq.out]
  obtain ⟨i, hi, hz, hs1, hs2⟩ := byte_parts
  have Hi := Lib.hid hi
  have Hz := Lib.hid hz
  have Hs1 := Lib.hid hs1
  have Hs2 := Lib.hid hs2
  clear hL hg hown hlen hi hz hs1 hs2 ht
  go_enter Try.func29, Try.ntmps29
  go_wp2_with (at_builtin; refine wpList_append_own_at _ rfl (.tmp 6) (.tmp 10) 28 rfl w0.heap.size 5 i (.int .u8 0) 1 1 Try.underlying28 Hi.out Hz.out Hs1.out Hs2.out rfl (by decide) _ p.length _ rfl Hown1.out ⟨w.heap.size + 1, 0, none⟩ 1 1 [.int .u8 2] rfl rfl (by have := one_byte (w.alloc (.cells #[.int .i64 2, .int .i64 n, .string s, .slice A N c] 54)) 2; simpa using this) (one_small1 2) (by simp only [maxLen]; omega) (by omega) (by simp; omega) ?_; intro v' w' own' grow' _ hloc; obtain ⟨uA, un, uc, rfl⟩ := own_slice own'; have hbx := box_stays Hown.out grow'; obtain ⟨⟨b0, b1, b2, b3⟩, _, hbl⟩ := box4 hbx; have Hbx := Lib.hid hbx; have Hoff := Lib.hid (first_off Hown.out hloc); have Hap := Lib.hid (first_byte (y := 2) rfl own' grow' hloc); clear own' grow' hloc hbx)
  refine (He.out _).mono ?_
  rintro e w2 ⟨rfl, g2⟩
  have Hap2 := Lib.hid (Hap.out.more g2)
  obtain ⟨v3, w3, hrun, hap3⟩ := ap_text Hap2.out.1 t (by rw [List.length_append, htz]; simp; omega) (Nat.le_trans hB Hap2.out.2.1.size)
  have Hap3 := Lib.hid (Hap2.out.trans hap3)
  have hb2 : w.heap.size < w2.heap.size := Nat.lt_of_lt_of_le hbl g2.size
  obtain ⟨⟨d0, d1, d2, d3⟩, _, hdl⟩ := box4 ((hap3.keeps Hoff.out hb2).trans ((g2.block _ hbl (by simp)).trans Hbx.out))
  obtain ⟨v4, w4, hrun4, hap4⟩ := ap_text hap3.1 s (by rw [List.length_append, List.length_append]; have : t.data.toList.length = 4 := by rw [Ht.out, highs_len]
                                                       rw [this]; simp; omega) (Nat.le_trans hB Hap3.out.2.1.size)
  have Hap4 := Lib.hid (Hap3.out.trans hap4)
  obtain ⟨qA, qn, qc, rfl⟩ := hap3.slice
  obtain ⟨rA, rn, rc, rfl⟩ := hap4.slice
  have Hrun := Lib.hid hrun
  have Hrun4 := Lib.hid hrun4
  clear hrun hap3 g2 hrun4 hap4
  go_wp2_with (at_builtin; first | refine Lib.wpList_append_run _ rfl (.tmp 23) (.tmp 27) 28 9 rfl _ _ rfl rfl _ _ Hrun.out ?_ | refine Lib.wpList_append_run _ rfl (.tmp 29) (.tmp 31) 28 9 rfl _ _ rfl rfl _ _ Hrun4.out ?_)
  go_ret
  refine ⟨_, rfl, ?_⟩
  have := Hap4.out
  rw [List.append_assoc, List.append_assoc] at this
  exact this

set_option maxHeartbeats 8000000 in
set_option maxRecDepth 100000 in
theorem dput_list (w0 : World) (n : Int) (s : ByteArray) (l : List Wr) (ih : ∀ x ∈ l, DPut w0 x) : DPut w0 (.mk 3 n s l) := by
  intro L v p w hL hg hown hlen
  replace hL : HL w0 0 L l := hL
  obtain ⟨A, c, rfl⟩ := hL.slice
  rw [enc_mk, if_neg (by decide), if_neg (by decide)] at hlen ⊢
  have hlen2 : p.length + (5 + (encs l).length) ≤ 1099511627776 := by simp [highs_len] at hlen; omega
  obtain ⟨vA, vn, vc, rfl⟩ := own_slice hown
  show Calls Try.prog 29 #[.slice vA vn vc, .agg #[.int .i64 3, .int .i64 n, .string s, .slice A l.length c]] w _
  obtain ⟨N, HN⟩ : ∃ N : Nat, Hid (N = l.length) := ⟨_, rfl⟩
  obtain ⟨E, HE⟩ : ∃ E : Nat, Hid (E = (encs l).length) := ⟨_, rfl⟩
  have hll := hL.len
  have Ha := Lib.hid hL
  have Hih := Lib.hid ih
  have Hg := Lib.hid hg
  rw [← HN.out] at Ha hll ⊢
  rw [← HE.out] at hlen2
  have hB : w0.heap.size ≤ w.heap.size := hg.size
  have Hown := Lib.hid hown
  have Hown1 := Lib.hid ((hown.alloc (.cells #[.int .i64 3, .int .i64 n, .string s, .slice A N c] 54)).alloc (.cells #[.int .u8 3] 5))
  have He := Lib.hid (fun w => four_any N w)
  obtain ⟨t, ht⟩ : ∃ t : ByteArray, t = ⟨(highs N 4).toArray⟩ := ⟨_, rfl⟩
  have Ht : Hid (t.data.toList = highs N 4) := by show _ = _; rw [ht]
  have htz : t.size = 4 := by rw [ht]; show (List.toArray _).size = 4; rw [List.size_toArray, highs_len]
  rw [← ht] at He
  have Hq : Hid (UInt8.ofNat ((3 : Int) % 256).toNat :: (highs N 4 ++ encs l) = [3] ++ t.data.toList ++ encs l) := by show _ = _; rw [Ht.out]; rfl
  rw [Hq.out]
  obtain ⟨i, hi, hz, hs1, hs2⟩ := byte_parts
  have Hi := Lib.hid hi
  have Hz := Lib.hid hz
  have Hs1 := Lib.hid hs1
  have Hs2 := Lib.hid hs2
  clear hL hg hown hlen hi hz hs1 hs2 ht ih
  go_enter Try.func29, Try.ntmps29
  go_wp2_with (at_builtin; refine wpList_append_own_at _ rfl (.tmp 6) (.tmp 10) 28 rfl w0.heap.size 5 i (.int .u8 0) 1 1 Try.underlying28 Hi.out Hz.out Hs1.out Hs2.out rfl (by decide) _ p.length _ rfl Hown1.out ⟨w.heap.size + 1, 0, none⟩ 1 1 [.int .u8 3] rfl rfl (by have := one_byte (w.alloc (.cells #[.int .i64 3, .int .i64 n, .string s, .slice A N c] 54)) 3; simpa using this) (one_small1 3) (by simp only [maxLen]; omega) (by omega) (by simp; omega) ?_; intro v' w' own' grow' _ hloc; obtain ⟨uA, un, uc, rfl⟩ := own_slice own'; have hbx := box_stays Hown.out grow'; obtain ⟨⟨b0, b1, b2, b3⟩, _, hbl⟩ := box4 hbx; have Hbx := Lib.hid hbx; have Hoff := Lib.hid (first_off Hown.out hloc); have Hap := Lib.hid (first_byte (y := 3) rfl own' grow' hloc); clear own' grow' hloc hbx)
  refine (He.out _).mono ?_
  rintro e w2 ⟨rfl, g2⟩
  have Hap2 := Lib.hid (Hap.out.more g2)
  obtain ⟨v3, w3, hrun, hap3⟩ := ap_text Hap2.out.1 t (by rw [List.length_append, htz]; simp; omega) (Nat.le_trans hB Hap2.out.2.1.size)
  have hb2 : w.heap.size < w2.heap.size := Nat.lt_of_lt_of_le hbl g2.size
  have Hbx3 := Lib.hid ((hap3.keeps Hoff.out hb2).trans ((g2.block _ hbl (by simp)).trans Hbx.out))
  have Hoff3 := Lib.hid (hap3.off Hoff.out hb2)
  have Hap3 : Hid (Ap w0.heap.size w (.slice vA vn vc) v3 w3 (p ++ ([3] ++ t.data.toList) ++ encs (l.take 0))) := by
    have := Hap2.out.trans hap3
    rw [List.take_zero, encs_nil, List.append_nil, ← List.append_assoc]
    exact this
  obtain ⟨qA, qn, qc, rfl⟩ := hap3.slice
  have Hrun := Lib.hid hrun
  clear hrun hap3 g2 b0 b1 b2 b3
  go_wp2_with (at_builtin; refine Lib.wpList_append_run _ rfl (.tmp 33) (.tmp 37) 28 9 rfl _ _ rfl rfl _ _ Hrun.out ?_)
  go_loopw [5, 0] (fun i u wr => ∃ j : Nat, j ≤ N ∧ i = .int .i64 j ∧ Hid (Ap w0.heap.size w (.slice vA vn vc) u wr (p ++ ([3] ++ t.data.toList) ++ encs (l.take j))) ∧ Hid (wr.heap[w.heap.size]? = some (.cells #[.int .i64 3, .int .i64 n, .string s, .slice A N c] 54 (0, 0))) ∧ Hid (u.ownBlock ≠ some w.heap.size)) (fun i _ _ => N - (intOf i).toNat)
  case atStart => exact ⟨0, Nat.zero_le _, rfl, Hap3, Hbx3, Hoff3⟩
  case round =>
    obtain ⟨j, hj, rfl, Hapj, Hbxj, Hoffj⟩ := hrel
    obtain ⟨⟨b0, b1, b2, b3⟩, _, hbl⟩ := box4 Hbxj.out
    obtain ⟨rA, rn, rc, rfl⟩ := Hapj.out.slice
    clear b0 b1 b2
    by_cases hlt : j < N
    · have z1 : decide (j < N) = true := decide_eq_true hlt
      obtain ⟨x, hx⟩ : ∃ x, l[j]? = some x := ⟨_, List.getElem?_eq_getElem (by rw [← HN.out]; exact hlt)⟩
      obtain ⟨g, o, A2, c', rfl, _, hgs, c0, c1, c2, c3, hxl⟩ := Ha.out.item hx
      have Hgj := Lib.hid (Hapj.out.old Hown.out Hg.out)
      have hk := Hgj.out.block g hgs (by simp)
      have e0 := (cell_of_heap (a := ⟨g, o + j * 4, none⟩) hk).trans c0
      have e1 := (cell_of_heap (a := ⟨g, o + j * 4 + 1, none⟩) hk).trans c1
      have e2 := (cell_of_heap (a := ⟨g, o + j * 4 + 2, none⟩) hk).trans c2
      have e3 := (cell_of_heap (a := ⟨g, o + j * 4 + 3, none⟩) hk).trans c3
      have Hx := Lib.hid hx
      have Hxl := Lib.hid hxl
      have Hsz := Lib.hid (encs_part l j x hx)
      clear hx hxl c0 c1 c2 c3 hk
      go_wp2_with fail
      refine (Hih.out x (List.mem_of_getElem? Hx.out) _ _ _ wr Hxl.out Hgj.out Hapj.out.1 ?_).mono ?_
      · have h1 := Hsz.out
        have h2 := HE.out
        have h3 : t.data.toList.length = 4 := by rw [Ht.out, highs_len]
        simp only [List.length_append, List.length_singleton, h3]
        omega
      rintro e w4 ⟨v4, rfl, hap4⟩
      have Hap4 : Hid (Ap w0.heap.size w (.slice vA vn vc) v4 w4 (p ++ ([3] ++ t.data.toList) ++ encs (l.take (j + 1)))) := by
        have := Hapj.out.trans hap4
        rw [encs_take l j x Hx.out, ← List.append_assoc]
        exact this
      have Hbx4 := Lib.hid ((hap4.keeps Hoffj.out hbl).trans Hbxj.out)
      have Hoff4 := Lib.hid (hap4.off Hoffj.out hbl)
      obtain ⟨yA, yn, yc, rfl⟩ := hap4.slice
      clear hap4
      go_wp2_with fail
      go_roundw
      case rel => exact ⟨j + 1, by omega, by go_num, Hap4, Hbx4, Hoff4⟩
      case measure => simp [intOf]; omega
    · have z1 : decide (j < N) = false := decide_eq_false hlt
      have Hfin : Hid (Ap w0.heap.size w (.slice vA vn vc) (.slice rA rn rc) wr (p ++ ([3] ++ t.data.toList ++ encs l))) := by
        have := Hapj.out
        rw [List.take_of_length_le (by rw [← HN.out]; omega), List.append_assoc] at this
        exact this
      clear hlt
      go_wp2_with fail
      go_ret
      exact ⟨_, rfl, Hfin.out⟩
theorem dput_any : ∀ (x : Wr) (room : Int), x.fit room = true → ∀ (w0 : World), DPut w0 x
  | .mk k n s l, room, hf, w0 => by
    obtain ⟨hk, _, h3, _, _⟩ := fit_kinds hf
    rcases hk with rfl | ⟨rfl, rfl⟩ | ⟨rfl, rfl⟩
    · exact dput_num w0 n s l
    · exact dput_text w0 n s []
    · exact dput_list w0 n ⟨#[]⟩ l (fun x hx => dput_any x (room - 1) (h3 rfl x hx) w0)
termination_by x => SizeOf.sizeOf x
decreasing_by
  have := List.sizeOf_lt_of_mem hx
  simp
  omega
end Go.Proofs.Ytaecfcodldbnhaa

namespace Go.Proofs.Ytaecfcodldbnhaa
open Go.RowKit Wd Mm Vw

theorem enc_some (x : Wr) : 0 < x.enc.length := by
  obtain ⟨k, n, s, l⟩ := x
  rw [enc_mk]; simp
set_option maxHeartbeats 2000000 in
theorem putwire_no (x : Wr) (L : Value) (w : World) (h : HL w 0 L x.l) (hm : x.may = false) :
    Calls Try.prog 27 #[.agg #[.int .i64 x.k, .int .i64 x.n, .string x.s, L]] w fun e w' => e = .returned (.string ⟨#[]⟩) ∧ w.grownBy w' none := by
  have hmay := maywire_any x
  rw [hm] at hmay
  have Hmay := Lib.hid hmay
  have HH := Lib.hid h
  obtain ⟨A, c, rfl⟩ := h.slice
  clear h hmay hm
  go_enter Try.func27, Try.ntmps27
  go_wp2_with fail
  refine (Hmay.out _ _ (HH.out.kept (gb_alloc (gb_refl _ _) _))).mono ?_
  rintro e w2 ⟨rfl, g2⟩
  go_wp2_with fail
  go_ret
  exact ⟨rfl, gb_none (gb_alloc (gb_refl _ _) _) g2⟩
set_option maxHeartbeats 4000000 in
theorem putwire_yes (x : Wr) (L : Value) (w : World) (h : HL w 0 L x.l) (hm : x.may = true) (hlen : x.enc.length ≤ 1099511627776) :
    Calls Try.prog 27 #[.agg #[.int .i64 x.k, .int .i64 x.n, .string x.s, L]] w fun e w' => e = .returned (.string ⟨x.enc.toArray⟩) ∧ w.grownBy w' none := by
  have hmay := maywire_any x
  have hput := dput_any x 6 hm
  have hpos := enc_some x
  rw [hm] at hmay
  have Hmay := Lib.hid hmay
  have Hput := Lib.hid hput
  have HH := Lib.hid h
  have Hlen := Lib.hid hlen
  have Hpos := Lib.hid hpos
  obtain ⟨A, c, rfl⟩ := h.slice
  clear h hmay hm hput hlen hpos
  go_enter Try.func27, Try.ntmps27
  go_wp2_with fail
  refine (Hmay.out _ _ (HH.out.kept (gb_alloc (gb_refl _ _) _))).mono ?_
  rintro e w2 ⟨rfl, g2⟩
  have g2w := gb_none (gb_alloc (gb_refl w none) _) g2
  have hbox : w2.heap[w.heap.size]? = some (.cells #[.int .i64 x.k, .int .i64 x.n, .string x.s, .slice A x.l.length c] 54 (0, 0)) := (g2.block _ (by simp) (by simp)).trans (heap_alloc_new _ _)
  obtain ⟨⟨b0, b1, b2, b3⟩, _, hbl⟩ := box4 hbox
  have Hg2w := Lib.hid g2w
  have Hnil : Hid (w2.ownsRow w2.heap.size 5 1 (.slice none 0 0) ([] : List UInt8).length (([] : List UInt8).map w8)) := World.ownsRow_nil w2 _ _ 1
  clear g2 g2w hbox
  go_wp2_with fail
  refine (Hput.out w2 _ (.slice none 0 0) [] w2 (HH.out.kept Hg2w.out) (gb_refl _ _) Hnil.out (by have := Hlen.out; simp; omega)).mono ?_
  rintro e w3 ⟨v3, rfl, hap⟩
  rw [List.nil_append] at hap
  have hconv := own_string hap.1 Hpos.out
  have Hold := Lib.hid (Ap.old (w0 := w2) Hnil.out (gb_refl _ _) hap)
  obtain ⟨uA, un, uc, rfl⟩ := hap.slice
  clear hap
  go_wp2_with fail
  go_ret
  exact ⟨rfl, gb_none Hg2w.out Hold.out⟩
theorem putwire_all (x : Wr) (L : Value) (w : World) (h : HL w 0 L x.l) (hlen : x.enc.length ≤ 1099511627776) :
    Calls Try.prog 27 #[.agg #[.int .i64 x.k, .int .i64 x.n, .string x.s, L]] w fun e w' => e = .returned (.string x.bytes) ∧ w.grownBy w' none := by
  unfold Wr.bytes
  cases hm : x.may with
  | true => rw [if_pos rfl]; exact putwire_yes x L w h hm hlen
  | false => rw [if_neg (by decide)]; exact putwire_no x L w h hm
end Go.Proofs.Ytaecfcodldbnhaa
