/- The document's deep, MayWire. -/
import Derived.Test.YtbammjhafgbfkaaDoorVRight
import Derived.Test.YtbammjhafgbfkaaDoorVPut
namespace Go.Proofs.YtbammjhafgbfkaaDoor
open Go.RowKit Mm Vw

set_option maxHeartbeats 1000000 in
theorem deep_none (k n room : Int) (s : ByteArray) (A : Option Addr) (len c : Nat) (w : World) (h3 : k ≠ 3) :
    Calls Tryd.prog 27 #[.agg #[.int .i64 k, .int .i64 n, .string s, .slice A len c], .int .i64 room] w fun e w' => e = .returned (.int .i64 0) ∧ w.grownBy w' none := by
  have t3 : (k == 3) = false := by simpa using h3
  have t4 : (k != 3) = true := by simpa using h3
  clear h3
  go_enter Tryd.func27, Tryd.ntmps27
  go_wp2_with fail
  go_ret
  exact ⟨rfl, gb_alloc (gb_refl _ _) _⟩
set_option maxHeartbeats 4000000 in
set_option maxRecDepth 100000 in
theorem deep_goes (n room : Int) (s : ByteArray) (l : List Wr) (hr1 : 0 < room) (hr2 : room ≤ 100) (va : Value) (w : World) (ha : HL w 0 va l)
    (ih : ∀ x ∈ l, ∀ (L : Value) (w : World), HL w 0 L x.l → Calls Tryd.prog 27 #[.agg #[.int .i64 x.k, .int .i64 x.n, .string x.s, L], .int .i64 (room - 1)] w fun e w' => (∃ d : Int, 0 ≤ d ∧ d ≤ room - 2 ∧ e = .returned (.int .i64 d)) ∧ w.grownBy w' none) :
    Calls Tryd.prog 27 #[.agg #[.int .i64 3, .int .i64 n, .string s, va], .int .i64 room] w fun e w' => (∃ d : Int, 0 ≤ d ∧ d ≤ max 1 (room - 1) ∧ e = .returned (.int .i64 d)) ∧ w.grownBy w' none := by
  obtain ⟨A, c, rfl⟩ := ha.slice
  have d1 : decide (0 < room) = true := decide_eq_true (by omega)
  have hlen := ha.len
  obtain ⟨N, HN⟩ : ∃ N : Nat, Hid (N = l.length) := ⟨_, rfl⟩
  have Ha := Lib.hid ha
  have Hih := Lib.hid ih
  clear ha ih
  rw [← HN.out] at Ha hlen ⊢
  go_enter Tryd.func27, Tryd.ntmps27
  go_wp2_with fail
  go_loopw [6, 5] (fun i m wr => ∃ (j : Nat) (d : Int), j ≤ N ∧ i = .int .i64 j ∧ m = .int .i64 d ∧ 1 ≤ d ∧ d ≤ max 1 (room - 1) ∧ Hid ((w.alloc (.cells #[.int .i64 3, .int .i64 n, .string s, .slice A N c] 24)).grownBy wr none)) (fun i _ _ => N - (intOf i).toNat)
  case atStart => exact ⟨0, 1, Nat.zero_le _, rfl, rfl, Int.le_refl _, by omega, gb_refl _ _⟩
  case round =>
    obtain ⟨j, d, hj, rfl, rfl, hd1, hd2, Hg⟩ := hrel
    have hgw := gb_none (gb_alloc (gb_refl w none) (.cells #[.int .i64 3, .int .i64 n, .string s, .slice A N c] 24)) Hg.out
    have Hgw := Lib.hid hgw
    obtain ⟨⟨b0, b1, b2, b3⟩, _, hbl⟩ := box4 (show wr.heap[w.heap.size]? = some (.cells #[.int .i64 3, .int .i64 n, .string s, .slice A N c] 24 (0, 0)) from (Hg.out.block _ (by simp) (by simp)).trans (heap_alloc_new w _))
    clear hgw b0 b1 b2
    by_cases hlt : j < N
    · have z1 : decide (j < N) = true := decide_eq_true hlt
      obtain ⟨x, hx⟩ : ∃ x, l[j]? = some x := ⟨_, List.getElem?_eq_getElem (by rw [← HN.out]; exact hlt)⟩
      obtain ⟨g, o, B, m, rfl, _, hgs, c0, c1, c2', c3, hxl⟩ := (Ha.out.kept Hgw.out).item hx
      have Hx := Lib.hid hx
      have Hxl := Lib.hid hxl
      clear hx hxl
      go_wp2_with fail
      refine (Hih.out x (List.mem_of_getElem? Hx.out) _ _ Hxl.out).mono ?_
      rintro e w2 ⟨⟨q, hq1, hq2, rfl⟩, gg⟩
      have Hg2 := Lib.hid (gb_none Hg.out gg)
      have Hgw2 := Lib.hid (gb_none Hgw.out gg)
      clear gg
      go_wp2_with fail
      go_roundw
      case rel => exact ⟨j + 1, max d (1 + q), by omega, by go_num, by go_num, by omega, by omega, Hg2⟩
      case measure => simp [intOf]; omega
    · have z1 : decide (j < N) = false := decide_eq_false hlt
      clear hlt
      go_wp2_with fail
      go_ret
      exact ⟨⟨d, by omega, hd2, rfl⟩, Hgw.out⟩
theorem deep_fit : ∀ (x : Wr) (lim : Int), 1 ≤ lim → lim ≤ 100 → x.fit (lim - 1) = true → ∀ (L : Value) (w : World), HL w 0 L x.l →
    Calls Tryd.prog 27 #[.agg #[.int .i64 x.k, .int .i64 x.n, .string x.s, L], .int .i64 lim] w fun e w' => (∃ d : Int, 0 ≤ d ∧ d ≤ lim - 1 ∧ e = .returned (.int .i64 d)) ∧ w.grownBy w' none
  | .mk k n s l, lim, hr1, hr2, hf, L, w, hL => by
    have hL' : HL w 0 L l := hL
    obtain ⟨A, c, rfl⟩ := hL'.slice
    show Calls Tryd.prog 27 #[.agg #[.int .i64 k, .int .i64 n, .string s, .slice A l.length c], .int .i64 lim] w _
    by_cases h3 : k = 3
    · subst h3
      rw [fit_mk, if_neg (by decide), if_neg (by decide), if_pos rfl] at hf
      simp only [Bool.and_eq_true, decide_eq_true_eq] at hf
      obtain ⟨⟨_, hp⟩, _, ha⟩ := hf
      refine (deep_goes n lim s l (by omega) hr2 _ w hL' (fun x hx L w hxl => (deep_fit x (lim - 1) (by omega) (by omega) (all_fit ha x hx) L w hxl).mono ?_)).mono ?_
      · rintro e w2 ⟨⟨d, h1, h2, rfl⟩, g⟩; exact ⟨⟨d, h1, by omega, rfl⟩, g⟩
      · rintro e w2 ⟨⟨d, h1, h2, rfl⟩, g⟩; exact ⟨⟨d, h1, by omega, rfl⟩, g⟩
    · refine (deep_none k n lim s A l.length c w h3).mono ?_
      rintro e w2 ⟨rfl, g⟩
      exact ⟨⟨0, by omega, by omega, rfl⟩, g⟩
termination_by x => SizeOf.sizeOf x
decreasing_by
  have := List.sizeOf_lt_of_mem hx
  simp
  omega

set_option maxHeartbeats 1000000 in
theorem maywire_any (x : Wr) (L : Value) (w : World) (h : HL w 0 L x.l) :
    Calls Tryd.prog 13 #[.agg #[.int .i64 x.k, .int .i64 x.n, .string x.s, L]] w fun e w' => e = .returned (.bool x.may) ∧ w.grownBy w' none := by
  have Hf := Lib.hid (fun w hL => right_any x 6 (by omega) (by omega) L w hL)
  have Hd := Lib.hid (fun h6 w hL => deep_fit x 7 (by omega) (by omega) h6 L w hL)
  have HH := Lib.hid h
  obtain ⟨A, c, rfl⟩ := h.slice
  clear h
  generalize Hm : x.may = r
  have Hm' : x.fit 6 = r := Hm
  rw [Hm'] at Hf
  have Hm2 := Lib.hid Hm'
  clear Hm Hm'
  cases r with
  | false =>
    go_enter Tryd.func13, Tryd.ntmps13
    go_wp2_with fail
    refine (Hf.out _ (HH.out.kept (gb_alloc (gb_refl _ _) _))).mono ?_
    rintro e w2 ⟨rfl, g2⟩
    go_wp2_with fail
    go_ret
    exact ⟨rfl, gb_none (gb_alloc (gb_refl _ _) _) g2⟩
  | true =>
    go_enter Tryd.func13, Tryd.ntmps13
    go_wp2_with fail
    refine (Hf.out _ (HH.out.kept (gb_alloc (gb_refl _ _) _))).mono ?_
    rintro e w2 ⟨rfl, g2⟩
    have hb : w2.heap[w.heap.size]? = some (.cells #[.int .i64 x.k, .int .i64 x.n, .string x.s, .slice A x.l.length c] 24 (0, 0)) := (g2.block _ (by simp) (by simp)).trans (heap_alloc_new w _)
    obtain ⟨⟨b0, b1, b2, b3⟩, _, hbl⟩ := box4 hb
    have Hg2 := Lib.hid (gb_none (gb_alloc (gb_refl w none) _) g2)
    clear g2
    go_wp2_with fail
    refine (Hd.out Hm2.out _ (HH.out.kept Hg2.out)).mono ?_
    rintro e w3 ⟨⟨d, h1, h2, rfl⟩, g3⟩
    have h2' : d ≤ 6 := h2
    have z1 : decide (d ≤ 6) = true := decide_eq_true h2'
    clear h2
    go_wp2_with fail
    go_ret
    exact ⟨rfl, gb_none Hg2.out g3⟩
end Go.Proofs.YtbammjhafgbfkaaDoor
