/- wire.fits, allFit, May. -/
import Derived.Test.YtbammjhafgbfkaaDoorVWr
import Derived.Test.YtbammjhafgbfkaaDoorProg
import Derived.WalkKit
import Derived.IntWalk
import Derived.Outline
import Derived.Lib.Hide
namespace Go.Proofs.YtbammjhafgbfkaaDoor
open Go.RowKit Mm Vw

theorem ret_bool {a b : Bool} (h : a = b) : Ending.returned (.bool a) = .returned (.bool b) := by rw [h]
theorem cast_zero (n : Nat) : ((n : Int) == 0) = (n == 0) := by
  rw [Bool.eq_iff_iff]; simp
theorem size_zero {s : ByteArray} (h : s.size = 0) : s = ⟨#[]⟩ := by
  obtain ⟨⟨l⟩⟩ := s
  cases l with
  | nil => rfl
  | cons a r => simp [ByteArray.size] at h
theorem list_ne {s : ByteArray} (h : s.size ≠ 0) : s.toList.isEmpty = false := by
  rw [ByteArray.toList_eq, List.isEmpty_eq_false_iff]
  intro e
  exact h (by rw [ByteArray.size, ← Array.length_toList, e]; rfl)

set_option maxHeartbeats 1000000 in
theorem fits_num (n room : Int) (s : ByteArray) (A : Option Addr) (len c : Nat) (w : World) :
    Calls Tryd.prog 25 #[.agg #[.int .i64 1, .int .i64 n, .string s, .slice A len c], .int .i64 room] w fun e w' => e = .returned (.bool (s.size == 0 && len == 0)) ∧ w.grownBy w' none := by
  by_cases hs : s.size = 0
  · obtain rfl := size_zero hs
    clear hs
    go_enter Tryd.func25, Tryd.ntmps25
    go_wp2_with fail
    go_ret
    exact ⟨ret_bool (cast_zero len), gb_alloc (gb_refl _ _) _⟩
  · have h1 := list_ne hs
    have h2 : (s.size == 0) = false := by simpa using hs
    rw [h2]
    clear h2 hs
    go_enter Tryd.func25, Tryd.ntmps25
    go_wp2_with fail
    go_ret
    exact ⟨ret_bool (by simp), gb_alloc (gb_refl _ _) _⟩
set_option maxHeartbeats 1000000 in
theorem fits_text (n room : Int) (s : ByteArray) (A : Option Addr) (len c : Nat) (w : World) :
    Calls Tryd.prog 25 #[.agg #[.int .i64 2, .int .i64 n, .string s, .slice A len c], .int .i64 room] w fun e w' => e = .returned (.bool (n == 0 && decide (s.size ≤ 1048576) && len == 0)) ∧ w.grownBy w' none := by
  by_cases hn : n = 0
  · subst hn
    by_cases hs : s.size ≤ 1048576
    · have d1 : decide ((s.size : Int) ≤ 1048576) = true := decide_eq_true (by omega)
      have d2 : decide (s.size ≤ 1048576) = true := decide_eq_true hs
      rw [d2]
      clear d2
      go_enter Tryd.func25, Tryd.ntmps25
      go_wp2_with fail
      go_ret
      exact ⟨ret_bool (cast_zero len), gb_alloc (gb_refl _ _) _⟩
    · have d1 : decide ((s.size : Int) ≤ 1048576) = false := decide_eq_false (by omega)
      have d2 : decide (s.size ≤ 1048576) = false := decide_eq_false hs
      rw [d2]
      clear d2 hs
      go_enter Tryd.func25, Tryd.ntmps25
      go_wp2_with fail
      go_ret
      exact ⟨ret_bool (by simp), gb_alloc (gb_refl _ _) _⟩
  · have h2 : (n == 0) = false := by simpa using hn
    rw [h2]
    clear hn
    go_enter Tryd.func25, Tryd.ntmps25
    go_wp2_with fail
    go_ret
    exact ⟨ret_bool (by simp), gb_alloc (gb_refl _ _) _⟩
set_option maxHeartbeats 1000000 in
theorem fits_none (k n room : Int) (s : ByteArray) (A : Option Addr) (len c : Nat) (w : World) (h1 : k ≠ 1) (h2 : k ≠ 2) (h3 : k ≠ 3) :
    Calls Tryd.prog 25 #[.agg #[.int .i64 k, .int .i64 n, .string s, .slice A len c], .int .i64 room] w fun e w' => e = .returned (.bool false) ∧ w.grownBy w' none := by
  have t1 : (k == 1) = false := by simpa using h1
  have t2 : (k == 2) = false := by simpa using h2
  have t3 : (k == 3) = false := by simpa using h3
  clear h1 h2 h3
  go_enter Tryd.func25, Tryd.ntmps25
  go_wp2_with fail
  go_ret
  exact ⟨ret_bool (by simp), gb_alloc (gb_refl _ _) _⟩

/-- What is asked of a wire, ahead of its list. -/
def headB (n : Int) (s : ByteArray) (room : Int) : Bool := n == 0 && s.size == 0 && decide (0 < room)
set_option maxHeartbeats 1000000 in
theorem fits_listno (n room : Int) (s : ByteArray) (A : Option Addr) (len c : Nat) (w : World) (h : headB n s room = false) :
    Calls Tryd.prog 25 #[.agg #[.int .i64 3, .int .i64 n, .string s, .slice A len c], .int .i64 room] w fun e w' => e = .returned (.bool false) ∧ w.grownBy w' none := by
  unfold headB at h
  by_cases hn : n = 0
  · subst hn
    by_cases hs : s.size = 0
    · have d1 : decide (0 < room) = false := by simpa [hs] using h
      obtain rfl := size_zero hs
      clear h hs
      go_enter Tryd.func25, Tryd.ntmps25
      go_wp2_with fail
      go_ret
      exact ⟨ret_bool (by simp), gb_alloc (gb_refl _ _) _⟩
    · have h1 := list_ne hs
      clear hs h
      go_enter Tryd.func25, Tryd.ntmps25
      go_wp2_with fail
      go_ret
      exact ⟨ret_bool (by simp), gb_alloc (gb_refl _ _) _⟩
  · have h2 : (n == 0) = false := by simpa using hn
    clear hn h
    go_enter Tryd.func25, Tryd.ntmps25
    go_wp2_with fail
    go_ret
    exact ⟨ret_bool (by simp), gb_alloc (gb_refl _ _) _⟩

set_option maxHeartbeats 1000000 in
/-- allFit, its items by their own contract. -/
theorem allFit_of (l : List Wr) (room : Int) (v : Value) (w : World) (h : HL w 0 v l)
    (ih : ∀ x ∈ l, ∀ (L : Value) (w : World), HL w 0 L x.l → Calls Tryd.prog 25 #[.agg #[.int .i64 x.k, .int .i64 x.n, .string x.s, L], .int .i64 room] w fun e w' => e = .returned (.bool (x.fit room)) ∧ w.grownBy w' none) :
    Calls Tryd.prog 38 #[v, .int .i64 room] w fun e w' => e = .returned (.bool (decide (l.length ≤ 65536) && allFit room l)) ∧ w.grownBy w' none := by
  obtain ⟨A, c, rfl⟩ := h.slice
  by_cases hl : l.length ≤ 65536
  · have d1 : decide ((65536 : Int) < (l.length : Int)) = false := decide_eq_false (by omega)
    have d2 : decide (l.length ≤ 65536) = true := decide_eq_true hl
    rw [d2, Bool.true_and]
    have HH := Lib.hid h
    have Hih := Lib.hid ih
    clear d2 h ih
    go_enter Tryd.func38, Tryd.ntmps38
    go_wp2_with fail
    go_loopw [12] (fun i wr => ∃ k : Nat, k ≤ l.length ∧ i = .int .i64 k ∧ Hid (allFit room l = allFit room (l.drop k)) ∧ w.grownBy wr none) (fun i _ => l.length - (intOf i).toNat)
    case atStart => exact ⟨0, Nat.zero_le _, rfl, rfl, gb_refl _ _⟩
    case round =>
      obtain ⟨k, hk, rfl, Hf, hg⟩ := hrel
      by_cases hlt : k < l.length
      · have d3 : decide (k < l.length) = true := decide_eq_true hlt
        obtain ⟨x, hx⟩ : ∃ x, l[k]? = some x := ⟨_, List.getElem?_eq_getElem hlt⟩
        obtain ⟨g, o, A2, c', rfl, _, hgs, c0, c1, c2, c3, hxl⟩ := (HH.out.kept hg).item hx
        have Hx := Lib.hid hx
        have Hxl := Lib.hid hxl
        clear hx hxl
        go_wp2_with fail
        refine (Hih.out x (List.mem_of_getElem? Hx.out) _ _ (Hxl.out.kept (gb_alloc (gb_refl _ _) _))).mono ?_
        rintro e w2 ⟨rfl, g2⟩
        replace g2 := gb_none (gb_alloc hg _) g2
        have hd := allFit_drop room l k x Hx.out
        cases hfx : x.fit room with
        | true =>
          rw [hfx, Bool.true_and] at hd
          have Hd : Hid (allFit room l = allFit room (l.drop (k + 1))) := Hf.out.trans hd
          clear hd hfx
          go_wp2_with fail
          go_roundw
          case rel => exact ⟨k + 1, by omega, by go_num, Hd, g2⟩
          case measure => simp [intOf]; omega
        | false =>
          rw [hfx, Bool.false_and] at hd
          have Hd : Hid (allFit room l = false) := Hf.out.trans hd
          clear hd hfx
          go_wp2_with fail
          go_ret
          exact ⟨ret_bool Hd.out.symm, g2⟩
      · have d3 : decide (k < l.length) = false := decide_eq_false hlt
        have Hd : Hid (allFit room l = true) := by
          show _ = _
          rw [Hf.out, List.drop_eq_nil_of_le (by omega), allFit_nil]
        clear hlt
        go_wp2_with fail
        go_ret
        exact ⟨ret_bool Hd.out.symm, hg⟩
  · have d1 : decide ((65536 : Int) < (l.length : Int)) = true := decide_eq_true (by omega)
    have d2 : decide (l.length ≤ 65536) = false := decide_eq_false hl
    rw [d2, Bool.false_and]
    clear d2 hl h ih
    go_enter Tryd.func38, Tryd.ntmps38
    go_wp2_with fail
    go_ret
    exact ⟨rfl, gb_refl _ _⟩

set_option maxHeartbeats 1000000 in
theorem fits_list (room : Int) (l : List Wr) (hr1 : 0 < room) (hr2 : room ≤ 100) (v : Value) (w : World) (h : HL w 0 v l)
    (ih : ∀ (v : Value) (w : World), HL w 0 v l → Calls Tryd.prog 38 #[v, .int .i64 (room - 1)] w fun e w' => e = .returned (.bool (decide (l.length ≤ 65536) && allFit (room - 1) l)) ∧ w.grownBy w' none) :
    Calls Tryd.prog 25 #[.agg #[.int .i64 3, .int .i64 0, .string ⟨#[]⟩, v], .int .i64 room] w fun e w' => e = .returned (.bool (decide (l.length ≤ 65536) && allFit (room - 1) l)) ∧ w.grownBy w' none := by
  obtain ⟨A, c, rfl⟩ := h.slice
  have HH := Lib.hid h
  have Hih := Lib.hid ih
  have d1 : decide (0 < room) = true := decide_eq_true hr1
  clear h ih
  generalize (decide (l.length ≤ 65536) && allFit (room - 1) l) = r at *
  go_enter Tryd.func25, Tryd.ntmps25
  go_wp2_with fail
  refine (Hih.out _ _ (HH.out.kept (gb_alloc (gb_refl _ _) _))).mono ?_
  rintro e w2 ⟨rfl, g2⟩
  go_wp2_with fail
  go_ret
  exact ⟨rfl, gb_none (gb_alloc (gb_refl _ _) _) g2⟩

theorem fits_any : ∀ (x : Wr) (room : Int), -100 ≤ room → room ≤ 100 → ∀ (L : Value) (w : World), HL w 0 L x.l →
    Calls Tryd.prog 25 #[.agg #[.int .i64 x.k, .int .i64 x.n, .string x.s, L], .int .i64 room] w fun e w' => e = .returned (.bool (x.fit room)) ∧ w.grownBy w' none
  | .mk k n s l, room, hr1, hr2, L, w, hL => by
    have hL' : HL w 0 L l := hL
    obtain ⟨A, c, rfl⟩ := hL'.slice
    show Calls Tryd.prog 25 #[.agg #[.int .i64 k, .int .i64 n, .string s, .slice A l.length c], .int .i64 room] w fun e w' => e = .returned (.bool ((Wr.mk k n s l).fit room)) ∧ w.grownBy w' none
    rw [fit_mk]
    by_cases h1 : k = 1
    · subst h1; rw [if_pos rfl]; exact fits_num n room s A l.length c w
    by_cases h2 : k = 2
    · subst h2; rw [if_neg (by decide), if_pos rfl]; exact fits_text n room s A l.length c w
    by_cases h3 : k = 3
    · subst h3; rw [if_neg (by decide), if_neg (by decide), if_pos rfl]
      cases hb : headB n s room with
      | false =>
        have hb' := hb
        unfold headB at hb'
        rw [hb', Bool.false_and]
        exact fits_listno n room s A l.length c w hb
      | true =>
        have hb' := hb
        unfold headB at hb'
        rw [hb', Bool.true_and]
        simp only [Bool.and_eq_true, beq_iff_eq, decide_eq_true_eq] at hb'
        obtain ⟨⟨rfl, hs⟩, hr⟩ := hb'
        obtain rfl := size_zero hs
        refine fits_list room l hr hr2 _ w hL' (fun v w' hv => allFit_of l (room - 1) v w' hv (fun x hx L w hxl => fits_any x (room - 1) (by omega) (by omega) L w hxl))
    · rw [if_neg h1, if_neg h2, if_neg h3]; exact fits_none k n room s A l.length c w h1 h2 h3
termination_by x => SizeOf.sizeOf x
decreasing_by
  have := List.sizeOf_lt_of_mem hx
  simp
  omega

set_option maxHeartbeats 1000000 in
theorem may_any (x : Wr) (L : Value) (w : World) (h : HL w 0 L x.l) :
    Calls Tryd.prog 12 #[.agg #[.int .i64 x.k, .int .i64 x.n, .string x.s, L]] w fun e w' => e = .returned (.bool x.may) ∧ w.grownBy w' none := by
  have Hf := Lib.hid (fun w hL => fits_any x 6 (by omega) (by omega) L w hL)
  have HH := Lib.hid h
  obtain ⟨A, c, rfl⟩ := h.slice
  clear h
  generalize Hm : x.may = r
  have Hm' : x.fit 6 = r := Hm
  rw [Hm'] at Hf
  have Hm2 := Lib.hid Hm'
  clear Hm Hm'
  go_enter Tryd.func12, Tryd.ntmps12
  go_wp2_with fail
  refine (Hf.out _ (HH.out.kept (gb_alloc (gb_refl _ _) _))).mono ?_
  rintro e w2 ⟨rfl, g2⟩
  go_wp2_with fail
  go_ret
  exact ⟨rfl, gb_none (gb_alloc (gb_refl _ _) _) g2⟩
end Go.Proofs.YtbammjhafgbfkaaDoor
