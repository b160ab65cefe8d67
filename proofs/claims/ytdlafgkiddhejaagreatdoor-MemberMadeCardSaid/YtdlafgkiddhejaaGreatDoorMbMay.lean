/- Which records may be, as the program tells it. Written by gen_mbmay.py. -/
import Derived.Test.YtdlafgkiddhejaaGreatDoorMbW
set_option linter.unusedVariables false
namespace Go.Proofs.YtdlafgkiddhejaaGreatDoor.Mb
open Go Go.RowKit Go.Proofs.YtdlafgkiddhejaaGreatDoor.Mm Go.Proofs.YtdlafgkiddhejaaGreatDoor.Td Go.Proofs.YtdlafgkiddhejaaGreatDoor.Vw Go.Proofs.YtdlafgkiddhejaaGreatDoor.Dt

attribute [local go_sem] Td.upon_value Td.upon_skip Td.upon_enter Td.upon_row Td.look_tmp Td.look_const Td.look_func Td.look_global
theorem eq_yes {a b : Int} (h : a = b) : (a == b) = true := by rw [h]; exact beq_self_eq_true _
theorem eq_no {a b : Int} (h : a ≠ b) : (a == b) = false := by rw [beq_eq_false_iff_ne]; exact h
set_option maxHeartbeats 4000000 in
theorem isKind_any (k : Int) (w : World) : Calls Tryz.prog 47 #[.int .i64 k] w fun e w' => e = .returned (.bool (decide (k = 1 ∨ k = 2))) ∧ w = w' := by
  by_cases h1 : k = 1
  · have q1 := eq_yes h1
    have HE : Hid (decide (k = 1 ∨ k = 2) = true) := by show _ = _; exact decide_eq_true (.inl h1)
    rw [HE.out]
    clear h1
    go_enter Tryz.func47, Tryz.ntmps47
    go_wp2_with fail
    go_ret
    exact ⟨rfl, rfl⟩
  · have q1 := eq_no h1
    obtain ⟨q, hq⟩ : ∃ q, (k == 2) = q := ⟨_, rfl⟩
    have HE : Hid (decide (k = 1 ∨ k = 2) = q) := by
      show _ = _
      rw [← hq]
      by_cases h2 : k = 2
      · rw [eq_yes h2, decide_eq_true (.inr h2)]
      · rw [eq_no h2, decide_eq_false (fun h => h.elim h1 h2)]
    rw [HE.out]
    clear h1
    go_enter Tryz.func47, Tryz.ntmps47
    go_wp2_with fail
    go_ret
    exact ⟨rfl, rfl⟩
set_option maxHeartbeats 4000000 in
theorem isDev_any (k : Int) (w : World) : Calls Tryz.prog 48 #[.int .i64 k] w fun e w' => e = .returned (.bool (decide (0 ≤ k ∧ k < 8))) ∧ w = w' := by
  by_cases h1 : 0 ≤ k
  · have q1 : decide (0 ≤ k) = true := decide_eq_true h1
    obtain ⟨q, hq⟩ : ∃ q, decide (k < 8) = q := ⟨_, rfl⟩
    have HE : Hid (decide (0 ≤ k ∧ k < 8) = q) := by
      show _ = _
      rw [← hq]
      by_cases h2 : k < 8
      · rw [decide_eq_true h2, decide_eq_true ⟨h1, h2⟩]
      · rw [decide_eq_false h2, decide_eq_false (fun h => h2 h.2)]
    rw [HE.out]
    clear h1
    go_enter Tryz.func48, Tryz.ntmps48
    go_wp2_with fail
    go_ret
    exact ⟨rfl, rfl⟩
  · have q1 : decide (0 ≤ k) = false := decide_eq_false h1
    have HE : Hid (decide (0 ≤ k ∧ k < 8) = false) := by show _ = _; exact decide_eq_false (fun h => h1 h.1)
    rw [HE.out]
    clear h1
    go_enter Tryz.func48, Tryz.ntmps48
    go_wp2_with fail
    go_ret
    exact ⟨rfl, rfl⟩
set_option maxHeartbeats 8000000 in
set_option maxRecDepth 100000 in
theorem mayHang_any (sq kd dv : Int) (pv tg : ByteArray) (A : Option Addr) (n c : Nat) (w : World) : Calls Tryz.prog 46 #[.agg #[.int .i64 sq, .string pv, .int .i64 kd, .int .i64 dv, .slice A n c, .string tg]] w (BoolIs (pv.size = 32 ∨ sq = 1 ∧ pv.size = 0) w) := by
  by_cases h1 : pv.size = 32
  · have q1 : ((pv.size : Int) == 32) = true := eq_yes (by omega)
    have HE : Hid (pv.size = 32 ∨ sq = 1 ∧ pv.size = 0) := .inl h1
    clear h1
    go_enter Tryz.func46, Tryz.ntmps46
    go_wp2_with fail
    go_ret
    exact .of_yes HE.out (gb_alloc (gb_refl _ _) _)
  · have q1 : ((pv.size : Int) == 32) = false := eq_no (by omega)
    by_cases h2 : sq = 1
    · have q2 := eq_yes h2
      by_cases h3 : pv.size = 0
      · have q3 := str_none h3
        have HE : Hid (pv.size = 32 ∨ sq = 1 ∧ pv.size = 0) := .inr ⟨h2, h3⟩
        clear h1 h2 h3
        go_enter Tryz.func46, Tryz.ntmps46
        go_wp2_with fail
        go_ret
        exact .of_yes HE.out (gb_alloc (gb_refl _ _) _)
      · have q3 := str_some h3
        have HE : Hid (¬ (pv.size = 32 ∨ sq = 1 ∧ pv.size = 0)) := fun h => h.elim h1 (fun h => h3 h.2)
        clear h1 h2 h3
        go_enter Tryz.func46, Tryz.ntmps46
        go_wp2_with fail
        go_ret
        exact .of_no HE.out (gb_alloc (gb_refl _ _) _)
    · have q2 := eq_no h2
      have HE : Hid (¬ (pv.size = 32 ∨ sq = 1 ∧ pv.size = 0)) := fun h => h.elim h1 (fun h => h2 h.1)
      clear h1 h2
      go_enter Tryz.func46, Tryz.ntmps46
      go_wp2_with fail
      go_ret
      exact .of_no HE.out (gb_alloc (gb_refl _ _) _)
/-- Wraps that may be, by rising devices. -/
def WrapsOk (l : List Wp) : Prop := (∀ w ∈ l, RightW w) ∧ RiseW l
theorem take_snoc {l : List Wp} {k : Nat} {x : Wp} (hx : l[k]? = some x) : l.take (k + 1) = l.take k ++ [x] := by rw [List.take_add_one, hx]; rfl
theorem last_take {l : List Wp} {j : Nat} {z : Wp} (hz : l[j]? = some z) : (l.take (j + 1)).getLast? = some z := by rw [take_snoc hz, List.getLast?_concat]
theorem wraps_nil {l : List Wp} : WrapsOk (l.take 0) := ⟨fun w h => by simp at h, rise_nil⟩
theorem wraps_next {l : List Wp} {k : Nat} {x : Wp} (h : WrapsOk (l.take k)) (hx : l[k]? = some x) (hr : RightW x) (hp : ∀ j z, k = j + 1 → l[j]? = some z → z.d < x.d) : WrapsOk (l.take (k + 1)) := by
  rw [take_snoc hx]
  refine ⟨fun w hw => ?_, rise_snoc.2 ⟨h.2, fun a ha => ?_⟩⟩
  · rcases List.mem_append.1 hw with h1 | h1
    · exact h.1 w h1
    · rw [List.mem_singleton.1 h1]; exact hr
  · cases k with
    | zero => simp at ha
    | succ j =>
      obtain ⟨z, hz⟩ : ∃ z, l[j]? = some z := ⟨_, List.getElem?_eq_getElem (by have := (List.getElem?_eq_some_iff.1 hx).1; omega)⟩
      rw [last_take hz] at ha
      obtain rfl := Option.some.inj ha
      exact hp j z rfl hz
theorem wraps_bad {l : List Wp} {k : Nat} {x : Wp} (hx : l[k]? = some x) (hr : ¬ RightW x) : ¬ WrapsOk l := fun h => hr (h.1 x (List.mem_of_getElem? hx))
theorem wraps_fall {l : List Wp} {j : Nat} {z x : Wp} (hz : l[j]? = some z) (hx : l[j + 1]? = some x) (h : x.d ≤ z.d) : ¬ WrapsOk l := fun k => by
  have := k.2 j z x hz hx
  omega
theorem wraps_all {l : List Wp} {n : Nat} (h : WrapsOk (l.take n)) (hn : l.length = n) : WrapsOk l := by rwa [List.take_of_length_le (by omega)] at h
theorem wbox {w : World} {x : Wp} {t : TypeId} : WAt (w.alloc (.cells #[.int .i64 x.d, .string x.box] t)) w.heap.size 0 x := ⟨(Row.new w t _).at_ (i := 0) rfl, (Row.new w t _).at_ (i := 1) rfl⟩
theorem wl_of {w : World} {g o n : Nat} {l : List Wp} (h : WL w (some ⟨g, o, none⟩) n l) {i : Nat} {x : Wp} (hx : l[i]? = some x) : g < w.heap.size ∧ WAt w g (o + i * 2) x := by
  obtain ⟨g', o', e, hg, hc⟩ := wl_at h hx
  cases e
  exact ⟨hg, hc⟩
theorem at_last {l : List Wp} {j : Nat} {z : Wp} {d : Int} (hz : l[j]? = some z) (h : z.d < d) : ∀ i y, j + 1 = i + 1 → l[i]? = some y → y.d < d := fun i y e hy => by
  obtain rfl : j = i := by omega
  rw [hz] at hy
  obtain rfl := Option.some.inj hy
  exact h
set_option maxHeartbeats 8000000 in
set_option maxRecDepth 100000 in
theorem mayWrap_any (A : Option Addr) (n c : Nat) (l : List Wp) (w : World) (hl : WL w A n l) (hn : n ≤ 1099511627776) :
    Calls Tryz.prog 49 #[.slice A n c] w (BoolIs (WrapsOk l) w) := by
  have Hl := Lib.hid hl
  have Hn := Lib.hid hn
  clear hl hn
  go_enter Tryz.func49, Tryz.ntmps49
  go_wp2_with fail
  go_loopw [7] (fun i wr => ∃ k : Nat, k ≤ n ∧ i = .int .i64 k ∧ Hid (WrapsOk (l.take k)) ∧ w.grownBy wr none) (fun i _ => n - (intOf i).toNat)
  case atStart => exact ⟨0, Nat.zero_le _, rfl, wraps_nil, gb_refl _ _⟩
  case round =>
    obtain ⟨k, hk, rfl, HX, hg⟩ := hrel
    by_cases hlt : k < n
    · have d1 : decide (k < n) = true := decide_eq_true hlt
      have d2 : decide ((k : Int) < (n : Int)) = true := decide_eq_true (by omega)
      have bk : (k : Int) < (n : Int) := by omega
      have t1 : IntKind.i64.wrap ((k : Int) + 1) = ((k + 1 : Nat) : Int) := by rw [IntKind.wrap_i64]; have := Hn.out; omega
      have hWL := Hl.out.keep hg
      obtain ⟨g, o, rfl, hgl, _⟩ := hWL.2 (by omega)
      obtain ⟨x, hx⟩ : ∃ x, l[k]? = some x := ⟨_, List.getElem?_eq_getElem (by rw [Hl.out.1]; exact hlt)⟩
      obtain ⟨_, h0, h1⟩ := wl_of hWL hx
      have HWL := Lib.hid hWL
      have Hx := Lib.hid hx
      have Hlt := Lib.hid hlt
      clear hWL hx hlt hk
      go_upto_region 4 with fail
      obtain ⟨W4, hW4⟩ : ∃ W4, wr.alloc (.cells #[.int .i64 x.d, .string x.box] 37) = W4 := ⟨_, rfl⟩
      have hb4 : WAt W4 wr.heap.size 0 x := by rw [← hW4]; exact wbox
      have hs4 : wr.heap.size < W4.heap.size := by rw [← hW4]; simp
      have g4 : wr.grownBy W4 none := by rw [← hW4]; exact gb_alloc (gb_refl _ _) _
      have HR : Hid (∀ W, W4.grownBy W none → WAt W wr.heap.size 0 x) := fun W hW => hb4.kept hs4 hW (by simp)
      have HWL4 : Hid (WL W4 (some ⟨g, o, none⟩) n l) := HWL.out.keep g4
      have Hg4 : Hid (w.grownBy W4 none) := gb_none hg g4
      rw [hW4]
      clear hW4 hb4 hs4 g4 h0 h1 hgl
      generalize wr.heap.size = D4 at *
      by_cases ho : 0 ≤ x.d ∧ x.d < 8
      · have so : decide (0 ≤ x.d ∧ x.d < 8) = true := decide_eq_true ho
        have Hod := Lib.hid ho
        clear ho
        rcases k with _ | j
        · by_cases hs : x.box.size ≤ 200
          · have s1 : decide (200 < x.box.size) = false := decide_eq_false (by omega)
            have s2 : decide ((200 : Int) < (x.box.size : Int)) = false := decide_eq_false (by omega)
            have HN : Hid (WrapsOk (l.take (0 + 1))) := wraps_next HX.out Hx.out ⟨Hod.out.1, Hod.out.2, hs⟩ (fun j z e _ => (by cases e))
            clear hs
            apply wp_region_told (le := fun a b => a.grownBy b none) [isV _, isV _, isV _, isV _, isV _, isV _, isV _, isV _, isV _, isV _, isV _, isV _, isV _, isV _, isV _, isV _, isV _, isV _, isV _, isV _, isV _, isV _, isV _, isV _, isV _]
            case hn => rfl
            case hm => kernel_rfl
            case hB => kernel_rfl
            case ht => exact fun _ _ _ h k => gb_none h k
            case hw => exact gb_drew (gb_refl _ _)
            -- 0: member.go:44 fieldAddr
            apply told_is
            · intro W f hW hE h0 K hK
              have e4 := h0 4 (by kernel_rfl)
              conv at e4 => rhs; whnf
              clear hE h0
              refine yes_of (want_free rfl) ?_
              go_simp; exact hK _ _ (gb_refl _ _) rfl
            -- 1: member.go:44 load
            apply told_is
            · intro W f hW hE h0 K hK
              have e12 : f 12 = _ := hE 0 12 _ rfl (by kernel_rfl)
              clear hE h0
              refine yes_of (want_free rfl) ?_
              obtain ⟨hc0, hc1⟩ := HR.out W hW
              go_simp; exact hK _ _ (gb_refl _ _) rfl
            -- 2: member.go:44 call
            apply told_is
            · intro W f hW hE h0 K hK
              have e13 : f 13 = _ := hE 0 13 _ rfl (by kernel_rfl)
              clear hE h0
              refine yes_of (want_free rfl) ?_
              go_simp
              refine (isDev_any x.d W).mono ?_
              rintro e w1' ⟨rfl, rfl⟩
              exact ⟨_, rfl, hK _ _ (gb_refl _ _) rfl⟩
            -- 3: member.go:44 unOp
            apply told_is
            · intro W f hW hE h0 K hK
              have e14 : f 14 = _ := hE 0 14 _ rfl (by kernel_rfl)
              clear hE h0
              refine yes_of (want_free rfl) ?_
              go_simp; exact hK _ _ (gb_refl _ _) rfl
            -- 4: member.go:44 move
            apply told_is
            · intro W f hW hE h0 K hK
              have e15 : f 15 = _ := hE 0 15 _ rfl (by kernel_rfl)
              clear hE h0
              refine yes_of (want_free rfl) ?_
              go_simp; exact hK _ _ (gb_refl _ _) rfl
            -- 5: member.go:44 move
            apply told_is
            · intro W f hW hE h0 K hK
              have e3 := h0 3 (by kernel_rfl)
              conv at e3 => rhs; whnf
              have e16 : f 16 = _ := hE 0 16 _ rfl (by kernel_rfl)
              clear hE h0
              refine yes_of (want_yes rfl rfl e16) ?_
              go_simp; exact hK _ _ (gb_refl _ _) rfl
            -- 6: member.go:44 binOp
            apply told_is
            · intro W f hW hE h0 K hK
              have e17 : f 17 = _ := hE 0 17 _ rfl (by kernel_rfl)
              have e16 : f 16 = _ := hE 1 16 _ rfl (by kernel_rfl)
              clear hE h0
              refine yes_of (want_yes rfl rfl e16) ?_
              go_simp; exact hK _ _ (gb_refl _ _) rfl
            -- 7: member.go:44 move
            apply told_is
            · intro W f hW hE h0 K hK
              have e18 : f 18 = _ := hE 0 18 _ rfl (by kernel_rfl)
              have e16 : f 16 = _ := hE 2 16 _ rfl (by kernel_rfl)
              clear hE h0
              refine yes_of (want_yes rfl rfl e16) ?_
              go_simp; exact hK _ _ (gb_refl _ _) rfl
            -- 8: member.go:44 fieldAddr
            apply told_is
            · intro W f hW hE h0 K hK
              have e19 : f 19 = _ := hE 0 19 _ rfl (by kernel_rfl)
              clear hE h0
              refine no_of (want_no rfl rfl e19 rfl) ?_
              exact hK _ _ (gb_refl _ _) rfl
            -- 9: member.go:44 load
            apply told_is
            · intro W f hW hE h0 K hK
              have e19 : f 19 = _ := hE 1 19 _ rfl (by kernel_rfl)
              clear hE h0
              refine no_of (want_no rfl rfl e19 rfl) ?_
              exact hK _ _ (gb_refl _ _) rfl
            -- 10: member.go:44 move
            apply told_is
            · intro W f hW hE h0 K hK
              have e19 : f 19 = _ := hE 2 19 _ rfl (by kernel_rfl)
              clear hE h0
              refine no_of (want_no rfl rfl e19 rfl) ?_
              exact hK _ _ (gb_refl _ _) rfl
            -- 11: member.go:44 move
            apply told_is
            · intro W f hW hE h0 K hK
              have e19 : f 19 = _ := hE 3 19 _ rfl (by kernel_rfl)
              clear hE h0
              refine no_of (want_no rfl rfl e19 rfl) ?_
              exact hK _ _ (gb_refl _ _) rfl
            -- 12: member.go:44 binOp
            apply told_is
            · intro W f hW hE h0 K hK
              have e19 : f 19 = _ := hE 4 19 _ rfl (by kernel_rfl)
              clear hE h0
              refine no_of (want_no rfl rfl e19 rfl) ?_
              exact hK _ _ (gb_refl _ _) rfl
            -- 13: member.go:44 indexAddr
            apply told_is
            · intro W f hW hE h0 K hK
              have e19 : f 19 = _ := hE 5 19 _ rfl (by kernel_rfl)
              clear hE h0
              refine no_of (want_no rfl rfl e19 rfl) ?_
              exact hK _ _ (gb_refl _ _) rfl
            -- 14: member.go:44 fieldAddr
            apply told_is
            · intro W f hW hE h0 K hK
              have e19 : f 19 = _ := hE 6 19 _ rfl (by kernel_rfl)
              clear hE h0
              refine no_of (want_no rfl rfl e19 rfl) ?_
              exact hK _ _ (gb_refl _ _) rfl
            -- 15: member.go:44 load
            apply told_is
            · intro W f hW hE h0 K hK
              have e19 : f 19 = _ := hE 7 19 _ rfl (by kernel_rfl)
              clear hE h0
              refine no_of (want_no rfl rfl e19 rfl) ?_
              exact hK _ _ (gb_refl _ _) rfl
            -- 16: member.go:44 binOp
            apply told_is
            · intro W f hW hE h0 K hK
              have e19 : f 19 = _ := hE 8 19 _ rfl (by kernel_rfl)
              clear hE h0
              refine no_of (want_no rfl rfl e19 rfl) ?_
              exact hK _ _ (gb_refl _ _) rfl
            -- 17: member.go:44 pick
            apply told_is
            · intro W f hW hE h0 K hK
              have e19 : f 19 = _ := hE 9 19 _ rfl (by kernel_rfl)
              have e28 : f 28 = _ := hE 0 28 _ rfl (by kernel_rfl)
              have e16 : f 16 = _ := hE 12 16 _ rfl (by kernel_rfl)
              clear hE h0
              refine yes_of (want_yes rfl rfl e16) ?_
              go_simp; exact hK _ _ (gb_refl _ _) rfl
            -- 18: member.go:44 pick
            apply told_is
            · intro W f hW hE h0 K hK
              have e16 : f 16 = _ := hE 13 16 _ rfl (by kernel_rfl)
              have e29 : f 29 = _ := hE 0 29 _ rfl (by kernel_rfl)
              clear hE h0
              refine yes_of (want_free rfl) ?_
              go_simp; exact hK _ _ (gb_refl _ _) rfl
            -- 19: member.go:44 move
            apply told_is
            · intro W f hW hE h0 K hK
              have e30 : f 30 = _ := hE 0 30 _ rfl (by kernel_rfl)
              clear hE h0
              refine yes_of (want_free rfl) ?_
              go_simp; exact hK _ _ (gb_refl _ _) rfl
            -- 20: member.go:44 fieldAddr
            apply told_is
            · intro W f hW hE h0 K hK
              have e4 := h0 4 (by kernel_rfl)
              conv at e4 => rhs; whnf
              have e31 : f 31 = _ := hE 0 31 _ rfl (by kernel_rfl)
              clear hE h0
              refine yes_of (want_yes rfl rfl e31) ?_
              go_simp; exact hK _ _ (gb_refl _ _) rfl
            -- 21: member.go:44 load
            apply told_is
            · intro W f hW hE h0 K hK
              have e32 : f 32 = _ := hE 0 32 _ rfl (by kernel_rfl)
              have e31 : f 31 = _ := hE 1 31 _ rfl (by kernel_rfl)
              clear hE h0
              refine yes_of (want_yes rfl rfl e31) ?_
              obtain ⟨hc0, hc1⟩ := HR.out W hW
              go_simp; exact hK _ _ (gb_refl _ _) rfl
            -- 22: member.go:44 call
            apply told_is
            · intro W f hW hE h0 K hK
              have e33 : f 33 = _ := hE 0 33 _ rfl (by kernel_rfl)
              have e31 : f 31 = _ := hE 2 31 _ rfl (by kernel_rfl)
              clear hE h0
              refine yes_of (want_yes rfl rfl e31) ?_
              go_simp; exact hK _ _ (gb_refl _ _) rfl
            -- 23: member.go:44 binOp
            apply told_is
            · intro W f hW hE h0 K hK
              have e34 : f 34 = _ := hE 0 34 _ rfl (by kernel_rfl)
              have e31 : f 31 = _ := hE 3 31 _ rfl (by kernel_rfl)
              clear hE h0
              refine yes_of (want_yes rfl rfl e31) ?_
              go_simp; exact hK _ _ (gb_refl _ _) rfl
            -- 24: member.go:44 pick
            apply told_is
            · intro W f hW hE h0 K hK
              have e31 : f 31 = _ := hE 4 31 _ rfl (by kernel_rfl)
              have e35 : f 35 = _ := hE 0 35 _ rfl (by kernel_rfl)
              clear hE h0
              refine yes_of (want_free rfl) ?_
              go_simp; exact hK _ _ (gb_refl _ _) rfl
            intro W f hW hA
            simp only [lexIn, Act.put, List.setIfInBounds_toArray, List.set_cons_zero, List.set_cons_succ]
            have e36 : f 36 = _ := hA 0 (some 36) _ rfl
            rw [e36]
            clear hA
            have Hw := Lib.hid hW
            clear hW
            go_wp2_with fail
            go_roundw
            case rel => exact ⟨0 + 1, by have := Hlt.out; omega, rfl, HN.out, gb_none Hg4.out Hw.out⟩
            case measure => simp [intOf]; have := Hlt.out; omega
          · have s1 : decide (200 < x.box.size) = true := decide_eq_true (by omega)
            have s2 : decide ((200 : Int) < (x.box.size : Int)) = true := decide_eq_true (by omega)
            have HF : Hid (¬ WrapsOk l) := wraps_bad Hx.out (fun h => hs h.2.2)
            clear hs
            apply wp_region_told (le := fun a b => a.grownBy b none) [isV _, isV _, isV _, isV _, isV _, isV _, isV _, isV _, isV _, isV _, isV _, isV _, isV _, isV _, isV _, isV _, isV _, isV _, isV _, isV _, isV _, isV _, isV _, isV _, isV _]
            case hn => rfl
            case hm => kernel_rfl
            case hB => kernel_rfl
            case ht => exact fun _ _ _ h k => gb_none h k
            case hw => exact gb_drew (gb_refl _ _)
            -- 0: member.go:44 fieldAddr
            apply told_is
            · intro W f hW hE h0 K hK
              have e4 := h0 4 (by kernel_rfl)
              conv at e4 => rhs; whnf
              clear hE h0
              refine yes_of (want_free rfl) ?_
              go_simp; exact hK _ _ (gb_refl _ _) rfl
            -- 1: member.go:44 load
            apply told_is
            · intro W f hW hE h0 K hK
              have e12 : f 12 = _ := hE 0 12 _ rfl (by kernel_rfl)
              clear hE h0
              refine yes_of (want_free rfl) ?_
              obtain ⟨hc0, hc1⟩ := HR.out W hW
              go_simp; exact hK _ _ (gb_refl _ _) rfl
            -- 2: member.go:44 call
            apply told_is
            · intro W f hW hE h0 K hK
              have e13 : f 13 = _ := hE 0 13 _ rfl (by kernel_rfl)
              clear hE h0
              refine yes_of (want_free rfl) ?_
              go_simp
              refine (isDev_any x.d W).mono ?_
              rintro e w1' ⟨rfl, rfl⟩
              exact ⟨_, rfl, hK _ _ (gb_refl _ _) rfl⟩
            -- 3: member.go:44 unOp
            apply told_is
            · intro W f hW hE h0 K hK
              have e14 : f 14 = _ := hE 0 14 _ rfl (by kernel_rfl)
              clear hE h0
              refine yes_of (want_free rfl) ?_
              go_simp; exact hK _ _ (gb_refl _ _) rfl
            -- 4: member.go:44 move
            apply told_is
            · intro W f hW hE h0 K hK
              have e15 : f 15 = _ := hE 0 15 _ rfl (by kernel_rfl)
              clear hE h0
              refine yes_of (want_free rfl) ?_
              go_simp; exact hK _ _ (gb_refl _ _) rfl
            -- 5: member.go:44 move
            apply told_is
            · intro W f hW hE h0 K hK
              have e3 := h0 3 (by kernel_rfl)
              conv at e3 => rhs; whnf
              have e16 : f 16 = _ := hE 0 16 _ rfl (by kernel_rfl)
              clear hE h0
              refine yes_of (want_yes rfl rfl e16) ?_
              go_simp; exact hK _ _ (gb_refl _ _) rfl
            -- 6: member.go:44 binOp
            apply told_is
            · intro W f hW hE h0 K hK
              have e17 : f 17 = _ := hE 0 17 _ rfl (by kernel_rfl)
              have e16 : f 16 = _ := hE 1 16 _ rfl (by kernel_rfl)
              clear hE h0
              refine yes_of (want_yes rfl rfl e16) ?_
              go_simp; exact hK _ _ (gb_refl _ _) rfl
            -- 7: member.go:44 move
            apply told_is
            · intro W f hW hE h0 K hK
              have e18 : f 18 = _ := hE 0 18 _ rfl (by kernel_rfl)
              have e16 : f 16 = _ := hE 2 16 _ rfl (by kernel_rfl)
              clear hE h0
              refine yes_of (want_yes rfl rfl e16) ?_
              go_simp; exact hK _ _ (gb_refl _ _) rfl
            -- 8: member.go:44 fieldAddr
            apply told_is
            · intro W f hW hE h0 K hK
              have e19 : f 19 = _ := hE 0 19 _ rfl (by kernel_rfl)
              clear hE h0
              refine no_of (want_no rfl rfl e19 rfl) ?_
              exact hK _ _ (gb_refl _ _) rfl
            -- 9: member.go:44 load
            apply told_is
            · intro W f hW hE h0 K hK
              have e19 : f 19 = _ := hE 1 19 _ rfl (by kernel_rfl)
              clear hE h0
              refine no_of (want_no rfl rfl e19 rfl) ?_
              exact hK _ _ (gb_refl _ _) rfl
            -- 10: member.go:44 move
            apply told_is
            · intro W f hW hE h0 K hK
              have e19 : f 19 = _ := hE 2 19 _ rfl (by kernel_rfl)
              clear hE h0
              refine no_of (want_no rfl rfl e19 rfl) ?_
              exact hK _ _ (gb_refl _ _) rfl
            -- 11: member.go:44 move
            apply told_is
            · intro W f hW hE h0 K hK
              have e19 : f 19 = _ := hE 3 19 _ rfl (by kernel_rfl)
              clear hE h0
              refine no_of (want_no rfl rfl e19 rfl) ?_
              exact hK _ _ (gb_refl _ _) rfl
            -- 12: member.go:44 binOp
            apply told_is
            · intro W f hW hE h0 K hK
              have e19 : f 19 = _ := hE 4 19 _ rfl (by kernel_rfl)
              clear hE h0
              refine no_of (want_no rfl rfl e19 rfl) ?_
              exact hK _ _ (gb_refl _ _) rfl
            -- 13: member.go:44 indexAddr
            apply told_is
            · intro W f hW hE h0 K hK
              have e19 : f 19 = _ := hE 5 19 _ rfl (by kernel_rfl)
              clear hE h0
              refine no_of (want_no rfl rfl e19 rfl) ?_
              exact hK _ _ (gb_refl _ _) rfl
            -- 14: member.go:44 fieldAddr
            apply told_is
            · intro W f hW hE h0 K hK
              have e19 : f 19 = _ := hE 6 19 _ rfl (by kernel_rfl)
              clear hE h0
              refine no_of (want_no rfl rfl e19 rfl) ?_
              exact hK _ _ (gb_refl _ _) rfl
            -- 15: member.go:44 load
            apply told_is
            · intro W f hW hE h0 K hK
              have e19 : f 19 = _ := hE 7 19 _ rfl (by kernel_rfl)
              clear hE h0
              refine no_of (want_no rfl rfl e19 rfl) ?_
              exact hK _ _ (gb_refl _ _) rfl
            -- 16: member.go:44 binOp
            apply told_is
            · intro W f hW hE h0 K hK
              have e19 : f 19 = _ := hE 8 19 _ rfl (by kernel_rfl)
              clear hE h0
              refine no_of (want_no rfl rfl e19 rfl) ?_
              exact hK _ _ (gb_refl _ _) rfl
            -- 17: member.go:44 pick
            apply told_is
            · intro W f hW hE h0 K hK
              have e19 : f 19 = _ := hE 9 19 _ rfl (by kernel_rfl)
              have e28 : f 28 = _ := hE 0 28 _ rfl (by kernel_rfl)
              have e16 : f 16 = _ := hE 12 16 _ rfl (by kernel_rfl)
              clear hE h0
              refine yes_of (want_yes rfl rfl e16) ?_
              go_simp; exact hK _ _ (gb_refl _ _) rfl
            -- 18: member.go:44 pick
            apply told_is
            · intro W f hW hE h0 K hK
              have e16 : f 16 = _ := hE 13 16 _ rfl (by kernel_rfl)
              have e29 : f 29 = _ := hE 0 29 _ rfl (by kernel_rfl)
              clear hE h0
              refine yes_of (want_free rfl) ?_
              go_simp; exact hK _ _ (gb_refl _ _) rfl
            -- 19: member.go:44 move
            apply told_is
            · intro W f hW hE h0 K hK
              have e30 : f 30 = _ := hE 0 30 _ rfl (by kernel_rfl)
              clear hE h0
              refine yes_of (want_free rfl) ?_
              go_simp; exact hK _ _ (gb_refl _ _) rfl
            -- 20: member.go:44 fieldAddr
            apply told_is
            · intro W f hW hE h0 K hK
              have e4 := h0 4 (by kernel_rfl)
              conv at e4 => rhs; whnf
              have e31 : f 31 = _ := hE 0 31 _ rfl (by kernel_rfl)
              clear hE h0
              refine yes_of (want_yes rfl rfl e31) ?_
              go_simp; exact hK _ _ (gb_refl _ _) rfl
            -- 21: member.go:44 load
            apply told_is
            · intro W f hW hE h0 K hK
              have e32 : f 32 = _ := hE 0 32 _ rfl (by kernel_rfl)
              have e31 : f 31 = _ := hE 1 31 _ rfl (by kernel_rfl)
              clear hE h0
              refine yes_of (want_yes rfl rfl e31) ?_
              obtain ⟨hc0, hc1⟩ := HR.out W hW
              go_simp; exact hK _ _ (gb_refl _ _) rfl
            -- 22: member.go:44 call
            apply told_is
            · intro W f hW hE h0 K hK
              have e33 : f 33 = _ := hE 0 33 _ rfl (by kernel_rfl)
              have e31 : f 31 = _ := hE 2 31 _ rfl (by kernel_rfl)
              clear hE h0
              refine yes_of (want_yes rfl rfl e31) ?_
              go_simp; exact hK _ _ (gb_refl _ _) rfl
            -- 23: member.go:44 binOp
            apply told_is
            · intro W f hW hE h0 K hK
              have e34 : f 34 = _ := hE 0 34 _ rfl (by kernel_rfl)
              have e31 : f 31 = _ := hE 3 31 _ rfl (by kernel_rfl)
              clear hE h0
              refine yes_of (want_yes rfl rfl e31) ?_
              go_simp; exact hK _ _ (gb_refl _ _) rfl
            -- 24: member.go:44 pick
            apply told_is
            · intro W f hW hE h0 K hK
              have e31 : f 31 = _ := hE 4 31 _ rfl (by kernel_rfl)
              have e35 : f 35 = _ := hE 0 35 _ rfl (by kernel_rfl)
              clear hE h0
              refine yes_of (want_free rfl) ?_
              go_simp; exact hK _ _ (gb_refl _ _) rfl
            intro W f hW hA
            simp only [lexIn, Act.put, List.setIfInBounds_toArray, List.set_cons_zero, List.set_cons_succ]
            have e36 : f 36 = _ := hA 0 (some 36) _ rfl
            rw [e36]
            clear hA
            have Hw := Lib.hid hW
            clear hW
            go_wp2_with fail
            go_ret
            exact .of_no HF.out (gb_none Hg4.out Hw.out)
        · obtain ⟨z, hz⟩ : ∃ z, l[j]? = some z := ⟨_, List.getElem?_eq_getElem (by have := Hl.out.1; have := Hlt.out; omega)⟩
          have HZ : Hid (∀ W, W4.grownBy W none → WAt W g (o + j * 2) z) := fun W hW => (wl_of HWL4.out hz).2.kept (wl_of HWL4.out hz).1 hW (by simp)
          have Hz := Lib.hid hz
          have z1 : ((j + 1 : Nat) : Int) - 1 = (j : Int) := by omega
          have z2 : (j : Int) < (n : Int) := by have := Hlt.out; omega
          have z3 : IntKind.i64.wrap (((j + 1 : Nat) : Int) - 1) = (j : Int) := by rw [IntKind.wrap_i64]; have := Hlt.out; have := Hn.out; omega
          have z5 : IntKind.i64.wrap (j : Int) = (j : Int) := by rw [IntKind.wrap_i64]; have := Hlt.out; have := Hn.out; omega
          have z4 : decide (0 < j + 1) = true := by simp
          clear hz
          by_cases hzx : z.d < x.d
          · have v1 : decide (x.d ≤ z.d) = false := decide_eq_false (by omega)
            have Hzx := Lib.hid hzx
            clear hzx
            by_cases hs : x.box.size ≤ 200
            · have s1 : decide (200 < x.box.size) = false := decide_eq_false (by omega)
              have s2 : decide ((200 : Int) < (x.box.size : Int)) = false := decide_eq_false (by omega)
              have HN : Hid (WrapsOk (l.take (j + 1 + 1))) := wraps_next HX.out Hx.out ⟨Hod.out.1, Hod.out.2, hs⟩ (at_last Hz.out Hzx.out)
              clear hs
              apply wp_region_told (le := fun a b => a.grownBy b none) [isV _, isV _, isV _, isV _, isV _, isV _, isV _, isV _, isV _, isV _, isV _, isV _, isV _, isV _, isV _, isV _, isV _, isV _, isV _, isV _, isV _, isV _, isV _, isV _, isV _]
              case hn => rfl
              case hm => kernel_rfl
              case hB => kernel_rfl
              case ht => exact fun _ _ _ h k => gb_none h k
              case hw => exact gb_drew (gb_refl _ _)
              -- 0: member.go:44 fieldAddr
              apply told_is
              · intro W f hW hE h0 K hK
                have e4 := h0 4 (by kernel_rfl)
                conv at e4 => rhs; whnf
                clear hE h0
                refine yes_of (want_free rfl) ?_
                go_simp; exact hK _ _ (gb_refl _ _) rfl
              -- 1: member.go:44 load
              apply told_is
              · intro W f hW hE h0 K hK
                have e12 : f 12 = _ := hE 0 12 _ rfl (by kernel_rfl)
                clear hE h0
                refine yes_of (want_free rfl) ?_
                obtain ⟨hc0, hc1⟩ := HR.out W hW
                go_simp; exact hK _ _ (gb_refl _ _) rfl
              -- 2: member.go:44 call
              apply told_is
              · intro W f hW hE h0 K hK
                have e13 : f 13 = _ := hE 0 13 _ rfl (by kernel_rfl)
                clear hE h0
                refine yes_of (want_free rfl) ?_
                go_simp
                refine (isDev_any x.d W).mono ?_
                rintro e w1' ⟨rfl, rfl⟩
                exact ⟨_, rfl, hK _ _ (gb_refl _ _) rfl⟩
              -- 3: member.go:44 unOp
              apply told_is
              · intro W f hW hE h0 K hK
                have e14 : f 14 = _ := hE 0 14 _ rfl (by kernel_rfl)
                clear hE h0
                refine yes_of (want_free rfl) ?_
                go_simp; exact hK _ _ (gb_refl _ _) rfl
              -- 4: member.go:44 move
              apply told_is
              · intro W f hW hE h0 K hK
                have e15 : f 15 = _ := hE 0 15 _ rfl (by kernel_rfl)
                clear hE h0
                refine yes_of (want_free rfl) ?_
                go_simp; exact hK _ _ (gb_refl _ _) rfl
              -- 5: member.go:44 move
              apply told_is
              · intro W f hW hE h0 K hK
                have e3 := h0 3 (by kernel_rfl)
                conv at e3 => rhs; whnf
                have e16 : f 16 = _ := hE 0 16 _ rfl (by kernel_rfl)
                clear hE h0
                refine yes_of (want_yes rfl rfl e16) ?_
                go_simp; exact hK _ _ (gb_refl _ _) rfl
              -- 6: member.go:44 binOp
              apply told_is
              · intro W f hW hE h0 K hK
                have e17 : f 17 = _ := hE 0 17 _ rfl (by kernel_rfl)
                have e16 : f 16 = _ := hE 1 16 _ rfl (by kernel_rfl)
                clear hE h0
                refine yes_of (want_yes rfl rfl e16) ?_
                go_simp; exact hK _ _ (gb_refl _ _) rfl
              -- 7: member.go:44 move
              apply told_is
              · intro W f hW hE h0 K hK
                have e18 : f 18 = _ := hE 0 18 _ rfl (by kernel_rfl)
                have e16 : f 16 = _ := hE 2 16 _ rfl (by kernel_rfl)
                clear hE h0
                refine yes_of (want_yes rfl rfl e16) ?_
                go_simp; exact hK _ _ (gb_refl _ _) rfl
              -- 8: member.go:44 fieldAddr
              apply told_is
              · intro W f hW hE h0 K hK
                have e4 := h0 4 (by kernel_rfl)
                conv at e4 => rhs; whnf
                have e19 : f 19 = _ := hE 0 19 _ rfl (by kernel_rfl)
                clear hE h0
                refine yes_of (want_yes rfl rfl e19) ?_
                go_simp; exact hK _ _ (gb_refl _ _) rfl
              -- 9: member.go:44 load
              apply told_is
              · intro W f hW hE h0 K hK
                have e20 : f 20 = _ := hE 0 20 _ rfl (by kernel_rfl)
                have e19 : f 19 = _ := hE 1 19 _ rfl (by kernel_rfl)
                clear hE h0
                refine yes_of (want_yes rfl rfl e19) ?_
                obtain ⟨hc0, hc1⟩ := HR.out W hW
                go_simp; exact hK _ _ (gb_refl _ _) rfl
              -- 10: member.go:44 move
              apply told_is
              · intro W f hW hE h0 K hK
                have e0 := h0 0 (by kernel_rfl)
                conv at e0 => rhs; whnf
                have e19 : f 19 = _ := hE 2 19 _ rfl (by kernel_rfl)
                clear hE h0
                refine yes_of (want_yes rfl rfl e19) ?_
                go_simp; exact hK _ _ (gb_refl _ _) rfl
              -- 11: member.go:44 move
              apply told_is
              · intro W f hW hE h0 K hK
                have e3 := h0 3 (by kernel_rfl)
                conv at e3 => rhs; whnf
                have e19 : f 19 = _ := hE 3 19 _ rfl (by kernel_rfl)
                clear hE h0
                refine yes_of (want_yes rfl rfl e19) ?_
                go_simp; exact hK _ _ (gb_refl _ _) rfl
              -- 12: member.go:44 binOp
              apply told_is
              · intro W f hW hE h0 K hK
                have e23 : f 23 = _ := hE 0 23 _ rfl (by kernel_rfl)
                have e19 : f 19 = _ := hE 4 19 _ rfl (by kernel_rfl)
                clear hE h0
                refine yes_of (want_yes rfl rfl e19) ?_
                go_simp; exact hK _ _ (gb_refl _ _) rfl
              -- 13: member.go:44 indexAddr
              apply told_is
              · intro W f hW hE h0 K hK
                have e22 : f 22 = _ := hE 2 22 _ rfl (by kernel_rfl)
                have e24 : f 24 = _ := hE 0 24 _ rfl (by kernel_rfl)
                have e19 : f 19 = _ := hE 5 19 _ rfl (by kernel_rfl)
                clear hE h0
                refine yes_of (want_yes rfl rfl e19) ?_
                go_simp; exact hK _ _ (gb_refl _ _) rfl
              -- 14: member.go:44 fieldAddr
              apply told_is
              · intro W f hW hE h0 K hK
                have e25 : f 25 = _ := hE 0 25 _ rfl (by kernel_rfl)
                have e19 : f 19 = _ := hE 6 19 _ rfl (by kernel_rfl)
                clear hE h0
                refine yes_of (want_yes rfl rfl e19) ?_
                go_simp; exact hK _ _ (gb_refl _ _) rfl
              -- 15: member.go:44 load
              apply told_is
              · intro W f hW hE h0 K hK
                have e26 : f 26 = _ := hE 0 26 _ rfl (by kernel_rfl)
                have e19 : f 19 = _ := hE 7 19 _ rfl (by kernel_rfl)
                clear hE h0
                refine yes_of (want_yes rfl rfl e19) ?_
                obtain ⟨hc0, hc1⟩ := HZ.out W hW
                go_simp; exact hK _ _ (gb_refl _ _) rfl
              -- 16: member.go:44 binOp
              apply told_is
              · intro W f hW hE h0 K hK
                have e21 : f 21 = _ := hE 6 21 _ rfl (by kernel_rfl)
                have e27 : f 27 = _ := hE 0 27 _ rfl (by kernel_rfl)
                have e19 : f 19 = _ := hE 8 19 _ rfl (by kernel_rfl)
                clear hE h0
                refine yes_of (want_yes rfl rfl e19) ?_
                go_simp; exact hK _ _ (gb_refl _ _) rfl
              -- 17: member.go:44 pick
              apply told_is
              · intro W f hW hE h0 K hK
                have e19 : f 19 = _ := hE 9 19 _ rfl (by kernel_rfl)
                have e28 : f 28 = _ := hE 0 28 _ rfl (by kernel_rfl)
                have e16 : f 16 = _ := hE 12 16 _ rfl (by kernel_rfl)
                clear hE h0
                refine yes_of (want_yes rfl rfl e16) ?_
                go_simp; exact hK _ _ (gb_refl _ _) rfl
              -- 18: member.go:44 pick
              apply told_is
              · intro W f hW hE h0 K hK
                have e16 : f 16 = _ := hE 13 16 _ rfl (by kernel_rfl)
                have e29 : f 29 = _ := hE 0 29 _ rfl (by kernel_rfl)
                clear hE h0
                refine yes_of (want_free rfl) ?_
                go_simp; exact hK _ _ (gb_refl _ _) rfl
              -- 19: member.go:44 move
              apply told_is
              · intro W f hW hE h0 K hK
                have e30 : f 30 = _ := hE 0 30 _ rfl (by kernel_rfl)
                clear hE h0
                refine yes_of (want_free rfl) ?_
                go_simp; exact hK _ _ (gb_refl _ _) rfl
              -- 20: member.go:44 fieldAddr
              apply told_is
              · intro W f hW hE h0 K hK
                have e4 := h0 4 (by kernel_rfl)
                conv at e4 => rhs; whnf
                have e31 : f 31 = _ := hE 0 31 _ rfl (by kernel_rfl)
                clear hE h0
                refine yes_of (want_yes rfl rfl e31) ?_
                go_simp; exact hK _ _ (gb_refl _ _) rfl
              -- 21: member.go:44 load
              apply told_is
              · intro W f hW hE h0 K hK
                have e32 : f 32 = _ := hE 0 32 _ rfl (by kernel_rfl)
                have e31 : f 31 = _ := hE 1 31 _ rfl (by kernel_rfl)
                clear hE h0
                refine yes_of (want_yes rfl rfl e31) ?_
                obtain ⟨hc0, hc1⟩ := HR.out W hW
                go_simp; exact hK _ _ (gb_refl _ _) rfl
              -- 22: member.go:44 call
              apply told_is
              · intro W f hW hE h0 K hK
                have e33 : f 33 = _ := hE 0 33 _ rfl (by kernel_rfl)
                have e31 : f 31 = _ := hE 2 31 _ rfl (by kernel_rfl)
                clear hE h0
                refine yes_of (want_yes rfl rfl e31) ?_
                go_simp; exact hK _ _ (gb_refl _ _) rfl
              -- 23: member.go:44 binOp
              apply told_is
              · intro W f hW hE h0 K hK
                have e34 : f 34 = _ := hE 0 34 _ rfl (by kernel_rfl)
                have e31 : f 31 = _ := hE 3 31 _ rfl (by kernel_rfl)
                clear hE h0
                refine yes_of (want_yes rfl rfl e31) ?_
                go_simp; exact hK _ _ (gb_refl _ _) rfl
              -- 24: member.go:44 pick
              apply told_is
              · intro W f hW hE h0 K hK
                have e31 : f 31 = _ := hE 4 31 _ rfl (by kernel_rfl)
                have e35 : f 35 = _ := hE 0 35 _ rfl (by kernel_rfl)
                clear hE h0
                refine yes_of (want_free rfl) ?_
                go_simp; exact hK _ _ (gb_refl _ _) rfl
              intro W f hW hA
              simp only [lexIn, Act.put, List.setIfInBounds_toArray, List.set_cons_zero, List.set_cons_succ]
              have e36 : f 36 = _ := hA 0 (some 36) _ rfl
              rw [e36]
              clear hA
              have Hw := Lib.hid hW
              clear hW
              have b9 := Hlt.out
              have b8 := Hn.out
              go_wp2_with fail
              go_roundw
              case rel => exact ⟨(j + 1) + 1, by have := Hlt.out; omega, by go_num, HN.out, gb_none Hg4.out Hw.out⟩
              case measure => simp [intOf]; have := Hlt.out; omega
            · have s1 : decide (200 < x.box.size) = true := decide_eq_true (by omega)
              have s2 : decide ((200 : Int) < (x.box.size : Int)) = true := decide_eq_true (by omega)
              have HF : Hid (¬ WrapsOk l) := wraps_bad Hx.out (fun h => hs h.2.2)
              clear hs
              apply wp_region_told (le := fun a b => a.grownBy b none) [isV _, isV _, isV _, isV _, isV _, isV _, isV _, isV _, isV _, isV _, isV _, isV _, isV _, isV _, isV _, isV _, isV _, isV _, isV _, isV _, isV _, isV _, isV _, isV _, isV _]
              case hn => rfl
              case hm => kernel_rfl
              case hB => kernel_rfl
              case ht => exact fun _ _ _ h k => gb_none h k
              case hw => exact gb_drew (gb_refl _ _)
              -- 0: member.go:44 fieldAddr
              apply told_is
              · intro W f hW hE h0 K hK
                have e4 := h0 4 (by kernel_rfl)
                conv at e4 => rhs; whnf
                clear hE h0
                refine yes_of (want_free rfl) ?_
                go_simp; exact hK _ _ (gb_refl _ _) rfl
              -- 1: member.go:44 load
              apply told_is
              · intro W f hW hE h0 K hK
                have e12 : f 12 = _ := hE 0 12 _ rfl (by kernel_rfl)
                clear hE h0
                refine yes_of (want_free rfl) ?_
                obtain ⟨hc0, hc1⟩ := HR.out W hW
                go_simp; exact hK _ _ (gb_refl _ _) rfl
              -- 2: member.go:44 call
              apply told_is
              · intro W f hW hE h0 K hK
                have e13 : f 13 = _ := hE 0 13 _ rfl (by kernel_rfl)
                clear hE h0
                refine yes_of (want_free rfl) ?_
                go_simp
                refine (isDev_any x.d W).mono ?_
                rintro e w1' ⟨rfl, rfl⟩
                exact ⟨_, rfl, hK _ _ (gb_refl _ _) rfl⟩
              -- 3: member.go:44 unOp
              apply told_is
              · intro W f hW hE h0 K hK
                have e14 : f 14 = _ := hE 0 14 _ rfl (by kernel_rfl)
                clear hE h0
                refine yes_of (want_free rfl) ?_
                go_simp; exact hK _ _ (gb_refl _ _) rfl
              -- 4: member.go:44 move
              apply told_is
              · intro W f hW hE h0 K hK
                have e15 : f 15 = _ := hE 0 15 _ rfl (by kernel_rfl)
                clear hE h0
                refine yes_of (want_free rfl) ?_
                go_simp; exact hK _ _ (gb_refl _ _) rfl
              -- 5: member.go:44 move
              apply told_is
              · intro W f hW hE h0 K hK
                have e3 := h0 3 (by kernel_rfl)
                conv at e3 => rhs; whnf
                have e16 : f 16 = _ := hE 0 16 _ rfl (by kernel_rfl)
                clear hE h0
                refine yes_of (want_yes rfl rfl e16) ?_
                go_simp; exact hK _ _ (gb_refl _ _) rfl
              -- 6: member.go:44 binOp
              apply told_is
              · intro W f hW hE h0 K hK
                have e17 : f 17 = _ := hE 0 17 _ rfl (by kernel_rfl)
                have e16 : f 16 = _ := hE 1 16 _ rfl (by kernel_rfl)
                clear hE h0
                refine yes_of (want_yes rfl rfl e16) ?_
                go_simp; exact hK _ _ (gb_refl _ _) rfl
              -- 7: member.go:44 move
              apply told_is
              · intro W f hW hE h0 K hK
                have e18 : f 18 = _ := hE 0 18 _ rfl (by kernel_rfl)
                have e16 : f 16 = _ := hE 2 16 _ rfl (by kernel_rfl)
                clear hE h0
                refine yes_of (want_yes rfl rfl e16) ?_
                go_simp; exact hK _ _ (gb_refl _ _) rfl
              -- 8: member.go:44 fieldAddr
              apply told_is
              · intro W f hW hE h0 K hK
                have e4 := h0 4 (by kernel_rfl)
                conv at e4 => rhs; whnf
                have e19 : f 19 = _ := hE 0 19 _ rfl (by kernel_rfl)
                clear hE h0
                refine yes_of (want_yes rfl rfl e19) ?_
                go_simp; exact hK _ _ (gb_refl _ _) rfl
              -- 9: member.go:44 load
              apply told_is
              · intro W f hW hE h0 K hK
                have e20 : f 20 = _ := hE 0 20 _ rfl (by kernel_rfl)
                have e19 : f 19 = _ := hE 1 19 _ rfl (by kernel_rfl)
                clear hE h0
                refine yes_of (want_yes rfl rfl e19) ?_
                obtain ⟨hc0, hc1⟩ := HR.out W hW
                go_simp; exact hK _ _ (gb_refl _ _) rfl
              -- 10: member.go:44 move
              apply told_is
              · intro W f hW hE h0 K hK
                have e0 := h0 0 (by kernel_rfl)
                conv at e0 => rhs; whnf
                have e19 : f 19 = _ := hE 2 19 _ rfl (by kernel_rfl)
                clear hE h0
                refine yes_of (want_yes rfl rfl e19) ?_
                go_simp; exact hK _ _ (gb_refl _ _) rfl
              -- 11: member.go:44 move
              apply told_is
              · intro W f hW hE h0 K hK
                have e3 := h0 3 (by kernel_rfl)
                conv at e3 => rhs; whnf
                have e19 : f 19 = _ := hE 3 19 _ rfl (by kernel_rfl)
                clear hE h0
                refine yes_of (want_yes rfl rfl e19) ?_
                go_simp; exact hK _ _ (gb_refl _ _) rfl
              -- 12: member.go:44 binOp
              apply told_is
              · intro W f hW hE h0 K hK
                have e23 : f 23 = _ := hE 0 23 _ rfl (by kernel_rfl)
                have e19 : f 19 = _ := hE 4 19 _ rfl (by kernel_rfl)
                clear hE h0
                refine yes_of (want_yes rfl rfl e19) ?_
                go_simp; exact hK _ _ (gb_refl _ _) rfl
              -- 13: member.go:44 indexAddr
              apply told_is
              · intro W f hW hE h0 K hK
                have e22 : f 22 = _ := hE 2 22 _ rfl (by kernel_rfl)
                have e24 : f 24 = _ := hE 0 24 _ rfl (by kernel_rfl)
                have e19 : f 19 = _ := hE 5 19 _ rfl (by kernel_rfl)
                clear hE h0
                refine yes_of (want_yes rfl rfl e19) ?_
                go_simp; exact hK _ _ (gb_refl _ _) rfl
              -- 14: member.go:44 fieldAddr
              apply told_is
              · intro W f hW hE h0 K hK
                have e25 : f 25 = _ := hE 0 25 _ rfl (by kernel_rfl)
                have e19 : f 19 = _ := hE 6 19 _ rfl (by kernel_rfl)
                clear hE h0
                refine yes_of (want_yes rfl rfl e19) ?_
                go_simp; exact hK _ _ (gb_refl _ _) rfl
              -- 15: member.go:44 load
              apply told_is
              · intro W f hW hE h0 K hK
                have e26 : f 26 = _ := hE 0 26 _ rfl (by kernel_rfl)
                have e19 : f 19 = _ := hE 7 19 _ rfl (by kernel_rfl)
                clear hE h0
                refine yes_of (want_yes rfl rfl e19) ?_
                obtain ⟨hc0, hc1⟩ := HZ.out W hW
                go_simp; exact hK _ _ (gb_refl _ _) rfl
              -- 16: member.go:44 binOp
              apply told_is
              · intro W f hW hE h0 K hK
                have e21 : f 21 = _ := hE 6 21 _ rfl (by kernel_rfl)
                have e27 : f 27 = _ := hE 0 27 _ rfl (by kernel_rfl)
                have e19 : f 19 = _ := hE 8 19 _ rfl (by kernel_rfl)
                clear hE h0
                refine yes_of (want_yes rfl rfl e19) ?_
                go_simp; exact hK _ _ (gb_refl _ _) rfl
              -- 17: member.go:44 pick
              apply told_is
              · intro W f hW hE h0 K hK
                have e19 : f 19 = _ := hE 9 19 _ rfl (by kernel_rfl)
                have e28 : f 28 = _ := hE 0 28 _ rfl (by kernel_rfl)
                have e16 : f 16 = _ := hE 12 16 _ rfl (by kernel_rfl)
                clear hE h0
                refine yes_of (want_yes rfl rfl e16) ?_
                go_simp; exact hK _ _ (gb_refl _ _) rfl
              -- 18: member.go:44 pick
              apply told_is
              · intro W f hW hE h0 K hK
                have e16 : f 16 = _ := hE 13 16 _ rfl (by kernel_rfl)
                have e29 : f 29 = _ := hE 0 29 _ rfl (by kernel_rfl)
                clear hE h0
                refine yes_of (want_free rfl) ?_
                go_simp; exact hK _ _ (gb_refl _ _) rfl
              -- 19: member.go:44 move
              apply told_is
              · intro W f hW hE h0 K hK
                have e30 : f 30 = _ := hE 0 30 _ rfl (by kernel_rfl)
                clear hE h0
                refine yes_of (want_free rfl) ?_
                go_simp; exact hK _ _ (gb_refl _ _) rfl
              -- 20: member.go:44 fieldAddr
              apply told_is
              · intro W f hW hE h0 K hK
                have e4 := h0 4 (by kernel_rfl)
                conv at e4 => rhs; whnf
                have e31 : f 31 = _ := hE 0 31 _ rfl (by kernel_rfl)
                clear hE h0
                refine yes_of (want_yes rfl rfl e31) ?_
                go_simp; exact hK _ _ (gb_refl _ _) rfl
              -- 21: member.go:44 load
              apply told_is
              · intro W f hW hE h0 K hK
                have e32 : f 32 = _ := hE 0 32 _ rfl (by kernel_rfl)
                have e31 : f 31 = _ := hE 1 31 _ rfl (by kernel_rfl)
                clear hE h0
                refine yes_of (want_yes rfl rfl e31) ?_
                obtain ⟨hc0, hc1⟩ := HR.out W hW
                go_simp; exact hK _ _ (gb_refl _ _) rfl
              -- 22: member.go:44 call
              apply told_is
              · intro W f hW hE h0 K hK
                have e33 : f 33 = _ := hE 0 33 _ rfl (by kernel_rfl)
                have e31 : f 31 = _ := hE 2 31 _ rfl (by kernel_rfl)
                clear hE h0
                refine yes_of (want_yes rfl rfl e31) ?_
                go_simp; exact hK _ _ (gb_refl _ _) rfl
              -- 23: member.go:44 binOp
              apply told_is
              · intro W f hW hE h0 K hK
                have e34 : f 34 = _ := hE 0 34 _ rfl (by kernel_rfl)
                have e31 : f 31 = _ := hE 3 31 _ rfl (by kernel_rfl)
                clear hE h0
                refine yes_of (want_yes rfl rfl e31) ?_
                go_simp; exact hK _ _ (gb_refl _ _) rfl
              -- 24: member.go:44 pick
              apply told_is
              · intro W f hW hE h0 K hK
                have e31 : f 31 = _ := hE 4 31 _ rfl (by kernel_rfl)
                have e35 : f 35 = _ := hE 0 35 _ rfl (by kernel_rfl)
                clear hE h0
                refine yes_of (want_free rfl) ?_
                go_simp; exact hK _ _ (gb_refl _ _) rfl
              intro W f hW hA
              simp only [lexIn, Act.put, List.setIfInBounds_toArray, List.set_cons_zero, List.set_cons_succ]
              have e36 : f 36 = _ := hA 0 (some 36) _ rfl
              rw [e36]
              clear hA
              have Hw := Lib.hid hW
              clear hW
              go_wp2_with fail
              go_ret
              exact .of_no HF.out (gb_none Hg4.out Hw.out)
          · have v1 : decide (x.d ≤ z.d) = true := decide_eq_true (by omega)
            have HF : Hid (¬ WrapsOk l) := wraps_fall Hz.out Hx.out (by omega)
            clear hzx
            apply wp_region_told (le := fun a b => a.grownBy b none) [isV _, isV _, isV _, isV _, isV _, isV _, isV _, isV _, isV _, isV _, isV _, isV _, isV _, isV _, isV _, isV _, isV _, isV _, isV _, isV _, isV _, isV _, isV _, isV _, isV _]
            case hn => rfl
            case hm => kernel_rfl
            case hB => kernel_rfl
            case ht => exact fun _ _ _ h k => gb_none h k
            case hw => exact gb_drew (gb_refl _ _)
            -- 0: member.go:44 fieldAddr
            apply told_is
            · intro W f hW hE h0 K hK
              have e4 := h0 4 (by kernel_rfl)
              conv at e4 => rhs; whnf
              clear hE h0
              refine yes_of (want_free rfl) ?_
              go_simp; exact hK _ _ (gb_refl _ _) rfl
            -- 1: member.go:44 load
            apply told_is
            · intro W f hW hE h0 K hK
              have e12 : f 12 = _ := hE 0 12 _ rfl (by kernel_rfl)
              clear hE h0
              refine yes_of (want_free rfl) ?_
              obtain ⟨hc0, hc1⟩ := HR.out W hW
              go_simp; exact hK _ _ (gb_refl _ _) rfl
            -- 2: member.go:44 call
            apply told_is
            · intro W f hW hE h0 K hK
              have e13 : f 13 = _ := hE 0 13 _ rfl (by kernel_rfl)
              clear hE h0
              refine yes_of (want_free rfl) ?_
              go_simp
              refine (isDev_any x.d W).mono ?_
              rintro e w1' ⟨rfl, rfl⟩
              exact ⟨_, rfl, hK _ _ (gb_refl _ _) rfl⟩
            -- 3: member.go:44 unOp
            apply told_is
            · intro W f hW hE h0 K hK
              have e14 : f 14 = _ := hE 0 14 _ rfl (by kernel_rfl)
              clear hE h0
              refine yes_of (want_free rfl) ?_
              go_simp; exact hK _ _ (gb_refl _ _) rfl
            -- 4: member.go:44 move
            apply told_is
            · intro W f hW hE h0 K hK
              have e15 : f 15 = _ := hE 0 15 _ rfl (by kernel_rfl)
              clear hE h0
              refine yes_of (want_free rfl) ?_
              go_simp; exact hK _ _ (gb_refl _ _) rfl
            -- 5: member.go:44 move
            apply told_is
            · intro W f hW hE h0 K hK
              have e3 := h0 3 (by kernel_rfl)
              conv at e3 => rhs; whnf
              have e16 : f 16 = _ := hE 0 16 _ rfl (by kernel_rfl)
              clear hE h0
              refine yes_of (want_yes rfl rfl e16) ?_
              go_simp; exact hK _ _ (gb_refl _ _) rfl
            -- 6: member.go:44 binOp
            apply told_is
            · intro W f hW hE h0 K hK
              have e17 : f 17 = _ := hE 0 17 _ rfl (by kernel_rfl)
              have e16 : f 16 = _ := hE 1 16 _ rfl (by kernel_rfl)
              clear hE h0
              refine yes_of (want_yes rfl rfl e16) ?_
              go_simp; exact hK _ _ (gb_refl _ _) rfl
            -- 7: member.go:44 move
            apply told_is
            · intro W f hW hE h0 K hK
              have e18 : f 18 = _ := hE 0 18 _ rfl (by kernel_rfl)
              have e16 : f 16 = _ := hE 2 16 _ rfl (by kernel_rfl)
              clear hE h0
              refine yes_of (want_yes rfl rfl e16) ?_
              go_simp; exact hK _ _ (gb_refl _ _) rfl
            -- 8: member.go:44 fieldAddr
            apply told_is
            · intro W f hW hE h0 K hK
              have e4 := h0 4 (by kernel_rfl)
              conv at e4 => rhs; whnf
              have e19 : f 19 = _ := hE 0 19 _ rfl (by kernel_rfl)
              clear hE h0
              refine yes_of (want_yes rfl rfl e19) ?_
              go_simp; exact hK _ _ (gb_refl _ _) rfl
            -- 9: member.go:44 load
            apply told_is
            · intro W f hW hE h0 K hK
              have e20 : f 20 = _ := hE 0 20 _ rfl (by kernel_rfl)
              have e19 : f 19 = _ := hE 1 19 _ rfl (by kernel_rfl)
              clear hE h0
              refine yes_of (want_yes rfl rfl e19) ?_
              obtain ⟨hc0, hc1⟩ := HR.out W hW
              go_simp; exact hK _ _ (gb_refl _ _) rfl
            -- 10: member.go:44 move
            apply told_is
            · intro W f hW hE h0 K hK
              have e0 := h0 0 (by kernel_rfl)
              conv at e0 => rhs; whnf
              have e19 : f 19 = _ := hE 2 19 _ rfl (by kernel_rfl)
              clear hE h0
              refine yes_of (want_yes rfl rfl e19) ?_
              go_simp; exact hK _ _ (gb_refl _ _) rfl
            -- 11: member.go:44 move
            apply told_is
            · intro W f hW hE h0 K hK
              have e3 := h0 3 (by kernel_rfl)
              conv at e3 => rhs; whnf
              have e19 : f 19 = _ := hE 3 19 _ rfl (by kernel_rfl)
              clear hE h0
              refine yes_of (want_yes rfl rfl e19) ?_
              go_simp; exact hK _ _ (gb_refl _ _) rfl
            -- 12: member.go:44 binOp
            apply told_is
            · intro W f hW hE h0 K hK
              have e23 : f 23 = _ := hE 0 23 _ rfl (by kernel_rfl)
              have e19 : f 19 = _ := hE 4 19 _ rfl (by kernel_rfl)
              clear hE h0
              refine yes_of (want_yes rfl rfl e19) ?_
              go_simp; exact hK _ _ (gb_refl _ _) rfl
            -- 13: member.go:44 indexAddr
            apply told_is
            · intro W f hW hE h0 K hK
              have e22 : f 22 = _ := hE 2 22 _ rfl (by kernel_rfl)
              have e24 : f 24 = _ := hE 0 24 _ rfl (by kernel_rfl)
              have e19 : f 19 = _ := hE 5 19 _ rfl (by kernel_rfl)
              clear hE h0
              refine yes_of (want_yes rfl rfl e19) ?_
              go_simp; exact hK _ _ (gb_refl _ _) rfl
            -- 14: member.go:44 fieldAddr
            apply told_is
            · intro W f hW hE h0 K hK
              have e25 : f 25 = _ := hE 0 25 _ rfl (by kernel_rfl)
              have e19 : f 19 = _ := hE 6 19 _ rfl (by kernel_rfl)
              clear hE h0
              refine yes_of (want_yes rfl rfl e19) ?_
              go_simp; exact hK _ _ (gb_refl _ _) rfl
            -- 15: member.go:44 load
            apply told_is
            · intro W f hW hE h0 K hK
              have e26 : f 26 = _ := hE 0 26 _ rfl (by kernel_rfl)
              have e19 : f 19 = _ := hE 7 19 _ rfl (by kernel_rfl)
              clear hE h0
              refine yes_of (want_yes rfl rfl e19) ?_
              obtain ⟨hc0, hc1⟩ := HZ.out W hW
              go_simp; exact hK _ _ (gb_refl _ _) rfl
            -- 16: member.go:44 binOp
            apply told_is
            · intro W f hW hE h0 K hK
              have e21 : f 21 = _ := hE 6 21 _ rfl (by kernel_rfl)
              have e27 : f 27 = _ := hE 0 27 _ rfl (by kernel_rfl)
              have e19 : f 19 = _ := hE 8 19 _ rfl (by kernel_rfl)
              clear hE h0
              refine yes_of (want_yes rfl rfl e19) ?_
              go_simp; exact hK _ _ (gb_refl _ _) rfl
            -- 17: member.go:44 pick
            apply told_is
            · intro W f hW hE h0 K hK
              have e19 : f 19 = _ := hE 9 19 _ rfl (by kernel_rfl)
              have e28 : f 28 = _ := hE 0 28 _ rfl (by kernel_rfl)
              have e16 : f 16 = _ := hE 12 16 _ rfl (by kernel_rfl)
              clear hE h0
              refine yes_of (want_yes rfl rfl e16) ?_
              go_simp; exact hK _ _ (gb_refl _ _) rfl
            -- 18: member.go:44 pick
            apply told_is
            · intro W f hW hE h0 K hK
              have e16 : f 16 = _ := hE 13 16 _ rfl (by kernel_rfl)
              have e29 : f 29 = _ := hE 0 29 _ rfl (by kernel_rfl)
              clear hE h0
              refine yes_of (want_free rfl) ?_
              go_simp; exact hK _ _ (gb_refl _ _) rfl
            -- 19: member.go:44 move
            apply told_is
            · intro W f hW hE h0 K hK
              have e30 : f 30 = _ := hE 0 30 _ rfl (by kernel_rfl)
              clear hE h0
              refine yes_of (want_free rfl) ?_
              go_simp; exact hK _ _ (gb_refl _ _) rfl
            -- 20: member.go:44 fieldAddr
            apply told_is
            · intro W f hW hE h0 K hK
              have e31 : f 31 = _ := hE 0 31 _ rfl (by kernel_rfl)
              clear hE h0
              refine no_of (want_no rfl rfl e31 rfl) ?_
              exact hK _ _ (gb_refl _ _) rfl
            -- 21: member.go:44 load
            apply told_is
            · intro W f hW hE h0 K hK
              have e31 : f 31 = _ := hE 1 31 _ rfl (by kernel_rfl)
              clear hE h0
              refine no_of (want_no rfl rfl e31 rfl) ?_
              exact hK _ _ (gb_refl _ _) rfl
            -- 22: member.go:44 call
            apply told_is
            · intro W f hW hE h0 K hK
              have e31 : f 31 = _ := hE 2 31 _ rfl (by kernel_rfl)
              clear hE h0
              refine no_of (want_no rfl rfl e31 rfl) ?_
              exact hK _ _ (gb_refl _ _) rfl
            -- 23: member.go:44 binOp
            apply told_is
            · intro W f hW hE h0 K hK
              have e31 : f 31 = _ := hE 3 31 _ rfl (by kernel_rfl)
              clear hE h0
              refine no_of (want_no rfl rfl e31 rfl) ?_
              exact hK _ _ (gb_refl _ _) rfl
            -- 24: member.go:44 pick
            apply told_is
            · intro W f hW hE h0 K hK
              have e31 : f 31 = _ := hE 4 31 _ rfl (by kernel_rfl)
              have e35 : f 35 = _ := hE 0 35 _ rfl (by kernel_rfl)
              clear hE h0
              refine yes_of (want_free rfl) ?_
              go_simp; exact hK _ _ (gb_refl _ _) rfl
            intro W f hW hA
            simp only [lexIn, Act.put, List.setIfInBounds_toArray, List.set_cons_zero, List.set_cons_succ]
            have e36 : f 36 = _ := hA 0 (some 36) _ rfl
            rw [e36]
            clear hA
            have Hw := Lib.hid hW
            clear hW
            go_wp2_with fail
            go_ret
            exact .of_no HF.out (gb_none Hg4.out Hw.out)
      · have so : decide (0 ≤ x.d ∧ x.d < 8) = false := decide_eq_false ho
        have HF : Hid (¬ WrapsOk l) := wraps_bad Hx.out (fun h => ho ⟨h.1, h.2.1⟩)
        clear ho
        apply wp_region_told (le := fun a b => a.grownBy b none) [isV _, isV _, isV _, isV _, isV _, isV _, isV _, isV _, isV _, isV _, isV _, isV _, isV _, isV _, isV _, isV _, isV _, isV _, isV _, isV _, isV _, isV _, isV _, isV _, isV _]
        case hn => rfl
        case hm => kernel_rfl
        case hB => kernel_rfl
        case ht => exact fun _ _ _ h k => gb_none h k
        case hw => exact gb_drew (gb_refl _ _)
        -- 0: member.go:44 fieldAddr
        apply told_is
        · intro W f hW hE h0 K hK
          have e4 := h0 4 (by kernel_rfl)
          conv at e4 => rhs; whnf
          clear hE h0
          refine yes_of (want_free rfl) ?_
          go_simp; exact hK _ _ (gb_refl _ _) rfl
        -- 1: member.go:44 load
        apply told_is
        · intro W f hW hE h0 K hK
          have e12 : f 12 = _ := hE 0 12 _ rfl (by kernel_rfl)
          clear hE h0
          refine yes_of (want_free rfl) ?_
          obtain ⟨hc0, hc1⟩ := HR.out W hW
          go_simp; exact hK _ _ (gb_refl _ _) rfl
        -- 2: member.go:44 call
        apply told_is
        · intro W f hW hE h0 K hK
          have e13 : f 13 = _ := hE 0 13 _ rfl (by kernel_rfl)
          clear hE h0
          refine yes_of (want_free rfl) ?_
          go_simp
          refine (isDev_any x.d W).mono ?_
          rintro e w1' ⟨rfl, rfl⟩
          exact ⟨_, rfl, hK _ _ (gb_refl _ _) rfl⟩
        -- 3: member.go:44 unOp
        apply told_is
        · intro W f hW hE h0 K hK
          have e14 : f 14 = _ := hE 0 14 _ rfl (by kernel_rfl)
          clear hE h0
          refine yes_of (want_free rfl) ?_
          go_simp; exact hK _ _ (gb_refl _ _) rfl
        -- 4: member.go:44 move
        apply told_is
        · intro W f hW hE h0 K hK
          have e15 : f 15 = _ := hE 0 15 _ rfl (by kernel_rfl)
          clear hE h0
          refine yes_of (want_free rfl) ?_
          go_simp; exact hK _ _ (gb_refl _ _) rfl
        -- 5: member.go:44 move
        apply told_is
        · intro W f hW hE h0 K hK
          have e16 : f 16 = _ := hE 0 16 _ rfl (by kernel_rfl)
          clear hE h0
          refine no_of (want_no rfl rfl e16 rfl) ?_
          exact hK _ _ (gb_refl _ _) rfl
        -- 6: member.go:44 binOp
        apply told_is
        · intro W f hW hE h0 K hK
          have e16 : f 16 = _ := hE 1 16 _ rfl (by kernel_rfl)
          clear hE h0
          refine no_of (want_no rfl rfl e16 rfl) ?_
          exact hK _ _ (gb_refl _ _) rfl
        -- 7: member.go:44 move
        apply told_is
        · intro W f hW hE h0 K hK
          have e16 : f 16 = _ := hE 2 16 _ rfl (by kernel_rfl)
          clear hE h0
          refine no_of (want_no rfl rfl e16 rfl) ?_
          exact hK _ _ (gb_refl _ _) rfl
        -- 8: member.go:44 fieldAddr
        apply told_is
        · intro W f hW hE h0 K hK
          have e19 : f 19 = _ := hE 0 19 _ rfl (by kernel_rfl)
          clear hE h0
          refine no_of (want_no rfl rfl e19 rfl) ?_
          exact hK _ _ (gb_refl _ _) rfl
        -- 9: member.go:44 load
        apply told_is
        · intro W f hW hE h0 K hK
          have e19 : f 19 = _ := hE 1 19 _ rfl (by kernel_rfl)
          clear hE h0
          refine no_of (want_no rfl rfl e19 rfl) ?_
          exact hK _ _ (gb_refl _ _) rfl
        -- 10: member.go:44 move
        apply told_is
        · intro W f hW hE h0 K hK
          have e19 : f 19 = _ := hE 2 19 _ rfl (by kernel_rfl)
          clear hE h0
          refine no_of (want_no rfl rfl e19 rfl) ?_
          exact hK _ _ (gb_refl _ _) rfl
        -- 11: member.go:44 move
        apply told_is
        · intro W f hW hE h0 K hK
          have e19 : f 19 = _ := hE 3 19 _ rfl (by kernel_rfl)
          clear hE h0
          refine no_of (want_no rfl rfl e19 rfl) ?_
          exact hK _ _ (gb_refl _ _) rfl
        -- 12: member.go:44 binOp
        apply told_is
        · intro W f hW hE h0 K hK
          have e19 : f 19 = _ := hE 4 19 _ rfl (by kernel_rfl)
          clear hE h0
          refine no_of (want_no rfl rfl e19 rfl) ?_
          exact hK _ _ (gb_refl _ _) rfl
        -- 13: member.go:44 indexAddr
        apply told_is
        · intro W f hW hE h0 K hK
          have e19 : f 19 = _ := hE 5 19 _ rfl (by kernel_rfl)
          clear hE h0
          refine no_of (want_no rfl rfl e19 rfl) ?_
          exact hK _ _ (gb_refl _ _) rfl
        -- 14: member.go:44 fieldAddr
        apply told_is
        · intro W f hW hE h0 K hK
          have e19 : f 19 = _ := hE 6 19 _ rfl (by kernel_rfl)
          clear hE h0
          refine no_of (want_no rfl rfl e19 rfl) ?_
          exact hK _ _ (gb_refl _ _) rfl
        -- 15: member.go:44 load
        apply told_is
        · intro W f hW hE h0 K hK
          have e19 : f 19 = _ := hE 7 19 _ rfl (by kernel_rfl)
          clear hE h0
          refine no_of (want_no rfl rfl e19 rfl) ?_
          exact hK _ _ (gb_refl _ _) rfl
        -- 16: member.go:44 binOp
        apply told_is
        · intro W f hW hE h0 K hK
          have e19 : f 19 = _ := hE 8 19 _ rfl (by kernel_rfl)
          clear hE h0
          refine no_of (want_no rfl rfl e19 rfl) ?_
          exact hK _ _ (gb_refl _ _) rfl
        -- 17: member.go:44 pick
        apply told_is
        · intro W f hW hE h0 K hK
          have e16 : f 16 = _ := hE 12 16 _ rfl (by kernel_rfl)
          clear hE h0
          refine no_of (want_no rfl rfl e16 rfl) ?_
          exact hK _ _ (gb_refl _ _) rfl
        -- 18: member.go:44 pick
        apply told_is
        · intro W f hW hE h0 K hK
          have e16 : f 16 = _ := hE 13 16 _ rfl (by kernel_rfl)
          have e29 : f 29 = _ := hE 0 29 _ rfl (by kernel_rfl)
          clear hE h0
          refine yes_of (want_free rfl) ?_
          go_simp; exact hK _ _ (gb_refl _ _) rfl
        -- 19: member.go:44 move
        apply told_is
        · intro W f hW hE h0 K hK
          have e30 : f 30 = _ := hE 0 30 _ rfl (by kernel_rfl)
          clear hE h0
          refine yes_of (want_free rfl) ?_
          go_simp; exact hK _ _ (gb_refl _ _) rfl
        -- 20: member.go:44 fieldAddr
        apply told_is
        · intro W f hW hE h0 K hK
          have e31 : f 31 = _ := hE 0 31 _ rfl (by kernel_rfl)
          clear hE h0
          refine no_of (want_no rfl rfl e31 rfl) ?_
          exact hK _ _ (gb_refl _ _) rfl
        -- 21: member.go:44 load
        apply told_is
        · intro W f hW hE h0 K hK
          have e31 : f 31 = _ := hE 1 31 _ rfl (by kernel_rfl)
          clear hE h0
          refine no_of (want_no rfl rfl e31 rfl) ?_
          exact hK _ _ (gb_refl _ _) rfl
        -- 22: member.go:44 call
        apply told_is
        · intro W f hW hE h0 K hK
          have e31 : f 31 = _ := hE 2 31 _ rfl (by kernel_rfl)
          clear hE h0
          refine no_of (want_no rfl rfl e31 rfl) ?_
          exact hK _ _ (gb_refl _ _) rfl
        -- 23: member.go:44 binOp
        apply told_is
        · intro W f hW hE h0 K hK
          have e31 : f 31 = _ := hE 3 31 _ rfl (by kernel_rfl)
          clear hE h0
          refine no_of (want_no rfl rfl e31 rfl) ?_
          exact hK _ _ (gb_refl _ _) rfl
        -- 24: member.go:44 pick
        apply told_is
        · intro W f hW hE h0 K hK
          have e31 : f 31 = _ := hE 4 31 _ rfl (by kernel_rfl)
          have e35 : f 35 = _ := hE 0 35 _ rfl (by kernel_rfl)
          clear hE h0
          refine yes_of (want_free rfl) ?_
          go_simp; exact hK _ _ (gb_refl _ _) rfl
        intro W f hW hA
        simp only [lexIn, Act.put, List.setIfInBounds_toArray, List.set_cons_zero, List.set_cons_succ]
        have e36 : f 36 = _ := hA 0 (some 36) _ rfl
        rw [e36]
        clear hA
        have Hw := Lib.hid hW
        clear hW
        go_wp2_with fail
        go_ret
        exact .of_no HF.out (gb_none Hg4.out Hw.out)
    · have hkn : k = n := by omega
      subst hkn
      have d1 : decide (k < k) = false := by simp
      have d2 : decide ((k : Int) < (k : Int)) = false := by simp
      have He : Hid (WrapsOk l) := wraps_all HX.out Hl.out.1
      go_wp2_with fail
      go_ret
      exact .of_yes He.out hg
set_option maxHeartbeats 40000000 in
set_option maxRecDepth 100000 in
theorem may_any (r : Rc) (A : Option Addr) (c : Nat) (w : World) (hw : WL w A r.wraps.length r.wraps) (hn : r.wraps.length ≤ 1099511627776) :
    Calls Tryz.prog 27 #[.agg #[.int .i64 r.seq, .string r.prev, .int .i64 r.kind, .int .i64 r.dev, .slice A r.wraps.length c, .string r.tag]] w (BoolIs (MayR r) w) := by
  by_cases h1 : 1 ≤ r.seq
  · have q1 : decide (1 ≤ r.seq) = true := decide_eq_true h1
    by_cases h2 : r.seq ≤ 1048576
    · have q2 : decide (r.seq ≤ 1048576) = true := decide_eq_true h2
      by_cases h3 : r.prev.size = 32 ∨ r.seq = 1 ∧ r.prev.size = 0
      · by_cases h4 : r.kind = 1 ∨ r.kind = 2
        · have q4 : decide (r.kind = 1 ∨ r.kind = 2) = true := decide_eq_true h4
          by_cases h5 : 0 ≤ r.dev ∧ r.dev < 8
          · have q5 : decide (0 ≤ r.dev ∧ r.dev < 8) = true := decide_eq_true h5
            by_cases h6 : WrapsOk r.wraps
            · by_cases h7 : r.tag.size = 0
              · have q7 := str_none h7
                have HE : Hid (MayR r) := ⟨⟨h1, h2, h3, h4, h5.1, h5.2, .inr h7⟩, h6⟩
                obtain ⟨b0, hb0⟩ : ∃ b0, w.heap.size = b0 := ⟨_, rfl⟩
                obtain ⟨W0, hW0⟩ : ∃ W0, w.alloc (.cells #[.int .i64 r.seq, .string r.prev, .int .i64 r.kind, .int .i64 r.dev, .slice A r.wraps.length c, .string r.tag] 26) = W0 := ⟨_, rfl⟩
                obtain ⟨G0, HX⟩ := rec_box hb0 hW0 hw
                have HG := Lib.hid G0
                obtain ⟨⟨y0, y1, y2, y3, y4, y5⟩, _⟩ := HX.out W0 (gb_refl _ _)
                clear G0 hw
                go_enter Tryz.func27, Tryz.ntmps27
                go_upto_region 1 with fail
                clear hW0 hb0
                go_wp2_with fail
                refine (mayHang_any r.seq r.kind r.dev r.prev r.tag A r.wraps.length c _).mono ?_
                intro e w1 hh
                obtain ⟨he, g1⟩ := hh.yes h3
                subst he
                clear hh
                have Hg1 := Lib.hid g1
                clear g1 y0 y1 y2 y3 y4 y5
                obtain ⟨⟨y0, y1, y2, y3, y4, y5⟩, _⟩ := HX.out w1 Hg1.out
                go_wp2_with fail
                refine (isKind_any r.kind _).mono ?_
                rintro e _ ⟨rfl, rfl⟩
                go_wp2_with fail
                refine (isDev_any r.dev _).mono ?_
                rintro e _ ⟨rfl, rfl⟩
                go_wp2_with fail
                refine (mayWrap_any A r.wraps.length c r.wraps _ (HX.out w1 Hg1.out).2 hn).mono ?_
                intro e w2 hh
                obtain ⟨he, g2⟩ := hh.yes h6
                subst he
                clear hh
                have Hg2 := Lib.hid (gb_none Hg1.out g2)
                clear g2 y0 y1 y2 y3 y4 y5
                obtain ⟨⟨y0, y1, y2, y3, y4, y5⟩, _⟩ := HX.out w2 Hg2.out
                go_wp2_with fail
                go_ret
                exact .of_yes HE.out (gb_none HG.out Hg2.out)
              · have q7 := str_some h7
                by_cases h8 : r.tag.size = 16
                · have q8 : ((r.tag.size : Int) == 16) = true := eq_yes (by omega)
                  have HE : Hid (MayR r) := ⟨⟨h1, h2, h3, h4, h5.1, h5.2, .inl h8⟩, h6⟩
                  obtain ⟨b0, hb0⟩ : ∃ b0, w.heap.size = b0 := ⟨_, rfl⟩
                  obtain ⟨W0, hW0⟩ : ∃ W0, w.alloc (.cells #[.int .i64 r.seq, .string r.prev, .int .i64 r.kind, .int .i64 r.dev, .slice A r.wraps.length c, .string r.tag] 26) = W0 := ⟨_, rfl⟩
                  obtain ⟨G0, HX⟩ := rec_box hb0 hW0 hw
                  have HG := Lib.hid G0
                  obtain ⟨⟨y0, y1, y2, y3, y4, y5⟩, _⟩ := HX.out W0 (gb_refl _ _)
                  clear G0 hw
                  go_enter Tryz.func27, Tryz.ntmps27
                  go_upto_region 1 with fail
                  clear hW0 hb0
                  go_wp2_with fail
                  refine (mayHang_any r.seq r.kind r.dev r.prev r.tag A r.wraps.length c _).mono ?_
                  intro e w1 hh
                  obtain ⟨he, g1⟩ := hh.yes h3
                  subst he
                  clear hh
                  have Hg1 := Lib.hid g1
                  clear g1 y0 y1 y2 y3 y4 y5
                  obtain ⟨⟨y0, y1, y2, y3, y4, y5⟩, _⟩ := HX.out w1 Hg1.out
                  go_wp2_with fail
                  refine (isKind_any r.kind _).mono ?_
                  rintro e _ ⟨rfl, rfl⟩
                  go_wp2_with fail
                  refine (isDev_any r.dev _).mono ?_
                  rintro e _ ⟨rfl, rfl⟩
                  go_wp2_with fail
                  refine (mayWrap_any A r.wraps.length c r.wraps _ (HX.out w1 Hg1.out).2 hn).mono ?_
                  intro e w2 hh
                  obtain ⟨he, g2⟩ := hh.yes h6
                  subst he
                  clear hh
                  have Hg2 := Lib.hid (gb_none Hg1.out g2)
                  clear g2 y0 y1 y2 y3 y4 y5
                  obtain ⟨⟨y0, y1, y2, y3, y4, y5⟩, _⟩ := HX.out w2 Hg2.out
                  go_wp2_with fail
                  go_ret
                  exact .of_yes HE.out (gb_none HG.out Hg2.out)
                · have q8 : ((r.tag.size : Int) == 16) = false := eq_no (by omega)
                  have HE : Hid (¬ MayR r) := fun h => h.1.2.2.2.2.2.2.elim h8 h7
                  obtain ⟨b0, hb0⟩ : ∃ b0, w.heap.size = b0 := ⟨_, rfl⟩
                  obtain ⟨W0, hW0⟩ : ∃ W0, w.alloc (.cells #[.int .i64 r.seq, .string r.prev, .int .i64 r.kind, .int .i64 r.dev, .slice A r.wraps.length c, .string r.tag] 26) = W0 := ⟨_, rfl⟩
                  obtain ⟨G0, HX⟩ := rec_box hb0 hW0 hw
                  have HG := Lib.hid G0
                  obtain ⟨⟨y0, y1, y2, y3, y4, y5⟩, _⟩ := HX.out W0 (gb_refl _ _)
                  clear G0 hw
                  go_enter Tryz.func27, Tryz.ntmps27
                  go_upto_region 1 with fail
                  clear hW0 hb0
                  go_wp2_with fail
                  refine (mayHang_any r.seq r.kind r.dev r.prev r.tag A r.wraps.length c _).mono ?_
                  intro e w1 hh
                  obtain ⟨he, g1⟩ := hh.yes h3
                  subst he
                  clear hh
                  have Hg1 := Lib.hid g1
                  clear g1 y0 y1 y2 y3 y4 y5
                  obtain ⟨⟨y0, y1, y2, y3, y4, y5⟩, _⟩ := HX.out w1 Hg1.out
                  go_wp2_with fail
                  refine (isKind_any r.kind _).mono ?_
                  rintro e _ ⟨rfl, rfl⟩
                  go_wp2_with fail
                  refine (isDev_any r.dev _).mono ?_
                  rintro e _ ⟨rfl, rfl⟩
                  go_wp2_with fail
                  refine (mayWrap_any A r.wraps.length c r.wraps _ (HX.out w1 Hg1.out).2 hn).mono ?_
                  intro e w2 hh
                  obtain ⟨he, g2⟩ := hh.yes h6
                  subst he
                  clear hh
                  have Hg2 := Lib.hid (gb_none Hg1.out g2)
                  clear g2 y0 y1 y2 y3 y4 y5
                  obtain ⟨⟨y0, y1, y2, y3, y4, y5⟩, _⟩ := HX.out w2 Hg2.out
                  go_wp2_with fail
                  go_ret
                  exact .of_no HE.out (gb_none HG.out Hg2.out)
            · have HE : Hid (¬ MayR r) := fun h => h6 h.2
              obtain ⟨b0, hb0⟩ : ∃ b0, w.heap.size = b0 := ⟨_, rfl⟩
              obtain ⟨W0, hW0⟩ : ∃ W0, w.alloc (.cells #[.int .i64 r.seq, .string r.prev, .int .i64 r.kind, .int .i64 r.dev, .slice A r.wraps.length c, .string r.tag] 26) = W0 := ⟨_, rfl⟩
              obtain ⟨G0, HX⟩ := rec_box hb0 hW0 hw
              have HG := Lib.hid G0
              obtain ⟨⟨y0, y1, y2, y3, y4, y5⟩, _⟩ := HX.out W0 (gb_refl _ _)
              clear G0 hw
              go_enter Tryz.func27, Tryz.ntmps27
              go_upto_region 1 with fail
              clear hW0 hb0
              go_wp2_with fail
              refine (mayHang_any r.seq r.kind r.dev r.prev r.tag A r.wraps.length c _).mono ?_
              intro e w1 hh
              obtain ⟨he, g1⟩ := hh.yes h3
              subst he
              clear hh
              have Hg1 := Lib.hid g1
              clear g1 y0 y1 y2 y3 y4 y5
              obtain ⟨⟨y0, y1, y2, y3, y4, y5⟩, _⟩ := HX.out w1 Hg1.out
              go_wp2_with fail
              refine (isKind_any r.kind _).mono ?_
              rintro e _ ⟨rfl, rfl⟩
              go_wp2_with fail
              refine (isDev_any r.dev _).mono ?_
              rintro e _ ⟨rfl, rfl⟩
              go_wp2_with fail
              refine (mayWrap_any A r.wraps.length c r.wraps _ (HX.out w1 Hg1.out).2 hn).mono ?_
              intro e w2 hh
              obtain ⟨he, g2⟩ := hh.no h6
              subst he
              clear hh
              have Hg2 := Lib.hid (gb_none Hg1.out g2)
              clear g2 y0 y1 y2 y3 y4 y5
              obtain ⟨⟨y0, y1, y2, y3, y4, y5⟩, _⟩ := HX.out w2 Hg2.out
              go_wp2_with fail
              go_ret
              exact .of_no HE.out (gb_none HG.out Hg2.out)
          · have q5 : decide (0 ≤ r.dev ∧ r.dev < 8) = false := decide_eq_false h5
            have HE : Hid (¬ MayR r) := fun h => h5 ⟨h.1.2.2.2.2.1, h.1.2.2.2.2.2.1⟩
            obtain ⟨b0, hb0⟩ : ∃ b0, w.heap.size = b0 := ⟨_, rfl⟩
            obtain ⟨W0, hW0⟩ : ∃ W0, w.alloc (.cells #[.int .i64 r.seq, .string r.prev, .int .i64 r.kind, .int .i64 r.dev, .slice A r.wraps.length c, .string r.tag] 26) = W0 := ⟨_, rfl⟩
            obtain ⟨G0, HX⟩ := rec_box hb0 hW0 hw
            have HG := Lib.hid G0
            obtain ⟨⟨y0, y1, y2, y3, y4, y5⟩, _⟩ := HX.out W0 (gb_refl _ _)
            clear G0 hw
            go_enter Tryz.func27, Tryz.ntmps27
            go_upto_region 1 with fail
            clear hW0 hb0
            go_wp2_with fail
            refine (mayHang_any r.seq r.kind r.dev r.prev r.tag A r.wraps.length c _).mono ?_
            intro e w1 hh
            obtain ⟨he, g1⟩ := hh.yes h3
            subst he
            clear hh
            have Hg1 := Lib.hid g1
            clear g1 y0 y1 y2 y3 y4 y5
            obtain ⟨⟨y0, y1, y2, y3, y4, y5⟩, _⟩ := HX.out w1 Hg1.out
            go_wp2_with fail
            refine (isKind_any r.kind _).mono ?_
            rintro e _ ⟨rfl, rfl⟩
            go_wp2_with fail
            refine (isDev_any r.dev _).mono ?_
            rintro e _ ⟨rfl, rfl⟩
            go_wp2_with fail
            go_ret
            exact .of_no HE.out (gb_none HG.out Hg1.out)
        · have q4 : decide (r.kind = 1 ∨ r.kind = 2) = false := decide_eq_false h4
          have HE : Hid (¬ MayR r) := fun h => h4 h.1.2.2.2.1
          obtain ⟨b0, hb0⟩ : ∃ b0, w.heap.size = b0 := ⟨_, rfl⟩
          obtain ⟨W0, hW0⟩ : ∃ W0, w.alloc (.cells #[.int .i64 r.seq, .string r.prev, .int .i64 r.kind, .int .i64 r.dev, .slice A r.wraps.length c, .string r.tag] 26) = W0 := ⟨_, rfl⟩
          obtain ⟨G0, HX⟩ := rec_box hb0 hW0 hw
          have HG := Lib.hid G0
          obtain ⟨⟨y0, y1, y2, y3, y4, y5⟩, _⟩ := HX.out W0 (gb_refl _ _)
          clear G0 hw
          go_enter Tryz.func27, Tryz.ntmps27
          go_upto_region 1 with fail
          clear hW0 hb0
          go_wp2_with fail
          refine (mayHang_any r.seq r.kind r.dev r.prev r.tag A r.wraps.length c _).mono ?_
          intro e w1 hh
          obtain ⟨he, g1⟩ := hh.yes h3
          subst he
          clear hh
          have Hg1 := Lib.hid g1
          clear g1 y0 y1 y2 y3 y4 y5
          obtain ⟨⟨y0, y1, y2, y3, y4, y5⟩, _⟩ := HX.out w1 Hg1.out
          go_wp2_with fail
          refine (isKind_any r.kind _).mono ?_
          rintro e _ ⟨rfl, rfl⟩
          go_wp2_with fail
          go_ret
          exact .of_no HE.out (gb_none HG.out Hg1.out)
      · have HE : Hid (¬ MayR r) := fun h => h3 h.1.2.2.1
        obtain ⟨b0, hb0⟩ : ∃ b0, w.heap.size = b0 := ⟨_, rfl⟩
        obtain ⟨W0, hW0⟩ : ∃ W0, w.alloc (.cells #[.int .i64 r.seq, .string r.prev, .int .i64 r.kind, .int .i64 r.dev, .slice A r.wraps.length c, .string r.tag] 26) = W0 := ⟨_, rfl⟩
        obtain ⟨G0, HX⟩ := rec_box hb0 hW0 hw
        have HG := Lib.hid G0
        obtain ⟨⟨y0, y1, y2, y3, y4, y5⟩, _⟩ := HX.out W0 (gb_refl _ _)
        clear G0 hw
        go_enter Tryz.func27, Tryz.ntmps27
        go_upto_region 1 with fail
        clear hW0 hb0
        go_wp2_with fail
        refine (mayHang_any r.seq r.kind r.dev r.prev r.tag A r.wraps.length c _).mono ?_
        intro e w1 hh
        obtain ⟨he, g1⟩ := hh.no h3
        subst he
        clear hh
        have Hg1 := Lib.hid g1
        clear g1 y0 y1 y2 y3 y4 y5
        obtain ⟨⟨y0, y1, y2, y3, y4, y5⟩, _⟩ := HX.out w1 Hg1.out
        go_wp2_with fail
        go_ret
        exact .of_no HE.out (gb_none HG.out Hg1.out)
    · have q2 : decide (r.seq ≤ 1048576) = false := decide_eq_false h2
      have HE : Hid (¬ MayR r) := fun h => h2 h.1.2.1
      obtain ⟨b0, hb0⟩ : ∃ b0, w.heap.size = b0 := ⟨_, rfl⟩
      obtain ⟨W0, hW0⟩ : ∃ W0, w.alloc (.cells #[.int .i64 r.seq, .string r.prev, .int .i64 r.kind, .int .i64 r.dev, .slice A r.wraps.length c, .string r.tag] 26) = W0 := ⟨_, rfl⟩
      obtain ⟨G0, HX⟩ := rec_box hb0 hW0 hw
      have HG := Lib.hid G0
      obtain ⟨⟨y0, y1, y2, y3, y4, y5⟩, _⟩ := HX.out W0 (gb_refl _ _)
      clear G0 hw
      go_enter Tryz.func27, Tryz.ntmps27
      go_upto_region 1 with fail
      clear hW0 hb0
      go_wp2_with fail
      go_ret
      exact .of_no HE.out (HG.out)
  · have q1 : decide (1 ≤ r.seq) = false := decide_eq_false h1
    have HE : Hid (¬ MayR r) := fun h => h1 h.1.1
    obtain ⟨b0, hb0⟩ : ∃ b0, w.heap.size = b0 := ⟨_, rfl⟩
    obtain ⟨W0, hW0⟩ : ∃ W0, w.alloc (.cells #[.int .i64 r.seq, .string r.prev, .int .i64 r.kind, .int .i64 r.dev, .slice A r.wraps.length c, .string r.tag] 26) = W0 := ⟨_, rfl⟩
    obtain ⟨G0, HX⟩ := rec_box hb0 hW0 hw
    have HG := Lib.hid G0
    obtain ⟨⟨y0, y1, y2, y3, y4, y5⟩, _⟩ := HX.out W0 (gb_refl _ _)
    clear G0 hw
    go_enter Tryz.func27, Tryz.ntmps27
    go_upto_region 1 with fail
    clear hW0 hb0
    go_wp2_with fail
    go_ret
    exact .of_no HE.out (HG.out)
end Go.Proofs.YtdlafgkiddhejaaGreatDoor.Mb
