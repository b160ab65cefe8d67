/- slices.Concat of two slices of texts. -/
import Derived.Test.YtalobkggpdniaaaDoorHMask
import Derived.Lib.AppendZeros
import Derived.Deep.AppendSrc
namespace Go.Proofs.YtalobkggpdniaaaDoor
open Go.RowKit Wd Mm

theorem text_info : (Tryd.prog.info? 9).map (fun i => (i.zero, i.size, i.bytes)) = some (some (.string ⟨#[]⟩), 1, 16) := by kernel_rfl
theorem zeros_size (c : Array Value) (hc : c.size = 1) (k : Nat) : (Builtin.zeroCells c k).size = k := by
  simp [Builtin.zeroCells, hc]

set_option maxHeartbeats 1000000 in
theorem grow_any (n : Nat) (w : World) (h0 : 0 < n) (hn : n ≤ 4096) :
    Calls Tryd.prog 39 #[.slice none 0 0, .int .i64 (n : Int)] w fun e w' => ∃ g cap cs, e = .returned (.slice (some ⟨g, 0, none⟩) 0 cap) ∧ w.heap.size ≤ g ∧ n ≤ cap ∧ cs.size = cap ∧ Row w' g 9 cs ∧ w.grownBy w' none := by
  obtain ⟨i, hi, hz, hs, hb⟩ := info_parts text_info
  have t1 : decide ((n : Int) < 0) = false := decide_eq_false (by omega)
  have t2 : decide ((0 : Int) < (n : Int)) = true := decide_eq_true (by omega)
  have t3 : decide (0 < n) = true := decide_eq_true h0
  have happ : ∀ ty, (Builtin.append_ #[28, 3] ty #[.slice none 0 0, .int .i64 (n : Int)]).run Tryd.prog w = _ := fun ty => Lib.run_append_nil_zeros (P := Tryd.prog) w 28 3 ty 9 i (.string ⟨#[]⟩) .i64 .i64 Tryd.underlying28 Tryd.underlying3 hi hz n h0 (by omega) (by omega) (by rw [hb]; omega)
  have hge := grownCap_ge w n 0 9
  obtain ⟨cap, hcap⟩ : ∃ cap, Hid (cap = grownCap w n 0 9) := ⟨_, rfl⟩
  rw [← hcap.out] at happ hge
  have Happ := Lib.hid happ
  clear happ hi hz hs hb
  go_enter Tryd.func39, Tryd.ntmps39
  go_wp2_with (at_builtin; refine Lib.wpList_append_run _ rfl (.tmp 20) (.tmp 21) 28 3 rfl _ _ rfl rfl _ _ (Happ.out _) ?_)
  go_ret
  refine ⟨_, cap, _, rfl, Nat.le_refl _, hge, ?_, Row.new w.drew _ _, gb_alloc (gb_drew (gb_refl _ _)) _⟩
  rw [Array.size_append, zeros_size _ rfl, zeros_size _ rfl]; omega

/-- How many, of two; which. -/
def tot (n1 n2 k : Nat) : Nat := if k = 0 then 0 else if k = 1 then n1 else n1 + n2
def lst (s1 s2 : List ByteArray) (k : Nat) : List ByteArray := if k = 0 then [] else if k = 1 then s1 else s1 ++ s2
theorem lst_len (n1 n2 : Nat) (s1 s2 : List ByteArray) (h1 : s1.length = n1) (h2 : s2.length = n2) (k : Nat) : (lst s1 s2 k).length = tot n1 n2 k := by
  unfold lst tot
  split
  · rfl
  · split
    · exact h1
    · rw [List.length_append, h1, h2]
theorem tot_le (n1 n2 k : Nat) : tot n1 n2 k ≤ n1 + n2 := by unfold tot; split <;> (try split) <;> omega
theorem src_of {w : World} {A : Option Addr} {n c : Nat} {ss : List ByteArray} (h : Strs w A n ss) (h0 : n = 0 → A = none) : Src Tryd.prog 1 28 (.slice A n c) n (ss.map Value.string) w := by
  by_cases hn : n = 0
  · subst hn
    rw [h0 rfl]
    have e : ss = [] := List.eq_nil_of_length_eq_zero h.1
    subst e
    exact Src.ofNil w Tryd.underlying28 c
  · obtain ⟨g, o, rfl, hl, hc⟩ := h.2 (by omega)
    refine Src.ofSlice w Tryd.underlying28 ⟨g, o, none⟩ n c _ (by simp [h.1]) (fun j u hu => ?_) (fun u hu => ?_)
    · have hadd : (⟨g, o, none⟩ : Addr).add j = ⟨g, o + j, none⟩ := by unfold Addr.add; split <;> simp_all
      have hj : j < ss.length := by
        rcases Nat.lt_or_ge j ss.length with h' | h'
        · exact h'
        · rw [List.getElem?_eq_none (by simpa using h')] at hu; cases hu
      rw [hadd, hc j (by rw [← h.1]; exact hj), ← hu]
      simp [hj]
    · obtain ⟨x, _, rfl⟩ := List.mem_map.1 hu; rfl
theorem append_strs {w : World} {A : Option Addr} {n c g T cap : Nat} {ss : List ByteArray} {cs : Array Value} (h : Strs w A n ss) (h0 : n = 0 → A = none) (hr : Row w g 9 cs) (hs : cs.size = cap) (hroom : T + n ≤ cap) (ty : TypeId) :
    (Builtin.append_ #[28, 28] ty #[.slice (some ⟨g, 0, none⟩) T cap, .slice A n c]).run Tryd.prog w = .ok (.slice (some ⟨g, 0, none⟩) (T + n) cap) (w.setCells g T (ss.map Value.string)) := by
  obtain ⟨i, hi, _, hz1, _⟩ := info_parts text_info
  have hsrc := src_of (c := c) h h0
  have hl : (ss.map Value.string).length = n := by rw [List.length_map, h.1]
  have hq := run_append_room_src (P := Tryd.prog) w 28 28 ty 9 i Tryd.underlying28 hi g 0 T cap (.slice A n c) n (ss.map Value.string) (by rw [hz1]; exact hsrc) hroom
    (fun j hj => by rw [hz1, Nat.mul_one, Nat.zero_add, hr.get, Array.getElem?_eq_getElem (by omega)]; rfl) (fun j _ => hr.free _)
  rw [hz1, Nat.mul_one, Nat.zero_add] at hq
  exact hq

set_option maxHeartbeats 4000000 in
set_option maxRecDepth 100000 in
theorem concat_any (g0 : Nat) (A1 A2 : Option Addr) (n1 c1 n2 c2 : Nat) (s1 s2 : List ByteArray) (w : World) (h1 : w.cell? ⟨g0, 0, none⟩ = some (.slice A1 n1 c1)) (h2 : w.cell? ⟨g0, 1, none⟩ = some (.slice A2 n2 c2)) (hg0 : g0 < w.heap.size)
    (hs1 : Strs w A1 n1 s1) (hs2 : Strs w A2 n2 s2) (hn1 : 0 < n1) (hn : n1 + n2 ≤ 1000) (h0 : n2 = 0 → A2 = none) :
    Calls Tryd.prog 30 #[.slice (some ⟨g0, 0, none⟩) 2 2] w fun e w' => ∃ g c, e = .returned (.slice (some ⟨g, 0, none⟩) (n1 + n2) c) ∧ Strs w' (some ⟨g, 0, none⟩) (n1 + n2) (s1 ++ s2) ∧ w.grownBy w' none := by
  have Hall : Hid (∀ k, k < 2 → ∃ A n c ss, w.cell? ⟨g0, k, none⟩ = some (.slice A n c) ∧ Strs w A n ss ∧ (n = 0 → A = none) ∧ tot n1 n2 (k + 1) = tot n1 n2 k + n ∧ lst s1 s2 (k + 1) = lst s1 s2 k ++ ss) := by
    intro k hk
    have e : k = 0 ∨ k = 1 := by omega
    rcases e with rfl | rfl
    · exact ⟨A1, n1, c1, s1, h1, hs1, fun h => by omega, by simp [tot], by simp [lst]⟩
    · exact ⟨A2, n2, c2, s2, h2, hs2, h0, by simp [tot], by simp [lst]⟩
  have Hlen := Lib.hid (lst_len n1 n2 s1 s2 hs1.1 hs2.1)
  have Hle := Lib.hid (tot_le n1 n2)
  clear h1 h2 hs1 hs2 h0
  go_enter Tryd.func30, Tryd.ntmps30
  go_wp2_with fail
  go_loopw [11, 3] (fun i s wr => ∃ k : Nat, k ≤ 2 ∧ i = .int .i64 k ∧ s = .int .i64 (tot n1 n2 k : Nat) ∧ w = wr) (fun i _ _ => 2 - (intOf i).toNat)
  case atStart => exact ⟨0, by omega, rfl, rfl, rfl⟩
  case round =>
    obtain ⟨k, hk, rfl, rfl, rfl⟩ := hrel
    by_cases hlt : k < 2
    · have d1 : decide ((k : Int) < 2) = true := decide_eq_true (by omega)
      have bk : (k : Int) < 2 := by omega
      obtain ⟨A, n, c, ss, hc, _, _, ht, _⟩ := Hall.out k hlt
      have hle1 := Hle.out (k + 1)
      obtain ⟨T, HT⟩ : ∃ T, Hid (T = tot n1 n2 k) := ⟨_, rfl⟩
      have Ht := Lib.hid ht
      rw [← HT.out]
      have hTn : T + n ≤ 1000 := by rw [HT.out, ← ht]; omega
      have d2 : decide ((T : Int) + (n : Int) < 0) = false := decide_eq_false (by omega)
      clear ht hle1
      go_wp2_with fail
      go_roundw
      case rel => exact ⟨k + 1, by omega, by go_num, by rw [Ht.out, ← HT.out]; go_num, by first | exact trivial | rfl⟩
      case measure => simp [intOf]; omega
    · have hk2 : k = 2 := by omega
      subst hk2
      have d1 : decide (((2 : Nat) : Int) < 2) = false := by decide
      obtain ⟨N, HN⟩ : ∃ N : Nat, Hid (N = tot n1 n2 2) := ⟨_, rfl⟩
      have hN : N = n1 + n2 := by rw [HN.out]; rfl
      have hN0 : 0 < N := by omega
      have hN1 : N ≤ 1000 := by omega
      have HN2 := Lib.hid hN
      rw [← HN.out]
      clear hN hlt hk
      go_wp2_with fail
      refine (grow_any N _ hN0 (by omega)).mono ?_
      rintro e w1 ⟨g, cap, cs0, rfl, hgg, hcap, hcs0, r0, g1⟩
      have Hcap := Lib.hid hcap
      have Hgg := Lib.hid hgg
      clear hcap hgg
      go_wp2_with fail
      go_loopw [27, 6] (fun i v wr => ∃ (k : Nat) (cs : Array Value), k ≤ 2 ∧ i = .int .i64 k ∧ v = .slice (some ⟨g, 0, none⟩) (tot n1 n2 k) cap ∧ cs.size = cap ∧ Row wr g 9 cs ∧ (∀ r, r < tot n1 n2 k → cs[r]? = some (.string ((lst s1 s2 k).getD r ByteArray.empty))) ∧ w.grownBy wr none) (fun i _ _ => 2 - (intOf i).toNat)
      case atStart => exact ⟨0, cs0, by omega, rfl, rfl, hcs0, r0, fun r hr => absurd hr (by simp [tot]), g1⟩
      case round =>
        clear r0 g1 hcs0
        obtain ⟨k, cs, hk, rfl, rfl, hcs, hr, hcells, hg⟩ := hrel
        by_cases hlt : k < 2
        · have d1 : decide ((k : Int) < 2) = true := decide_eq_true (by omega)
          have bk : (k : Int) < 2 := by omega
          obtain ⟨A, n, c, ss, hc, hs, h0, ht, hl⟩ := Hall.out k hlt
          have hle1 := Hle.out (k + 1)
          have hc2 : wr.cell? ⟨g0, k, none⟩ = some (.slice A n c) := by
            rw [World.cell?_of_block (w := w) (a := ⟨g0, k, none⟩) (hg.block g0 hg0 (by simp))]; exact hc
          have hs2 := hs.keep hg
          obtain ⟨T, HT⟩ : ∃ T, Hid (T = tot n1 n2 k) := ⟨_, rfl⟩
          have hlk := Hlen.out k
          rw [← HT.out] at hlk
          have hTn : T + n ≤ cap := by have := Hcap.out; have := HN2.out; rw [HT.out, ← ht]; omega
          have Happ := Lib.hid (append_strs (c := c) hs2 h0 hr hcs hTn)
          have hnew := row_setCells (ss.map Value.string) T _ _ hr
          have hgn := gb_setCells g (ss.map Value.string) T wr
          have hsl : (ss.map Value.string).length = n := by rw [List.length_map, hs.1]
          rw [hsl] at hnew
          have Hcells := Lib.hid hcells
          have Ht := Lib.hid ht
          have Hl := Lib.hid hl
          have Hlk := Lib.hid hlk
          have Hsl := Lib.hid hs.1
          have Hcs := Lib.hid hcs
          have Hnew := Lib.hid hnew
          rw [← HT.out]
          clear ht hl hlk hc hs hs2 hr hcells hle1 hsl hcs hnew h0
          go_wp2_with (at_builtin; refine Lib.wpList_append_run _ rfl (.tmp 31) (.tmp 32) 28 28 rfl _ _ rfl rfl _ _ (Happ.out _) ?_)
          go_roundw
          case rel =>
            refine ⟨k + 1, put cs T (fun i => (ss.map Value.string).getD i undef) n, by omega, by go_num, by rw [Ht.out, ← HT.out], by rw [put_size]; exact Hcs.out, Hnew.out, fun r hr' => ?_, gb_new hg hgn Hgg.out⟩
            rw [Ht.out, ← HT.out] at hr'
            rw [put_get, Hl.out]
            by_cases h1 : T ≤ r
            · rw [if_pos (by have := Hcs.out; omega)]
              have : r - T < ss.length := by have := Hsl.out; omega
              simp only [List.getD_eq_getElem?_getD, List.getElem?_map, List.getElem?_append_right (show (lst s1 s2 k).length ≤ r by have := Hlk.out; omega), Hlk.out, List.getElem?_eq_getElem this, Option.map_some, Option.getD_some]
            · rw [if_neg (by omega), Hcells.out r (by rw [← HT.out]; omega)]
              simp only [List.getD_eq_getElem?_getD, List.getElem?_append_left (show r < (lst s1 s2 k).length by have := Hlk.out; omega)]
          case measure => simp [intOf]; omega
        · have hk2 : k = 2 := by omega
          subst hk2
          have d1 : decide (((2 : Nat) : Int) < 2) = false := by decide
          rw [← HN.out] at hcells ⊢
          have Hcells := Lib.hid hcells
          clear hcells hlt hk
          go_wp2_with fail
          go_ret
          refine ⟨g, cap, by rw [HN2.out]; rfl, ⟨by have := Hlen.out 2; rw [← HN.out, HN2.out] at this; exact this, fun _ => ⟨g, 0, rfl, hr.lt, fun r hr' => ?_⟩⟩, hg⟩
          rw [Nat.zero_add]
          exact hr.at_ (Hcells.out r (by rw [HN2.out]; exact hr'))
end Go.Proofs.YtalobkggpdniaaaDoor
