/- The reader: take, number, count. -/
import Derived.Test.YtbammjhafgbfkaaDoorVPutL
namespace Go.Proofs.YtbammjhafgbfkaaDoor
open Go.RowKit Wd Mm Vw

/-- What a reader has not taken yet. -/
def Rd (r : Nat) (t : List UInt8) (w : World) : Prop := ∃ s : ByteArray, s.data.toList = t ∧ w.heap[r]? = some (.cells #[.string s] 76 (0, 0))
theorem Rd.kept {r : Nat} {t : List UInt8} {w w' : World} (h : Rd r t w) (hg : w.grownBy w' none) : Rd r t w' := by
  obtain ⟨s, hs, h⟩ := h
  exact ⟨s, hs, (hg.block r (Array.getElem?_eq_some_iff.1 h).1 (by simp)).trans h⟩
theorem Rd.lt {r : Nat} {t : List UInt8} {w : World} (h : Rd r t w) : r < w.heap.size := by
  obtain ⟨s, hs, h⟩ := h; exact (Array.getElem?_eq_some_iff.1 h).1
/-- An error of this package, at its bottom a fault. -/
def flt (k : Int) : Value := .iface 62 (.int .i64 k)

set_option maxHeartbeats 1000000 in
theorem take_short (r n : Nat) (t : List UInt8) (w : World) (h : Rd r t w) (hn : t.length < n) :
    Calls Tryd.prog 58 #[.pointer (some ⟨r, 0, none⟩), .int .i64 (n : Int)] w fun e w' => e = .returned (.tuple #[.string ⟨#[]⟩, .iface 62 (.int .i64 1)]) ∧ w = w' := by
  obtain ⟨s, hs, hb⟩ := h
  have hsz : s.size = t.length := by rw [← hs]; simp
  have c0 := cell_of_row w r 0 _ _ _ hb
  have d1 : decide ((s.size : Int) < (n : Int)) = true := decide_eq_true (by omega)
  have d2 : decide (s.size < n) = true := decide_eq_true (by omega)
  clear hs hb hsz hn
  go_enter Tryd.func58, Tryd.ntmps58
  go_wp2_with fail
  go_ret2
  exact ⟨rfl, rfl⟩
/-- Taken. -/
def Took (r n : Nat) (t : List UInt8) (w : World) (e : Ending) (w' : World) : Prop := ∃ p : ByteArray, p.data.toList = t.take n ∧ e = .returned (.tuple #[.string p, .nilIface]) ∧ Rd r (t.drop n) w' ∧ w.grownBy w' (some r)
set_option maxHeartbeats 1000000 in
theorem take_any (r n : Nat) (t : List UInt8) (w : World) (h : Rd r t w) (hn : n ≤ t.length) (hl : t.length ≤ 9223372036854775807) :
    Calls Tryd.prog 58 #[.pointer (some ⟨r, 0, none⟩), .int .i64 (n : Int)] w (Took r n t w) := by
  obtain ⟨s, hs, hb⟩ := h
  have hsz : s.size = t.length := by rw [← hs]; simp
  have c0 := cell_of_row w r 0 _ _ _ hb
  have f0 := frozen_of_row w r 0 _ _ hb
  have d1 : decide ((s.size : Int) < (n : Int)) = false := decide_eq_false (by omega)
  have d2 : decide (s.size < n) = false := decide_eq_false (by omega)
  have hns : n ≤ s.size := by omega
  have hss : s.size ≤ 9223372036854775807 := by omega
  have Hb := Lib.hid hb
  have Hs := Lib.hid hs
  clear hs hb hsz hn
  go_enter Tryd.func58, Tryd.ntmps58
  go_wp2_with fail
  go_ret2
  refine ⟨s.extract 0 n, ?_, rfl, ⟨s.extract n s.size, ?_, ?_⟩, gb_set1 _ _ _ _⟩
  · rw [← Hs.out, ByteArray.data_extract, Array.toList_extract]; simp [List.extract_eq_take_drop]
  · rw [← Hs.out, ByteArray.data_extract, Array.toList_extract, List.extract_eq_take_drop, List.take_of_length_le (by simp)]
  · exact heap_setCell_same w r 0 _ _ _ Hb.out

set_option maxHeartbeats 1000000 in
theorem number_short (r n : Nat) (t : List UInt8) (w : World) (h : Rd r t w) (hn : t.length < n) :
    Calls Tryd.prog 51 #[.pointer (some ⟨r, 0, none⟩), .int .i64 (n : Int)] w fun e w' => e = .returned (.tuple #[.int .i64 0, .iface 62 (.int .i64 1)]) ∧ w = w' := by
  go_enter Tryd.func51, Tryd.ntmps51
  go_wp2_with fail
  refine (take_short r n t w h hn).mono ?_
  rintro e w2 ⟨rfl, rfl⟩
  go_wp2_with fail
  go_loop [18, 8] (fun i n => i = .int .i64 0 ∧ n = .int .i64 0) (fun i _ => (intOf i).toNat)
  case atStart => exact ⟨rfl, rfl⟩
  case round =>
    obtain ⟨rfl, rfl⟩ := hrel
    go_wp2_with fail
    go_ret2
    exact ⟨rfl, rfl⟩
/-- A number was taken. -/
def Numbered (r n : Nat) (t : List UInt8) (w : World) (e : Ending) (w' : World) : Prop := e = .returned (.tuple #[.int .i64 (valI (t.take n)), .nilIface]) ∧ Rd r (t.drop n) w' ∧ w.grownBy w' (some r)
set_option maxHeartbeats 1000000 in
theorem number_any (r n : Nat) (t : List UInt8) (w : World) (h : Rd r t w) (hn : n ≤ t.length) (hl : t.length ≤ 9223372036854775807) (h8 : n ≤ 8) :
    Calls Tryd.prog 51 #[.pointer (some ⟨r, 0, none⟩), .int .i64 (n : Int)] w (Numbered r n t w) := by
  have Ht := Lib.hid (take_any r n t w h hn hl)
  clear h
  go_enter Tryd.func51, Tryd.ntmps51
  go_wp2_with fail
  refine Ht.out.mono ?_
  rintro e w2 ⟨p, hp, rfl, hr, hg⟩
  have hps : p.size = n := by
    have := congrArg List.length hp
    simpa [hn] using this
  have Hp := Lib.hid hp
  have hps1 : p.size ≤ 8 := by omega
  clear hp hps
  go_wp2_with fail
  go_loop [18, 8] (fun i m => ∃ j : Nat, j ≤ p.size ∧ i = .int .i64 j ∧ m = .int .i64 (valI (p.data.toList.take j))) (fun i _ => p.size - (intOf i).toNat)
  case atStart => exact ⟨0, Nat.zero_le _, rfl, by rw [List.take_zero, valI_nil]⟩
  case round =>
    obtain ⟨j, hj, rfl, rfl⟩ := hrel
    by_cases hlt : j < p.size
    · have d3 : decide (j < p.size) = true := decide_eq_true hlt
      have Hv : Hid (bits .or .i64 (wrap64 (valI (p.data.toList.take j) * 256)) (wrap64 (p[j].toNat : Int)) = valI (p.data.toList.take (j + 1))) := by
        show _ = _
        rw [valI_snoc, List.take_succ_eq_append_getElem (by simpa using hlt)]; rfl
      generalize valI (p.data.toList.take j) = m at *
      go_wp2_with fail
      go_round
      case rel => exact ⟨j + 1, by omega, by go_num, by rw [Hv.out]⟩
      case measure => simp [intOf]; omega
    · have d3 : decide (j < p.size) = false := decide_eq_false hlt
      have Hv : Hid (p.data.toList.take j = t.take n) := by
        show _ = _
        rw [List.take_of_length_le (by simp; omega), Hp.out]
      rw [Hv.out]
      clear hlt
      go_wp2_with fail
      go_ret2
      exact ⟨rfl, hr, hg⟩

set_option maxHeartbeats 1000000 in
theorem count_short (r : Nat) (m : Int) (t : List UInt8) (w : World) (h : Rd r t w) (hn : t.length < 4) :
    Calls Tryd.prog 59 #[.pointer (some ⟨r, 0, none⟩), .int .i64 m] w fun e w' => e = .returned (.tuple #[.int .i64 0, .iface 62 (.int .i64 1)]) ∧ w = w' := by
  go_enter Tryd.func59, Tryd.ntmps59
  go_wp2_with fail
  refine (number_short r 4 t w h hn).mono ?_
  rintro e w2 ⟨rfl, rfl⟩
  go_wp2_with fail
  go_ret2
  exact ⟨rfl, rfl⟩
/-- A count was taken. -/
def Counted (r : Nat) (c : Int) (er : Value) (t : List UInt8) (w : World) (e : Ending) (w' : World) : Prop := e = .returned (.tuple #[.int .i64 c, er]) ∧ Rd r (t.drop 4) w' ∧ w.grownBy w' (some r)
set_option maxHeartbeats 1000000 in
theorem count_any (r : Nat) (m : Int) (t : List UInt8) (w : World) (h : Rd r t w) (hn : 4 ≤ t.length) (hl : t.length ≤ 9223372036854775807) (c : Int) (hc : valI (t.take 4) = c) (er : Value) (he : er = if m < c then .iface 62 (.int .i64 4) else .nilIface) :
    Calls Tryd.prog 59 #[.pointer (some ⟨r, 0, none⟩), .int .i64 m] w (Counted r c er t w) := by
  have Hn := Lib.hid (number_any r 4 t w h hn hl (by decide))
  have Hc := Lib.hid hc
  clear hc h
  by_cases hm : m < c
  · rw [if_pos hm] at he
    subst he
    have d1 : decide (m < c) = true := decide_eq_true hm
    go_enter Tryd.func59, Tryd.ntmps59
    go_wp2_with fail
    refine Hn.out.mono ?_
    rintro e w2 ⟨rfl, hr, hg⟩
    rw [Hc.out]
    go_wp2_with fail
    go_ret2
    exact ⟨rfl, hr, hg⟩
  · rw [if_neg hm] at he
    subst he
    have d1 : decide (m < c) = false := decide_eq_false hm
    go_enter Tryd.func59, Tryd.ntmps59
    go_wp2_with fail
    refine Hn.out.mono ?_
    rintro e w2 ⟨rfl, hr, hg⟩
    rw [Hc.out]
    go_wp2_with fail
    go_ret2
    exact ⟨rfl, hr, hg⟩
end Go.Proofs.YtbammjhafgbfkaaDoor
