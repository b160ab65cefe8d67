/- The reader: text, list, wire. -/
import Derived.Test.YtbammjhafgbfkaaDoorVClone
import Derived.Test.YtbammjhafgbfkaaDoorVAs
import Derived.Test.YtbammjhafgbfkaaDoorVParse
namespace Go.Proofs.YtbammjhafgbfkaaDoor
open Go.RowKit Wd Mm Vw

/-- A text was taken; or not. -/
def TextGot (r : Nat) (s : ByteArray) (t : List UInt8) (w : World) (e : Ending) (w' : World) : Prop := e = .returned (.tuple #[.string s, .nilIface]) ∧ Rd r t w' ∧ w.grownBy w' (some r)
def TextBad (r : Nat) (w : World) (e : Ending) (w' : World) : Prop := ∃ k : Int, e = .returned (.tuple #[.string ⟨#[]⟩, .iface 62 (.int .i64 k)]) ∧ k ≠ 0 ∧ w.grownBy w' (some r)
theorem four_nat (t : List UInt8) : valI (t.take 4) = (beN (t.take 4) : Int) := valI_four _ (by simp; omega)

set_option maxHeartbeats 2000000 in
theorem text_bad (r : Nat) (t : List UInt8) (w : World) (h : Rd r t w) (hl : t.length ≤ 1099511627776) (hb : rdT t = none) :
    Calls Tryd.prog 52 #[.pointer (some ⟨r, 0, none⟩)] w (TextBad r w) := by
  unfold rdT at hb
  by_cases h4 : t.length < 4
  · clear hb
    have Hc := Lib.hid (count_short r 1048576 t w h h4)
    clear h h4
    go_enter Tryd.func52, Tryd.ntmps52
    go_wp2_with fail
    refine Hc.out.mono ?_
    rintro e w2 ⟨rfl, rfl⟩
    go_wp2_with fail
    go_ret2
    exact ⟨1, rfl, by decide, gb_refl _ _⟩
  rw [if_neg h4] at hb
  by_cases hm : 1048576 < beN (t.take 4)
  · clear hb
    have Hc := Lib.hid (count_any r 1048576 t w h (by omega) (by omega) (beN (t.take 4)) (four_nat t) (.iface 62 (.int .i64 4)) (by rw [if_pos (by omega)]))
    clear h h4 hm
    generalize beN (t.take 4) = N at *
    go_enter Tryd.func52, Tryd.ntmps52
    go_wp2_with fail
    refine Hc.out.mono ?_
    rintro e w2 ⟨rfl, hr, hg⟩
    go_wp2_with fail
    go_ret2
    exact ⟨4, rfl, by decide, hg⟩
  rw [if_neg hm] at hb
  have ho : (t.drop 4).length < beN (t.take 4) := by
    by_cases ho : (t.drop 4).length < beN (t.take 4)
    · exact ho
    · rw [if_neg ho] at hb; cases hb
  have Hc := Lib.hid (count_any r 1048576 t w h (by omega) (by omega) (beN (t.take 4)) (four_nat t) .nilIface (by rw [if_neg (by omega)]))
  have Ho := Lib.hid ho
  clear h h4 hm hb ho
  obtain ⟨N, HN⟩ : ∃ N : Nat, Hid (beN (t.take 4) = N) := ⟨_, rfl⟩
  rw [HN.out] at Hc Ho
  go_enter Tryd.func52, Tryd.ntmps52
  go_wp2_with fail
  refine Hc.out.mono ?_
  rintro e w2 ⟨rfl, hr, hg⟩
  go_wp2_with fail
  refine (take_short r N _ w2 hr Ho.out).mono ?_
  rintro e w3 ⟨rfl, rfl⟩
  go_wp2_with fail
  refine (clone_any ⟨#[]⟩ w2 (by decide)).mono ?_
  rintro e w3 ⟨rfl, g3⟩
  go_wp2_with fail
  go_ret2
  exact ⟨1, rfl, by decide, gb_none hg g3⟩
set_option maxHeartbeats 2000000 in
theorem text_good (r : Nat) (t : List UInt8) (w : World) (h : Rd r t w) (hl : t.length ≤ 1099511627776) (s : ByteArray) (t' : List UInt8) (hb : rdT t = some (.mk 2 0 s [], t')) :
    Calls Tryd.prog 52 #[.pointer (some ⟨r, 0, none⟩)] w (TextGot r s t' w) := by
  obtain ⟨h4, hm, ho, hx, rfl⟩ := rdT_some hb
  simp only [Wr.mk.injEq, true_and, and_true] at hx
  have Hc := Lib.hid (count_any r 1048576 t w h (by omega) (by omega) (beN (t.take 4)) (four_nat t) .nilIface (by rw [if_neg (by omega)]))
  obtain ⟨N, HN⟩ : ∃ N : Nat, Hid (beN (t.take 4) = N) := ⟨_, rfl⟩
  rw [HN.out] at Hc ho hx ⊢
  have Ho := Lib.hid ho
  have Hx := Lib.hid hx
  have hd : (t.drop 4).length ≤ 9223372036854775807 := by rw [List.length_drop]; omega
  have hN : N ≤ 1048576 := by have := HN.out; omega
  clear h h4 hm hb ho hx
  go_enter Tryd.func52, Tryd.ntmps52
  go_wp2_with fail
  refine Hc.out.mono ?_
  rintro e w2 ⟨rfl, hr, hg⟩
  go_wp2_with fail
  refine (take_any r N _ w2 hr Ho.out hd).mono ?_
  rintro e w3 ⟨p, hp, rfl, hr3, hg3⟩
  have hps : p.size ≤ 281474976710656 := by
    have := congrArg List.length hp
    simp only [Array.length_toList, List.length_take] at this
    rw [ByteArray.size]
    omega
  obtain rfl : p = s := by rw [Hx.out, ← hp]
  clear hp
  have Hr3 := Lib.hid hr3
  clear hr3 hr
  go_wp2_with fail
  refine (clone_any p w3 hps).mono ?_
  rintro e w4 ⟨rfl, g4⟩
  go_wp2_with fail
  go_ret2
  refine ⟨rfl, Hr3.out.kept g4, gb_none (gb_then hg hg3) g4⟩

/-- A list was taken; or not. -/
def ListGot (r : Nat) (l : List Wr) (t : List UInt8) (w : World) (e : Ending) (w' : World) : Prop := ∃ A c, e = .returned (.tuple #[.slice A l.length c, .nilIface]) ∧ HL w' w.heap.size (.slice A l.length c) l ∧ Rd r t w' ∧ w.grownBy w' (some r)
def ListBad (r D : Nat) (w : World) (e : Ending) (w' : World) : Prop := ∃ (er : Value) (d : Nat) (k : Int), e = .returned (.tuple #[.slice none 0 0, er]) ∧ ErrV d er k ∧ k ≠ 0 ∧ d ≤ D ∧ w.grownBy w' (some r)
/-- A wire was taken; or not. -/
def WireGot (r : Nat) (x : Wr) (t : List UInt8) (w : World) (e : Ending) (w' : World) : Prop := ∃ A c, e = .returned (.tuple #[.agg #[.int .i64 x.k, .int .i64 x.n, .string x.s, .slice A x.l.length c], .nilIface]) ∧ HL w' w.heap.size (.slice A x.l.length c) x.l ∧ Rd r t w' ∧ w.grownBy w' (some r)
def WireBad (r D : Nat) (w : World) (e : Ending) (w' : World) : Prop := ∃ (k n : Int) (s : ByteArray) (A : Option Addr) (len c : Nat) (er : Value) (d : Nat) (f : Int), e = .returned (.tuple #[.agg #[.int .i64 k, .int .i64 n, .string s, .slice A len c], er]) ∧ ErrV d er f ∧ f ≠ 0 ∧ d ≤ D ∧ w.grownBy w' (some r)
/-- What the reader's wire does where so many lists may still stand in one another. -/
def ReadsOne (ρ : Int) (D : Nat) (f : List UInt8 → Option (Wr × List UInt8)) : Prop := ∀ (r : Nat) (t : List UInt8) (w : World), Rd r t w → t.length ≤ 1099511627776 →
  (f t = none → Calls Tryd.prog 46 #[.pointer (some ⟨r, 0, none⟩), .int .i64 ρ] w (WireBad r D w)) ∧
  (∀ x t', f t = some (x, t') → Calls Tryd.prog 46 #[.pointer (some ⟨r, 0, none⟩), .int .i64 ρ] w (WireGot r x t' w))

theorem list_zero (r : Nat) (w : World) : Calls Tryd.prog 53 #[.pointer (some ⟨r, 0, none⟩), .int .i64 0] w (ListBad r 0 w) := by
  go_enter Tryd.func53, Tryd.ntmps53
  go_wp2_with fail
  go_ret2
  exact ⟨_, 0, 5, rfl, .flt 5, by decide, Nat.le_refl _, gb_refl _ _⟩
set_option maxHeartbeats 2000000 in
set_option maxRecDepth 100000 in
/-- Ahead of its wires. -/
theorem list_early (ρ : Int) (hρ : 1 ≤ ρ) (D r : Nat) (t : List UInt8) (w : World) (h : Rd r t w) (hl : t.length ≤ 1099511627776) (hb : t.length < 4 ∨ 65536 < beN (t.take 4) ∨ (t.drop 4).length < 5 * beN (t.take 4)) :
    Calls Tryd.prog 53 #[.pointer (some ⟨r, 0, none⟩), .int .i64 ρ] w (ListBad r D w) := by
  have t1 : (ρ == 0) = false := by simp; omega
  by_cases h4 : t.length < 4
  · have Hc := Lib.hid (count_short r 65536 t w h h4)
    clear h h4 hb hρ
    go_enter Tryd.func53, Tryd.ntmps53
    go_wp2_with fail
    refine Hc.out.mono ?_
    rintro e w2 ⟨rfl, rfl⟩
    go_wp2_with fail
    go_ret2
    exact ⟨_, 0, 1, rfl, .flt 1, by decide, Nat.zero_le _, gb_refl _ _⟩
  by_cases hm : 65536 < beN (t.take 4)
  · have Hc := Lib.hid (count_any r 65536 t w h (by omega) (by omega) (beN (t.take 4)) (four_nat t) (.iface 62 (.int .i64 4)) (by rw [if_pos (by omega)]))
    clear h h4 hm hb hρ
    generalize beN (t.take 4) = N at *
    go_enter Tryd.func53, Tryd.ntmps53
    go_wp2_with fail
    refine Hc.out.mono ?_
    rintro e w2 ⟨rfl, hr, hg⟩
    go_wp2_with fail
    go_ret2
    exact ⟨_, 0, 4, rfl, .flt 4, by decide, Nat.zero_le _, hg⟩
  have ho : (t.drop 4).length < 5 * beN (t.take 4) := by
    rcases hb with hb | hb | hb
    · exact absurd hb h4
    · exact absurd hb hm
    · exact hb
  have Hc := Lib.hid (count_any r 65536 t w h (by omega) (by omega) (beN (t.take 4)) (four_nat t) .nilIface (by rw [if_neg (by omega)]))
  have ht4 : (t.drop 4).length ≤ 1099511627776 := by rw [List.length_drop]; omega
  clear h h4 hm hb hρ
  obtain ⟨N, HN⟩ : ∃ N : Nat, Hid (beN (t.take 4) = N) := ⟨_, rfl⟩
  rw [HN.out] at Hc ho
  obtain ⟨M, HM⟩ : ∃ M : Nat, Hid (M = (t.drop 4).length) := ⟨_, rfl⟩
  rw [← HM.out] at ho ht4
  go_enter Tryd.func53, Tryd.ntmps53
  go_wp2_with fail
  refine Hc.out.mono ?_
  rintro e w2 ⟨rfl, ⟨s, hs, hb⟩, hg⟩
  have hsz : s.size = M := by rw [HM.out, ← hs]; simp
  have c0 := cell_of_row w2 r 0 _ _ _ hb
  have t2 : ((N : Int) == 0) = false := by simp; omega
  have d1 : decide ((s.size : Int) / 5 < (N : Int)) = true := decide_eq_true (by omega)
  have hss : s.size ≤ 1099511627776 := by omega
  clear hs hb hsz ho ht4
  go_wp2_with fail
  go_ret2
  exact ⟨_, 0, 1, rfl, .flt 1, by decide, Nat.zero_le _, hg⟩
/-- A longer list's first wires. -/
theorem Part.snoc {w : World} {g n k : Nat} {l : List Wr} (h : Part w g l n k) (x : Wr) (hk : l.length = k) : Part w g (l ++ [x]) n k := by
  obtain ⟨cs, L, hr, hs, hi⟩ := h
  refine ⟨cs, L, hr, hs, fun i y hik hy => hi i y hik ?_⟩
  rw [List.getElem?_append_left (by omega)] at hy
  exact hy
/-- Whatever the reader does. -/
theorem Part.read {w w' : World} {g n k r : Nat} {l : List Wr} (h : Part w g l n k) (hg : w.grownBy w' (some r)) (hr : r < g) : Part w' g l n k := by
  obtain ⟨cs, L, hrow, hs, hi⟩ := h
  refine ⟨cs, L, hrow.kept hg (fun e => by have := Option.some.inj e; omega), hs, fun i x hik hx => ?_⟩
  obtain ⟨h0, h1, h2, h3, h4⟩ := hi i x hik hx
  exact ⟨h0, h1, h2, h3, h4.grown hg (fun j e => by cases e; omega)⟩
def ListRes (r D : Nat) (R : Option (List Wr × List UInt8)) (w : World) (e : Ending) (w' : World) : Prop := match R with
  | none => ListBad r (D + 1) w e w'
  | some p => ListGot r p.1 p.2 w e w'
set_option maxHeartbeats 4000000 in
set_option maxRecDepth 100000 in
theorem list_goes (ρ : Int) (hρ : 1 ≤ ρ) (hρ2 : ρ ≤ 100) (D r : Nat) (f : List UInt8 → Option (Wr × List UInt8)) (hf : ∀ s x t, f s = some (x, t) → t.length + 5 ≤ s.length) (ih : ReadsOne (ρ - 1) D f)
    (t : List UInt8) (w : World) (h : Rd r t w) (hl : t.length ≤ 1099511627776) (h4 : 4 ≤ t.length) (hm : beN (t.take 4) ≤ 65536) (ho : 5 * beN (t.take 4) ≤ (t.drop 4).length) (R : Option (List Wr × List UInt8)) (hR : rds f (beN (t.take 4)) (t.drop 4) = R) :
    Calls Tryd.prog 53 #[.pointer (some ⟨r, 0, none⟩), .int .i64 ρ] w (ListRes r D R w) := by
  have t1 : (ρ == 0) = false := by simp; omega
  have Hc := Lib.hid (count_any r 65536 t w h (by omega) (by omega) (beN (t.take 4)) (four_nat t) .nilIface (by rw [if_neg (by omega)]))
  have hrl := h.lt
  have ht4 : (t.drop 4).length ≤ 1099511627776 := by rw [List.length_drop]; omega
  obtain ⟨N, HN⟩ : ∃ N : Nat, Hid (beN (t.take 4) = N) := ⟨_, rfl⟩
  rw [HN.out] at Hc ho hR hm
  obtain ⟨M, HM⟩ : ∃ M : Nat, Hid (M = (t.drop 4).length) := ⟨_, rfl⟩
  rw [← HM.out] at ho ht4
  have HR := Lib.hid hR
  have Hih := Lib.hid ih
  have Hf := Lib.hid hf
  clear h hR ih hf
  by_cases hN0 : N = 0
  · subst hN0
    have HR0 : Hid (R = some ([], t.drop 4)) := HR.out.symm
    clear HR Hih Hf ho
    go_enter Tryd.func53, Tryd.ntmps53
    go_wp2_with fail
    refine Hc.out.mono ?_
    rintro e w2 ⟨rfl, hr, hg⟩
    have Hr := Lib.hid hr
    clear hr
    go_wp2_with fail
    go_ret2
    unfold ListRes
    rw [HR0.out]
    exact ⟨none, 0, rfl, .nil _ _, Hr.out, hg⟩
  go_enter Tryd.func53, Tryd.ntmps53
  go_wp2_with fail
  refine Hc.out.mono ?_
  rintro e w2 ⟨rfl, hr, hg⟩
  have Hr := Lib.hid hr
  obtain ⟨s, hs, hb⟩ := hr
  have hsz : s.size = M := by rw [HM.out, ← hs]; simp
  have c0 := cell_of_row w2 r 0 _ _ _ hb
  have t2 : ((N : Int) == 0) = false := by simp; omega
  have d1 : decide ((s.size : Int) / 5 < (N : Int)) = false := decide_eq_false (by omega)
  have hss : s.size ≤ 1099511627776 := by omega
  have hmk := makeW_at N (by omega)
  have hgs := hg.size
  have Hg := Lib.hid hg
  clear hs hb hsz hg
  go_wp2_with fail
  clear c0 d1 t1 t2 hmk hss
  go_loopw [38] (fun i wr => ∃ (k : Nat) (l : List Wr) (u : List UInt8), k ≤ N ∧ i = .int .i64 k ∧ Hid (l.length = k) ∧ Hid (rds f N (t.drop 4) = (rds f (N - k) u).map fun p => (l ++ p.1, p.2)) ∧ u.length ≤ 1099511627776 ∧ Hid (Rd r u wr) ∧ Hid (Part wr w2.heap.size l N k) ∧ Hid (w.grownBy wr (some r))) (fun i _ => N - (intOf i).toNat)
  case atStart =>
    refine ⟨0, [], t.drop 4, Nat.zero_le _, rfl, rfl, ?_, by rw [← HM.out]; exact ht4, Hr.out.kept (gb_alloc (gb_refl _ _) _), Part.new _ _ _ _ (madeW_size _), gb_alloc Hg.out _⟩
    show _ = _
    simp
  case round =>
    obtain ⟨k, l, u, hk, rfl, Hl, Hq, hu, Hru, Hp, Hgr⟩ := hrel
    by_cases hlt : k < N
    · have d3 : decide (k < N) = true := decide_eq_true hlt
      have hpl := Hp.out.lt
      have Hone := Lib.hid (Hih.out r u wr Hru.out hu)
      obtain ⟨m, Hm⟩ : ∃ m : Nat, Hid (N - k = m + 1) := ⟨N - k - 1, by show _ = _; omega⟩
      have Hq2 : Hid (rds f N (t.drop 4) = (rds f (m + 1) u).map fun p => (l ++ p.1, p.2)) := by
        show _ = _
        rw [Hq.out, Hm.out]
      clear Hq
      obtain ⟨fu, Hfu⟩ : ∃ fu, Hid (f u = fu) := ⟨_, rfl⟩
      cases fu with
      | none =>
        have Hbad := Lib.hid (Hone.out.1 Hfu.out)
        have HRn : Hid (R = none) := by
          show _ = _
          rw [← HR.out, Hq2.out, rds_none Hfu.out]; rfl
        clear Hone Hq2 Hfu
        go_wp2_with fail
        refine Hbad.out.mono ?_
        rintro e w4 ⟨k', n', s', A', len', c', er, dd, ff, rfl, her, hff, hdd, g4⟩
        obtain ⟨te, pe, rfl⟩ := her.iface
        have hp4 := Hp.out.read g4 (by omega)
        obtain ⟨⟨v0, p0⟩, f0⟩ := hp4.room (j := k * 4) (by omega)
        obtain ⟨⟨v1, p1⟩, f1⟩ := hp4.room (j := k * 4 + 1) (by omega)
        obtain ⟨⟨v2, p2⟩, f2⟩ := hp4.room (j := k * 4 + 2) (by omega)
        obtain ⟨⟨v3, p3⟩, f3⟩ := hp4.room (j := k * 4 + 3) (by omega)
        have Her := Lib.hid her
        clear hp4 her
        go_wp2_with fail
        go_ret2
        unfold ListRes
        rw [HRn.out]
        refine ⟨_, dd + 1, ff, rfl, .item dd k _ ff Her.out, hff, by omega, ?_⟩
        have hg4 := gb_then Hgr.out g4
        have hnew : w.heap.size ≤ w2.heap.size := Hg.out.size
        exact gb_step (gb_step (gb_step (gb_step hg4 (gb_set1 _ _ _ _) (fun i e => .inr (by cases e; exact hnew))) (gb_set1 _ _ _ _) (fun i e => .inr (by cases e; exact hnew))) (gb_set1 _ _ _ _) (fun i e => .inr (by cases e; exact hnew))) (gb_set1 _ _ _ _) (fun i e => .inr (by cases e; exact hnew))
      | some q =>
        obtain ⟨x, u'⟩ := q
        have Hgood := Lib.hid (Hone.out.2 x u' Hfu.out)
        have hu' : u'.length ≤ 1099511627776 := by have := Hf.out _ _ _ Hfu.out; omega
        have Hq3 : Hid (rds f N (t.drop 4) = (rds f (N - (k + 1)) u').map fun p => ((l ++ [x]) ++ p.1, p.2)) := by
          show _ = _
          rw [Hq2.out, rds_some Hfu.out, Option.map_map, show N - (k + 1) = m by have := Hm.out; omega]
          congr 1
          funext p
          simp
        clear Hone Hq2 Hfu
        go_wp2_with fail
        refine Hgood.out.mono ?_
        rintro e w4 ⟨A', c', rfl, hx4, hr4, g4⟩
        have hp4 := (Hp.out.read g4 (by omega)).snoc x Hl.out
        obtain ⟨⟨v0, p0⟩, f0⟩ := hp4.room (j := k * 4) (by omega)
        obtain ⟨⟨v1, p1⟩, f1⟩ := hp4.room (j := k * 4 + 1) (by omega)
        obtain ⟨⟨v2, p2⟩, f2⟩ := hp4.room (j := k * 4 + 2) (by omega)
        obtain ⟨⟨v3, p3⟩, f3⟩ := hp4.room (j := k * 4 + 3) (by omega)
        have Hp4 := Lib.hid hp4
        have Hx4 := Lib.hid hx4
        have Hr4 := Lib.hid hr4
        clear hp4 hx4 hr4
        go_wp2_with fail
        have hnew : w.heap.size ≤ w2.heap.size := Hg.out.size
        go_roundw
        case rel =>
          refine ⟨k + 1, l ++ [x], u', by omega, by go_num, ?_, Hq3, hu', ?_, ?_, ?_⟩
          · show _ = _
            rw [List.length_append, Hl.out]; rfl
          · obtain ⟨s', hs', hb'⟩ := Hr4.out
            refine ⟨s', hs', ?_⟩
            have hne : r ≠ w2.heap.size := by omega
            rw [heap_setCell_other _ _ _ _ hne, heap_setCell_other _ _ _ _ hne, heap_setCell_other _ _ _ _ hne, heap_setCell_other _ _ _ _ hne]
            exact hb'
          · exact Hp4.out.more (gb_refl _ _) (fun cs hr => hr) (by omega) (by rw [List.getElem?_append_right (by rw [Hl.out]; exact Nat.le_refl _), Hl.out]; simp) (Hx4.out.low (by omega))
          · have hg4 := gb_then Hgr.out g4
            exact gb_step (gb_step (gb_step (gb_step hg4 (gb_set1 _ _ _ _) (fun i e => .inr (by cases e; exact hnew))) (gb_set1 _ _ _ _) (fun i e => .inr (by cases e; exact hnew))) (gb_set1 _ _ _ _) (fun i e => .inr (by cases e; exact hnew))) (gb_set1 _ _ _ _) (fun i e => .inr (by cases e; exact hnew))
        case measure => simp [intOf]; omega
    · have d3 : decide (k < N) = false := decide_eq_false hlt
      have hkN : k = N := by omega
      have HRs : Hid (R = some (l, u)) := by
        show _ = _
        rw [← HR.out, Hq.out, hkN, Nat.sub_self]; simp [rds]
      have Hln : Hid (N = l.length) := by show _ = _; rw [Hl.out, hkN]
      have Hd := Lib.hid (Hp.out.done Hln.out (by omega) (by have := Hln.out; omega) w.heap.size (by have := Hg.out.size; omega) N)
      clear hlt hkN
      go_wp2_with fail
      go_ret2
      unfold ListRes
      rw [HRs.out]
      refine ⟨some ⟨w2.heap.size, 0, none⟩, N, by rw [← Hln.out]; rfl, ?_, Hru.out, Hgr.out⟩
      exact Hd.out
end Go.Proofs.YtbammjhafgbfkaaDoor
