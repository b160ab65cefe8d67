/- The reader: text, list, wire. The reader: wire. The reader at bytes of any form; whole, Get. The document's example, which every statement of layer 4 asks. What the laws of layer 4 need besides: plain laws on arguments and bytes. A row of wires that the call appends to; texts and bytes that came in. deaddroplaw4.Make: some wire, in new memory. -/
import Derived.Test.YtdlafgkiddhejaaGreatDoorVB
import Derived.Test.YtdlafgkiddhejaaGreatDoorVC
import Derived.SliceStrings
import Derived.IntWalk
import Derived.Laws.AppendOwn
import Derived.Outline
import Derived.Maps.AppendAt
namespace Go.Proofs.YtdlafgkiddhejaaGreatDoor
open Go.RowKit Wd Mm Vw

/-- A text was taken; or not. -/
def TextGot (r : Nat) (s : ByteArray) (t : List UInt8) (w : World) (e : Ending) (w' : World) : Prop := e = .returned (.tuple #[.string s, .nilIface]) ∧ Rd r t w' ∧ w.grownBy w' (some r)
def TextBad (r : Nat) (w : World) (e : Ending) (w' : World) : Prop := ∃ k : Int, e = .returned (.tuple #[.string ⟨#[]⟩, .iface 78 (.int .i64 k)]) ∧ k ≠ 0 ∧ w.grownBy w' (some r)
theorem four_nat (t : List UInt8) : valI (t.take 4) = (beN (t.take 4) : Int) := valI_four _ (by simp; omega)

set_option maxHeartbeats 2000000 in
theorem text_bad (r : Nat) (t : List UInt8) (w : World) (h : Rd r t w) (hl : t.length ≤ 1099511627776) (hb : rdT t = none) :
    Calls Tryz.prog 80 #[.pointer (some ⟨r, 0, none⟩)] w (TextBad r w) := by
  unfold rdT at hb
  by_cases h4 : t.length < 4
  · clear hb
    have Hc := Lib.hid (count_short r 1048576 t w h h4)
    clear h h4
    go_enter Tryz.func80, Tryz.ntmps80
    go_wp2_with fail
    refine Hc.out.mono ?_
    rintro e w2 ⟨rfl, rfl⟩
    go_wp2_with fail
    go_ret2
    exact ⟨1, rfl, by decide, gb_refl _ _⟩
  rw [if_neg h4] at hb
  by_cases hm : 1048576 < beN (t.take 4)
  · clear hb
    have Hc := Lib.hid (count_any r 1048576 t w h (by omega) (by omega) (beN (t.take 4)) (four_nat t) (.iface 78 (.int .i64 4)) (by rw [if_pos (by omega)]))
    clear h h4 hm
    generalize beN (t.take 4) = N at *
    go_enter Tryz.func80, Tryz.ntmps80
    go_wp2_with fail
    refine Hc.out.mono ?_
    rintro e w2 ⟨rfl, hr, hg⟩
    go_wp2_with fail
    go_ret2
    exact ⟨4, rfl, by decide, hg⟩
  rw [if_neg hm] at hb
  have ho : (t.drop 4).length < beN (t.take 4) := by
    by_cases ho : (t.drop 4).length < beN (t.take 4)
    · exact ho
    · rw [if_neg ho] at hb; cases hb
  have Hc := Lib.hid (count_any r 1048576 t w h (by omega) (by omega) (beN (t.take 4)) (four_nat t) .nilIface (by rw [if_neg (by omega)]))
  have Ho := Lib.hid ho
  clear h h4 hm hb ho
  obtain ⟨N, HN⟩ : ∃ N : Nat, Hid (beN (t.take 4) = N) := ⟨_, rfl⟩
  rw [HN.out] at Hc Ho
  go_enter Tryz.func80, Tryz.ntmps80
  go_wp2_with fail
  refine Hc.out.mono ?_
  rintro e w2 ⟨rfl, hr, hg⟩
  go_wp2_with fail
  refine (take_short r N _ w2 hr Ho.out).mono ?_
  rintro e w3 ⟨rfl, rfl⟩
  go_wp2_with fail
  refine (clone_any ⟨#[]⟩ w2 (by decide)).mono ?_
  rintro e w3 ⟨rfl, g3⟩
  go_wp2_with fail
  go_ret2
  exact ⟨1, rfl, by decide, gb_none hg g3⟩
set_option maxHeartbeats 2000000 in
theorem text_good (r : Nat) (t : List UInt8) (w : World) (h : Rd r t w) (hl : t.length ≤ 1099511627776) (s : ByteArray) (t' : List UInt8) (hb : rdT t = some (.mk 2 0 s [], t')) :
    Calls Tryz.prog 80 #[.pointer (some ⟨r, 0, none⟩)] w (TextGot r s t' w) := by
  obtain ⟨h4, hm, ho, hx, rfl⟩ := rdT_some hb
  simp only [Wr.mk.injEq, true_and, and_true] at hx
  have Hc := Lib.hid (count_any r 1048576 t w h (by omega) (by omega) (beN (t.take 4)) (four_nat t) .nilIface (by rw [if_neg (by omega)]))
  obtain ⟨N, HN⟩ : ∃ N : Nat, Hid (beN (t.take 4) = N) := ⟨_, rfl⟩
  rw [HN.out] at Hc ho hx ⊢
  have Ho := Lib.hid ho
  have Hx := Lib.hid hx
  have hd : (t.drop 4).length ≤ 9223372036854775807 := by rw [List.length_drop]; omega
  have hN : N ≤ 1048576 := by have := HN.out; omega
  clear h h4 hm hb ho hx
  go_enter Tryz.func80, Tryz.ntmps80
  go_wp2_with fail
  refine Hc.out.mono ?_
  rintro e w2 ⟨rfl, hr, hg⟩
  go_wp2_with fail
  refine (take_any r N _ w2 hr Ho.out hd).mono ?_
  rintro e w3 ⟨p, hp, rfl, hr3, hg3⟩
  have hps : p.size ≤ 281474976710656 := by
    have := congrArg List.length hp
    simp only [Array.length_toList, List.length_take] at this
    rw [ByteArray.size]
    omega
  obtain rfl : p = s := by rw [Hx.out, ← hp]
  clear hp
  have Hr3 := Lib.hid hr3
  clear hr3 hr
  go_wp2_with fail
  refine (clone_any p w3 hps).mono ?_
  rintro e w4 ⟨rfl, g4⟩
  go_wp2_with fail
  go_ret2
  refine ⟨rfl, Hr3.out.kept g4, gb_none (gb_then hg hg3) g4⟩

/-- A list was taken; or not. -/
def ListGot (r : Nat) (l : List Wr) (t : List UInt8) (w : World) (e : Ending) (w' : World) : Prop := ∃ A c, e = .returned (.tuple #[.slice A l.length c, .nilIface]) ∧ HL w' w.heap.size (.slice A l.length c) l ∧ Rd r t w' ∧ w.grownBy w' (some r)
def ListBad (r D : Nat) (w : World) (e : Ending) (w' : World) : Prop := ∃ (er : Value) (d : Nat) (k : Int), e = .returned (.tuple #[.slice none 0 0, er]) ∧ ErrV d er k ∧ k ≠ 0 ∧ d ≤ D ∧ w.grownBy w' (some r)
/-- A wire was taken; or not. -/
def WireGot (r : Nat) (x : Wr) (t : List UInt8) (w : World) (e : Ending) (w' : World) : Prop := ∃ A c, e = .returned (.tuple #[.agg #[.int .i64 x.k, .int .i64 x.n, .string x.s, .slice A x.l.length c], .nilIface]) ∧ HL w' w.heap.size (.slice A x.l.length c) x.l ∧ Rd r t w' ∧ w.grownBy w' (some r)
def WireBad (r D : Nat) (w : World) (e : Ending) (w' : World) : Prop := ∃ (k n : Int) (s : ByteArray) (A : Option Addr) (len c : Nat) (er : Value) (d : Nat) (f : Int), e = .returned (.tuple #[.agg #[.int .i64 k, .int .i64 n, .string s, .slice A len c], er]) ∧ ErrV d er f ∧ f ≠ 0 ∧ d ≤ D ∧ w.grownBy w' (some r)
/-- What the reader's wire does where so many lists may still stand in one another. -/
def ReadsOne (ρ : Int) (D : Nat) (f : List UInt8 → Option (Wr × List UInt8)) : Prop := ∀ (r : Nat) (t : List UInt8) (w : World), Rd r t w → t.length ≤ 1099511627776 →
  (f t = none → Calls Tryz.prog 67 #[.pointer (some ⟨r, 0, none⟩), .int .i64 ρ] w (WireBad r D w)) ∧
  (∀ x t', f t = some (x, t') → Calls Tryz.prog 67 #[.pointer (some ⟨r, 0, none⟩), .int .i64 ρ] w (WireGot r x t' w))

theorem list_zero (r : Nat) (w : World) : Calls Tryz.prog 81 #[.pointer (some ⟨r, 0, none⟩), .int .i64 0] w (ListBad r 0 w) := by
  go_enter Tryz.func81, Tryz.ntmps81
  go_wp2_with fail
  go_ret2
  exact ⟨_, 0, 5, rfl, .flt 5, by decide, Nat.le_refl _, gb_refl _ _⟩
set_option maxHeartbeats 2000000 in
set_option maxRecDepth 100000 in
/-- Ahead of its wires. -/
theorem list_early (ρ : Int) (hρ : 1 ≤ ρ) (D r : Nat) (t : List UInt8) (w : World) (h : Rd r t w) (hl : t.length ≤ 1099511627776) (hb : t.length < 4 ∨ 65536 < beN (t.take 4) ∨ (t.drop 4).length < 5 * beN (t.take 4)) :
    Calls Tryz.prog 81 #[.pointer (some ⟨r, 0, none⟩), .int .i64 ρ] w (ListBad r D w) := by
  have t1 : (ρ == 0) = false := by simp; omega
  by_cases h4 : t.length < 4
  · have Hc := Lib.hid (count_short r 65536 t w h h4)
    clear h h4 hb hρ
    go_enter Tryz.func81, Tryz.ntmps81
    go_wp2_with fail
    refine Hc.out.mono ?_
    rintro e w2 ⟨rfl, rfl⟩
    go_wp2_with fail
    go_ret2
    exact ⟨_, 0, 1, rfl, .flt 1, by decide, Nat.zero_le _, gb_refl _ _⟩
  by_cases hm : 65536 < beN (t.take 4)
  · have Hc := Lib.hid (count_any r 65536 t w h (by omega) (by omega) (beN (t.take 4)) (four_nat t) (.iface 78 (.int .i64 4)) (by rw [if_pos (by omega)]))
    clear h h4 hm hb hρ
    generalize beN (t.take 4) = N at *
    go_enter Tryz.func81, Tryz.ntmps81
    go_wp2_with fail
    refine Hc.out.mono ?_
    rintro e w2 ⟨rfl, hr, hg⟩
    go_wp2_with fail
    go_ret2
    exact ⟨_, 0, 4, rfl, .flt 4, by decide, Nat.zero_le _, hg⟩
  have ho : (t.drop 4).length < 5 * beN (t.take 4) := by
    rcases hb with hb | hb | hb
    · exact absurd hb h4
    · exact absurd hb hm
    · exact hb
  have Hc := Lib.hid (count_any r 65536 t w h (by omega) (by omega) (beN (t.take 4)) (four_nat t) .nilIface (by rw [if_neg (by omega)]))
  have ht4 : (t.drop 4).length ≤ 1099511627776 := by rw [List.length_drop]; omega
  clear h h4 hm hb hρ
  obtain ⟨N, HN⟩ : ∃ N : Nat, Hid (beN (t.take 4) = N) := ⟨_, rfl⟩
  rw [HN.out] at Hc ho
  obtain ⟨M, HM⟩ : ∃ M : Nat, Hid (M = (t.drop 4).length) := ⟨_, rfl⟩
  rw [← HM.out] at ho ht4
  go_enter Tryz.func81, Tryz.ntmps81
  go_wp2_with fail
  refine Hc.out.mono ?_
  rintro e w2 ⟨rfl, ⟨s, hs, hb⟩, hg⟩
  have hsz : s.size = M := by rw [HM.out, ← hs]; simp
  have c0 := cell_of_row w2 r 0 _ _ _ hb
  have t2 : ((N : Int) == 0) = false := by simp; omega
  have d1 : decide ((s.size : Int) / 5 < (N : Int)) = true := decide_eq_true (by omega)
  have hss : s.size ≤ 1099511627776 := by omega
  clear hs hb hsz ho ht4
  go_wp2_with fail
  go_ret2
  exact ⟨_, 0, 1, rfl, .flt 1, by decide, Nat.zero_le _, hg⟩
/-- A longer list's first wires. -/
theorem Part.snoc {w : World} {g n k : Nat} {l : List Wr} (h : Part w g l n k) (x : Wr) (hk : l.length = k) : Part w g (l ++ [x]) n k := by
  obtain ⟨cs, L, hr, hs, hi⟩ := h
  refine ⟨cs, L, hr, hs, fun i y hik hy => hi i y hik ?_⟩
  rw [List.getElem?_append_left (by omega)] at hy
  exact hy
/-- Whatever the reader does. -/
theorem Part.read {w w' : World} {g n k r : Nat} {l : List Wr} (h : Part w g l n k) (hg : w.grownBy w' (some r)) (hr : r < g) : Part w' g l n k := by
  obtain ⟨cs, L, hrow, hs, hi⟩ := h
  refine ⟨cs, L, hrow.kept hg (fun e => by have := Option.some.inj e; omega), hs, fun i x hik hx => ?_⟩
  obtain ⟨h0, h1, h2, h3, h4⟩ := hi i x hik hx
  exact ⟨h0, h1, h2, h3, h4.grown hg (fun j e => by cases e; omega)⟩
def ListRes (r D : Nat) (R : Option (List Wr × List UInt8)) (w : World) (e : Ending) (w' : World) : Prop := match R with
  | none => ListBad r (D + 1) w e w'
  | some p => ListGot r p.1 p.2 w e w'
set_option maxHeartbeats 4000000 in
set_option maxRecDepth 100000 in
theorem list_goes (ρ : Int) (hρ : 1 ≤ ρ) (hρ2 : ρ ≤ 100) (D r : Nat) (f : List UInt8 → Option (Wr × List UInt8)) (hf : ∀ s x t, f s = some (x, t) → t.length + 5 ≤ s.length) (ih : ReadsOne (ρ - 1) D f)
    (t : List UInt8) (w : World) (h : Rd r t w) (hl : t.length ≤ 1099511627776) (h4 : 4 ≤ t.length) (hm : beN (t.take 4) ≤ 65536) (ho : 5 * beN (t.take 4) ≤ (t.drop 4).length) (R : Option (List Wr × List UInt8)) (hR : rds f (beN (t.take 4)) (t.drop 4) = R) :
    Calls Tryz.prog 81 #[.pointer (some ⟨r, 0, none⟩), .int .i64 ρ] w (ListRes r D R w) := by
  have t1 : (ρ == 0) = false := by simp; omega
  have Hc := Lib.hid (count_any r 65536 t w h (by omega) (by omega) (beN (t.take 4)) (four_nat t) .nilIface (by rw [if_neg (by omega)]))
  have hrl := h.lt
  have ht4 : (t.drop 4).length ≤ 1099511627776 := by rw [List.length_drop]; omega
  obtain ⟨N, HN⟩ : ∃ N : Nat, Hid (beN (t.take 4) = N) := ⟨_, rfl⟩
  rw [HN.out] at Hc ho hR hm
  obtain ⟨M, HM⟩ : ∃ M : Nat, Hid (M = (t.drop 4).length) := ⟨_, rfl⟩
  rw [← HM.out] at ho ht4
  have HR := Lib.hid hR
  have Hih := Lib.hid ih
  have Hf := Lib.hid hf
  clear h hR ih hf
  by_cases hN0 : N = 0
  · subst hN0
    have HR0 : Hid (R = some ([], t.drop 4)) := HR.out.symm
    clear HR Hih Hf ho
    go_enter Tryz.func81, Tryz.ntmps81
    go_wp2_with fail
    refine Hc.out.mono ?_
    rintro e w2 ⟨rfl, hr, hg⟩
    have Hr := Lib.hid hr
    clear hr
    go_wp2_with fail
    go_ret2
    unfold ListRes
    rw [HR0.out]
    exact ⟨none, 0, rfl, .nil _ _, Hr.out, hg⟩
  go_enter Tryz.func81, Tryz.ntmps81
  go_wp2_with fail
  refine Hc.out.mono ?_
  rintro e w2 ⟨rfl, hr, hg⟩
  have Hr := Lib.hid hr
  obtain ⟨s, hs, hb⟩ := hr
  have hsz : s.size = M := by rw [HM.out, ← hs]; simp
  have c0 := cell_of_row w2 r 0 _ _ _ hb
  have t2 : ((N : Int) == 0) = false := by simp; omega
  have d1 : decide ((s.size : Int) / 5 < (N : Int)) = false := decide_eq_false (by omega)
  have hss : s.size ≤ 1099511627776 := by omega
  have hmk := makeW_at N (by omega)
  have hgs := hg.size
  have Hg := Lib.hid hg
  clear hs hb hsz hg
  go_wp2_with fail
  clear c0 d1 t1 t2 hmk hss
  go_loopw [38] (fun i wr => ∃ (k : Nat) (l : List Wr) (u : List UInt8), k ≤ N ∧ i = .int .i64 k ∧ Hid (l.length = k) ∧ Hid (rds f N (t.drop 4) = (rds f (N - k) u).map fun p => (l ++ p.1, p.2)) ∧ u.length ≤ 1099511627776 ∧ Hid (Rd r u wr) ∧ Hid (Part wr w2.heap.size l N k) ∧ Hid (w.grownBy wr (some r))) (fun i _ => N - (intOf i).toNat)
  case atStart =>
    refine ⟨0, [], t.drop 4, Nat.zero_le _, rfl, rfl, ?_, by rw [← HM.out]; exact ht4, Hr.out.kept (gb_alloc (gb_refl _ _) _), Part.new _ _ _ _ (madeW_size _), gb_alloc Hg.out _⟩
    show _ = _
    simp
  case round =>
    obtain ⟨k, l, u, hk, rfl, Hl, Hq, hu, Hru, Hp, Hgr⟩ := hrel
    by_cases hlt : k < N
    · have d3 : decide (k < N) = true := decide_eq_true hlt
      have hpl := Hp.out.lt
      have Hone := Lib.hid (Hih.out r u wr Hru.out hu)
      obtain ⟨m, Hm⟩ : ∃ m : Nat, Hid (N - k = m + 1) := ⟨N - k - 1, by show _ = _; omega⟩
      have Hq2 : Hid (rds f N (t.drop 4) = (rds f (m + 1) u).map fun p => (l ++ p.1, p.2)) := by
        show _ = _
        rw [Hq.out, Hm.out]
      clear Hq
      obtain ⟨fu, Hfu⟩ : ∃ fu, Hid (f u = fu) := ⟨_, rfl⟩
      cases fu with
      | none =>
        have Hbad := Lib.hid (Hone.out.1 Hfu.out)
        have HRn : Hid (R = none) := by
          show _ = _
          rw [← HR.out, Hq2.out, rds_none Hfu.out]; rfl
        clear Hone Hq2 Hfu
        go_wp2_with fail
        refine Hbad.out.mono ?_
        rintro e w4 ⟨k', n', s', A', len', c', er, dd, ff, rfl, her, hff, hdd, g4⟩
        obtain ⟨te, pe, rfl⟩ := her.iface
        have hp4 := Hp.out.read g4 (by omega)
        obtain ⟨⟨v0, p0⟩, f0⟩ := hp4.room (j := k * 4) (by omega)
        obtain ⟨⟨v1, p1⟩, f1⟩ := hp4.room (j := k * 4 + 1) (by omega)
        obtain ⟨⟨v2, p2⟩, f2⟩ := hp4.room (j := k * 4 + 2) (by omega)
        obtain ⟨⟨v3, p3⟩, f3⟩ := hp4.room (j := k * 4 + 3) (by omega)
        have Her := Lib.hid her
        clear hp4 her
        go_wp2_with fail
        go_ret2
        unfold ListRes
        rw [HRn.out]
        refine ⟨_, dd + 1, ff, rfl, .item dd k _ ff Her.out, hff, by omega, ?_⟩
        have hg4 := gb_then Hgr.out g4
        have hnew : w.heap.size ≤ w2.heap.size := Hg.out.size
        exact gb_step (gb_step (gb_step (gb_step hg4 (gb_set1 _ _ _ _) (fun i e => .inr (by cases e; exact hnew))) (gb_set1 _ _ _ _) (fun i e => .inr (by cases e; exact hnew))) (gb_set1 _ _ _ _) (fun i e => .inr (by cases e; exact hnew))) (gb_set1 _ _ _ _) (fun i e => .inr (by cases e; exact hnew))
      | some q =>
        obtain ⟨x, u'⟩ := q
        have Hgood := Lib.hid (Hone.out.2 x u' Hfu.out)
        have hu' : u'.length ≤ 1099511627776 := by have := Hf.out _ _ _ Hfu.out; omega
        have Hq3 : Hid (rds f N (t.drop 4) = (rds f (N - (k + 1)) u').map fun p => ((l ++ [x]) ++ p.1, p.2)) := by
          show _ = _
          rw [Hq2.out, rds_some Hfu.out, Option.map_map, show N - (k + 1) = m by have := Hm.out; omega]
          congr 1
          funext p
          simp
        clear Hone Hq2 Hfu
        go_wp2_with fail
        refine Hgood.out.mono ?_
        rintro e w4 ⟨A', c', rfl, hx4, hr4, g4⟩
        have hp4 := (Hp.out.read g4 (by omega)).snoc x Hl.out
        obtain ⟨⟨v0, p0⟩, f0⟩ := hp4.room (j := k * 4) (by omega)
        obtain ⟨⟨v1, p1⟩, f1⟩ := hp4.room (j := k * 4 + 1) (by omega)
        obtain ⟨⟨v2, p2⟩, f2⟩ := hp4.room (j := k * 4 + 2) (by omega)
        obtain ⟨⟨v3, p3⟩, f3⟩ := hp4.room (j := k * 4 + 3) (by omega)
        have Hp4 := Lib.hid hp4
        have Hx4 := Lib.hid hx4
        have Hr4 := Lib.hid hr4
        clear hp4 hx4 hr4
        go_wp2_with fail
        have hnew : w.heap.size ≤ w2.heap.size := Hg.out.size
        go_roundw
        case rel =>
          refine ⟨k + 1, l ++ [x], u', by omega, by go_num, ?_, Hq3, hu', ?_, ?_, ?_⟩
          · show _ = _
            rw [List.length_append, Hl.out]; rfl
          · obtain ⟨s', hs', hb'⟩ := Hr4.out
            refine ⟨s', hs', ?_⟩
            have hne : r ≠ w2.heap.size := by omega
            rw [heap_setCell_other _ _ _ _ hne, heap_setCell_other _ _ _ _ hne, heap_setCell_other _ _ _ _ hne, heap_setCell_other _ _ _ _ hne]
            exact hb'
          · exact Hp4.out.more (gb_refl _ _) (fun cs hr => hr) (by omega) (by rw [List.getElem?_append_right (by rw [Hl.out]; exact Nat.le_refl _), Hl.out]; simp) (Hx4.out.low (by omega))
          · have hg4 := gb_then Hgr.out g4
            exact gb_step (gb_step (gb_step (gb_step hg4 (gb_set1 _ _ _ _) (fun i e => .inr (by cases e; exact hnew))) (gb_set1 _ _ _ _) (fun i e => .inr (by cases e; exact hnew))) (gb_set1 _ _ _ _) (fun i e => .inr (by cases e; exact hnew))) (gb_set1 _ _ _ _) (fun i e => .inr (by cases e; exact hnew))
        case measure => simp [intOf]; omega
    · have d3 : decide (k < N) = false := decide_eq_false hlt
      have hkN : k = N := by omega
      have HRs : Hid (R = some (l, u)) := by
        show _ = _
        rw [← HR.out, Hq.out, hkN, Nat.sub_self]; simp [rds]
      have Hln : Hid (N = l.length) := by show _ = _; rw [Hl.out, hkN]
      have Hd := Lib.hid (Hp.out.done Hln.out (by omega) (by have := Hln.out; omega) w.heap.size (by have := Hg.out.size; omega) N)
      clear hlt hkN
      go_wp2_with fail
      go_ret2
      unfold ListRes
      rw [HRs.out]
      refine ⟨some ⟨w2.heap.size, 0, none⟩, N, by rw [← Hln.out]; rfl, ?_, Hru.out, Hgr.out⟩
      exact Hd.out
end Go.Proofs.YtdlafgkiddhejaaGreatDoor

namespace Go.Proofs.YtdlafgkiddhejaaGreatDoor
open Go.RowKit Wd Mm Vw

/-! ### wire -/
/-- The reader's block beside those that wire itself makes. -/
theorem gb_some {a w w' : World} {r g : Nat} {i : Nat} {v : Value} (h : a.grownBy w (some r)) (hg : a.heap.size ≤ g) (hw : w' = w.setCell ⟨g, i, none⟩ v) : a.grownBy w' (some r) := by
  subst hw
  exact gb_step h (gb_set1 _ _ _ _) (fun j e => .inr (by cases e; exact hg))
theorem gb_some4 {a w : World} {r g : Nat} {i0 i1 i2 i3 : Nat} {v0 v1 v2 v3 : Value} (h : a.grownBy w (some r)) (hg : a.heap.size ≤ g) : a.grownBy ((((w.setCell ⟨g, i0, none⟩ v0).setCell ⟨g, i1, none⟩ v1).setCell ⟨g, i2, none⟩ v2).setCell ⟨g, i3, none⟩ v3) (some r) :=
  gb_some (gb_some (gb_some (gb_some h hg rfl) hg rfl) hg rfl) hg rfl
theorem Rd.set4 {w : World} {r g : Nat} {t : List UInt8} {i0 i1 i2 i3 : Nat} {v0 v1 v2 v3 : Value} (h : Rd r t w) (hne : r ≠ g) : Rd r t ((((w.setCell ⟨g, i0, none⟩ v0).setCell ⟨g, i1, none⟩ v1).setCell ⟨g, i2, none⟩ v2).setCell ⟨g, i3, none⟩ v3) := by
  obtain ⟨s, hs, hb⟩ := h
  refine ⟨s, hs, ?_⟩
  rw [heap_setCell_other _ _ _ _ hne, heap_setCell_other _ _ _ _ hne, heap_setCell_other _ _ _ _ hne, heap_setCell_other _ _ _ _ hne]
  exact hb
/-- A fresh wire's block. -/
def zeroW : Array Value := #[.int .i64 0, .int .i64 0, .string ⟨#[]⟩, .slice none 0 0]
theorem Rd.alloc {w : World} {r : Nat} {t : List UInt8} (h : Rd r t w) (o : Obj) : Rd r t (w.alloc o) := h.kept (gb_alloc (gb_refl _ _) _)
/-- A block that is not the reader's. -/
theorem box_read {w w2 : World} {r g : Nat} {cs : Array Value} {T : TypeId} (h : w.heap[g]? = some (.cells cs T (0, 0))) (hg : w.grownBy w2 (some r)) (hne : g ≠ r) : w2.heap[g]? = some (.cells cs T (0, 0)) :=
  (hg.block g (Array.getElem?_eq_some_iff.1 h).1 (fun e => hne (Option.some.inj e))).trans h
set_option maxHeartbeats 2000000 in
theorem wire_empty (ρ : Int) (D r : Nat) (w : World) (h : Rd r [] w) : Calls Tryz.prog 67 #[.pointer (some ⟨r, 0, none⟩), .int .i64 ρ] w (WireBad r D w) := by
  have Hn := Lib.hid (number_short r 1 [] (w.alloc (.cells #[.int .i64 0, .int .i64 0, .string ⟨#[]⟩, .slice none 0 0] 51)) (h.kept (gb_alloc (gb_refl _ _) _)) (by decide))
  go_enter Tryz.func67, Tryz.ntmps67
  go_wp2_with fail
  refine Hn.out.mono ?_
  rintro e w2 ⟨rfl, rfl⟩
  go_wp2_with fail
  refine bodyPost_ret (v := .tuple #[.agg #[.int .i64 0, .int .i64 0, .string ⟨#[]⟩, .slice none 0 0], .iface 78 (.int .i64 1)]) (by simp [results, Tryz.results67, go_sem]) rfl ?_
  exact ⟨0, 0, _, none, 0, 0, _, 0, 1, rfl, .flt 1, by decide, Nat.zero_le _, gb_alloc (gb_refl _ _) _⟩
theorem set4_row {w : World} {g : Nat} {x0 x1 x2 x3 : Value} {T : TypeId} (h : w.heap[g]? = some (.cells #[x0, x1, x2, x3] T (0, 0))) (v0 v1 v2 v3 : Value) :
    ((((w.setCell ⟨g, 0, none⟩ v0).setCell ⟨g, 1, none⟩ v1).setCell ⟨g, 2, none⟩ v2).setCell ⟨g, 3, none⟩ v3).heap[g]? = some (.cells #[v0, v1, v2, v3] T (0, 0)) :=
  heap_setCell_same _ g 3 _ _ _ (heap_setCell_same _ g 2 _ _ _ (heap_setCell_same _ g 1 _ _ _ (heap_setCell_same w g 0 _ _ _ h)))
/-- The kind was taken. -/
theorem kind_taken (r : Nat) (k : UInt8) (t : List UInt8) (w : World) (h : Rd r (k :: t) w) (hl : t.length ≤ 1099511627776) (K : Int) (hK : K = (k.toNat : Int)) :
    Calls Tryz.prog 79 #[.pointer (some ⟨r, 0, none⟩), .int .i64 1] w fun e w' => e = .returned (.tuple #[.int .i64 K, .nilIface]) ∧ Rd r t w' ∧ w.grownBy w' (some r) := by
  have h1 := number_any r 1 (k :: t) w h (by simp) (by simp; omega) (by decide)
  refine h1.mono fun e w' ⟨he, hr, hg⟩ => ⟨?_, hr, hg⟩
  rw [he, List.take_succ_cons, List.take_zero, valI_one, hK]

set_option maxHeartbeats 4000000 in
set_option maxRecDepth 100000 in
theorem wire_nokind (ρ : Int) (D r : Nat) (k : UInt8) (t : List UInt8) (w : World) (h : Rd r (k :: t) w) (hl : t.length ≤ 1099511627776) (h1 : k ≠ 1) (h2 : k ≠ 2) (h3 : k ≠ 3) :
    Calls Tryz.prog 67 #[.pointer (some ⟨r, 0, none⟩), .int .i64 ρ] w (WireBad r D w) := by
  obtain ⟨K, HK⟩ : ∃ K : Int, Hid (K = (k.toNat : Int)) := ⟨_, rfl⟩
  have n1 : ∀ j : UInt8, k ≠ j → (K == (j.toNat : Int)) = false := fun j hj => by
    rw [HK.out]
    simp only [beq_eq_false_iff_ne, ne_eq]
    intro e
    exact hj (UInt8.toNat_inj.1 (by omega))
  have t1 : (K == 1) = false := n1 1 h1
  have t2 : (K == 2) = false := n1 2 h2
  have t3 : (K == 3) = false := n1 3 h3
  have hrl := h.lt
  have Hn := Lib.hid (kind_taken r k t (w.alloc (.cells #[.int .i64 0, .int .i64 0, .string ⟨#[]⟩, .slice none 0 0] 51)) (h.alloc _) hl K HK.out)
  clear n1 h1 h2 h3 h
  go_enter Tryz.func67, Tryz.ntmps67
  go_wp2_with fail
  refine Hn.out.mono ?_
  rintro e w2 ⟨rfl, hr, hg⟩
  have Hrow := Lib.hid (box_read (heap_alloc_new w _) hg (by omega))
  obtain ⟨⟨b0, b1, b2, b3⟩, ⟨f0, f1, f2, f3⟩, hb⟩ := box4 Hrow.out
  have Hg := Lib.hid hg
  clear hr hg
  go_wp2_with fail
  obtain ⟨⟨q0, q1, q2, q3⟩, _, _⟩ := box4 ((Below.heap_alloc _ (.cells #[.int .i64 K, .int .i64 0, .string ⟨#[]⟩, .slice none 0 0] 51) w.heap.size (by simp [World.setCell]; omega)).trans (set4_row Hrow.out (.int .i64 K) (.int .i64 0) (.string ⟨#[]⟩) (.slice none 0 0)))
  refine bodyPost_ret (v := .tuple #[.agg #[.int .i64 K, .int .i64 0, .string ⟨#[]⟩, .slice none 0 0], .iface 78 (.int .i64 3)]) (by simp [results, Tryz.results67, go_sem, q0, q1, q2, q3]) rfl ?_
  exact ⟨K, 0, _, none, 0, 0, _, 0, 3, rfl, .flt 3, by decide, Nat.zero_le _, gb_alloc (gb_some4 (gb_step (gb_none' (gb_alloc (gb_refl _ _) _)) Hg.out (fun i e => .inl e)) (Nat.le_refl _)) _⟩
/-! Behind the call that fills a wire in: the wire is stored into the result. -/
section
variable {w w3 : World} {b4 b8 i r : Nat} {v a0 a1 a2 a3 x0 x1 x2 x3 : Value} {T : TypeId}
theorem fill_row (h : w3.heap[b4]? = some (.cells #[x0, x1, x2, x3] T (0, 0))) (hne : b4 ≠ b8) (v a0 a1 a2 a3 : Value) (i : Nat) : (((((w3.setCell ⟨b8, i, none⟩ v).setCell ⟨b4, 0, none⟩ a0).setCell ⟨b4, 1, none⟩ a1).setCell ⟨b4, 2, none⟩ a2).setCell ⟨b4, 3, none⟩ a3).heap[b4]? = some (.cells #[a0, a1, a2, a3] T (0, 0)) :=
  set4_row ((heap_setCell_other w3 _ _ _ hne).trans h) a0 a1 a2 a3
theorem fill_gb (hg : w.grownBy w3 (some r)) (h8 : w.heap.size ≤ b8) : w.grownBy (((((w3.setCell ⟨b8, i, none⟩ v).setCell ⟨w.heap.size, 0, none⟩ a0).setCell ⟨w.heap.size, 1, none⟩ a1).setCell ⟨w.heap.size, 2, none⟩ a2).setCell ⟨w.heap.size, 3, none⟩ a3) (some r) :=
  gb_some4 (gb_some hg h8 rfl) (Nat.le_refl _)
theorem fill_rd {t : List UInt8} (h : Rd r t w3) (h8 : r ≠ b8) (h4 : r ≠ b4) : Rd r t (((((w3.setCell ⟨b8, i, none⟩ v).setCell ⟨b4, 0, none⟩ a0).setCell ⟨b4, 1, none⟩ a1).setCell ⟨b4, 2, none⟩ a2).setCell ⟨b4, 3, none⟩ a3) := by
  refine Rd.set4 ?_ h4
  obtain ⟨s, hs, hb⟩ := h
  exact ⟨s, hs, (heap_setCell_other _ _ _ _ h8).trans hb⟩
theorem fill_hl {B : Nat} {sl : Value} {l : List Wr} (h : HL w3 B sl l) (h8 : b8 < B) (h4 : b4 < B) : HL (((((w3.setCell ⟨b8, i, none⟩ v).setCell ⟨b4, 0, none⟩ a0).setCell ⟨b4, 1, none⟩ a1).setCell ⟨b4, 2, none⟩ a2).setCell ⟨b4, 3, none⟩ a3) B sl l := by
  refine h.keep (by simp [World.setCell]) (fun g hB _ => ?_)
  rw [heap_setCell_other _ _ _ _ (by simp only [ne_eq]; omega), heap_setCell_other _ _ _ _ (by simp only [ne_eq]; omega), heap_setCell_other _ _ _ _ (by simp only [ne_eq]; omega), heap_setCell_other _ _ _ _ (by simp only [ne_eq]; omega), heap_setCell_other _ _ _ _ (by simp only [ne_eq]; omega)]
end
set_option maxHeartbeats 4000000 in
set_option maxRecDepth 100000 in
theorem wire_num (ρ : Int) (r : Nat) (t : List UInt8) (w : World) (h : Rd r (1 :: t) w) (hl : t.length ≤ 1099511627776) (h8 : 8 ≤ t.length) :
    Calls Tryz.prog 67 #[.pointer (some ⟨r, 0, none⟩), .int .i64 ρ] w (WireGot r (.mk 1 (valI (t.take 8)) ⟨#[]⟩ []) (t.drop 8) w) := by
  have hrl := h.lt
  have Hn := Lib.hid (kind_taken r 1 t (w.alloc (.cells #[.int .i64 0, .int .i64 0, .string ⟨#[]⟩, .slice none 0 0] 51)) (h.alloc _) hl 1 (by decide))
  clear h
  obtain ⟨V, HV⟩ : ∃ V : Int, Hid (valI (t.take 8) = V) := ⟨_, rfl⟩
  rw [HV.out]
  go_enter Tryz.func67, Tryz.ntmps67
  go_wp2_with fail
  refine Hn.out.mono ?_
  rintro e w2 ⟨rfl, hr, hg⟩
  have Hrow := Lib.hid (box_read (heap_alloc_new w _) hg (by omega))
  have hb4 := (Array.getElem?_eq_some_iff.1 Hrow.out).1
  have Hg := Lib.hid (gb_step (gb_none' (r := some r) (gb_alloc (gb_refl w none) (.cells #[.int .i64 0, .int .i64 0, .string ⟨#[]⟩, .slice none 0 0] 51))) hg (fun i e => .inl e))
  have Hcall := Lib.hid (number_any r 8 t (w2.alloc (.cells #[.int .i64 1, .int .i64 0, .string ⟨#[]⟩, .slice none 0 0] 51)) (hr.alloc _) h8 (by omega) (by decide))
  clear hr hg
  go_wp2_with fail
  refine Hcall.out.mono ?_
  rintro e w3 ⟨rfl, hr3, hg3⟩
  have Hrow3 := Lib.hid (box_read ((Below.heap_alloc w2 _ w.heap.size hb4).trans Hrow.out) hg3 (by omega))
  obtain ⟨⟨b0, b1, b2, b3⟩, ⟨f0, f1, f2, f3⟩, hb⟩ := box4 Hrow3.out
  have Hrow8 := Lib.hid (box_read (heap_alloc_new w2 (.cells #[.int .i64 1, .int .i64 0, .string ⟨#[]⟩, .slice none 0 0] 51)) hg3 (by omega))
  obtain ⟨⟨c0, c1, c2, c3⟩, ⟨e0, e1, e2, e3⟩, hc⟩ := box4 Hrow8.out
  have Hg3 := Lib.hid (gb_step (gb_alloc Hg.out (.cells #[.int .i64 1, .int .i64 0, .string ⟨#[]⟩, .slice none 0 0] 51)) hg3 (fun i e => .inl e))
  have Hr3 := Lib.hid hr3
  rw [HV.out]
  clear hr3
  clear hg3
  go_wp2_with fail
  obtain ⟨⟨q0, q1, q2, q3⟩, _, _⟩ := box4 (fill_row Hrow3.out (b8 := w2.heap.size) (by omega) (.int .i64 V) (.int .i64 1) (.int .i64 V) (.string ⟨#[]⟩) (.slice none 0 0) 1)
  refine bodyPost_ret (v := .tuple #[.agg #[.int .i64 1, .int .i64 V, .string ⟨#[]⟩, .slice none 0 0], .nilIface]) (by simp [results, Tryz.results67, go_sem, q0, q1, q2, q3]) rfl ?_
  exact ⟨none, 0, rfl, .nil _ _, fill_rd Hr3.out (by omega) (by omega), fill_gb Hg3.out (by omega)⟩
set_option maxHeartbeats 4000000 in
set_option maxRecDepth 100000 in
theorem wire_text (ρ : Int) (r : Nat) (t : List UInt8) (w : World) (h : Rd r (2 :: t) w) (hl : t.length ≤ 1099511627776) (s : ByteArray) (t' : List UInt8) (hb : rdT t = some (.mk 2 0 s [], t')) :
    Calls Tryz.prog 67 #[.pointer (some ⟨r, 0, none⟩), .int .i64 ρ] w (WireGot r (.mk 2 0 s []) t' w) := by
  have hrl := h.lt
  have Hn := Lib.hid (kind_taken r 2 t (w.alloc (.cells #[.int .i64 0, .int .i64 0, .string ⟨#[]⟩, .slice none 0 0] 51)) (h.alloc _) hl 2 (by decide))
  clear h
  go_enter Tryz.func67, Tryz.ntmps67
  go_wp2_with fail
  refine Hn.out.mono ?_
  rintro e w2 ⟨rfl, hr, hg⟩
  have Hrow := Lib.hid (box_read (heap_alloc_new w _) hg (by omega))
  have hb4 := (Array.getElem?_eq_some_iff.1 Hrow.out).1
  have Hg := Lib.hid (gb_step (gb_none' (r := some r) (gb_alloc (gb_refl w none) (.cells #[.int .i64 0, .int .i64 0, .string ⟨#[]⟩, .slice none 0 0] 51))) hg (fun i e => .inl e))
  have Hcall := Lib.hid (text_good r t (w2.alloc (.cells #[.int .i64 2, .int .i64 0, .string ⟨#[]⟩, .slice none 0 0] 51)) (hr.alloc _) hl s t' hb)
  clear hr hg
  go_wp2_with fail
  refine Hcall.out.mono ?_
  rintro e w3 ⟨rfl, hr3, hg3⟩
  have Hrow3 := Lib.hid (box_read ((Below.heap_alloc w2 _ w.heap.size hb4).trans Hrow.out) hg3 (by omega))
  obtain ⟨⟨b0, b1, b2, b3⟩, ⟨f0, f1, f2, f3⟩, hb⟩ := box4 Hrow3.out
  have Hrow8 := Lib.hid (box_read (heap_alloc_new w2 (.cells #[.int .i64 2, .int .i64 0, .string ⟨#[]⟩, .slice none 0 0] 51)) hg3 (by omega))
  obtain ⟨⟨c0, c1, c2, c3⟩, ⟨e0, e1, e2, e3⟩, hc⟩ := box4 Hrow8.out
  have Hg3 := Lib.hid (gb_step (gb_alloc Hg.out (.cells #[.int .i64 2, .int .i64 0, .string ⟨#[]⟩, .slice none 0 0] 51)) hg3 (fun i e => .inl e))
  have Hr3 := Lib.hid hr3
  clear hr3
  clear hg3
  go_wp2_with fail
  obtain ⟨⟨q0, q1, q2, q3⟩, _, _⟩ := box4 (fill_row Hrow3.out (b8 := w2.heap.size) (by omega) (.string s) (.int .i64 2) (.int .i64 0) (.string s) (.slice none 0 0) 2)
  refine bodyPost_ret (v := .tuple #[.agg #[.int .i64 2, .int .i64 0, .string s, .slice none 0 0], .nilIface]) (by simp [results, Tryz.results67, go_sem, q0, q1, q2, q3]) rfl ?_
  exact ⟨none, 0, rfl, .nil _ _, fill_rd Hr3.out (by omega) (by omega), fill_gb Hg3.out (by omega)⟩
set_option maxHeartbeats 4000000 in
set_option maxRecDepth 100000 in
theorem wire_badtext (ρ : Int) (D r : Nat) (t : List UInt8) (w : World) (h : Rd r (2 :: t) w) (hl : t.length ≤ 1099511627776) (hb : rdT t = none) :
    Calls Tryz.prog 67 #[.pointer (some ⟨r, 0, none⟩), .int .i64 ρ] w (WireBad r D w) := by
  have hrl := h.lt
  have Hn := Lib.hid (kind_taken r 2 t (w.alloc (.cells #[.int .i64 0, .int .i64 0, .string ⟨#[]⟩, .slice none 0 0] 51)) (h.alloc _) hl 2 (by decide))
  clear h
  go_enter Tryz.func67, Tryz.ntmps67
  go_wp2_with fail
  refine Hn.out.mono ?_
  rintro e w2 ⟨rfl, hr, hg⟩
  have Hrow := Lib.hid (box_read (heap_alloc_new w _) hg (by omega))
  have hb4 := (Array.getElem?_eq_some_iff.1 Hrow.out).1
  have Hg := Lib.hid (gb_step (gb_none' (r := some r) (gb_alloc (gb_refl w none) (.cells #[.int .i64 0, .int .i64 0, .string ⟨#[]⟩, .slice none 0 0] 51))) hg (fun i e => .inl e))
  have Hcall := Lib.hid (text_bad r t (w2.alloc (.cells #[.int .i64 2, .int .i64 0, .string ⟨#[]⟩, .slice none 0 0] 51)) (hr.alloc _) hl hb)
  clear hr hg
  go_wp2_with fail
  refine Hcall.out.mono ?_
  rintro e w3 ⟨fk, rfl, hfk, hg3⟩
  have Hrow3 := Lib.hid (box_read ((Below.heap_alloc w2 _ w.heap.size hb4).trans Hrow.out) hg3 (by omega))
  obtain ⟨⟨b0, b1, b2, b3⟩, ⟨f0, f1, f2, f3⟩, hb⟩ := box4 Hrow3.out
  have Hrow8 := Lib.hid (box_read (heap_alloc_new w2 (.cells #[.int .i64 2, .int .i64 0, .string ⟨#[]⟩, .slice none 0 0] 51)) hg3 (by omega))
  obtain ⟨⟨c0, c1, c2, c3⟩, ⟨e0, e1, e2, e3⟩, hc⟩ := box4 Hrow8.out
  have Hg3 := Lib.hid (gb_step (gb_alloc Hg.out (.cells #[.int .i64 2, .int .i64 0, .string ⟨#[]⟩, .slice none 0 0] 51)) hg3 (fun i e => .inl e))
  clear hg3
  go_wp2_with fail
  obtain ⟨⟨q0, q1, q2, q3⟩, _, _⟩ := box4 (fill_row Hrow3.out (b8 := w2.heap.size) (by omega) (.string ⟨#[]⟩) (.int .i64 2) (.int .i64 0) (.string ⟨#[]⟩) (.slice none 0 0) 2)
  refine bodyPost_ret (v := .tuple #[.agg #[.int .i64 2, .int .i64 0, .string ⟨#[]⟩, .slice none 0 0], .iface 78 (.int .i64 fk)]) (by simp [results, Tryz.results67, go_sem, q0, q1, q2, q3]) rfl ?_
  exact ⟨2, 0, _, none, 0, 0, _, 0, fk, rfl, .flt fk, hfk, Nat.zero_le _, fill_gb Hg3.out (by omega)⟩
set_option maxHeartbeats 4000000 in
set_option maxRecDepth 100000 in
theorem wire_list (ρ : Int) (r : Nat) (t : List UInt8) (w : World) (h : Rd r (3 :: t) w) (hl : t.length ≤ 1099511627776) (l : List Wr) (t' : List UInt8) (hlist : ∀ (w : World), Rd r t w → Calls Tryz.prog 81 #[.pointer (some ⟨r, 0, none⟩), .int .i64 ρ] w (ListGot r l t' w)) :
    Calls Tryz.prog 67 #[.pointer (some ⟨r, 0, none⟩), .int .i64 ρ] w (WireGot r (.mk 3 0 ⟨#[]⟩ l) t' w) := by
  have hrl := h.lt
  have Hn := Lib.hid (kind_taken r 3 t (w.alloc (.cells #[.int .i64 0, .int .i64 0, .string ⟨#[]⟩, .slice none 0 0] 51)) (h.alloc _) hl 3 (by decide))
  clear h
  have Hlist := Lib.hid hlist
  clear hlist
  go_enter Tryz.func67, Tryz.ntmps67
  go_wp2_with fail
  refine Hn.out.mono ?_
  rintro e w2 ⟨rfl, hr, hg⟩
  have Hrow := Lib.hid (box_read (heap_alloc_new w _) hg (by omega))
  have hb4 := (Array.getElem?_eq_some_iff.1 Hrow.out).1
  have Hg := Lib.hid (gb_step (gb_none' (r := some r) (gb_alloc (gb_refl w none) (.cells #[.int .i64 0, .int .i64 0, .string ⟨#[]⟩, .slice none 0 0] 51))) hg (fun i e => .inl e))
  have Hcall := Lib.hid (Hlist.out (w2.alloc (.cells #[.int .i64 3, .int .i64 0, .string ⟨#[]⟩, .slice none 0 0] 51)) (hr.alloc _))
  clear hr hg
  go_wp2_with fail
  refine Hcall.out.mono ?_
  rintro e w3 ⟨LA, lc, rfl, hl3, hr3, hg3⟩
  have Hrow3 := Lib.hid (box_read ((Below.heap_alloc w2 _ w.heap.size hb4).trans Hrow.out) hg3 (by omega))
  obtain ⟨⟨b0, b1, b2, b3⟩, ⟨f0, f1, f2, f3⟩, hb⟩ := box4 Hrow3.out
  have Hrow8 := Lib.hid (box_read (heap_alloc_new w2 (.cells #[.int .i64 3, .int .i64 0, .string ⟨#[]⟩, .slice none 0 0] 51)) hg3 (by omega))
  obtain ⟨⟨c0, c1, c2, c3⟩, ⟨e0, e1, e2, e3⟩, hc⟩ := box4 Hrow8.out
  have Hg3 := Lib.hid (gb_step (gb_alloc Hg.out (.cells #[.int .i64 3, .int .i64 0, .string ⟨#[]⟩, .slice none 0 0] 51)) hg3 (fun i e => .inl e))
  have Hr3 := Lib.hid hr3
  have Hl3 := Lib.hid hl3
  clear hr3 hl3
  clear hg3
  go_wp2_with fail
  obtain ⟨⟨q0, q1, q2, q3⟩, _, _⟩ := box4 (fill_row Hrow3.out (b8 := w2.heap.size) (by omega) (.slice LA l.length lc) (.int .i64 3) (.int .i64 0) (.string ⟨#[]⟩) (.slice LA l.length lc) 3)
  refine bodyPost_ret (v := .tuple #[.agg #[.int .i64 3, .int .i64 0, .string ⟨#[]⟩, .slice LA l.length lc], .nilIface]) (by simp [results, Tryz.results67, go_sem, q0, q1, q2, q3]) rfl ?_
  exact ⟨LA, lc, rfl, (fill_hl Hl3.out (by simp) (by simp; omega)).low (by simp; omega), fill_rd Hr3.out (by omega) (by omega), fill_gb Hg3.out (by omega)⟩
set_option maxHeartbeats 4000000 in
set_option maxRecDepth 100000 in
theorem wire_badlist (ρ : Int) (D r : Nat) (t : List UInt8) (w : World) (h : Rd r (3 :: t) w) (hl : t.length ≤ 1099511627776) (hlist : ∀ (w : World), Rd r t w → Calls Tryz.prog 81 #[.pointer (some ⟨r, 0, none⟩), .int .i64 ρ] w (ListBad r D w)) :
    Calls Tryz.prog 67 #[.pointer (some ⟨r, 0, none⟩), .int .i64 ρ] w (WireBad r D w) := by
  have hrl := h.lt
  have Hn := Lib.hid (kind_taken r 3 t (w.alloc (.cells #[.int .i64 0, .int .i64 0, .string ⟨#[]⟩, .slice none 0 0] 51)) (h.alloc _) hl 3 (by decide))
  clear h
  have Hlist := Lib.hid hlist
  clear hlist
  go_enter Tryz.func67, Tryz.ntmps67
  go_wp2_with fail
  refine Hn.out.mono ?_
  rintro e w2 ⟨rfl, hr, hg⟩
  have Hrow := Lib.hid (box_read (heap_alloc_new w _) hg (by omega))
  have hb4 := (Array.getElem?_eq_some_iff.1 Hrow.out).1
  have Hg := Lib.hid (gb_step (gb_none' (r := some r) (gb_alloc (gb_refl w none) (.cells #[.int .i64 0, .int .i64 0, .string ⟨#[]⟩, .slice none 0 0] 51))) hg (fun i e => .inl e))
  have Hcall := Lib.hid (Hlist.out (w2.alloc (.cells #[.int .i64 3, .int .i64 0, .string ⟨#[]⟩, .slice none 0 0] 51)) (hr.alloc _))
  clear hr hg
  go_wp2_with fail
  refine Hcall.out.mono ?_
  rintro e w3 ⟨er, dd, fk, rfl, her, hfk, hdd, hg3⟩
  have Hrow3 := Lib.hid (box_read ((Below.heap_alloc w2 _ w.heap.size hb4).trans Hrow.out) hg3 (by omega))
  obtain ⟨⟨b0, b1, b2, b3⟩, ⟨f0, f1, f2, f3⟩, hb⟩ := box4 Hrow3.out
  have Hrow8 := Lib.hid (box_read (heap_alloc_new w2 (.cells #[.int .i64 3, .int .i64 0, .string ⟨#[]⟩, .slice none 0 0] 51)) hg3 (by omega))
  obtain ⟨⟨c0, c1, c2, c3⟩, ⟨e0, e1, e2, e3⟩, hc⟩ := box4 Hrow8.out
  have Hg3 := Lib.hid (gb_step (gb_alloc Hg.out (.cells #[.int .i64 3, .int .i64 0, .string ⟨#[]⟩, .slice none 0 0] 51)) hg3 (fun i e => .inl e))
  obtain ⟨te, pe, rfl⟩ := her.iface
  have Her := Lib.hid her
  clear her
  clear hg3
  go_wp2_with fail
  obtain ⟨⟨q0, q1, q2, q3⟩, _, _⟩ := box4 (fill_row Hrow3.out (b8 := w2.heap.size) (by omega) (.slice none 0 0) (.int .i64 3) (.int .i64 0) (.string ⟨#[]⟩) (.slice none 0 0) 3)
  refine bodyPost_ret (v := .tuple #[.agg #[.int .i64 3, .int .i64 0, .string ⟨#[]⟩, .slice none 0 0], .iface te pe]) (by simp [results, Tryz.results67, go_sem, q0, q1, q2, q3]) rfl ?_
  exact ⟨3, 0, _, none, 0, 0, _, dd, fk, rfl, Her.out, hfk, hdd, fill_gb Hg3.out (by omega)⟩
end Go.Proofs.YtdlafgkiddhejaaGreatDoor

namespace Go.Proofs.YtdlafgkiddhejaaGreatDoor
open Go.RowKit Wd Mm Vw

set_option maxHeartbeats 4000000 in
set_option maxRecDepth 100000 in
theorem wire_shortnum (ρ : Int) (D r : Nat) (t : List UInt8) (w : World) (h : Rd r (1 :: t) w) (hl : t.length ≤ 1099511627776) (h8 : t.length < 8) :
    Calls Tryz.prog 67 #[.pointer (some ⟨r, 0, none⟩), .int .i64 ρ] w (WireBad r D w) := by
  have hrl := h.lt
  have Hn := Lib.hid (kind_taken r 1 t (w.alloc (.cells #[.int .i64 0, .int .i64 0, .string ⟨#[]⟩, .slice none 0 0] 51)) (h.alloc _) hl 1 (by decide))
  clear h
  go_enter Tryz.func67, Tryz.ntmps67
  go_wp2_with fail
  refine Hn.out.mono ?_
  rintro e w2 ⟨rfl, hr, hg⟩
  have Hrow := Lib.hid (box_read (heap_alloc_new w _) hg (by omega))
  have hb4 := (Array.getElem?_eq_some_iff.1 Hrow.out).1
  obtain ⟨⟨b0, b1, b2, b3⟩, ⟨f0, f1, f2, f3⟩, hb⟩ := box4 Hrow.out
  have Hg := Lib.hid (gb_step (gb_none' (r := some r) (gb_alloc (gb_refl w none) (.cells #[.int .i64 0, .int .i64 0, .string ⟨#[]⟩, .slice none 0 0] 51))) hg (fun i e => .inl e))
  have Hcall := Lib.hid (number_short r 8 t (w2.alloc (.cells #[.int .i64 1, .int .i64 0, .string ⟨#[]⟩, .slice none 0 0] 51)) (hr.alloc _) h8)
  clear hr hg
  go_wp2_with fail
  refine Hcall.out.mono ?_
  rintro e w3 ⟨rfl, rfl⟩
  go_wp2_with fail
  obtain ⟨⟨q0, q1, q2, q3⟩, _, _⟩ := box4 ((Below.heap_alloc _ (.cells #[.int .i64 1, .int .i64 0, .string ⟨#[]⟩, .slice none 0 0] 51) w.heap.size (by simp [World.setCell]; omega)).trans (set4_row Hrow.out (.int .i64 1) (.int .i64 0) (.string ⟨#[]⟩) (.slice none 0 0)))
  refine bodyPost_ret (v := .tuple #[.agg #[.int .i64 1, .int .i64 0, .string ⟨#[]⟩, .slice none 0 0], .iface 78 (.int .i64 1)]) (by simp [results, Tryz.results67, go_sem, q0, q1, q2, q3]) rfl ?_
  exact ⟨1, 0, _, none, 0, 0, _, 0, 1, rfl, .flt 1, by decide, Nat.zero_le _, gb_alloc (gb_some4 Hg.out (Nat.le_refl _)) _⟩

/-- A list, by what is known of one wire less deep; or where no list may stand. -/
def Lists (ρ : Int) (D : Nat) (sub : Option (List UInt8 → Option (Wr × List UInt8))) : Prop := ∀ (r : Nat) (t : List UInt8) (w : World), Rd r t w → t.length ≤ 1099511627776 →
  (sub.bind (fun f => rdL f t) = none → Calls Tryz.prog 81 #[.pointer (some ⟨r, 0, none⟩), .int .i64 ρ] w (ListBad r D w)) ∧
  (∀ l t', sub.bind (fun f => rdL f t) = some (.mk 3 0 ⟨#[]⟩ l, t') → Calls Tryz.prog 81 #[.pointer (some ⟨r, 0, none⟩), .int .i64 ρ] w (ListGot r l t' w))
theorem ListBad.more {r D D' : Nat} {w w' : World} {e : Ending} (h : ListBad r D w e w') (hD : D ≤ D') : ListBad r D' w e w' := by
  obtain ⟨er, d, k, h1, h2, h3, h4, h5⟩ := h
  exact ⟨er, d, k, h1, h2, h3, by omega, h5⟩
theorem WireBad.more {r D D' : Nat} {w w' : World} {e : Ending} (h : WireBad r D w e w') (hD : D ≤ D') : WireBad r D' w e w' := by
  obtain ⟨k, n, s, A, len, c, er, d, f, h1, h2, h3, h4, h5⟩ := h
  exact ⟨k, n, s, A, len, c, er, d, f, h1, h2, h3, by omega, h5⟩
theorem lists_zero : Lists 0 0 none := fun r t w _ _ => ⟨fun _ => list_zero r w, fun l t' h => by cases h⟩
theorem lists_some (ρ : Int) (hρ : 1 ≤ ρ) (hρ2 : ρ ≤ 100) (D : Nat) (f : List UInt8 → Option (Wr × List UInt8)) (hf : ∀ s x t, f s = some (x, t) → t.length + 5 ≤ s.length) (ih : ReadsOne (ρ - 1) D f) : Lists ρ (D + 1) (some f) := by
  intro r t w h hl
  have hlen := fun l t' => rds_len hf (beN (t.take 4)) (t.drop 4) l t'
  by_cases h4 : t.length < 4
  · refine ⟨fun _ => list_early ρ hρ (D + 1) r t w h hl (.inl h4), fun l t' hs => ?_⟩
    rw [Option.bind_some] at hs
    have := (rdL_some hs).1
    omega
  by_cases hm : 65536 < beN (t.take 4)
  · refine ⟨fun _ => list_early ρ hρ (D + 1) r t w h hl (.inr (.inl hm)), fun l t' hs => ?_⟩
    rw [Option.bind_some] at hs
    have := (rdL_some hs).2.1
    omega
  have he : rdL f t = (rds f (beN (t.take 4)) (t.drop 4)).map fun p => (.mk 3 0 ⟨#[]⟩ p.1, p.2) := by
    unfold rdL; rw [if_neg h4, if_neg hm]
  by_cases ho : (t.drop 4).length < 5 * beN (t.take 4)
  · refine ⟨fun _ => list_early ρ hρ (D + 1) r t w h hl (.inr (.inr ho)), fun l t' hs => ?_⟩
    rw [Option.bind_some, he] at hs
    obtain ⟨⟨l2, t2⟩, hq, _⟩ := Option.map_eq_some_iff.1 hs
    have := (hlen l2 t2 hq).1
    omega
  have hgo := list_goes ρ hρ hρ2 D r f hf ih t w h hl (by omega) (by omega) (by omega)
  refine ⟨fun hn => ?_, fun l t' hs => ?_⟩
  · rw [Option.bind_some, he, Option.map_eq_none_iff] at hn
    exact hgo none hn
  · rw [Option.bind_some, he] at hs
    obtain ⟨⟨l2, t2⟩, hq, hx⟩ := Option.map_eq_some_iff.1 hs
    simp only [Prod.mk.injEq, Wr.mk.injEq, true_and] at hx
    obtain ⟨rfl, rfl⟩ := hx
    exact hgo (some (l2, t2)) hq
theorem reads_of (ρ : Int) (D : Nat) (sub : Option (List UInt8 → Option (Wr × List UInt8))) (hL : Lists ρ D sub) : ReadsOne ρ D (rdB sub) := by
  intro r t w h hl
  cases t with
  | nil => exact ⟨fun _ => wire_empty ρ D r w h, fun x t' hs => by cases hs⟩
  | cons k t =>
    have hl' : t.length ≤ 1099511627776 := by simp only [List.length_cons] at hl; omega
    rw [rdB]
    by_cases h1 : k = 1
    · subst h1
      rw [if_pos rfl]
      refine ⟨fun hn => ?_, fun x t' hs => ?_⟩
      · refine wire_shortnum ρ D r t w h hl' ?_
        unfold rdN at hn
        by_cases h8 : t.length < 8
        · exact h8
        · rw [if_neg h8] at hn; cases hn
      · obtain ⟨h8, rfl, rfl⟩ := rdN_some hs
        exact wire_num ρ r t w h hl' h8
    rw [if_neg h1]
    by_cases h2 : k = 2
    · subst h2
      rw [if_pos rfl]
      refine ⟨fun hn => wire_badtext ρ D r t w h hl' hn, fun x t' hs => ?_⟩
      obtain ⟨_, _, _, rfl, _⟩ := rdT_some hs
      exact wire_text ρ r t w h hl' _ t' hs
    rw [if_neg h2]
    by_cases h3 : k = 3
    · subst h3
      rw [if_pos rfl]
      refine ⟨fun hn => wire_badlist ρ D r t w h hl' (fun w' hr => (hL r t w' hr hl').1 hn), fun x t' hs => ?_⟩
      obtain ⟨f, hf, hq⟩ := Option.bind_eq_some_iff.1 hs
      obtain ⟨_, _, l, _, rfl⟩ := rdL_some hq
      exact wire_list ρ r t w h hl' l t' (fun w' hr => (hL r t w' hr hl').2 l t' hs)
    · rw [if_neg h3]
      exact ⟨fun _ => wire_nokind ρ D r k t w h hl' h1 h2 h3, fun x t' hs => by cases hs⟩
theorem reads_any : ∀ R : Nat, R ≤ 100 → ReadsOne (R : Int) R (rd R) := by
  intro R
  induction R with
  | zero => intro _; exact reads_of 0 0 none lists_zero
  | succ R ih =>
    intro hR
    refine reads_of _ (R + 1) (some (rd R)) (lists_some _ (by omega) (by omega) R (rd R) (rd_len R) ?_)
    have e : ((R + 1 : Nat) : Int) - 1 = (R : Int) := by omega
    rw [e]
    exact ih (by omega)

/-- What all of the bytes say. -/
def get (s : List UInt8) : Option Wr := match rd 6 s with
  | some (x, []) => some x
  | _ => none
/-- whole: a wire; or an error. -/
def WholeGot (x : Wr) (w : World) (e : Ending) (w' : World) : Prop := ∃ A c, e = .returned (.tuple #[.agg #[.int .i64 x.k, .int .i64 x.n, .string x.s, .slice A x.l.length c], .nilIface]) ∧ HL w' w.heap.size (.slice A x.l.length c) x.l ∧ w.grownBy w' none
def WholeBad (w : World) (e : Ending) (w' : World) : Prop := ∃ (k n : Int) (s : ByteArray) (A : Option Addr) (len c : Nat) (er : Value) (d : Nat) (f : Int), e = .returned (.tuple #[.agg #[.int .i64 k, .int .i64 n, .string s, .slice A len c], er]) ∧ ErrV d er f ∧ f ≠ 0 ∧ d ≤ 8 ∧ w.grownBy w' none
set_option maxHeartbeats 4000000 in
set_option maxRecDepth 100000 in
theorem whole_bad (s : ByteArray) (w : World) (hl : s.data.toList.length ≤ 1099511627776) (hb : rd 6 s.data.toList = none) : Calls Tryz.prog 42 #[.string s] w (WholeBad w) := by
  have Hr := Lib.hid ((reads_any 6 (by decide) (w.heap.size + 1) s.data.toList ((w.alloc (.cells #[.int .i64 0, .int .i64 0, .string ⟨#[]⟩, .slice none 0 0] 51)).alloc (.cells #[.string s] 110)) ⟨s, rfl, by have := heap_alloc_new (w.alloc (.cells #[.int .i64 0, .int .i64 0, .string ⟨#[]⟩, .slice none 0 0] 51)) (.cells #[.string s] 110); simpa using this⟩ hl).1 hb)
  clear hb hl
  go_enter Tryz.func42, Tryz.ntmps42
  go_wp2_with fail
  refine Hr.out.mono ?_
  rintro e w2 ⟨k, n, s', A, len, c, er, d, f, rfl, her, hf, hd, hg⟩
  obtain ⟨te, pe, rfl⟩ := her.iface
  have Her := Lib.hid her
  have Hrow := Lib.hid (box_read (g := w.heap.size) (cs := #[.int .i64 0, .int .i64 0, .string ⟨#[]⟩, .slice none 0 0]) (T := 51) ((Below.heap_alloc _ (.cells #[.string s] 110) w.heap.size (by simp)).trans (heap_alloc_new w _)) hg (by omega))
  obtain ⟨⟨b0, b1, b2, b3⟩, ⟨f0, f1, f2, f3⟩, hb⟩ := box4 Hrow.out
  have Hg := Lib.hid (gb_new (gb_alloc (gb_alloc (gb_refl w none) (.cells #[.int .i64 0, .int .i64 0, .string ⟨#[]⟩, .slice none 0 0] 51)) (.cells #[.string s] 110)) hg (by omega))
  clear her hg
  go_wp2_with fail
  obtain ⟨⟨q0, q1, q2, q3⟩, _, _⟩ := box4 ((Below.heap_alloc _ (.cells #[.int .i64 k, .int .i64 n, .string s', .slice A len c] 51) w.heap.size (by simp [World.setCell]; omega)).trans (set4_row Hrow.out (.int .i64 k) (.int .i64 n) (.string s') (.slice A len c)))
  refine bodyPost_ret (v := .tuple #[.agg #[.int .i64 k, .int .i64 n, .string s', .slice A len c], .iface te pe]) (by simp [results, Tryz.results42, go_sem, q0, q1, q2, q3]) rfl ?_
  exact ⟨k, n, _, A, len, c, _, d, f, rfl, Her.out, hf, by omega, gb_alloc (gb_new4 (Nat.le_refl _) Hg.out) _⟩
set_option maxHeartbeats 4000000 in
set_option maxRecDepth 100000 in
theorem whole_left (s : ByteArray) (w : World) (hl : s.data.toList.length ≤ 1099511627776) (x : Wr) (t' : List UInt8) (hb : rd 6 s.data.toList = some (x, t')) (hne : t' ≠ []) : Calls Tryz.prog 42 #[.string s] w (WholeBad w) := by
  have Hr := Lib.hid ((reads_any 6 (by decide) (w.heap.size + 1) s.data.toList ((w.alloc (.cells #[.int .i64 0, .int .i64 0, .string ⟨#[]⟩, .slice none 0 0] 51)).alloc (.cells #[.string s] 110)) ⟨s, rfl, by have := heap_alloc_new (w.alloc (.cells #[.int .i64 0, .int .i64 0, .string ⟨#[]⟩, .slice none 0 0] 51)) (.cells #[.string s] 110); simpa using this⟩ hl).2 x t' hb)
  clear hb hl
  go_enter Tryz.func42, Tryz.ntmps42
  go_wp2_with fail
  refine Hr.out.mono ?_
  rintro e w2 ⟨A, c, rfl, hx, hr, hg⟩
  obtain ⟨s', hs', hrb⟩ := hr
  have Hrow := Lib.hid (box_read (g := w.heap.size) (cs := #[.int .i64 0, .int .i64 0, .string ⟨#[]⟩, .slice none 0 0]) (T := 51) ((Below.heap_alloc _ (.cells #[.string s] 110) w.heap.size (by simp)).trans (heap_alloc_new w _)) hg (by omega))
  obtain ⟨⟨b0, b1, b2, b3⟩, ⟨f0, f1, f2, f3⟩, hb⟩ := box4 Hrow.out
  have r0 := cell_of_row w2 (w.heap.size + 1) 0 _ _ _ hrb
  have hrl := (Array.getElem?_eq_some_iff.1 hrb).1
  have Hg := Lib.hid (gb_new (gb_alloc (gb_alloc (gb_refl w none) (.cells #[.int .i64 0, .int .i64 0, .string ⟨#[]⟩, .slice none 0 0] 51)) (.cells #[.string s] 110)) hg (by omega))
  have Hx := Lib.hid hx
  have h1 := list_ne (s := s') (fun e => hne (by rw [← hs']; exact List.eq_nil_of_length_eq_zero (by simpa using e)))
  have h2 : (!s'.toList.isEmpty) = true := by rw [h1]; rfl
  clear hx hg hrb hs' hne
  go_wp2_with fail
  obtain ⟨⟨q0, q1, q2, q3⟩, _, _⟩ := box4 ((Below.heap_alloc _ (.cells #[.int .i64 x.k, .int .i64 x.n, .string x.s, .slice A x.l.length c] 51) w.heap.size (by simp [World.setCell]; omega)).trans (set4_row Hrow.out (.int .i64 x.k) (.int .i64 x.n) (.string x.s) (.slice A x.l.length c)))
  refine bodyPost_ret (v := .tuple #[.agg #[.int .i64 x.k, .int .i64 x.n, .string x.s, .slice A x.l.length c], .iface 78 (.int .i64 2)]) (by simp [results, Tryz.results42, go_sem, q0, q1, q2, q3]) rfl ?_
  exact ⟨x.k, x.n, _, A, _, c, _, 0, 2, rfl, .flt 2, by decide, by omega, gb_alloc (gb_new4 (Nat.le_refl _) Hg.out) _⟩
set_option maxHeartbeats 4000000 in
set_option maxRecDepth 100000 in
theorem whole_good (s : ByteArray) (w : World) (hl : s.data.toList.length ≤ 1099511627776) (x : Wr) (t' : List UInt8) (hb : rd 6 s.data.toList = some (x, t')) (hne : t' = []) : Calls Tryz.prog 42 #[.string s] w (WholeGot x w) := by
  have Hr := Lib.hid ((reads_any 6 (by decide) (w.heap.size + 1) s.data.toList ((w.alloc (.cells #[.int .i64 0, .int .i64 0, .string ⟨#[]⟩, .slice none 0 0] 51)).alloc (.cells #[.string s] 110)) ⟨s, rfl, by have := heap_alloc_new (w.alloc (.cells #[.int .i64 0, .int .i64 0, .string ⟨#[]⟩, .slice none 0 0] 51)) (.cells #[.string s] 110); simpa using this⟩ hl).2 x t' hb)
  clear hb hl
  go_enter Tryz.func42, Tryz.ntmps42
  go_wp2_with fail
  refine Hr.out.mono ?_
  rintro e w2 ⟨A, c, rfl, hx, hr, hg⟩
  obtain ⟨s', hs', hrb⟩ := hr
  have Hrow := Lib.hid (box_read (g := w.heap.size) (cs := #[.int .i64 0, .int .i64 0, .string ⟨#[]⟩, .slice none 0 0]) (T := 51) ((Below.heap_alloc _ (.cells #[.string s] 110) w.heap.size (by simp)).trans (heap_alloc_new w _)) hg (by omega))
  obtain ⟨⟨b0, b1, b2, b3⟩, ⟨f0, f1, f2, f3⟩, hb⟩ := box4 Hrow.out
  have r0 := cell_of_row w2 (w.heap.size + 1) 0 _ _ _ hrb
  have hrl := (Array.getElem?_eq_some_iff.1 hrb).1
  have Hg := Lib.hid (gb_new (gb_alloc (gb_alloc (gb_refl w none) (.cells #[.int .i64 0, .int .i64 0, .string ⟨#[]⟩, .slice none 0 0] 51)) (.cells #[.string s] 110)) hg (by omega))
  have Hx := Lib.hid hx
  have hz : s'.size = 0 := by
    have := congrArg List.length (hs'.trans hne)
    simpa using this
  obtain rfl := size_zero hz
  clear hx hg hrb hs' hne hz
  go_wp2_with fail
  obtain ⟨⟨q0, q1, q2, q3⟩, _, _⟩ := box4 ((Below.heap_alloc _ (.cells #[.int .i64 x.k, .int .i64 x.n, .string x.s, .slice A x.l.length c] 51) w.heap.size (by simp [World.setCell]; omega)).trans (set4_row Hrow.out (.int .i64 x.k) (.int .i64 x.n) (.string x.s) (.slice A x.l.length c)))
  refine bodyPost_ret (v := .tuple #[.agg #[.int .i64 x.k, .int .i64 x.n, .string x.s, .slice A x.l.length c], .nilIface]) (by simp [results, Tryz.results42, go_sem, q0, q1, q2, q3]) rfl ?_
  refine ⟨A, c, rfl, ?_, gb_alloc (gb_new4 (Nat.le_refl _) Hg.out) _⟩
  refine HL.kept ?_ (gb_alloc (gb_refl _ _) _)
  refine (Hx.out.grown (gb_then (gb_then (gb_then (gb_set1 _ w.heap.size _ _) (gb_set1 _ _ _ _)) (gb_set1 _ _ _ _)) (gb_set1 _ _ _ _)) (fun i e => ?_)).low (by simp; omega)
  cases e; simp; omega
theorem whole_any (s : ByteArray) (w : World) (hl : s.data.toList.length ≤ 1099511627776) : (get s.data.toList = none → Calls Tryz.prog 42 #[.string s] w (WholeBad w)) ∧ (∀ x, get s.data.toList = some x → Calls Tryz.prog 42 #[.string s] w (WholeGot x w)) := by
  unfold get
  cases hr : rd 6 s.data.toList with
  | none => exact ⟨fun _ => whole_bad s w hl hr, fun x h => by cases h⟩
  | some p =>
    obtain ⟨x, t⟩ := p
    cases t with
    | nil => exact ⟨(fun h => by cases h), (fun y h => by cases h; exact whole_good s w hl x [] hr rfl)⟩
    | cons a t => exact ⟨(fun _ => whole_left s w hl x (a :: t) hr (by simp)), (fun y h => by cases h)⟩

/-- Get: a wire; or none. -/
def GetGot (x : Wr) (w : World) (e : Ending) (w' : World) : Prop := ∃ A c, e = .returned (.tuple #[.agg #[.int .i64 x.k, .int .i64 x.n, .string x.s, .slice A x.l.length c], .bool true]) ∧ HL w' w.heap.size (.slice A x.l.length c) x.l ∧ w.grownBy w' none
def GetNone (w : World) (e : Ending) (w' : World) : Prop := e = .returned (.tuple #[.agg #[.int .i64 0, .int .i64 0, .string ⟨#[]⟩, .slice none 0 0], .bool false]) ∧ w.grownBy w' none
set_option maxHeartbeats 4000000 in
set_option maxRecDepth 100000 in
theorem get_none (s : ByteArray) (w : World) (hl : s.data.toList.length ≤ 1099511627776) (hb : get s.data.toList = none) (hT : ErrT w) : Calls Tryz.prog 25 #[.string s] w (GetNone w) := by
  have Hw := Lib.hid ((whole_any s (w.alloc (.cells #[.int .i64 0, .int .i64 0, .string ⟨#[]⟩, .slice none 0 0] 51)) hl).1 hb)
  have HT := Lib.hid hT
  clear hb hl hT
  go_enter Tryz.func25, Tryz.ntmps25
  go_wp2_with fail
  refine Hw.out.mono ?_
  rintro e w2 ⟨k, n, s', A, len, c, er, d, f, rfl, her, hf, hd, hg⟩
  have Hg := Lib.hid (gb_none (gb_alloc (gb_refl w none) _) hg)
  obtain ⟨te, pe, rfl⟩ := her.iface
  have Hf := Lib.hid (faultOf_any d _ f her hd (w2.alloc (.cells #[.int .i64 k, .int .i64 n, .string s', .slice A len c] 51)) (HT.out.keep (gb_alloc Hg.out _) (by simp)))
  have Hrow := Lib.hid ((hg.block w.heap.size (by simp) (by simp)).trans (heap_alloc_new w _))
  have t1 : (f == 0) = false := by simpa using hf
  have t2 : (f != 0) = true := by simpa using hf
  clear her hg hf
  go_wp2_with fail
  refine Hf.out.mono ?_
  rintro e w3 ⟨rfl, hg3⟩
  have Hg3 := Lib.hid (gb_none (gb_alloc Hg.out _) hg3)
  obtain ⟨⟨b0, b1, b2, b3⟩, ⟨f0, f1, f2, f3⟩, hb⟩ := box4 ((hg3.block w.heap.size (by have := Hg.out.size; have := (Array.getElem?_eq_some_iff.1 Hrow.out).1; simp; omega) (by simp)).trans ((Below.heap_alloc w2 _ w.heap.size (Array.getElem?_eq_some_iff.1 Hrow.out).1).trans Hrow.out))
  have Hrow3 := Lib.hid ((hg3.block w.heap.size (by have := Hg.out.size; have := (Array.getElem?_eq_some_iff.1 Hrow.out).1; simp; omega) (by simp)).trans ((Below.heap_alloc w2 _ w.heap.size (Array.getElem?_eq_some_iff.1 Hrow.out).1).trans Hrow.out))
  clear hg3
  go_wp2_with fail
  obtain ⟨⟨q0, q1, q2, q3⟩, _, _⟩ := box4 (set4_row Hrow3.out (.int .i64 0) (.int .i64 0) (.string ⟨#[]⟩) (.slice none 0 0))
  refine bodyPost_ret (v := .tuple #[.agg #[.int .i64 0, .int .i64 0, .string ⟨#[]⟩, .slice none 0 0], .bool false]) (by simp [results, Tryz.results25, go_sem, q0, q1, q2, q3]) rfl ?_
  exact ⟨rfl, gb_new4 (Nat.le_refl _) Hg3.out⟩
set_option maxHeartbeats 4000000 in
set_option maxRecDepth 100000 in
theorem get_some (s : ByteArray) (w : World) (hl : s.data.toList.length ≤ 1099511627776) (x : Wr) (hb : get s.data.toList = some x) : Calls Tryz.prog 25 #[.string s] w (GetGot x w) := by
  have Hw := Lib.hid ((whole_any s (w.alloc (.cells #[.int .i64 0, .int .i64 0, .string ⟨#[]⟩, .slice none 0 0] 51)) hl).2 x hb)
  clear hb hl
  go_enter Tryz.func25, Tryz.ntmps25
  go_wp2_with fail
  refine Hw.out.mono ?_
  rintro e w2 ⟨A, c, rfl, hx, hg⟩
  have Hg := Lib.hid (gb_none (gb_alloc (gb_refl w none) _) hg)
  have Hf := Lib.hid (faultOf_nil (w2.alloc (.cells #[.int .i64 x.k, .int .i64 x.n, .string x.s, .slice A x.l.length c] 51)))
  have Hrow := Lib.hid ((hg.block w.heap.size (by simp) (by simp)).trans (heap_alloc_new w _))
  have hwl : w.heap.size < w2.heap.size := (Array.getElem?_eq_some_iff.1 Hrow.out).1
  have Hx := Lib.hid hx
  clear hg hx
  go_wp2_with fail
  refine Hf.out.mono ?_
  rintro e w3 ⟨rfl, hg3⟩
  have Hg3 := Lib.hid (gb_none (gb_alloc Hg.out _) hg3)
  have Hx3 := Lib.hid (Hx.out.kept (gb_none (gb_alloc (gb_refl w2 none) _) hg3))
  have Hrow3 := Lib.hid ((hg3.block w.heap.size (by simp; omega) (by simp)).trans ((Below.heap_alloc w2 _ w.heap.size hwl).trans Hrow.out))
  obtain ⟨⟨b0, b1, b2, b3⟩, ⟨f0, f1, f2, f3⟩, hb⟩ := box4 Hrow3.out
  obtain ⟨⟨c0, c1, c2, c3⟩, _, hc⟩ := box4 (show w3.heap[w2.heap.size]? = some (.cells #[.int .i64 x.k, .int .i64 x.n, .string x.s, .slice A x.l.length c] 51 (0, 0)) from (hg3.block _ (by simp) (by simp)).trans (heap_alloc_new w2 _))
  clear hg3
  go_wp2_with fail
  obtain ⟨⟨q0, q1, q2, q3⟩, _, _⟩ := box4 (set4_row Hrow3.out (.int .i64 x.k) (.int .i64 x.n) (.string x.s) (.slice A x.l.length c))
  refine bodyPost_ret (v := .tuple #[.agg #[.int .i64 x.k, .int .i64 x.n, .string x.s, .slice A x.l.length c], .bool true]) (by simp [results, Tryz.results25, go_sem, q0, q1, q2, q3]) rfl ?_
  refine ⟨A, c, rfl, ?_, gb_new4 (Nat.le_refl _) Hg3.out⟩
  refine (Hx3.out.grown (gb_then (gb_then (gb_then (gb_set1 _ w.heap.size _ _) (gb_set1 _ _ _ _)) (gb_set1 _ _ _ _)) (gb_set1 _ _ _ _)) (fun i e => ?_)).low (by simp)
  cases e; simp
end Go.Proofs.YtdlafgkiddhejaaGreatDoor

namespace Go.Proofs.YtdlafgkiddhejaaGreatDoor
open Go.RowKit Wd Mm Vw

def num (n : Int) : Wr := .mk 1 n ⟨#[]⟩ []
def txt (s : ByteArray) : Wr := .mk 2 0 s []
def lst (l : List Wr) : Wr := .mk 3 0 ⟨#[]⟩ l
/-- Get of Put is the same. -/
theorem get_enc (x : Wr) (h : x.may = true) (hi : x.in64 = true) : get x.enc = some x := by
  have := rd_enc 6 x h hi []
  rw [List.append_nil] at this
  unfold get
  rw [this]
theorem get_bytes (x : Wr) (h : x.may = true) (hi : x.in64 = true) : get x.bytes.data.toList = some x := by
  unfold Wr.bytes
  rw [if_pos h]
  exact get_enc x h hi
/-- What is told has just these bytes, and may be. -/
theorem get_back {s : List UInt8} {x : Wr} (h : get s = some x) : s = x.enc ∧ x.may = true ∧ x.in64 = true := by
  unfold get at h
  cases hr : rd 6 s with
  | none => rw [hr] at h; cases h
  | some p =>
    obtain ⟨y, t⟩ := p
    rw [hr] at h
    cases t with
    | cons a t => cases h
    | nil =>
      cases h
      have := rd_back 6 s x [] hr
      rw [List.append_nil] at this
      exact this
theorem bytes_len (x : Wr) (h : x.may = true) : x.bytes.data.toList = x.enc := by
  unfold Wr.bytes; rw [if_pos h]
/-- A row that was just laid, of wires without lists. -/
theorem HL.laid {w : World} {g : Nat} {T : TypeId} {cs : Array Value} {B : Nat} (l : List Wr) (h : w.heap[g]? = some (.cells cs T (0, 0))) (hB : B ≤ g) (hn : l.length ≤ 1099511627776) (c : Nat)
    (hc : ∀ i x, l[i]? = some x → cs[i * 4]? = some (.int .i64 x.k) ∧ cs[i * 4 + 1]? = some (.int .i64 x.n) ∧ cs[i * 4 + 2]? = some (.string x.s) ∧ ∃ A m d, cs[i * 4 + 3]? = some (.slice A m d) ∧ HL w B (.slice A m d) x.l) : HL w B (.slice (some ⟨g, 0, none⟩) l.length c) l := by
  have hrow : Row w g T cs := h
  refine .row g 0 c l (fun i => match cs[i * 4 + 3]? with | some v => v | none => .nilIface) hB hrow.lt hn ?_ ?_ ?_ ?_ ?_
  · intro i x hx; rw [Nat.zero_add, hrow.get]; exact (hc i x hx).1
  · intro i x hx; rw [Nat.zero_add, hrow.get]; exact (hc i x hx).2.1
  · intro i x hx; rw [Nat.zero_add, hrow.get]; exact (hc i x hx).2.2.1
  · intro i x hx
    obtain ⟨A, m, d, h3, _⟩ := (hc i x hx).2.2.2
    simp only [Nat.zero_add, hrow.get, h3]
  · intro i x hx
    obtain ⟨A, m, d, h3, h4⟩ := (hc i x hx).2.2.2
    simp only [h3]
    exact h4
def exW : Wr := lst [txt ⟨#[97]⟩, num (-2)]
theorem exW_may : exW.may = true := by decide
theorem exW_in : exW.in64 = true := by decide
theorem exW_len : exW.enc.length = 20 := by decide
theorem one_may : (num 1).may = true := by decide
theorem one_bytes : (num 1).bytes = ⟨#[1, 0, 0, 0, 0, 0, 0, 0, 1]⟩ := by decide
theorem ErrT.grown {w w' : World} (h : ErrT w) (hg : w.grownBy w' none) : ErrT w' := h.keep hg (by simp)
theorem num_HL (w : World) (B : Nat) (A : Option Addr) (c : Nat) (n : Int) : HL w B (.slice A 0 c) (num n).l := .nil A c
theorem txt_HL (w : World) (B : Nat) (A : Option Addr) (c : Nat) (s : ByteArray) : HL w B (.slice A 0 c) (txt s).l := .nil A c
def exCells : Array Value := #[.int .i64 2, .int .i64 0, .string ⟨#[97]⟩, .slice none 0 0, .int .i64 1, .int .i64 (-2), .string ⟨#[]⟩, .slice none 0 0]
theorem ex_HL (w : World) (g : Nat) (h : w.heap[g]? = some (.cells exCells 51 (0, 0))) : HL w 0 (.slice (some ⟨g, 0, none⟩) 2 2) exW.l := by
  refine HL.laid [txt ⟨#[97]⟩, num (-2)] h (Nat.zero_le _) (by decide) 2 ?_
  intro i x hx
  match i, hx with
  | 0, hx =>
    cases hx
    exact ⟨rfl, rfl, rfl, none, 0, 0, rfl, .nil _ _⟩
  | 1, hx =>
    cases hx
    exact ⟨rfl, rfl, rfl, none, 0, 0, rfl, .nil _ _⟩
end Go.Proofs.YtdlafgkiddhejaaGreatDoor

namespace Go.Proofs.YtdlafgkiddhejaaGreatDoor
open Go.RowKit Wd Mm Vw

theorem below_of {w w' : World} (h : w.grownBy w' none) : Below w.heap.size w w' := gb_below h (Nat.le_refl _)
theorem row_bytes {w : World} {g : Nat} {t : TypeId} {l : List UInt8} (h : Row w g t (l.map w8).toArray) : ∀ j (hj : j < l.length), w.cell? ((⟨g, 0, none⟩ : Addr).add j) = some (.int .u8 (l[j].toNat : Int)) := fun j hj => by
  have hadd : (⟨g, 0, none⟩ : Addr).add j = ⟨g, j, none⟩ := by unfold Addr.add; split <;> simp_all
  rw [hadd]
  exact h.at_ (by simp [hj, w8])
theorem u8_of {a : Int} (h : (Lit.int .u8 a).wf = true) : 0 ≤ a ∧ a ≤ 255 := by
  have h1 : IntKind.u8.min = 0 := by decide
  have h2 : IntKind.u8.max = 255 := by decide
  simp only [Lit.wf, h1, h2, Bool.and_eq_true, decide_eq_true_eq] at h
  exact h
theorem i64_of {a : Int} (h : (Lit.int .i64 a).wf = true) : -9223372036854775808 ≤ a ∧ a ≤ 9223372036854775807 := by
  have h1 : IntKind.i64.min = -9223372036854775808 := by decide
  have h2 : IntKind.i64.max = 9223372036854775807 := by decide
  simp only [Lit.wf, h1, h2, Bool.and_eq_true, decide_eq_true_eq] at h
  exact h
/-- A slice of texts that came in. -/
def IsStrs (w : World) (a : Option Addr) (len cap : Nat) (zs : List ByteArray) : Prop :=
  (a = none ∧ len = 0 ∧ cap = 0 ∧ zs = []) ∨
  ∃ x, a = some x ∧ len ≤ cap ∧ cap ≤ maxLen ∧ zs.length = cap ∧ (∀ i, i < zs.length → w.cell? (x.add i) = some (.string (zs.getD i ByteArray.empty))) ∧ ∀ s ∈ zs, s.size ≤ maxLen
/-- A slice of bytes that came in: its first byte's place, each byte. -/
def Held8 (w : World) (a : Option Addr) (len : Nat) : Prop := 0 < len → ∃ g o, a = some ⟨g, o, none⟩ ∧ g < w.heap.size ∧ ∀ i, i < len → ∃ b : Nat, b ≤ 255 ∧ w.cell? ⟨g, o + i, none⟩ = some (.int .u8 (b : Int))
theorem Held8.keep {w w' : World} {a : Option Addr} {n : Nat} (h : Held8 w a n) (hg : w.grownBy w' none) : Held8 w' a n := fun hn => by
  obtain ⟨g, o, e, hl, hc⟩ := h hn
  exact ⟨g, o, e, Nat.lt_of_lt_of_le hl hg.size, fun i hi => by
    have := hg.block g hl (by simp)
    rw [World.cell?_of_block (w := w) (a := ⟨g, o + i, none⟩) this]
    exact hc i hi⟩
theorem held8_of {w : World} {a : Option Addr} {len cap : Nat} {zs : List Int}
    (h : (a = none ∧ len = 0 ∧ cap = 0 ∧ zs = []) ∨ ∃ x, a = some x ∧ len ≤ cap ∧ cap ≤ maxLen ∧ zs.length = cap ∧ (∀ i, i < zs.length → w.cell? (x.add i) = some (.int .u8 (zs.getD i 0))) ∧ ∀ n ∈ zs, (Lit.int .u8 n).wf = true) :
    Held8 w a len := by
  rcases h with ⟨rfl, rfl, rfl, rfl⟩ | ⟨x, rfl, hl, hc, hz, hcell, hwf⟩
  · exact fun h => absurd h (by omega)
  · intro h0
    obtain ⟨b, o, sp⟩ := x
    have c0 := hcell 0 (by omega)
    cases sp with
    | some sp =>
      exfalso
      simp only [Addr.add, World.cell?] at c0
      split at c0 <;> simp at c0
    | none =>
      refine ⟨b, o, rfl, ?_, fun i hi => ?_⟩
      · have := block_lt_of_cell c0
        simpa [Addr.add] using this
      · have ci := hcell i (by omega)
        have hadd : (⟨b, o, none⟩ : Addr).add i = ⟨b, o + i, none⟩ := by unfold Addr.add; split <;> simp_all
        rw [hadd] at ci
        have hin : i < zs.length := by omega
        have hv := hwf (zs.getD i 0) (by rw [List.getD_eq_getElem?_getD, List.getElem?_eq_getElem hin]; exact List.getElem_mem hin)
        have hb : 0 ≤ zs.getD i 0 ∧ zs.getD i 0 ≤ 255 := by
          have h1 : IntKind.u8.min = 0 := by decide
          have h2 : IntKind.u8.max = 255 := by decide
          simp only [Lit.wf, h1, h2, Bool.and_eq_true, decide_eq_true_eq] at hv
          exact hv
        refine ⟨(zs.getD i 0).toNat, by omega, ?_⟩
        rw [ci, show (((zs.getD i 0).toNat : Nat) : Int) = zs.getD i 0 by omega]
/-- What is cut says nothing; what is longer says nothing. -/
theorem get_longer (x : Wr) (h : x.may = true) (hi : x.in64 = true) (t : List UInt8) (ht : t ≠ []) : get (x.enc ++ t) = none := by
  unfold get
  rw [rd_enc 6 x h hi t]
  cases t with
  | nil => exact absurd rfl ht
  | cons a r => rfl
theorem get_cut (x : Wr) (h : x.may = true) (hi : x.in64 = true) (q : Nat) (hq : q < x.enc.length) : get (x.enc.take q) = none := by
  cases hg : get (x.enc.take q) with
  | none => rfl
  | some y =>
    exfalso
    obtain ⟨h1, h2, h3⟩ := get_back hg
    have e : x.enc = y.enc ++ x.enc.drop q := by rw [← h1, List.take_append_drop]
    have a := rd_enc 6 x h hi []
    have b := rd_enc 6 y h2 h3 (x.enc.drop q)
    rw [List.append_nil, e] at a
    rw [← e] at a b
    rw [a] at b
    simp only [Option.some.injEq, Prod.mk.injEq] at b
    have := congrArg List.length b.2
    rw [List.length_drop] at this
    simp at this
    omega
theorem num_may (n : Int) : (num n).may = true := by
  unfold num Wr.may; rw [fit_mk]; rfl
theorem num_in (n : Int) (h : -9223372036854775808 ≤ n ∧ n ≤ 9223372036854775807) : (num n).in64 = true := by
  unfold num; rw [in64_mk, allIn_nil, decide_eq_true h.1, decide_eq_true h.2]; rfl
theorem num_len (n : Int) : (num n).enc.length = 9 := by
  unfold num; rw [enc_mk, if_pos rfl, List.length_cons, highs_len]
theorem txt_may (s : ByteArray) (h : s.size ≤ 1048576) : (txt s).may = true := by
  unfold txt Wr.may; rw [fit_mk, if_neg (by decide), if_pos rfl, decide_eq_true h]; rfl
theorem txt_in (s : ByteArray) : (txt s).in64 = true := by
  unfold txt; rw [in64_mk, allIn_nil]; rfl
theorem txt_len (s : ByteArray) : (txt s).enc.length = s.size + 5 := by
  unfold txt; rw [enc_mk, if_neg (by decide), if_pos rfl, List.length_cons, List.length_append, highs_len]; simp; omega
theorem size_of_bytes {x : Wr} (h : x.may = true) : x.bytes.size = x.enc.length := by
  rw [← bytes_len x h]; simp
/-- A block that was there, behind whatever is made. -/
theorem row_kept {w w' : World} {g : Nat} {o : Obj} (h : w.heap[g]? = some o) (hg : w.grownBy w' none) : w'.heap[g]? = some o := (hg.block g (Array.getElem?_eq_some_iff.1 h).1 (by simp)).trans h
end Go.Proofs.YtdlafgkiddhejaaGreatDoor

namespace Go.Proofs.YtdlafgkiddhejaaGreatDoor
open Go.RowKit Wd Mm Vw

/-- The cells of wires, each with its list's slice. -/
def flat (ps : List (Wr × Value)) : List Value := ps.flatMap fun p => [.int .i64 p.1.k, .int .i64 p.1.n, .string p.1.s, p.2]
theorem flat_cons (p : Wr × Value) (ps : List (Wr × Value)) : flat (p :: ps) = [.int .i64 p.1.k, .int .i64 p.1.n, .string p.1.s, p.2] ++ flat ps := rfl
theorem flat_len (ps : List (Wr × Value)) : (flat ps).length = ps.length * 4 := by
  induction ps with
  | nil => rfl
  | cons p ps ih => rw [flat_cons, List.length_append, ih, List.length_cons]; simp; omega
theorem flat_snoc (ps : List (Wr × Value)) (p : Wr × Value) : flat (ps ++ [p]) = flat ps ++ [.int .i64 p.1.k, .int .i64 p.1.n, .string p.1.s, p.2] := by
  unfold flat; rw [List.flatMap_append]; rfl
theorem flat_get (ps : List (Wr × Value)) (i : Nat) (p : Wr × Value) (h : ps[i]? = some p) :
    (flat ps)[i * 4]? = some (.int .i64 p.1.k) ∧ (flat ps)[i * 4 + 1]? = some (.int .i64 p.1.n) ∧ (flat ps)[i * 4 + 2]? = some (.string p.1.s) ∧ (flat ps)[i * 4 + 3]? = some p.2 := by
  induction ps generalizing i with
  | nil => simp at h
  | cons q ps ih =>
    cases i with
    | zero =>
      obtain rfl : q = p := by simpa using h
      exact ⟨rfl, rfl, rfl, rfl⟩
    | succ i =>
      obtain ⟨h0, h1, h2, h3⟩ := ih i (by simpa using h)
      rw [flat_cons]
      refine ⟨?_, ?_, ?_, ?_⟩
      · rw [List.getElem?_append_right (by simp; omega), show (i + 1) * 4 - [Value.int .i64 q.1.k, .int .i64 q.1.n, .string q.1.s, q.2].length = i * 4 by simp; omega]; exact h0
      · rw [List.getElem?_append_right (by simp; omega), show (i + 1) * 4 + 1 - [Value.int .i64 q.1.k, .int .i64 q.1.n, .string q.1.s, q.2].length = i * 4 + 1 by simp; omega]; exact h1
      · rw [List.getElem?_append_right (by simp; omega), show (i + 1) * 4 + 2 - [Value.int .i64 q.1.k, .int .i64 q.1.n, .string q.1.s, q.2].length = i * 4 + 2 by simp; omega]; exact h2
      · rw [List.getElem?_append_right (by simp; omega), show (i + 1) * 4 + 3 - [Value.int .i64 q.1.k, .int .i64 q.1.n, .string q.1.s, q.2].length = i * 4 + 3 by simp; omega]; exact h3
/-- A row of the call's own that holds these wires. -/
def Own (B : Nat) (v : Value) (ps : List (Wr × Value)) (w : World) : Prop := w.ownsRow B 51 4 v ps.length (flat ps)
theorem Own.kept {B : Nat} {v : Value} {ps : List (Wr × Value)} {w w' : World} (h : Own B v ps w) (hg : w.grownBy w' none) : Own B v ps w' := by
  refine World.ownsRow.kept h hg ?_
  cases hv : v.ownBlock with
  | none => exact .inl rfl
  | some k => exact .inr (by simp)
theorem Own.nil (B : Nat) (w : World) : Own B (.slice none 0 0) [] w := World.ownsRow_nil w B _ 4
theorem Own.slice {B : Nat} {v : Value} {ps : List (Wr × Value)} {w : World} (h : Own B v ps w) : ∃ A c, v = .slice A ps.length c := by
  rcases h.2 with ⟨rfl, h0⟩ | ⟨g, cap, cur, rfl, _⟩
  · exact ⟨none, 0, by rw [h0]⟩
  · exact ⟨_, _, rfl⟩
/-- .. as a list in memory. -/
theorem Own.list {B : Nat} {v : Value} {ps : List (Wr × Value)} {w : World} (h : Own B v ps w) (hn : ps.length ≤ 1099511627776) (hp : ∀ p ∈ ps, HL w 0 p.2 p.1.l) : HL w 0 v (ps.map Prod.fst) := by
  have hcells := fun (g : Nat) (hg : v.ownBlock = some g) => World.ownsRow.cells h hg
  rcases h.2 with ⟨rfl, h0⟩ | ⟨g, cap, cur, rfl, hB, hg, _⟩
  · rw [List.length_eq_zero_iff.1 h0]; exact .nil _ _
  · have hc : ∀ j u, (flat ps)[j]? = some u → w.cell? ⟨g, 0 + j, none⟩ = some u := fun j u hu => by
      have := hcells g rfl j u hu
      have hadd : (⟨g, 0, none⟩ : Addr).add j = ⟨g, 0 + j, none⟩ := by unfold Addr.add; split <;> simp_all
      rwa [hadd] at this
    have hl : (ps.map Prod.fst).length = ps.length := List.length_map _
    have key : ∀ (i : Nat) (x : Wr), (ps.map Prod.fst)[i]? = some x → ∃ p : Wr × Value, ps[i]? = some p ∧ p.1 = x := fun i x hx => by
      rw [List.getElem?_map] at hx
      obtain ⟨p, h1, h2⟩ := Option.map_eq_some_iff.1 hx
      exact ⟨p, h1, h2⟩
    rw [← hl]
    refine .row g 0 cap _ (fun i => match ps[i]? with | some p => p.2 | none => .nilIface) (Nat.zero_le _) (Array.getElem?_eq_some_iff.1 hg).1 (by rw [hl]; exact hn) ?_ ?_ ?_ ?_ ?_
    · intro i x hx; obtain ⟨p, h1, rfl⟩ := key i x hx; exact hc _ _ (flat_get ps i p h1).1
    · intro i x hx; obtain ⟨p, h1, rfl⟩ := key i x hx; exact hc _ _ (flat_get ps i p h1).2.1
    · intro i x hx; obtain ⟨p, h1, rfl⟩ := key i x hx; exact hc _ _ (flat_get ps i p h1).2.2.1
    · intro i x hx; obtain ⟨p, h1, rfl⟩ := key i x hx; simp only [h1]; exact hc _ _ (flat_get ps i p h1).2.2.2
    · intro i x hx; obtain ⟨p, h1, rfl⟩ := key i x hx; simp only [h1]; exact hp p (List.mem_of_getElem? h1)
/-- A wire's cells, just laid, one slice long. -/
theorem cells4 (w : World) (a0 a1 a2 a3 : Value) : ∀ (j : Nat) (u : Value), [a0, a1, a2, a3][j]? = some u → (w.alloc (.cells #[a0, a1, a2, a3] 51)).cell? ((⟨w.heap.size, 0, none⟩ : Addr).add j) = some u := by
  intro j u hj
  have hadd : (⟨w.heap.size, 0, none⟩ : Addr).add j = ⟨w.heap.size, j, none⟩ := by unfold Addr.add; split <;> simp_all
  rw [hadd]
  have := cell_of_row _ w.heap.size j #[a0, a1, a2, a3] 51 (0, 0) (heap_alloc_new w _)
  rw [this]
  simpa using hj
theorem one4 (k n : Int) (s : ByteArray) (A : Option Addr) (m c : Nat) : ∀ u ∈ [Value.int .i64 k, .int .i64 n, .string s, .slice A m c], u.oneCell' = true := by
  intro u hu
  simp only [List.mem_cons, List.not_mem_nil, or_false] at hu
  rcases hu with rfl | rfl | rfl | rfl <;> rfl
theorem own_slice4 {w : World} {B : Nat} {e : TypeId} {v : Value} {n : Nat} {xs : List Value} (h : w.ownsRow B e 4 v n xs) : ∃ A m c, v = .slice A m c := by
  rcases h.2 with ⟨rfl, _⟩ | ⟨g, cap, cur, rfl, _⟩
  · exact ⟨_, _, _, rfl⟩
  · exact ⟨_, _, _, rfl⟩

/-- Texts that came in. -/
def HeldT (w : World) (a : Option Addr) (len : Nat) (zs : List ByteArray) : Prop := 0 < len → ∃ g o, a = some ⟨g, o, none⟩ ∧ g < w.heap.size ∧ ∀ i, i < len → w.cell? ⟨g, o + i, none⟩ = some (.string (zs.getD i ByteArray.empty))
theorem HeldT.keep {w w' : World} {a : Option Addr} {n : Nat} {zs : List ByteArray} (h : HeldT w a n zs) (hg : w.grownBy w' none) : HeldT w' a n zs := fun hn => by
  obtain ⟨g, o, e, hl, hc⟩ := h hn
  refine ⟨g, o, e, Nat.lt_of_lt_of_le hl hg.size, fun i hi => ?_⟩
  have := hg.block g hl (by simp)
  rw [World.cell?_of_block (w := w) (a := ⟨g, o + i, none⟩) this]
  exact hc i hi
theorem heldT_of {w : World} {a : Option Addr} {len cap : Nat} {zs : List ByteArray} (h : IsStrs w a len cap zs) : HeldT w a len zs ∧ len ≤ 9223372036854775807 ∧ ∀ i, i < len → (zs.getD i ByteArray.empty).size ≤ 9223372036854775807 := by
  rcases h with ⟨rfl, rfl, rfl, rfl⟩ | ⟨x, rfl, hl, hc, hz, hcell, hwf⟩
  · exact ⟨fun h => absurd h (by omega), by omega, fun i hi => absurd hi (by omega)⟩
  · unfold maxLen at hc hwf
    refine ⟨fun h0 => ?_, by omega, fun i hi => ?_⟩
    · obtain ⟨b, o, sp⟩ := x
      have c0 := hcell 0 (by omega)
      cases sp with
      | some sp =>
        exfalso
        simp only [Addr.add, World.cell?] at c0
        split at c0 <;> simp at c0
      | none =>
        refine ⟨b, o, rfl, ?_, fun i hi => ?_⟩
        · have := block_lt_of_cell c0
          simpa [Addr.add] using this
        · have ci := hcell i (by omega)
          have hadd : (⟨b, o, none⟩ : Addr).add i = ⟨b, o + i, none⟩ := by unfold Addr.add; split <;> simp_all
          rwa [hadd] at ci
    · have := hwf (zs.getD i ByteArray.empty) (by rw [List.getD_eq_getElem?_getD, List.getElem?_eq_getElem (by omega)]; exact List.getElem_mem _)
      omega
end Go.Proofs.YtdlafgkiddhejaaGreatDoor

namespace Go.Proofs.YtdlafgkiddhejaaGreatDoor
open Go.RowKit Wd Mm Vw

theorem lst_len (xs : List Wr) : (lst xs).enc.length = 5 + (encs xs).length := by
  unfold lst; rw [enc_mk, if_neg (by decide), if_neg (by decide), List.length_cons, List.length_append, highs_len]; omega
theorem encs_snoc (xs : List Wr) (x : Wr) : (encs (xs ++ [x])).length = (encs xs).length + x.enc.length := by
  induction xs with
  | nil => simp [encs_cons, encs_nil]
  | cons y r ih => simp only [List.cons_append, encs_cons, List.length_append, ih]; omega
theorem allIn_of : ∀ xs : List Wr, (∀ x ∈ xs, x.in64 = true) → allIn xs = true
  | [], _ => allIn_nil
  | x :: r, h => by
    rw [allIn_cons, h x List.mem_cons_self, allIn_of r (fun y hy => h y (List.mem_cons_of_mem _ hy))]; rfl
theorem lst_in (xs : List Wr) (h : ∀ x ∈ xs, x.in64 = true) : (lst xs).in64 = true := by
  unfold lst; rw [in64_mk, allIn_of xs h]; rfl
theorem wrap_range (n : Int) : -9223372036854775808 ≤ wrap64 n ∧ wrap64 n ≤ 9223372036854775807 := by unfold wrap64; omega
/-- As HL, all blocks being such ones. -/
inductive HP (w : World) (P : Nat → Prop) : Value → List Wr → Prop
  | nil (A : Option Addr) (c : Nat) : HP w P (.slice A 0 c) []
  | row (g o c : Nat) (l : List Wr) (L : Nat → Value) (hB : P g) (hg : g < w.heap.size) (hn : l.length ≤ 1099511627776)
      (hk : ∀ i x, l[i]? = some x → w.cell? ⟨g, o + i * 4, none⟩ = some (.int .i64 x.k))
      (hv : ∀ i x, l[i]? = some x → w.cell? ⟨g, o + i * 4 + 1, none⟩ = some (.int .i64 x.n))
      (hs : ∀ i x, l[i]? = some x → w.cell? ⟨g, o + i * 4 + 2, none⟩ = some (.string x.s))
      (hL : ∀ i x, l[i]? = some x → w.cell? ⟨g, o + i * 4 + 3, none⟩ = some (L i))
      (hl : ∀ i x, l[i]? = some x → HP w P (L i) x.l) : HP w P (.slice (some ⟨g, o, none⟩) l.length c) l
theorem HP.keep {w w' : World} {P Q : Nat → Prop} {v : Value} {l : List Wr} (h : HP w P v l) (hsz : w.heap.size ≤ w'.heap.size) (hb : ∀ g, P g → g < w.heap.size → w'.heap[g]? = w.heap[g]? ∧ Q g) : HP w' Q v l := by
  induction h with
  | nil A c => exact .nil A c
  | row g o c l L hB hg hn hk hv hs hL hl ih =>
    obtain ⟨he, hq⟩ := hb g hB hg
    refine .row g o c l L hq (Nat.lt_of_lt_of_le hg hsz) hn ?_ ?_ ?_ ?_ ih
    · intro i x hx; rw [cell_of_heap he]; exact hk i x hx
    · intro i x hx; rw [cell_of_heap he]; exact hv i x hx
    · intro i x hx; rw [cell_of_heap he]; exact hs i x hx
    · intro i x hx; rw [cell_of_heap he]; exact hL i x hx
theorem HP.list {w : World} {P : Nat → Prop} {v : Value} {l : List Wr} (h : HP w P v l) : HL w 0 v l := by
  induction h with
  | nil A c => exact .nil A c
  | row g o c l L hB hg hn hk hv hs hL hl ih => exact .row g o c l L (Nat.zero_le _) hg hn hk hv hs hL ih
theorem HP.of {w : World} {B : Nat} {v : Value} {l : List Wr} (h : HL w B v l) : HP w (fun g => B ≤ g) v l := by
  induction h with
  | nil A c => exact .nil A c
  | row g o c l L hB hg hn hk hv hs hL hl ih => exact .row g o c l L hB hg hn hk hv hs hL ih
/-- The block of a row's value is not among the list's. -/
abbrev Off (v : Value) (g : Nat) : Prop := some g ≠ v.ownBlock
theorem HP.kept {w w' : World} {P : Nat → Prop} {v : Value} {l : List Wr} (h : HP w P v l) (hg : w.grownBy w' none) : HP w' P v l := h.keep hg.size (fun g hP hl => ⟨hg.block g hl (by simp), hP⟩)
theorem HP.after {w w' : World} {u u' v : Value} {l : List Wr} (h : HP w (Off u) v l) (hg : w.grownBy w' u.ownBlock) (ha : u'.ownBlock = u.ownBlock ∨ u'.ownBlock = some w.heap.size) : HP w' (Off u') v l := by
  refine h.keep hg.size (fun g hP hl => ⟨hg.block g hl hP, ?_⟩)
  show some g ≠ u'.ownBlock
  rcases ha with e | e
  · rw [e]; exact hP
  · rw [e]; intro e2; have := Option.some.inj e2; omega
/-- Some wire, in memory. -/
def Made (w : World) (N : Nat) (e : Ending) (w' : World) : Prop := ∃ (x : Wr) (A : Option Addr) (c : Nat), e = .returned (.agg #[.int .i64 x.k, .int .i64 x.n, .string x.s, .slice A x.l.length c]) ∧ HL w' w.heap.size (.slice A x.l.length c) x.l ∧ x.in64 = true ∧ x.enc.length ≤ N ∧ w.grownBy w' none
theorem result_row {w w2 : World} (hg : (w.alloc (.cells #[.int .i64 0, .int .i64 0, .string ⟨#[]⟩, .slice none 0 0] 51)).grownBy w2 none) : w2.heap[w.heap.size]? = some (.cells #[.int .i64 0, .int .i64 0, .string ⟨#[]⟩, .slice none 0 0] 51 (0, 0)) := row_kept (heap_alloc_new w _) hg
/-- Bytes that came in, from a place on. -/
theorem Held8.part {w : World} {g o len : Nat} (h : Held8 w (some ⟨g, o, none⟩) len) (h0 : 0 < len) (i m : Nat) (hi : i + m ≤ len) : Held8 w (some ⟨g, o + i, none⟩) m := fun hm => by
  obtain ⟨g', o', e, hl, hc⟩ := h h0
  cases e
  refine ⟨g, o + i, rfl, hl, fun j hj => ?_⟩
  obtain ⟨b, hb, hc'⟩ := hc (i + j) (by omega)
  exact ⟨b, hb, by rw [Nat.add_assoc]; exact hc'⟩
/-- How many bytes there may be of a wire by so many numbers. -/
def bnd (m : Nat) : Nat := 100 * 5 ^ (min m 6)
theorem bnd_le {a b : Nat} (h : a ≤ b) : bnd a ≤ bnd b := Nat.mul_le_mul_left _ (Nat.pow_le_pow_right (by decide) (by omega))
theorem bnd_pos (m : Nat) : 100 ≤ bnd m := by
  have : 0 < 5 ^ (min m 6) := Nat.pow_pos (by decide)
  unfold bnd; omega
theorem bnd_step (m : Nat) (hm : 0 < m) : 5 + 4 * bnd (min (m - 1) 5) ≤ bnd m := by
  have h1 := bnd_pos (min (m - 1) 5)
  have e : bnd m = 5 * bnd (min (m - 1) 5) := by
    unfold bnd
    rw [show min m 6 = min (min (m - 1) 5) 6 + 1 by omega, Nat.pow_succ]
    omega
  omega
theorem Made.more {w w' : World} {N N' : Nat} {e : Ending} (h : Made w N e w') (hN : N ≤ N') : Made w N' e w' := by
  obtain ⟨x, A, c, h1, h2, h3, h4, h5⟩ := h
  exact ⟨x, A, c, h1, h2, h3, by omega, h5⟩
end Go.Proofs.YtdlafgkiddhejaaGreatDoor
