/- wire.size, putHigh, put, Put. -/
import Derived.Test.YtbammjhafgbfkaaDoorVBuild
import Derived.Test.YtbammjhafgbfkaaDoorVEnc
namespace Go.Proofs.YtbammjhafgbfkaaDoor
open Go.RowKit Wd Mm Vw

set_option maxHeartbeats 1000000 in
theorem putHigh_any (B b : Nat) (g : Option Nat) (l : List UInt8) (n : Int) (K : Nat) (hK : K ≤ 8) (w : World) (h : Bd B b g l w) (hlen : l.length + 8 ≤ 140737488355328) (hBw : B ≤ w.heap.size) :
    Calls Tryd.prog 42 #[.pointer (some ⟨b, 0, none⟩), .int .i64 n, .int .i64 (K : Int)] w (Wrote B b g w (l ++ highs n K) (.tuple #[])) := by
  have HH := Lib.hid h
  clear h
  go_enter Tryd.func42, Tryd.ntmps42
  go_wp2_with fail
  go_loopw [6] (fun sh wr => ∃ (j : Nat) (p : List UInt8) (g' : Option Nat), j ≤ K ∧ sh = .int .i64 (8 * ((j : Int) - 1)) ∧ Hid (p ++ highs n j = highs n K) ∧ Hid (Bd B b g' (l ++ p) wr) ∧ Hid (BT b g g' w wr)) (fun sh _ => (8 + intOf sh).toNat)
  case atStart => exact ⟨K, [], g, Nat.le_refl _, by go_num, rfl, (show Bd B b g (l ++ []) w by rw [List.append_nil]; exact HH.out), BT.refl _ _ _⟩
  case round =>
    obtain ⟨j, p, g', hj, rfl, Hp, Hb, Ht⟩ := hrel
    by_cases hj0 : j = 0
    · subst hj0
      go_wp2_with fail
      go_end0
      refine ⟨rfl, g', ?_, Ht.out⟩
      have := Hp.out
      rw [highs, List.append_nil] at this
      rw [← this]
      exact Hb.out
    · have d1 : decide ((0 : Int) ≤ 8 * ((j : Int) - 1)) = true := decide_eq_true (by omega)
      go_wp2_with fail
      have hpl : p.length + 1 ≤ 8 := by
        have := congrArg List.length Hp.out
        rw [List.length_append, highs_len, highs_len] at this
        omega
      refine (writeByte_any B b g' (l ++ p) (hiB n (j - 1)) _ (hiB_nat n (j - 1)).symm wr Hb.out (by rw [List.length_append]; omega) (by have := Ht.out.size; omega)).mono ?_
      rintro e w2 ⟨rfl, g2, hb2, ht2⟩
      have Hp2 : Hid ((p ++ [hiB n (j - 1)]) ++ highs n (j - 1) = highs n K) := by
        show _ = _
        rw [← Hp.out, List.append_assoc]
        obtain ⟨i, rfl⟩ : ∃ i, j = i + 1 := ⟨j - 1, by omega⟩
        rfl
      have Hb2 : Hid (Bd B b g2 (l ++ (p ++ [hiB n (j - 1)])) w2) := by
        show Bd _ _ _ _ _
        rw [← List.append_assoc]; exact hb2
      have Ht2 := Lib.hid (Ht.out.trans ht2)
      clear hb2 ht2 Hp Hb Ht
      go_wp2_with fail
      go_roundw
      case rel => exact ⟨j - 1, p ++ [hiB n (j - 1)], g2, by omega, by go_num, Hp2, Hb2, Ht2⟩
      case measure => simp [intOf]; omega

/-- Memory as it was, below. -/
theorem HL.below {w0 w : World} {v : Value} {l : List Wr} (h : HL w0 0 v l) (hb : Below w0.heap.size w0 w) : HL w 0 v l := h.keep hb.size (fun g _ hg => hb.block g hg)

set_option maxHeartbeats 2000000 in
/-- size, of a wire that may be: how many bytes there will be. -/
theorem size_of (k n : Int) (s : ByteArray) (l : List Wr) (hk : k = 1 ∨ k = 2 ∧ l = [] ∨ k = 3 ∧ s = ⟨#[]⟩) (hb : (Wr.mk k n s l).enc.length ≤ 1099511627776) (L : Value) (w : World) (h : HL w 0 L l)
    (ih : ∀ x ∈ l, ∀ (L : Value) (w : World), HL w 0 L x.l → Calls Tryd.prog 29 #[.agg #[.int .i64 x.k, .int .i64 x.n, .string x.s, L]] w fun e w' => e = .returned (.int .i64 x.enc.length) ∧ w.grownBy w' none) :
    Calls Tryd.prog 29 #[.agg #[.int .i64 k, .int .i64 n, .string s, L]] w fun e w' => e = .returned (.int .i64 (Wr.mk k n s l).enc.length) ∧ w.grownBy w' none := by
  obtain ⟨A, c, rfl⟩ := h.slice
  rw [enc_mk] at hb ⊢
  by_cases h1 : k = 1
  · subst h1
    rw [if_pos rfl]
    have hl9 : (UInt8.ofNat ((1 : Int) % 256).toNat :: highs n 8).length = 9 := by rw [List.length_cons, highs_len]
    rw [hl9]
    clear hl9 hb h ih hk
    go_enter Tryd.func29, Tryd.ntmps29
    go_wp2_with fail
    go_ret
    exact ⟨rfl, gb_alloc (gb_refl _ _) _⟩
  · have t1 : (k == 1) = false := by simpa using h1
    have HT : Hid ((UInt8.ofNat (k % 256).toNat :: (if k = 1 then highs n 8 else if k = 2 then highs s.size 4 ++ s.data.toList else highs l.length 4 ++ encs l)).length = 5 + s.size + (encs l).length) := by
      show _ = _
      rw [if_neg h1]
      rcases hk with hk | ⟨rfl, rfl⟩ | ⟨rfl, rfl⟩
      · exact absurd hk h1
      · simp [highs_len, encs_nil]; omega
      · have e0 : (⟨#[]⟩ : ByteArray).size = 0 := rfl
        rw [e0]; simp [highs_len]; omega
    have hlen := h.len
    rw [HT.out] at hb ⊢
    have HH := Lib.hid h
    have Hih := Lib.hid ih
    clear HT h1 hk h ih
    obtain ⟨N, HN⟩ : ∃ N : Nat, Hid (N = (encs l).length) := ⟨_, rfl⟩
    rw [← HN.out] at hb ⊢
    go_enter Tryd.func29, Tryd.ntmps29
    go_wp2_with fail
    go_loopw [16, 3] (fun i m wr => ∃ (j q : Nat), j ≤ l.length ∧ i = .int .i64 j ∧ m = .int .i64 (5 + s.size + q : Nat) ∧ Hid (q = (encs (l.take j)).length) ∧ q ≤ N ∧ w.grownBy wr none) (fun i _ _ => l.length - (intOf i).toNat)
    case atStart => exact ⟨0, 0, Nat.zero_le _, rfl, by go_num, (by show _ = _; simp [encs_nil]), Nat.zero_le _, gb_alloc (gb_refl _ _) _⟩
    case round =>
      obtain ⟨j, q, hj, rfl, rfl, Hq, hq, hg⟩ := hrel
      by_cases hlt : j < l.length
      · have d3 : decide (j < l.length) = true := decide_eq_true hlt
        obtain ⟨x, hx⟩ : ∃ x, l[j]? = some x := ⟨_, List.getElem?_eq_getElem hlt⟩
        obtain ⟨g, o, A2, c', rfl, _, hgs, c0, c1, c2, c3, hxl⟩ := (HH.out.kept hg).item hx
        have Hx := Lib.hid hx
        have Hxl := Lib.hid hxl
        have hqx : q + x.enc.length ≤ N := by rw [Hq.out, HN.out]; exact encs_part l j x hx
        clear hx hxl
        go_wp2_with fail
        refine (Hih.out x (List.mem_of_getElem? Hx.out) _ _ (Hxl.out.kept (gb_alloc (gb_refl _ _) _))).mono ?_
        rintro e w2 ⟨rfl, g2⟩
        replace g2 := gb_none (gb_alloc hg _) g2
        have Hq2 : Hid (q + x.enc.length = (encs (l.take (j + 1))).length) := by
          show _ = _
          rw [encs_take l j x Hx.out, List.length_append, Hq.out]
        clear Hq
        generalize x.enc.length = m at *
        go_wp2_with fail
        go_roundw
        case rel => exact ⟨j + 1, q + m, by omega, by go_num, by go_num, Hq2, hqx, g2⟩
        case measure => simp [intOf]; omega
      · have d3 : decide (j < l.length) = false := decide_eq_false hlt
        have Hd : Hid (q = N) := by
          show _ = _
          rw [Hq.out, HN.out, List.take_of_length_le (by omega)]
        clear hlt
        go_wp2_with fail
        go_ret
        rw [Hd.out]
        exact ⟨rfl, hg⟩
/-- What a wire that may be is like. -/
theorem all_fit {room : Int} {l : List Wr} (h : allFit room l = true) : ∀ x ∈ l, x.fit room = true := by
  induction l with
  | nil => intro x hx; cases hx
  | cons y r ih =>
    rw [allFit_cons, Bool.and_eq_true] at h
    intro x hx
    rcases List.mem_cons.1 hx with rfl | hx
    · exact h.1
    · exact ih h.2 x hx
theorem enc_list (k n : Int) (s : ByteArray) (l : List Wr) (h1 : k ≠ 1) (h2 : k ≠ 2) : (Wr.mk k n s l).enc.length = 5 + (encs l).length := by
  rw [enc_mk, if_neg h1, if_neg h2]; simp [highs_len]; omega
theorem fit_kinds {k n : Int} {s : ByteArray} {l : List Wr} {room : Int} (h : (Wr.mk k n s l).fit room = true) :
    (k = 1 ∨ k = 2 ∧ l = [] ∨ k = 3 ∧ s = ⟨#[]⟩) ∧ (k = 1 → l = []) ∧ (k = 3 → ∀ x ∈ l, x.fit (room - 1) = true) ∧ s.size ≤ 1048576 ∧ l.length ≤ 65536 := by
  rw [fit_mk] at h
  by_cases h1 : k = 1
  · subst h1
    simp only [if_true, Bool.and_eq_true, beq_iff_eq] at h
    have := List.length_eq_zero_iff.1 h.2
    refine ⟨.inl rfl, fun _ => this, fun h => absurd h (by decide), by omega, by omega⟩
  rw [if_neg h1] at h
  by_cases h2 : k = 2
  · subst h2
    simp only [if_true, Bool.and_eq_true, beq_iff_eq, decide_eq_true_eq] at h
    have := List.length_eq_zero_iff.1 h.2
    refine ⟨.inr (.inl ⟨rfl, this⟩), fun h => absurd h (by decide), fun h => absurd h (by decide), h.1.2, by omega⟩
  rw [if_neg h2] at h
  by_cases h3 : k = 3
  · subst h3
    simp only [if_true, Bool.and_eq_true, beq_iff_eq, decide_eq_true_eq] at h
    obtain ⟨⟨⟨_, hs⟩, _⟩, hl, ha⟩ := h
    refine ⟨.inr (.inr ⟨rfl, size_zero hs⟩), fun h => absurd h (by decide), fun _ => all_fit ha, by omega, hl⟩
  · rw [if_neg h3] at h; cases h

theorem size_any : ∀ (x : Wr) (room : Int), x.fit room = true → x.enc.length ≤ 1099511627776 → ∀ (L : Value) (w : World), HL w 0 L x.l →
    Calls Tryd.prog 29 #[.agg #[.int .i64 x.k, .int .i64 x.n, .string x.s, L]] w fun e w' => e = .returned (.int .i64 x.enc.length) ∧ w.grownBy w' none
  | .mk k n s l, room, hf, hb, L, w, hL => by
    obtain ⟨hk, h1, h3, _, _⟩ := fit_kinds hf
    refine size_of k n s l hk hb L w hL (fun x hx L' w' hL' => ?_)
    have hk3 : k = 3 := by
      rcases hk with rfl | ⟨rfl, rfl⟩ | ⟨rfl, _⟩
      · rw [h1 rfl] at hx; cases hx
      · cases hx
      · rfl
    obtain ⟨j, hj⟩ := List.getElem?_of_mem hx
    exact size_any x (room - 1) (h3 hk3 x hx) (by have := encs_part l j x hj; have := enc_list k n s l (by omega) (by omega); omega) L' w' hL'
termination_by x => SizeOf.sizeOf x
decreasing_by
  have := List.sizeOf_lt_of_mem hx
  simp
  omega

/-- put's own word: the builder has the wire's bytes behind what it had. -/
def PutOk (w0 : World) (b : Nat) (x : Wr) : Prop := ∀ (L : Value) (p : List UInt8) (g : Option Nat) (w : World), HL w0 0 L x.l → Below w0.heap.size w0 w → Bd w0.heap.size b g p w → p.length + x.enc.length ≤ 1099511627776 →
  Calls Tryd.prog 30 #[.pointer (some ⟨b, 0, none⟩), .agg #[.int .i64 x.k, .int .i64 x.n, .string x.s, L]] w (Wrote w0.heap.size b g w (p ++ x.enc) (.tuple #[]))
theorem byte_of (k : Int) (h1 : 0 ≤ k) (h2 : k ≤ 255) : ((UInt8.ofNat (k % 256).toNat).toNat : Int) = k := by
  rw [UInt8.toNat_ofNat']
  omega
/-- A block of four cells, behind writing into a builder. -/
theorem box_kept {w w2 : World} {b : Nat} {g g' : Option Nat} {B : Nat} {p : List UInt8} {cs : Array Value} (hbd : Bd B b g p w) (ht : BT b g g' (w.alloc (.cells cs 24)) w2) : w2.heap[w.heap.size]? = some (.cells cs 24 (0, 0)) := by
  have h := hbd.lt
  exact (ht.block (by simp) (by omega) (fun e => by have := (h.2 _ e.symm).2; omega)).trans (heap_alloc_new _ _)
theorem Bd.far {B b : Nat} {g : Option Nat} {p : List UInt8} {w : World} (h : Bd B b g p w) {i : Nat} (hi : w.heap.size ≤ i) : i ≠ b ∧ some i ≠ g := by
  have := h.lt
  exact ⟨by omega, fun e => by have := (h.lt.2 _ e.symm).2; omega⟩
/-- One that is not what a builder holds stays so. -/
theorem far_step {b i : Nat} {g g' : Option Nat} {w w' : World} (h : BT b g g' w w') (hi : i < w.heap.size) (hg : some i ≠ g) : some i ≠ g' := by
  rcases h.2.2.2.2.2 with rfl | ⟨n, rfl, hn⟩
  · exact hg
  · intro e; cases e; omega
set_option maxHeartbeats 2000000 in
theorem put_num (w0 : World) (b : Nat) (n : Int) (s : ByteArray) : PutOk w0 b (.mk 1 n s []) := by
  intro L p g w hL hbel hbd hlen
  obtain ⟨A, c, rfl⟩ := hL.slice
  rw [enc_mk, if_pos rfl] at hlen ⊢
  have hl9 : (UInt8.ofNat ((1 : Int) % 256).toNat :: highs n 8).length = 9 := by rw [List.length_cons, highs_len]
  rw [hl9] at hlen
  have hsz := hbel.size
  have Hbd := Lib.hid hbd
  clear hl9 hL hbel hbd
  go_enter Tryd.func30, Tryd.ntmps30
  go_wp2_with fail
  refine (writeByte_any w0.heap.size b g p (UInt8.ofNat ((1 : Int) % 256).toNat) 1 (by decide) _ (Hbd.out.kept (gb_alloc (gb_refl _ _) _)) (by omega) (by simp; omega)).mono ?_
  rintro e w2 ⟨rfl, g2, hb2, ht2⟩
  obtain ⟨⟨b0, b1, b2, b3⟩, _, hbl⟩ := box4 (box_kept Hbd.out ht2)
  have Hb2 := Lib.hid hb2
  have Ht2 := Lib.hid (ht2.ahead (gb_alloc (gb_refl _ _) _))
  clear hb2 ht2
  go_wp2_with fail
  refine (putHigh_any w0.heap.size b g2 _ n 8 (by decide) _ Hb2.out (by simp; omega) (by have := Ht2.out.size; omega)).mono ?_
  rintro e w3 ⟨rfl, g3, hb3, ht3⟩
  have Hb3 := Lib.hid hb3
  have Ht3 := Lib.hid (Ht2.out.trans ht3)
  clear hb3 ht3
  go_wp2_with fail
  go_end0
  refine ⟨rfl, g3, ?_, Ht3.out⟩
  have := Hb3.out
  rw [List.append_assoc] at this
  exact this
set_option maxHeartbeats 2000000 in
theorem put_text (w0 : World) (b : Nat) (n : Int) (s : ByteArray) : PutOk w0 b (.mk 2 n s []) := by
  intro L p g w hL hbel hbd hlen
  obtain ⟨A, c, rfl⟩ := hL.slice
  rw [enc_mk, if_neg (by decide), if_pos rfl] at hlen ⊢
  have hl9 : (UInt8.ofNat ((2 : Int) % 256).toNat :: (highs s.size 4 ++ s.data.toList)).length = 5 + s.size := by
    rw [List.length_cons, List.length_append, highs_len]; simp; omega
  rw [hl9] at hlen
  have hsz := hbel.size
  have Hbd := Lib.hid hbd
  clear hl9 hL hbel hbd
  go_enter Tryd.func30, Tryd.ntmps30
  go_wp2_with fail
  refine (writeByte_any w0.heap.size b g p (UInt8.ofNat ((2 : Int) % 256).toNat) 2 (by decide) _ (Hbd.out.kept (gb_alloc (gb_refl _ _) _)) (by omega) (by simp; omega)).mono ?_
  rintro e w2 ⟨rfl, g2, hb2, ht2⟩
  have hfar := Hbd.out.far (Nat.le_refl _)
  have hg2 := far_step ht2 (i := w.heap.size) (by simp) hfar.2
  obtain ⟨⟨b0, b1, b2, b3⟩, _, hbl⟩ := box4 (box_kept Hbd.out ht2)
  have Hbox := Lib.hid (box_kept Hbd.out ht2)
  have Hfar := Lib.hid hfar
  have Hg2 := Lib.hid hg2
  have Hb2 := Lib.hid hb2
  have Ht2 := Lib.hid (ht2.ahead (gb_alloc (gb_refl _ _) _))
  clear hb2 ht2 hfar hg2
  go_wp2_with fail
  refine (putHigh_any w0.heap.size b g2 _ s.size 4 (by decide) _ Hb2.out (by simp; omega) (by have := Ht2.out.size; omega)).mono ?_
  rintro e w3 ⟨rfl, g3, hb3, ht3⟩
  obtain ⟨⟨b0', b1', b2', b3'⟩, _, hbl'⟩ := box4 ((ht3.block hbl Hfar.out.1 Hg2.out).trans Hbox.out)
  have Hb3 := Lib.hid hb3
  have Ht3 := Lib.hid (Ht2.out.trans ht3)
  clear hb3 ht3 b0 b1 b2 b3
  go_wp2_with fail
  refine (writeString_any w0.heap.size b g3 _ s _ Hb3.out (by simp [highs_len]; omega) (by have := Ht3.out.size; omega)).mono ?_
  rintro e w4 ⟨rfl, g4, hb4, ht4⟩
  have Hb4 := Lib.hid hb4
  have Ht4 := Lib.hid (Ht3.out.trans ht4)
  clear hb4 ht4
  go_wp2_with fail
  go_end0
  refine ⟨rfl, g4, ?_, Ht4.out⟩
  have := Hb4.out
  simp only [List.append_assoc] at this
  exact this
end Go.Proofs.YtbammjhafgbfkaaDoor
