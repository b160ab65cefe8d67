/- wire.copied, List, Num, Text: wires in new memory. -/
import Derived.Test.YtbammjhafgbfkaaDoorVFit
import Derived.Laws.MakeOwn
namespace Go.Proofs.YtbammjhafgbfkaaDoor
open Go.RowKit Mm Vw

/-- A list in new memory. -/
def NewList (w : World) (l : List Wr) (e : Ending) (w' : World) : Prop := ∃ A c, e = .returned (.slice A l.length c) ∧ HL w' w.heap.size (.slice A l.length c) l ∧ w.grownBy w' none

/-- A row of n wires of which the first k are made: its block, their lists. -/
def Part (w : World) (g : Nat) (l : List Wr) (n k : Nat) : Prop :=
  ∃ (cs : Array Value) (L : Nat → Value), Row w g 24 cs ∧ cs.size = n * 4 ∧ ∀ i x, i < k → l[i]? = some x →
    cs[i * 4]? = some (.int .i64 x.k) ∧ cs[i * 4 + 1]? = some (.int .i64 x.n) ∧ cs[i * 4 + 2]? = some (.string x.s) ∧ cs[i * 4 + 3]? = some (L i) ∧ HL w (g + 1) (L i) x.l
theorem Part.lt {w : World} {g : Nat} {l : List Wr} {n k : Nat} (h : Part w g l n k) : g < w.heap.size := by
  obtain ⟨cs, L, hr, _⟩ := h; exact hr.lt
theorem Part.kept {w w' : World} {g : Nat} {l : List Wr} {n k : Nat} (h : Part w g l n k) (hg : w.grownBy w' none) : Part w' g l n k := by
  obtain ⟨cs, L, hr, hs, hi⟩ := h
  exact ⟨cs, L, hr.kept hg (by simp), hs, fun i x hik hx => ⟨(hi i x hik hx).1, (hi i x hik hx).2.1, (hi i x hik hx).2.2.1, (hi i x hik hx).2.2.2.1, (hi i x hik hx).2.2.2.2.kept hg⟩⟩
/-- What lies at the places of the k-th wire, which is not made yet; that they may be written. -/
theorem Part.room {w : World} {g : Nat} {l : List Wr} {n k : Nat} (h : Part w g l n k) {j : Nat} (hj : j < n * 4) : (∃ v, w.cell? ⟨g, j, none⟩ = some v) ∧ w.frozen? ⟨g, j, none⟩ = false := by
  obtain ⟨cs, L, hr, hs, _⟩ := h
  refine ⟨?_, hr.free j⟩
  rw [hr.get, Array.getElem?_eq_getElem (by omega)]
  exact ⟨_, rfl⟩
/-- One more is made: its four cells are written; nothing else that was there is turned but its own block. -/
theorem Part.more {w w2 : World} {g : Nat} {l : List Wr} {n k : Nat} {x : Wr} {v : Value} (h : Part w g l n k) (hg : w.grownBy w2 (some g)) (hr2 : ∀ cs, Row w g 24 cs → Row w2 g 24 cs) (hk : k < n) (hx : l[k]? = some x) (hv : HL w2 (g + 1) v x.l) :
    Part ((((w2.setCell ⟨g, k * 4, none⟩ (.int .i64 x.k)).setCell ⟨g, k * 4 + 1, none⟩ (.int .i64 x.n)).setCell ⟨g, k * 4 + 2, none⟩ (.string x.s)).setCell ⟨g, k * 4 + 3, none⟩ v) g l n (k + 1) := by
  obtain ⟨cs, L, hr, hs, hi⟩ := h
  have hrow := ((((hr2 cs hr).set_ (k * 4) (.int .i64 x.k)).set_ (k * 4 + 1) (.int .i64 x.n)).set_ (k * 4 + 2) (.string x.s)).set_ (k * 4 + 3) v
  have hgb : w2.grownBy ((((w2.setCell ⟨g, k * 4, none⟩ (.int .i64 x.k)).setCell ⟨g, k * 4 + 1, none⟩ (.int .i64 x.n)).setCell ⟨g, k * 4 + 2, none⟩ (.string x.s)).setCell ⟨g, k * 4 + 3, none⟩ v) (some g) :=
    gb_then (gb_then (gb_then (gb_set1 _ _ _ _) (gb_set1 _ _ _ _)) (gb_set1 _ _ _ _)) (gb_set1 _ _ _ _)
  refine ⟨_, fun i => if i = k then v else L i, hrow, by simp [hs], fun i y hik hy => ?_⟩
  by_cases hki : i = k
  · subst hki
    obtain rfl := Option.some.inj (hy.symm.trans hx)
    refine ⟨?_, ?_, ?_, ?_, ?_⟩
    · rw [Array.getElem?_setIfInBounds, if_neg (by omega), Array.getElem?_setIfInBounds, if_neg (by omega), Array.getElem?_setIfInBounds, if_neg (by omega), Array.getElem?_setIfInBounds, if_pos rfl, if_pos (by omega)]
    · rw [Array.getElem?_setIfInBounds, if_neg (by omega), Array.getElem?_setIfInBounds, if_neg (by omega), Array.getElem?_setIfInBounds, if_pos rfl, if_pos (by simp only [Array.size_setIfInBounds]; omega)]
    · rw [Array.getElem?_setIfInBounds, if_neg (by omega), Array.getElem?_setIfInBounds, if_pos rfl, if_pos (by simp only [Array.size_setIfInBounds]; omega)]
    · simp only [if_true]
      rw [Array.getElem?_setIfInBounds, if_pos rfl, if_pos (by simp only [Array.size_setIfInBounds]; omega)]
    · simp only [if_true]
      exact hv.grown hgb (fun j e => by cases e; omega)
  · obtain ⟨h0, h1, h2, h3, h4⟩ := hi i y (by omega) hy
    simp only [Array.getElem?_setIfInBounds, if_neg hki]
    refine ⟨?_, ?_, ?_, ?_, ?_⟩
    · rw [if_neg (by omega), if_neg (by omega), if_neg (by omega), if_neg (by omega)]; exact h0
    · rw [if_neg (by omega), if_neg (by omega), if_neg (by omega), if_neg (by omega)]; exact h1
    · rw [if_neg (by omega), if_neg (by omega), if_neg (by omega), if_neg (by omega)]; exact h2
    · rw [if_neg (by omega), if_neg (by omega), if_neg (by omega), if_neg (by omega)]; exact h3
    · exact (h4.grown hg (fun j e => by cases e; omega)).grown hgb (fun j e => by cases e; omega)
/-- All of them are made. -/
theorem Part.done {w : World} {g : Nat} {l : List Wr} {n k : Nat} (h : Part w g l n k) (hn : n = l.length) (hk : n ≤ k) (hl : l.length ≤ 1099511627776) (B : Nat) (hB : B ≤ g) (c : Nat) : HL w B (.slice (some ⟨g, 0, none⟩) l.length c) l := by
  obtain ⟨cs, L, hr, hs, hi⟩ := h
  subst hn
  have hlt : ∀ i x, l[i]? = some x → i < k := fun i x hx => by have := (List.getElem?_eq_some_iff.1 hx).1; omega
  refine .row g 0 c l L hB hr.lt hl ?_ ?_ ?_ ?_ ?_
  · intro i x hx; rw [Nat.zero_add, hr.get]; exact (hi i x (hlt i x hx) hx).1
  · intro i x hx; rw [Nat.zero_add, hr.get]; exact (hi i x (hlt i x hx) hx).2.1
  · intro i x hx; rw [Nat.zero_add, hr.get]; exact (hi i x (hlt i x hx) hx).2.2.1
  · intro i x hx; rw [Nat.zero_add, hr.get]; exact (hi i x (hlt i x hx) hx).2.2.2.1
  · intro i x hx; exact (hi i x (hlt i x hx) hx).2.2.2.2.low (by omega)
theorem gb_none' {a w : World} {r : Option Nat} (h : a.grownBy w none) : a.grownBy w r := gb_none (gb_refl a r) h
theorem gb_new4 {a w : World} {g : Nat} (hg : a.heap.size ≤ g) {i0 i1 i2 i3 : Nat} {v0 v1 v2 v3 : Value} (h : a.grownBy w none) : a.grownBy ((((w.setCell ⟨g, i0, none⟩ v0).setCell ⟨g, i1, none⟩ v1).setCell ⟨g, i2, none⟩ v2).setCell ⟨g, i3, none⟩ v3) none :=
  gb_new (gb_new (gb_new (gb_new h (gb_set1 _ _ _ _) hg) (gb_set1 _ _ _ _) hg) (gb_set1 _ _ _ _) hg) (gb_set1 _ _ _ _) hg
theorem Part.new (w : World) (l : List Wr) (n : Nat) (cs : Array Value) (hs : cs.size = n * 4) : Part (w.alloc (.cells cs 24)) w.heap.size l n 0 :=
  ⟨cs, fun _ => .nilIface, Row.new _ _ _, hs, fun i x hi => absurd hi (by omega)⟩

theorem wire_inf : (Tryd.prog.info? 24).map (fun i => (i.zero, i.size, i.bytes)) = some (some (.agg #[.int .i64 0, .int .i64 0, .string ⟨#[]⟩, .slice none 0 0]), 4, 56) := by kernel_rfl
theorem wire_parts : ∃ i, Tryd.prog.info? 24 = some i ∧ i.zero = some (.agg #[.int .i64 0, .int .i64 0, .string ⟨#[]⟩, .slice none 0 0]) ∧ i.size = 4 ∧ i.bytes = 56 := by
  obtain ⟨i, hi, h⟩ := Option.map_eq_some_iff.1 wire_inf
  simp only [Prod.mk.injEq] at h
  exact ⟨i, hi, h.1, h.2.1, h.2.2⟩
/-- What a new row of wires holds. -/
def madeW (n : Nat) : Array Value := madeCells #[.int .i64 0, .int .i64 0, .string ⟨#[]⟩, .slice none 0 0] (n * 4)
theorem madeW_size (n : Nat) : (madeW n).size = n * 4 := size_madeCells _ _
theorem makeW_at (n : Nat) (hn : n ≤ 1099511627776) (W : World) : (Instr.makeSlice 22 (.int .i64 (n : Int)) (.int .i64 (n : Int))).run Tryd.prog W = .ok (.slice (some ⟨W.heap.size, 0, none⟩) n n) (W.alloc (.cells (madeW n) 24)) := by
  obtain ⟨i, hi, hz, hs, hb⟩ := wire_parts
  have h := run_make (P := Tryd.prog) W 22 24 i _ Tryd.underlying22 hi hz .i64 .i64 n n (by omega) (by omega) (by rw [hb]; omega) (by omega)
  simpa [hs, Value.cells, madeW] using h

set_option maxHeartbeats 1000000 in
theorem num_any (n : Int) (w : World) : Calls Tryd.prog 21 #[.int .i64 n] w fun e w' => e = .returned (.agg #[.int .i64 1, .int .i64 n, .string ⟨#[]⟩, .slice none 0 0]) ∧ w.grownBy w' none := by
  go_enter Tryd.func21, Tryd.ntmps21
  go_wp2_with fail
  exact bodyPost_ret (v := .agg #[.int .i64 1, .int .i64 n, .string ⟨#[]⟩, .slice none 0 0]) (by simp [results, Tryd.results21, go_sem]) rfl ⟨rfl, gb_alloc (gb_refl _ _) _⟩
set_option maxHeartbeats 1000000 in
theorem text_any (s : ByteArray) (w : World) : Calls Tryd.prog 22 #[.string s] w fun e w' => e = .returned (.agg #[.int .i64 2, .int .i64 0, .string s, .slice none 0 0]) ∧ w.grownBy w' none := by
  go_enter Tryd.func22, Tryd.ntmps22
  go_wp2_with fail
  exact bodyPost_ret (v := .agg #[.int .i64 2, .int .i64 0, .string s, .slice none 0 0]) (by simp [results, Tryd.results22, go_sem]) rfl ⟨rfl, gb_alloc (gb_refl _ _) _⟩

set_option maxHeartbeats 2000000 in
theorem copied_of (l : List Wr) (v : Value) (w : World) (h : HL w 0 v l)
    (ih : ∀ x ∈ l, ∀ (L : Value) (w : World), HL w 0 L x.l → Calls Tryd.prog 37 #[L] w (NewList w x.l)) :
    Calls Tryd.prog 37 #[v] w (NewList w l) := by
  obtain ⟨A, c, rfl⟩ := h.slice
  by_cases hl : l.length = 0
  · obtain rfl := List.length_eq_zero_iff.1 hl
    clear hl h ih
    go_enter Tryd.func37, Tryd.ntmps37
    go_wp2_with fail
    go_ret
    exact ⟨none, 0, rfl, .nil _ _, gb_refl _ _⟩
  · have hlen := h.len
    have HH := Lib.hid h
    have Hih := Lib.hid ih
    have t1 : ((l.length : Int) == 0) = false := by rw [cast_zero]; simpa using hl
    have hmk := makeW_at l.length hlen
    clear hl h ih
    go_enter Tryd.func37, Tryd.ntmps37
    go_wp2_with fail
    go_loopw [14] (fun i wr => ∃ k : Nat, k ≤ l.length ∧ i = .int .i64 k ∧ Hid (Part wr w.heap.size l l.length k) ∧ w.grownBy wr none) (fun i _ => l.length - (intOf i).toNat)
    case atStart => exact ⟨0, Nat.zero_le _, rfl, Part.new _ _ _ _ (madeW_size _), gb_alloc (gb_refl _ _) _⟩
    case round =>
      obtain ⟨k, hk, rfl, Hp, hg⟩ := hrel
      clear hmk t1
      by_cases hlt : k < l.length
      · have d3 : decide (k < l.length) = true := decide_eq_true hlt
        obtain ⟨x, hx⟩ : ∃ x, l[k]? = some x := ⟨_, List.getElem?_eq_getElem hlt⟩
        obtain ⟨g, o, A2, c', rfl, _, hgs, c0, c1, c2, c3, hxl⟩ := (HH.out.kept hg).item hx
        have Hx := Lib.hid hx
        have Hxl := Lib.hid hxl
        clear hx hxl
        go_wp2_with fail
        refine (Hih.out x (List.mem_of_getElem? Hx.out) _ _ (Hxl.out.kept (gb_alloc (gb_refl _ _) _))).mono ?_
        rintro e w2 ⟨A3, c4, rfl, hn3, g2⟩
        have g3 := gb_none (gb_alloc hg _) g2
        have hbox : w2.heap[wr.heap.size]? = some (.cells #[.int .i64 x.k, .int .i64 x.n, .string x.s, .slice A2 x.l.length c'] 24 (0, 0)) := (g2.block _ (by simp) (by simp)).trans (heap_alloc_new _ _)
        have b0 := cell_of_row w2 wr.heap.size 0 _ _ _ hbox
        have b1 := cell_of_row w2 wr.heap.size 1 _ _ _ hbox
        have b2 := cell_of_row w2 wr.heap.size 2 _ _ _ hbox
        have b3 := cell_of_row w2 wr.heap.size 3 _ _ _ hbox
        have bf := frozen_of_row w2 wr.heap.size 3 _ _ hbox
        have hp2 := Hp.out.kept (gb_none (gb_alloc (gb_refl wr none) _) g2)
        obtain ⟨⟨v0, p0⟩, f0⟩ := hp2.room (j := k * 4) (by omega)
        obtain ⟨⟨v1, p1⟩, f1⟩ := hp2.room (j := k * 4 + 1) (by omega)
        obtain ⟨⟨v2, p2⟩, f2⟩ := hp2.room (j := k * 4 + 2) (by omega)
        obtain ⟨⟨v3, p3⟩, f3⟩ := hp2.room (j := k * 4 + 3) (by omega)
        have hne : w.heap.size < wr.heap.size := Hp.out.lt
        have Hn3 := Lib.hid hn3
        have Hbox := Lib.hid hbox
        clear hn3 hbox hp2
        go_wp2_with fail
        have hgB : wr.grownBy (w2.setCell ⟨wr.heap.size, 3, none⟩ (.slice A3 x.l.length c4)) none :=
          gb_step (gb_none (gb_alloc (gb_refl wr none) _) g2) (gb_set1 w2 wr.heap.size 3 _) (fun i e => .inr (by cases e; exact Nat.le_refl _))
        have hnew : HL (w2.setCell ⟨wr.heap.size, 3, none⟩ (.slice A3 x.l.length c4)) (w.heap.size + 1) (.slice A3 x.l.length c4) x.l := by
          refine (Hn3.out.grown (gb_set1 w2 wr.heap.size 3 _) (fun i e => ?_)).low (by simp; omega)
          cases e; simp
        go_roundw
        case rel =>
          refine ⟨k + 1, by omega, by go_num, ?_, ?_⟩
          · exact Hp.out.more (gb_none' hgB) (fun cs hr => hr.kept hgB (by simp)) hlt Hx.out hnew
          · exact gb_new4 (Nat.le_refl _) (gb_none hg hgB)
        case measure => simp [intOf]; omega
      · have d3 : decide (k < l.length) = false := decide_eq_false hlt
        have Hd := Lib.hid (Hp.out.done rfl (by omega) hlen w.heap.size (Nat.le_refl _) l.length)
        clear hlt
        go_wp2_with fail
        go_ret
        exact ⟨_, _, rfl, Hd.out, hg⟩
/-- 'copied', whatever list it is handed. -/
theorem copied_any : ∀ (x : Wr) (v : Value) (w : World), HL w 0 v x.l → Calls Tryd.prog 37 #[v] w (NewList w x.l)
  | .mk _ _ _ l, v, w, h => copied_of l v w h (fun x _hx L w' hL => copied_any x L w' hL)
termination_by x => SizeOf.sizeOf x
decreasing_by
  have := List.sizeOf_lt_of_mem _hx
  simp
  omega
/-- A wire with a list in new memory. -/
def NewWire (w : World) (x : Wr) (e : Ending) (w' : World) : Prop := ∃ A c, e = .returned (.agg #[.int .i64 x.k, .int .i64 x.n, .string x.s, .slice A x.l.length c]) ∧ HL w' w.heap.size (.slice A x.l.length c) x.l ∧ w.grownBy w' none
/-- A block of four cells. -/
theorem box4 {w : World} {b : Nat} {a0 a1 a2 a3 : Value} {T : TypeId} (h : w.heap[b]? = some (.cells #[a0, a1, a2, a3] T (0, 0))) :
    (w.cell? ⟨b, 0, none⟩ = some a0 ∧ w.cell? ⟨b, 1, none⟩ = some a1 ∧ w.cell? ⟨b, 2, none⟩ = some a2 ∧ w.cell? ⟨b, 3, none⟩ = some a3) ∧
    (w.frozen? ⟨b, 0, none⟩ = false ∧ w.frozen? ⟨b, 1, none⟩ = false ∧ w.frozen? ⟨b, 2, none⟩ = false ∧ w.frozen? ⟨b, 3, none⟩ = false) ∧ b < w.heap.size :=
  ⟨⟨cell_of_row w b 0 _ _ _ h, cell_of_row w b 1 _ _ _ h, cell_of_row w b 2 _ _ _ h, cell_of_row w b 3 _ _ _ h⟩, ⟨frozen_of_row w b 0 _ _ h, frozen_of_row w b 1 _ _ h, frozen_of_row w b 2 _ _ h, frozen_of_row w b 3 _ _ h⟩, (Array.getElem?_eq_some_iff.1 h).1⟩
set_option maxHeartbeats 1000000 in
theorem list_any (l : List Wr) (v : Value) (w : World) (h : HL w 0 v l) : Calls Tryd.prog 23 #[v] w (NewWire w (.mk 3 0 ⟨#[]⟩ l)) := by
  have hc := copied_any (.mk 0 0 ⟨#[]⟩ l) v
  have HH := Lib.hid h
  have Hc := Lib.hid hc
  obtain ⟨A, c, rfl⟩ := h.slice
  clear h hc
  go_enter Tryd.func23, Tryd.ntmps23
  go_wp2_with fail
  refine (Hc.out _ (HH.out.kept (gb_alloc (gb_refl _ _) _))).mono ?_
  rintro e w2 ⟨A3, c4, rfl, hn3, g2⟩
  have g3 := gb_none (gb_alloc (gb_refl w none) _) g2
  obtain ⟨⟨b0, b1, b2, b3⟩, ⟨f0, f1, f2, f3⟩, hb⟩ := box4 (show w2.heap[w.heap.size]? = some (.cells #[.int .i64 0, .int .i64 0, .string ⟨#[]⟩, .slice none 0 0] 24 (0, 0)) from (g2.block _ (by simp) (by simp)).trans (heap_alloc_new _ _))
  have Hn3 := Lib.hid hn3
  clear hn3
  go_wp2_with fail
  refine bodyPost_ret (v := .agg #[.int .i64 3, .int .i64 0, .string ⟨#[]⟩, .slice A3 l.length c4]) (by simp [results, Tryd.results23, go_sem, b0, b1, b2, b3]) rfl ?_
  refine ⟨_, _, rfl, ?_, gb_new4 (Nat.le_refl _) g3⟩
  refine ((Hn3.out.grown (gb_then (gb_then (gb_then (gb_set1 _ w.heap.size _ _) (gb_set1 _ _ _ _)) (gb_set1 _ _ _ _)) (gb_set1 _ _ _ _)) (fun i e => ?_)).low (by simp))
  cases e; simp
end Go.Proofs.YtbammjhafgbfkaaDoor
