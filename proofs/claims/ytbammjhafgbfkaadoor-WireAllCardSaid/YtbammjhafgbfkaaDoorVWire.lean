/- The reader: wire. -/
import Derived.Test.YtbammjhafgbfkaaDoorVRead
namespace Go.Proofs.YtbammjhafgbfkaaDoor
open Go.RowKit Wd Mm Vw

/-! ### wire -/
/-- The reader's block beside those that wire itself makes. -/
theorem gb_some {a w w' : World} {r g : Nat} {i : Nat} {v : Value} (h : a.grownBy w (some r)) (hg : a.heap.size ≤ g) (hw : w' = w.setCell ⟨g, i, none⟩ v) : a.grownBy w' (some r) := by
  subst hw
  exact gb_step h (gb_set1 _ _ _ _) (fun j e => .inr (by cases e; exact hg))
theorem gb_some4 {a w : World} {r g : Nat} {i0 i1 i2 i3 : Nat} {v0 v1 v2 v3 : Value} (h : a.grownBy w (some r)) (hg : a.heap.size ≤ g) : a.grownBy ((((w.setCell ⟨g, i0, none⟩ v0).setCell ⟨g, i1, none⟩ v1).setCell ⟨g, i2, none⟩ v2).setCell ⟨g, i3, none⟩ v3) (some r) :=
  gb_some (gb_some (gb_some (gb_some h hg rfl) hg rfl) hg rfl) hg rfl
theorem Rd.set4 {w : World} {r g : Nat} {t : List UInt8} {i0 i1 i2 i3 : Nat} {v0 v1 v2 v3 : Value} (h : Rd r t w) (hne : r ≠ g) : Rd r t ((((w.setCell ⟨g, i0, none⟩ v0).setCell ⟨g, i1, none⟩ v1).setCell ⟨g, i2, none⟩ v2).setCell ⟨g, i3, none⟩ v3) := by
  obtain ⟨s, hs, hb⟩ := h
  refine ⟨s, hs, ?_⟩
  rw [heap_setCell_other _ _ _ _ hne, heap_setCell_other _ _ _ _ hne, heap_setCell_other _ _ _ _ hne, heap_setCell_other _ _ _ _ hne]
  exact hb
/-- A fresh wire's block. -/
def zeroW : Array Value := #[.int .i64 0, .int .i64 0, .string ⟨#[]⟩, .slice none 0 0]
theorem Rd.alloc {w : World} {r : Nat} {t : List UInt8} (h : Rd r t w) (o : Obj) : Rd r t (w.alloc o) := h.kept (gb_alloc (gb_refl _ _) _)
/-- A block that is not the reader's. -/
theorem box_read {w w2 : World} {r g : Nat} {cs : Array Value} {T : TypeId} (h : w.heap[g]? = some (.cells cs T (0, 0))) (hg : w.grownBy w2 (some r)) (hne : g ≠ r) : w2.heap[g]? = some (.cells cs T (0, 0)) :=
  (hg.block g (Array.getElem?_eq_some_iff.1 h).1 (fun e => hne (Option.some.inj e))).trans h
set_option maxHeartbeats 2000000 in
theorem wire_empty (ρ : Int) (D r : Nat) (w : World) (h : Rd r [] w) : Calls Tryd.prog 46 #[.pointer (some ⟨r, 0, none⟩), .int .i64 ρ] w (WireBad r D w) := by
  have Hn := Lib.hid (number_short r 1 [] (w.alloc (.cells #[.int .i64 0, .int .i64 0, .string ⟨#[]⟩, .slice none 0 0] 24)) (h.kept (gb_alloc (gb_refl _ _) _)) (by decide))
  go_enter Tryd.func46, Tryd.ntmps46
  go_wp2_with fail
  refine Hn.out.mono ?_
  rintro e w2 ⟨rfl, rfl⟩
  go_wp2_with fail
  refine bodyPost_ret (v := .tuple #[.agg #[.int .i64 0, .int .i64 0, .string ⟨#[]⟩, .slice none 0 0], .iface 62 (.int .i64 1)]) (by simp [results, Tryd.results46, go_sem]) rfl ?_
  exact ⟨0, 0, _, none, 0, 0, _, 0, 1, rfl, .flt 1, by decide, Nat.zero_le _, gb_alloc (gb_refl _ _) _⟩
theorem set4_row {w : World} {g : Nat} {x0 x1 x2 x3 : Value} {T : TypeId} (h : w.heap[g]? = some (.cells #[x0, x1, x2, x3] T (0, 0))) (v0 v1 v2 v3 : Value) :
    ((((w.setCell ⟨g, 0, none⟩ v0).setCell ⟨g, 1, none⟩ v1).setCell ⟨g, 2, none⟩ v2).setCell ⟨g, 3, none⟩ v3).heap[g]? = some (.cells #[v0, v1, v2, v3] T (0, 0)) :=
  heap_setCell_same _ g 3 _ _ _ (heap_setCell_same _ g 2 _ _ _ (heap_setCell_same _ g 1 _ _ _ (heap_setCell_same w g 0 _ _ _ h)))
/-- The kind was taken. -/
theorem kind_taken (r : Nat) (k : UInt8) (t : List UInt8) (w : World) (h : Rd r (k :: t) w) (hl : t.length ≤ 1099511627776) (K : Int) (hK : K = (k.toNat : Int)) :
    Calls Tryd.prog 51 #[.pointer (some ⟨r, 0, none⟩), .int .i64 1] w fun e w' => e = .returned (.tuple #[.int .i64 K, .nilIface]) ∧ Rd r t w' ∧ w.grownBy w' (some r) := by
  have h1 := number_any r 1 (k :: t) w h (by simp) (by simp; omega) (by decide)
  refine h1.mono fun e w' ⟨he, hr, hg⟩ => ⟨?_, hr, hg⟩
  rw [he, List.take_succ_cons, List.take_zero, valI_one, hK]

set_option maxHeartbeats 4000000 in
set_option maxRecDepth 100000 in
theorem wire_nokind (ρ : Int) (D r : Nat) (k : UInt8) (t : List UInt8) (w : World) (h : Rd r (k :: t) w) (hl : t.length ≤ 1099511627776) (h1 : k ≠ 1) (h2 : k ≠ 2) (h3 : k ≠ 3) :
    Calls Tryd.prog 46 #[.pointer (some ⟨r, 0, none⟩), .int .i64 ρ] w (WireBad r D w) := by
  obtain ⟨K, HK⟩ : ∃ K : Int, Hid (K = (k.toNat : Int)) := ⟨_, rfl⟩
  have n1 : ∀ j : UInt8, k ≠ j → (K == (j.toNat : Int)) = false := fun j hj => by
    rw [HK.out]
    simp only [beq_eq_false_iff_ne, ne_eq]
    intro e
    exact hj (UInt8.toNat_inj.1 (by omega))
  have t1 : (K == 1) = false := n1 1 h1
  have t2 : (K == 2) = false := n1 2 h2
  have t3 : (K == 3) = false := n1 3 h3
  have hrl := h.lt
  have Hn := Lib.hid (kind_taken r k t (w.alloc (.cells #[.int .i64 0, .int .i64 0, .string ⟨#[]⟩, .slice none 0 0] 24)) (h.alloc _) hl K HK.out)
  clear n1 h1 h2 h3 h
  go_enter Tryd.func46, Tryd.ntmps46
  go_wp2_with fail
  refine Hn.out.mono ?_
  rintro e w2 ⟨rfl, hr, hg⟩
  have Hrow := Lib.hid (box_read (heap_alloc_new w _) hg (by omega))
  obtain ⟨⟨b0, b1, b2, b3⟩, ⟨f0, f1, f2, f3⟩, hb⟩ := box4 Hrow.out
  have Hg := Lib.hid hg
  clear hr hg
  go_wp2_with fail
  obtain ⟨⟨q0, q1, q2, q3⟩, _, _⟩ := box4 ((Below.heap_alloc _ (.cells #[.int .i64 K, .int .i64 0, .string ⟨#[]⟩, .slice none 0 0] 24) w.heap.size (by simp [World.setCell]; omega)).trans (set4_row Hrow.out (.int .i64 K) (.int .i64 0) (.string ⟨#[]⟩) (.slice none 0 0)))
  refine bodyPost_ret (v := .tuple #[.agg #[.int .i64 K, .int .i64 0, .string ⟨#[]⟩, .slice none 0 0], .iface 62 (.int .i64 3)]) (by simp [results, Tryd.results46, go_sem, q0, q1, q2, q3]) rfl ?_
  exact ⟨K, 0, _, none, 0, 0, _, 0, 3, rfl, .flt 3, by decide, Nat.zero_le _, gb_alloc (gb_some4 (gb_step (gb_none' (gb_alloc (gb_refl _ _) _)) Hg.out (fun i e => .inl e)) (Nat.le_refl _)) _⟩
/-! Behind the call that fills a wire in: the wire is stored into the result. -/
section
variable {w w3 : World} {b4 b8 i r : Nat} {v a0 a1 a2 a3 x0 x1 x2 x3 : Value} {T : TypeId}
theorem fill_row (h : w3.heap[b4]? = some (.cells #[x0, x1, x2, x3] T (0, 0))) (hne : b4 ≠ b8) (v a0 a1 a2 a3 : Value) (i : Nat) : (((((w3.setCell ⟨b8, i, none⟩ v).setCell ⟨b4, 0, none⟩ a0).setCell ⟨b4, 1, none⟩ a1).setCell ⟨b4, 2, none⟩ a2).setCell ⟨b4, 3, none⟩ a3).heap[b4]? = some (.cells #[a0, a1, a2, a3] T (0, 0)) :=
  set4_row ((heap_setCell_other w3 _ _ _ hne).trans h) a0 a1 a2 a3
theorem fill_gb (hg : w.grownBy w3 (some r)) (h8 : w.heap.size ≤ b8) : w.grownBy (((((w3.setCell ⟨b8, i, none⟩ v).setCell ⟨w.heap.size, 0, none⟩ a0).setCell ⟨w.heap.size, 1, none⟩ a1).setCell ⟨w.heap.size, 2, none⟩ a2).setCell ⟨w.heap.size, 3, none⟩ a3) (some r) :=
  gb_some4 (gb_some hg h8 rfl) (Nat.le_refl _)
theorem fill_rd {t : List UInt8} (h : Rd r t w3) (h8 : r ≠ b8) (h4 : r ≠ b4) : Rd r t (((((w3.setCell ⟨b8, i, none⟩ v).setCell ⟨b4, 0, none⟩ a0).setCell ⟨b4, 1, none⟩ a1).setCell ⟨b4, 2, none⟩ a2).setCell ⟨b4, 3, none⟩ a3) := by
  refine Rd.set4 ?_ h4
  obtain ⟨s, hs, hb⟩ := h
  exact ⟨s, hs, (heap_setCell_other _ _ _ _ h8).trans hb⟩
theorem fill_hl {B : Nat} {sl : Value} {l : List Wr} (h : HL w3 B sl l) (h8 : b8 < B) (h4 : b4 < B) : HL (((((w3.setCell ⟨b8, i, none⟩ v).setCell ⟨b4, 0, none⟩ a0).setCell ⟨b4, 1, none⟩ a1).setCell ⟨b4, 2, none⟩ a2).setCell ⟨b4, 3, none⟩ a3) B sl l := by
  refine h.keep (by simp [World.setCell]) (fun g hB _ => ?_)
  rw [heap_setCell_other _ _ _ _ (by simp only [ne_eq]; omega), heap_setCell_other _ _ _ _ (by simp only [ne_eq]; omega), heap_setCell_other _ _ _ _ (by simp only [ne_eq]; omega), heap_setCell_other _ _ _ _ (by simp only [ne_eq]; omega), heap_setCell_other _ _ _ _ (by simp only [ne_eq]; omega)]
end
set_option maxHeartbeats 4000000 in
set_option maxRecDepth 100000 in
theorem wire_num (ρ : Int) (r : Nat) (t : List UInt8) (w : World) (h : Rd r (1 :: t) w) (hl : t.length ≤ 1099511627776) (h8 : 8 ≤ t.length) :
    Calls Tryd.prog 46 #[.pointer (some ⟨r, 0, none⟩), .int .i64 ρ] w (WireGot r (.mk 1 (valI (t.take 8)) ⟨#[]⟩ []) (t.drop 8) w) := by
  have hrl := h.lt
  have Hn := Lib.hid (kind_taken r 1 t (w.alloc (.cells #[.int .i64 0, .int .i64 0, .string ⟨#[]⟩, .slice none 0 0] 24)) (h.alloc _) hl 1 (by decide))
  clear h
  obtain ⟨V, HV⟩ : ∃ V : Int, Hid (valI (t.take 8) = V) := ⟨_, rfl⟩
  rw [HV.out]
  go_enter Tryd.func46, Tryd.ntmps46
  go_wp2_with fail
  refine Hn.out.mono ?_
  rintro e w2 ⟨rfl, hr, hg⟩
  have Hrow := Lib.hid (box_read (heap_alloc_new w _) hg (by omega))
  have hb4 := (Array.getElem?_eq_some_iff.1 Hrow.out).1
  have Hg := Lib.hid (gb_step (gb_none' (r := some r) (gb_alloc (gb_refl w none) (.cells #[.int .i64 0, .int .i64 0, .string ⟨#[]⟩, .slice none 0 0] 24))) hg (fun i e => .inl e))
  have Hcall := Lib.hid (number_any r 8 t (w2.alloc (.cells #[.int .i64 1, .int .i64 0, .string ⟨#[]⟩, .slice none 0 0] 24)) (hr.alloc _) h8 (by omega) (by decide))
  clear hr hg
  go_wp2_with fail
  refine Hcall.out.mono ?_
  rintro e w3 ⟨rfl, hr3, hg3⟩
  have Hrow3 := Lib.hid (box_read ((Below.heap_alloc w2 _ w.heap.size hb4).trans Hrow.out) hg3 (by omega))
  obtain ⟨⟨b0, b1, b2, b3⟩, ⟨f0, f1, f2, f3⟩, hb⟩ := box4 Hrow3.out
  have Hrow8 := Lib.hid (box_read (heap_alloc_new w2 (.cells #[.int .i64 1, .int .i64 0, .string ⟨#[]⟩, .slice none 0 0] 24)) hg3 (by omega))
  obtain ⟨⟨c0, c1, c2, c3⟩, ⟨e0, e1, e2, e3⟩, hc⟩ := box4 Hrow8.out
  have Hg3 := Lib.hid (gb_step (gb_alloc Hg.out (.cells #[.int .i64 1, .int .i64 0, .string ⟨#[]⟩, .slice none 0 0] 24)) hg3 (fun i e => .inl e))
  have Hr3 := Lib.hid hr3
  rw [HV.out]
  clear hr3
  clear hg3
  go_wp2_with fail
  obtain ⟨⟨q0, q1, q2, q3⟩, _, _⟩ := box4 (fill_row Hrow3.out (b8 := w2.heap.size) (by omega) (.int .i64 V) (.int .i64 1) (.int .i64 V) (.string ⟨#[]⟩) (.slice none 0 0) 1)
  refine bodyPost_ret (v := .tuple #[.agg #[.int .i64 1, .int .i64 V, .string ⟨#[]⟩, .slice none 0 0], .nilIface]) (by simp [results, Tryd.results46, go_sem, q0, q1, q2, q3]) rfl ?_
  exact ⟨none, 0, rfl, .nil _ _, fill_rd Hr3.out (by omega) (by omega), fill_gb Hg3.out (by omega)⟩
set_option maxHeartbeats 4000000 in
set_option maxRecDepth 100000 in
theorem wire_text (ρ : Int) (r : Nat) (t : List UInt8) (w : World) (h : Rd r (2 :: t) w) (hl : t.length ≤ 1099511627776) (s : ByteArray) (t' : List UInt8) (hb : rdT t = some (.mk 2 0 s [], t')) :
    Calls Tryd.prog 46 #[.pointer (some ⟨r, 0, none⟩), .int .i64 ρ] w (WireGot r (.mk 2 0 s []) t' w) := by
  have hrl := h.lt
  have Hn := Lib.hid (kind_taken r 2 t (w.alloc (.cells #[.int .i64 0, .int .i64 0, .string ⟨#[]⟩, .slice none 0 0] 24)) (h.alloc _) hl 2 (by decide))
  clear h
  go_enter Tryd.func46, Tryd.ntmps46
  go_wp2_with fail
  refine Hn.out.mono ?_
  rintro e w2 ⟨rfl, hr, hg⟩
  have Hrow := Lib.hid (box_read (heap_alloc_new w _) hg (by omega))
  have hb4 := (Array.getElem?_eq_some_iff.1 Hrow.out).1
  have Hg := Lib.hid (gb_step (gb_none' (r := some r) (gb_alloc (gb_refl w none) (.cells #[.int .i64 0, .int .i64 0, .string ⟨#[]⟩, .slice none 0 0] 24))) hg (fun i e => .inl e))
  have Hcall := Lib.hid (text_good r t (w2.alloc (.cells #[.int .i64 2, .int .i64 0, .string ⟨#[]⟩, .slice none 0 0] 24)) (hr.alloc _) hl s t' hb)
  clear hr hg
  go_wp2_with fail
  refine Hcall.out.mono ?_
  rintro e w3 ⟨rfl, hr3, hg3⟩
  have Hrow3 := Lib.hid (box_read ((Below.heap_alloc w2 _ w.heap.size hb4).trans Hrow.out) hg3 (by omega))
  obtain ⟨⟨b0, b1, b2, b3⟩, ⟨f0, f1, f2, f3⟩, hb⟩ := box4 Hrow3.out
  have Hrow8 := Lib.hid (box_read (heap_alloc_new w2 (.cells #[.int .i64 2, .int .i64 0, .string ⟨#[]⟩, .slice none 0 0] 24)) hg3 (by omega))
  obtain ⟨⟨c0, c1, c2, c3⟩, ⟨e0, e1, e2, e3⟩, hc⟩ := box4 Hrow8.out
  have Hg3 := Lib.hid (gb_step (gb_alloc Hg.out (.cells #[.int .i64 2, .int .i64 0, .string ⟨#[]⟩, .slice none 0 0] 24)) hg3 (fun i e => .inl e))
  have Hr3 := Lib.hid hr3
  clear hr3
  clear hg3
  go_wp2_with fail
  obtain ⟨⟨q0, q1, q2, q3⟩, _, _⟩ := box4 (fill_row Hrow3.out (b8 := w2.heap.size) (by omega) (.string s) (.int .i64 2) (.int .i64 0) (.string s) (.slice none 0 0) 2)
  refine bodyPost_ret (v := .tuple #[.agg #[.int .i64 2, .int .i64 0, .string s, .slice none 0 0], .nilIface]) (by simp [results, Tryd.results46, go_sem, q0, q1, q2, q3]) rfl ?_
  exact ⟨none, 0, rfl, .nil _ _, fill_rd Hr3.out (by omega) (by omega), fill_gb Hg3.out (by omega)⟩
set_option maxHeartbeats 4000000 in
set_option maxRecDepth 100000 in
theorem wire_badtext (ρ : Int) (D r : Nat) (t : List UInt8) (w : World) (h : Rd r (2 :: t) w) (hl : t.length ≤ 1099511627776) (hb : rdT t = none) :
    Calls Tryd.prog 46 #[.pointer (some ⟨r, 0, none⟩), .int .i64 ρ] w (WireBad r D w) := by
  have hrl := h.lt
  have Hn := Lib.hid (kind_taken r 2 t (w.alloc (.cells #[.int .i64 0, .int .i64 0, .string ⟨#[]⟩, .slice none 0 0] 24)) (h.alloc _) hl 2 (by decide))
  clear h
  go_enter Tryd.func46, Tryd.ntmps46
  go_wp2_with fail
  refine Hn.out.mono ?_
  rintro e w2 ⟨rfl, hr, hg⟩
  have Hrow := Lib.hid (box_read (heap_alloc_new w _) hg (by omega))
  have hb4 := (Array.getElem?_eq_some_iff.1 Hrow.out).1
  have Hg := Lib.hid (gb_step (gb_none' (r := some r) (gb_alloc (gb_refl w none) (.cells #[.int .i64 0, .int .i64 0, .string ⟨#[]⟩, .slice none 0 0] 24))) hg (fun i e => .inl e))
  have Hcall := Lib.hid (text_bad r t (w2.alloc (.cells #[.int .i64 2, .int .i64 0, .string ⟨#[]⟩, .slice none 0 0] 24)) (hr.alloc _) hl hb)
  clear hr hg
  go_wp2_with fail
  refine Hcall.out.mono ?_
  rintro e w3 ⟨fk, rfl, hfk, hg3⟩
  have Hrow3 := Lib.hid (box_read ((Below.heap_alloc w2 _ w.heap.size hb4).trans Hrow.out) hg3 (by omega))
  obtain ⟨⟨b0, b1, b2, b3⟩, ⟨f0, f1, f2, f3⟩, hb⟩ := box4 Hrow3.out
  have Hrow8 := Lib.hid (box_read (heap_alloc_new w2 (.cells #[.int .i64 2, .int .i64 0, .string ⟨#[]⟩, .slice none 0 0] 24)) hg3 (by omega))
  obtain ⟨⟨c0, c1, c2, c3⟩, ⟨e0, e1, e2, e3⟩, hc⟩ := box4 Hrow8.out
  have Hg3 := Lib.hid (gb_step (gb_alloc Hg.out (.cells #[.int .i64 2, .int .i64 0, .string ⟨#[]⟩, .slice none 0 0] 24)) hg3 (fun i e => .inl e))
  clear hg3
  go_wp2_with fail
  obtain ⟨⟨q0, q1, q2, q3⟩, _, _⟩ := box4 (fill_row Hrow3.out (b8 := w2.heap.size) (by omega) (.string ⟨#[]⟩) (.int .i64 2) (.int .i64 0) (.string ⟨#[]⟩) (.slice none 0 0) 2)
  refine bodyPost_ret (v := .tuple #[.agg #[.int .i64 2, .int .i64 0, .string ⟨#[]⟩, .slice none 0 0], .iface 62 (.int .i64 fk)]) (by simp [results, Tryd.results46, go_sem, q0, q1, q2, q3]) rfl ?_
  exact ⟨2, 0, _, none, 0, 0, _, 0, fk, rfl, .flt fk, hfk, Nat.zero_le _, fill_gb Hg3.out (by omega)⟩
set_option maxHeartbeats 4000000 in
set_option maxRecDepth 100000 in
theorem wire_list (ρ : Int) (r : Nat) (t : List UInt8) (w : World) (h : Rd r (3 :: t) w) (hl : t.length ≤ 1099511627776) (l : List Wr) (t' : List UInt8) (hlist : ∀ (w : World), Rd r t w → Calls Tryd.prog 53 #[.pointer (some ⟨r, 0, none⟩), .int .i64 ρ] w (ListGot r l t' w)) :
    Calls Tryd.prog 46 #[.pointer (some ⟨r, 0, none⟩), .int .i64 ρ] w (WireGot r (.mk 3 0 ⟨#[]⟩ l) t' w) := by
  have hrl := h.lt
  have Hn := Lib.hid (kind_taken r 3 t (w.alloc (.cells #[.int .i64 0, .int .i64 0, .string ⟨#[]⟩, .slice none 0 0] 24)) (h.alloc _) hl 3 (by decide))
  clear h
  have Hlist := Lib.hid hlist
  clear hlist
  go_enter Tryd.func46, Tryd.ntmps46
  go_wp2_with fail
  refine Hn.out.mono ?_
  rintro e w2 ⟨rfl, hr, hg⟩
  have Hrow := Lib.hid (box_read (heap_alloc_new w _) hg (by omega))
  have hb4 := (Array.getElem?_eq_some_iff.1 Hrow.out).1
  have Hg := Lib.hid (gb_step (gb_none' (r := some r) (gb_alloc (gb_refl w none) (.cells #[.int .i64 0, .int .i64 0, .string ⟨#[]⟩, .slice none 0 0] 24))) hg (fun i e => .inl e))
  have Hcall := Lib.hid (Hlist.out (w2.alloc (.cells #[.int .i64 3, .int .i64 0, .string ⟨#[]⟩, .slice none 0 0] 24)) (hr.alloc _))
  clear hr hg
  go_wp2_with fail
  refine Hcall.out.mono ?_
  rintro e w3 ⟨LA, lc, rfl, hl3, hr3, hg3⟩
  have Hrow3 := Lib.hid (box_read ((Below.heap_alloc w2 _ w.heap.size hb4).trans Hrow.out) hg3 (by omega))
  obtain ⟨⟨b0, b1, b2, b3⟩, ⟨f0, f1, f2, f3⟩, hb⟩ := box4 Hrow3.out
  have Hrow8 := Lib.hid (box_read (heap_alloc_new w2 (.cells #[.int .i64 3, .int .i64 0, .string ⟨#[]⟩, .slice none 0 0] 24)) hg3 (by omega))
  obtain ⟨⟨c0, c1, c2, c3⟩, ⟨e0, e1, e2, e3⟩, hc⟩ := box4 Hrow8.out
  have Hg3 := Lib.hid (gb_step (gb_alloc Hg.out (.cells #[.int .i64 3, .int .i64 0, .string ⟨#[]⟩, .slice none 0 0] 24)) hg3 (fun i e => .inl e))
  have Hr3 := Lib.hid hr3
  have Hl3 := Lib.hid hl3
  clear hr3 hl3
  clear hg3
  go_wp2_with fail
  obtain ⟨⟨q0, q1, q2, q3⟩, _, _⟩ := box4 (fill_row Hrow3.out (b8 := w2.heap.size) (by omega) (.slice LA l.length lc) (.int .i64 3) (.int .i64 0) (.string ⟨#[]⟩) (.slice LA l.length lc) 3)
  refine bodyPost_ret (v := .tuple #[.agg #[.int .i64 3, .int .i64 0, .string ⟨#[]⟩, .slice LA l.length lc], .nilIface]) (by simp [results, Tryd.results46, go_sem, q0, q1, q2, q3]) rfl ?_
  exact ⟨LA, lc, rfl, (fill_hl Hl3.out (by simp) (by simp; omega)).low (by simp; omega), fill_rd Hr3.out (by omega) (by omega), fill_gb Hg3.out (by omega)⟩
set_option maxHeartbeats 4000000 in
set_option maxRecDepth 100000 in
theorem wire_badlist (ρ : Int) (D r : Nat) (t : List UInt8) (w : World) (h : Rd r (3 :: t) w) (hl : t.length ≤ 1099511627776) (hlist : ∀ (w : World), Rd r t w → Calls Tryd.prog 53 #[.pointer (some ⟨r, 0, none⟩), .int .i64 ρ] w (ListBad r D w)) :
    Calls Tryd.prog 46 #[.pointer (some ⟨r, 0, none⟩), .int .i64 ρ] w (WireBad r D w) := by
  have hrl := h.lt
  have Hn := Lib.hid (kind_taken r 3 t (w.alloc (.cells #[.int .i64 0, .int .i64 0, .string ⟨#[]⟩, .slice none 0 0] 24)) (h.alloc _) hl 3 (by decide))
  clear h
  have Hlist := Lib.hid hlist
  clear hlist
  go_enter Tryd.func46, Tryd.ntmps46
  go_wp2_with fail
  refine Hn.out.mono ?_
  rintro e w2 ⟨rfl, hr, hg⟩
  have Hrow := Lib.hid (box_read (heap_alloc_new w _) hg (by omega))
  have hb4 := (Array.getElem?_eq_some_iff.1 Hrow.out).1
  have Hg := Lib.hid (gb_step (gb_none' (r := some r) (gb_alloc (gb_refl w none) (.cells #[.int .i64 0, .int .i64 0, .string ⟨#[]⟩, .slice none 0 0] 24))) hg (fun i e => .inl e))
  have Hcall := Lib.hid (Hlist.out (w2.alloc (.cells #[.int .i64 3, .int .i64 0, .string ⟨#[]⟩, .slice none 0 0] 24)) (hr.alloc _))
  clear hr hg
  go_wp2_with fail
  refine Hcall.out.mono ?_
  rintro e w3 ⟨er, dd, fk, rfl, her, hfk, hdd, hg3⟩
  have Hrow3 := Lib.hid (box_read ((Below.heap_alloc w2 _ w.heap.size hb4).trans Hrow.out) hg3 (by omega))
  obtain ⟨⟨b0, b1, b2, b3⟩, ⟨f0, f1, f2, f3⟩, hb⟩ := box4 Hrow3.out
  have Hrow8 := Lib.hid (box_read (heap_alloc_new w2 (.cells #[.int .i64 3, .int .i64 0, .string ⟨#[]⟩, .slice none 0 0] 24)) hg3 (by omega))
  obtain ⟨⟨c0, c1, c2, c3⟩, ⟨e0, e1, e2, e3⟩, hc⟩ := box4 Hrow8.out
  have Hg3 := Lib.hid (gb_step (gb_alloc Hg.out (.cells #[.int .i64 3, .int .i64 0, .string ⟨#[]⟩, .slice none 0 0] 24)) hg3 (fun i e => .inl e))
  obtain ⟨te, pe, rfl⟩ := her.iface
  have Her := Lib.hid her
  clear her
  clear hg3
  go_wp2_with fail
  obtain ⟨⟨q0, q1, q2, q3⟩, _, _⟩ := box4 (fill_row Hrow3.out (b8 := w2.heap.size) (by omega) (.slice none 0 0) (.int .i64 3) (.int .i64 0) (.string ⟨#[]⟩) (.slice none 0 0) 3)
  refine bodyPost_ret (v := .tuple #[.agg #[.int .i64 3, .int .i64 0, .string ⟨#[]⟩, .slice none 0 0], .iface te pe]) (by simp [results, Tryd.results46, go_sem, q0, q1, q2, q3]) rfl ?_
  exact ⟨3, 0, _, none, 0, 0, _, dd, fk, rfl, Her.out, hfk, hdd, fill_gb Hg3.out (by omega)⟩
end Go.Proofs.YtbammjhafgbfkaaDoor
