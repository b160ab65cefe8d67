/- Wires in memory for records; what is told as a Boolean; the document's Num, Text, List. -/
import Derived.Test.YtpcjbjpofcdjeaaGreatDoorMbAq
set_option linter.unusedVariables false
set_option maxHeartbeats 4000000
set_option maxRecDepth 100000
namespace Go.Proofs.YtpcjbjpofcdjeaaGreatDoor.Mb
open Go Go.RowKit Mm Td Vw Dt
theorem str_eq {a b : ByteArray} (h : a = b) : (a.toList == b.toList) = true := by rw [h]; exact beq_self_eq_true _
theorem str_ne {a b : ByteArray} (h : a ≠ b) : (a.toList == b.toList) = false := by
 rw [ByteArray.toList_eq, ByteArray.toList_eq, beq_eq_false_iff_ne]
 exact fun h2 => h (ByteArray.ext (Array.ext' h2))
theorem str_none {a : ByteArray} (h : a.size = 0) : (a.toList == []) = true := by
 rw [ByteArray.toList_eq, beq_iff_eq]
 apply List.eq_nil_of_length_eq_zero
 simpa using h
theorem str_some {a : ByteArray} (h : a.size ≠ 0) : (a.toList == []) = false := by
 rw [ByteArray.toList_eq, beq_eq_false_iff_ne]
 intro h2
 apply h
 have h3 : a.data.toList.length = 0 := by rw [h2]; rfl
 simpa using h3
def BoolIs (p : Prop) (w : World) (e : Ending) (w' : World) : Prop := (∃ q, e = .returned (.bool q) ∧ (q = true ↔ p)) ∧ Gn w w'
theorem BoolIs.yes {p : Prop} {w w' : World} {e : Ending} (h : BoolIs p w e w') (hp : p) : e = .returned (.bool true) ∧ Gn w w' := by
 obtain ⟨⟨q, rfl, hq⟩, hg⟩ := h
 rw [hq.2 hp]; exact ⟨rfl, hg⟩
theorem BoolIs.no {p : Prop} {w w' : World} {e : Ending} (h : BoolIs p w e w') (hp : ¬ p) : e = .returned (.bool false) ∧ Gn w w' := by
 obtain ⟨⟨q, rfl, hq⟩, hg⟩ := h
 have : q = false := by cases q with
  | false => rfl
  | true => exact absurd (hq.1 rfl) hp
 rw [this]; exact ⟨rfl, hg⟩
theorem BoolIs.of_yes {p : Prop} {w w' : World} (hp : p) (hg : Gn w w') : BoolIs p w (.returned (.bool true)) w' := ⟨⟨true, rfl, fun _ => hp, fun _ => rfl⟩, hg⟩
theorem BoolIs.of_no {p : Prop} {w w' : World} (hp : ¬ p) (hg : Gn w w') : BoolIs p w (.returned (.bool false)) w' := ⟨⟨false, rfl, fun h => (by cases h), fun h => absurd h hp⟩, hg⟩
theorem own_HL {B : Nat} {v : Value} {ps : List (Wr × Value)} {w : World} (h : Own B v ps w) (hn : ps.length ≤ 1099511627776) (hp : ∀ p ∈ ps, HL w B p.2 p.1.l) : HL w B v (ps.map Prod.fst) := by
 have hcells := fun (g : Nat) (hg : v.ownBlock = some g) => World.ownsRow.cells h hg
 rcases h.2 with ⟨rfl, h0⟩ | ⟨g, cap, cur, rfl, hB, hg, _⟩
 ·rw [List.length_eq_zero_iff.1 h0]; exact .nil _ _
 ·have hc : ∀ j u, (flat ps)[j]? = some u → w.cell? ⟨g, 0 + j, none⟩ = some u := fun j u hu => by
   have := hcells g rfl j u hu
   have hadd : (⟨g, 0, none⟩ : Addr).add j = ⟨g, 0 + j, none⟩ := by unfold Addr.add; split <;> simp_all
   rwa [hadd] at this
  have hl : (ps.map Prod.fst).length = ps.length := List.length_map _
  have key : ∀ (i : Nat) (x : Wr), (ps.map Prod.fst)[i]? = some x → ∃ p : Wr × Value, ps[i]? = some p ∧ p.1 = x := fun i x hx => by
   rw [List.getElem?_map] at hx
   obtain ⟨p, h1, h2⟩ := Option.map_eq_some_iff.1 hx
   exact ⟨p, h1, h2⟩
  rw [← hl]
  refine .row g 0 cap _ (fun i => match ps[i]? with | some p => p.2 | none => .nilIface) hB (Array.getElem?_eq_some_iff.1 hg).1 (by rw [hl]; exact hn) ?_ ?_ ?_ ?_ ?_
  ·intro i x hx; obtain ⟨p, h1, rfl⟩ := key i x hx; exact hc _ _ (flat_get ps i p h1).1
  ·intro i x hx; obtain ⟨p, h1, rfl⟩ := key i x hx; exact hc _ _ (flat_get ps i p h1).2.1
  ·intro i x hx; obtain ⟨p, h1, rfl⟩ := key i x hx; exact hc _ _ (flat_get ps i p h1).2.2.1
  ·intro i x hx; obtain ⟨p, h1, rfl⟩ := key i x hx; simp only [h1]; exact hc _ _ (flat_get ps i p h1).2.2.2
  ·intro i x hx; obtain ⟨p, h1, rfl⟩ := key i x hx; simp only [h1]; exact hp p (List.mem_of_getElem? h1)
def wireV (N : Nat) (l : List Wr) : Td.Spec := fun W v => ∃ A n c, v = .agg #[.int .i64 3, .int .i64 0, .string ⟨#[]⟩, .slice A n c] ∧ HL W N (.slice A n c) l
theorem wireV_stays {N : Nat} {l : List Wr} : Stays (fun a b => Gn a b) (wireV N l) := fun _ _ _ h ⟨A, n, c, e, hr⟩ => ⟨A, n, c, e, hr.kept h⟩
def rowV (N : Nat) (l : List Wr) : Td.Spec := fun W v => ∃ g A n c, v = .slice (some ⟨g, 0, none⟩) 1 1 ∧ Row W g 107 #[.int .i64 3, .int .i64 0, .string ⟨#[]⟩, .slice A n c] ∧ HL W N (.slice A n c) l
theorem rowV_stays {N : Nat} {l : List Wr} : Stays (fun a b => Gn a b) (rowV N l) := fun _ _ _ h ⟨g, A, n, c, e, hr, hl⟩ => ⟨g, A, n, c, e, hr.kept h (by simp), hl.kept h⟩
def nV (n N : Nat) (l : List Wr) : Td.Spec := fun W v => ∃ g, v = .slice (some ⟨g, 0, none⟩) n n ∧ HL W N (.slice (some ⟨g, 0, none⟩) n n) l
theorem nV_stays {n N : Nat} {l : List Wr} : Stays (fun a b => Gn a b) (nV n N l) := fun _ _ _ h ⟨g, e, hl⟩ => ⟨g, e, hl.kept h⟩
def ListV (l : List Wr) (w : World) (e : Ending) (w' : World) : Prop := ∃ A c, e = .returned (.agg #[.int .i64 3, .int .i64 0, .string ⟨#[]⟩, .slice A l.length c]) ∧ HL w' w.heap.size (.slice A l.length c) l ∧ Gn w w'
theorem hl_row (w : World) (B : Nat) (ps : List (Wr × Value)) (n : Nat) (cs : Array Value) (hn : ps.length = n) (hc : cs.toList = flat ps) (h0 : n ≤ 1000) (hB : B ≤ w.heap.size) (hp : ∀ q ∈ ps, HL w B q.2 q.1.l) : HL (w.alloc (.cells cs 107)) B (.slice (some ⟨w.heap.size, 0, none⟩) n n) (ps.map Prod.fst) := by
 have hl : cs.size = n * 4 := by rw [← Array.length_toList, hc, flat_len, hn]
 refine own_HL (B := B) ⟨by rw [flat_len], .inr ⟨w.heap.size, n, cs, by rw [hn], hB, heap_alloc_new w _, by omega, by simp only [maxLen]; omega, hl, ?_⟩⟩ (by omega) (fun q hq => (hp q hq).kept (gb_alloc (gb_refl _ _) _))
 rw [hc, List.take_of_length_le (by rw [flat_len]; exact Nat.le_refl _)]
theorem hl_pair (w : World) (d : Int) (s : ByteArray) : HL (w.alloc (.cells #[.int .i64 1, .int .i64 d, .string ⟨#[]⟩, .slice none 0 0, .int .i64 2, .int .i64 0, .string s, .slice none 0 0] 107)) w.heap.size (.slice (some ⟨w.heap.size, 0, none⟩) 2 2) [nW d, tW s] :=
 hl_row w w.heap.size [(nW d, .slice none 0 0), (tW s, .slice none 0 0)] 2 _ rfl rfl (by decide) (Nat.le_refl _) (fun q hq => by
  simp only [List.mem_cons, List.not_mem_nil, or_false] at hq
  rcases hq with rfl | rfl <;> exact .nil _ _)
theorem hl_head (w : World) (a b c : Int) (s : ByteArray) : HL (w.alloc (.cells #[.int .i64 1, .int .i64 a, .string ⟨#[]⟩, .slice none 0 0, .int .i64 1, .int .i64 b, .string ⟨#[]⟩, .slice none 0 0, .int .i64 1, .int .i64 c, .string ⟨#[]⟩, .slice none 0 0, .int .i64 2, .int .i64 0, .string s, .slice none 0 0] 107)) w.heap.size (.slice (some ⟨w.heap.size, 0, none⟩) 4 4) [nW a, nW b, nW c, tW s] :=
 hl_row w w.heap.size [(nW a, .slice none 0 0), (nW b, .slice none 0 0), (nW c, .slice none 0 0), (tW s, .slice none 0 0)] 4 _ rfl rfl (by decide) (Nat.le_refl _) (fun q hq => by
  simp only [List.mem_cons, List.not_mem_nil, or_false] at hq
  rcases hq with rfl | rfl | rfl | rfl <;> exact .nil _ _)
theorem hl_rec (w : World) (B : Nat) (r : Rc) (l : List Wr) (A : Option Addr) (n c : Nat) (hB : B ≤ w.heap.size) (h : HL w B (.slice A n c) l) : HL (w.alloc (.cells #[.int .i64 1, .int .i64 r.seq, .string ⟨#[]⟩, .slice none 0 0, .int .i64 2, .int .i64 0, .string r.prev, .slice none 0 0, .int .i64 1, .int .i64 r.kind, .string ⟨#[]⟩, .slice none 0 0, .int .i64 1, .int .i64 r.dev, .string ⟨#[]⟩, .slice none 0 0, .int .i64 3, .int .i64 0, .string ⟨#[]⟩, .slice A n c, .int .i64 2, .int .i64 0, .string r.tag, .slice none 0 0] 107)) B (.slice (some ⟨w.heap.size, 0, none⟩) 6 6) [nW r.seq, tW r.prev, nW r.kind, nW r.dev, lW l, tW r.tag] :=
 hl_row w B [(nW r.seq, .slice none 0 0), (tW r.prev, .slice none 0 0), (nW r.kind, .slice none 0 0), (nW r.dev, .slice none 0 0), (lW l, .slice A n c), (tW r.tag, .slice none 0 0)] 6 _ rfl rfl (by decide) hB (fun q hq => by
  simp only [List.mem_cons, List.not_mem_nil, or_false] at hq
  rcases hq with rfl | rfl | rfl | rfl | rfl | rfl
  ·exact .nil _ _
  ·exact .nil _ _
  ·exact .nil _ _
  ·exact .nil _ _
  ·exact h
  ·exact .nil _ _)
def RecC0 (w : World) (b : Nat) (r : Rc) (A : Option Addr) (c : Nat) : Prop := w.cell? ⟨b, 0, none⟩ = some (.int .i64 r.seq) ∧ w.cell? ⟨b, 1, none⟩ = some (.string r.prev) ∧ w.cell? ⟨b, 2, none⟩ = some (.int .i64 r.kind) ∧ w.cell? ⟨b, 3, none⟩ = some (.int .i64 r.dev) ∧ w.cell? ⟨b, 4, none⟩ = some (.slice A r.wraps.length c) ∧ w.cell? ⟨b, 5, none⟩ = some (.string r.tag)
abbrev recCs (r : Rc) (A : Option Addr) (c : Nat) : Array Value := #[.int .i64 r.seq, .string r.prev, .int .i64 r.kind, .int .i64 r.dev, .slice A r.wraps.length c, .string r.tag]
theorem rec_row {w : World} {b : Nat} {T : TypeId} {r : Rc} {A : Option Addr} {c : Nat} (h : Row w b T (recCs r A c)) : RecC0 w b r A c := ⟨h.at_ (i := 0) rfl, h.at_ (i := 1) rfl, h.at_ (i := 2) rfl, h.at_ (i := 3) rfl, h.at_ (i := 4) rfl, h.at_ (i := 5) rfl⟩
theorem rec_box {w W0 : World} {r : Rc} {A : Option Addr} {c : Nat} {T : TypeId} {b : Nat} (hb : w.heap.size = b) (h0 : w.alloc (.cells (recCs r A c) T) = W0) (hw : WL w A r.wraps.length r.wraps) : Gn w W0 ∧ Hid (∀ W, Gn W0 W → RecC0 W b r A c ∧ WL W A r.wraps.length r.wraps) := by
 subst h0 hb
 exact ⟨gb_alloc (gb_refl _ _) _, fun W hW => ⟨rec_row ((Row.new w T _).kept hW (by simp)), hw.keep (gb_none (gb_alloc (gb_refl _ _) _) hW)⟩⟩
theorem num1_any (n : Int) (w : World) : Calls Tryz.prog 79 #[.int .i64 n] w fun e w' => e = .returned (.agg #[.int .i64 1, .int .i64 n, .string ⟨#[]⟩, .slice none 0 0]) ∧ Gn w w' := by
 go_enter Tryz.func79, Tryz.ntmps79
 go_wp2_with fail
 exact bodyPost_ret (results_cell_row rfl _ _ w.heap.size 107 _ (0, 0) _ rfl (Row.new w 107 #[.int .i64 1, .int .i64 n, .string ⟨#[]⟩, .slice none 0 0]) Tryz.underlying107 rfl (by kernel_rfl)) rfl ⟨rfl, gb_alloc (gb_refl _ _) _⟩
theorem text1_any (s : ByteArray) (w : World) : Calls Tryz.prog 80 #[.string s] w fun e w' => e = .returned (.agg #[.int .i64 2, .int .i64 0, .string s, .slice none 0 0]) ∧ Gn w w' := by
 go_enter Tryz.func80, Tryz.ntmps80
 go_wp2_with fail
 exact bodyPost_ret (results_cell_row rfl _ _ w.heap.size 107 _ (0, 0) _ rfl (Row.new w 107 #[.int .i64 2, .int .i64 0, .string s, .slice none 0 0]) Tryz.underlying107 rfl (by kernel_rfl)) rfl ⟨rfl, gb_alloc (gb_refl _ _) _⟩
theorem list1_any (A : Option Addr) (n c : Nat) (w : World) : Calls Tryz.prog 78 #[.slice A n c] w fun e w' => e = .returned (.agg #[.int .i64 3, .int .i64 0, .string ⟨#[]⟩, .slice A n c]) ∧ Gn w w' := by
 go_enter Tryz.func78, Tryz.ntmps78
 go_wp2_with fail
 exact bodyPost_ret (results_cell_row rfl _ _ w.heap.size 107 _ (0, 0) _ rfl (Row.new w 107 #[.int .i64 3, .int .i64 0, .string ⟨#[]⟩, .slice A n c]) Tryz.underlying107 rfl (by kernel_rfl)) rfl ⟨rfl, gb_alloc (gb_refl _ _) _⟩
end Go.Proofs.YtpcjbjpofcdjeaaGreatDoor.Mb
