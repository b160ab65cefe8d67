/- A wire that came in, opened. -/
import Derived.Test.YtbammjhafgbfkaaDoorVMany
import Derived.Lib.SmallJoins
import Derived.Deep.Slices
import Derived.ChangeArms
import Derived.ChangeSame
namespace Go.Proofs.YtbammjhafgbfkaaDoor
open Go.RowKit Wd Mm Vw

theorem wire_cells : Tryd.prog.cellsOf 24 = 4 ∧ Tryd.prog.cellsOf 3 = 1 ∧ Tryd.prog.cellsOf 9 = 1 ∧ Tryd.prog.cellsOf 22 = 1 := ⟨by kernel_rfl, by kernel_rfl, by kernel_rfl, by kernel_rfl⟩
theorem four_list {α : Type} {l : List α} (h : l.length = 4) : ∃ a b c d, l = [a, b, c, d] := by
  match l, h with
  | [a, b, c, d], _ => exact ⟨a, b, c, d, rfl⟩
section
variable {H : Type} {enc : TypeId × Value → H} {w : World} {spare : Nat → Bool} {held : Bool}
set_option maxRecDepth 100000 in
/-- Four cells that read as a wire. -/
theorem open_cells {fuel : Nat} {cs : List Value} {x : DataW H × List MemPlace} (h : DataW.trod enc Tryd.prog w 0 spare held fuel 24 cs = some x) :
    ∃ (k n : Int) (s : ByteArray) (u : Value) (m : Nat) (y : DataW H × List MemPlace), fuel = m + 1 ∧ cs = [.int .i64 k, .int .i64 n, .string s, u] ∧ DataW.trod enc Tryd.prog w 0 spare held m 22 [u] = some y := by
  obtain ⟨xs, m, rfl, _, hlen, hxl, hf⟩ := DataW.trod_struct Tryd.underlying24 h
  rw [wire_cells.1] at hlen
  obtain ⟨c0, c1, c2, c3, rfl⟩ := four_list hlen
  obtain ⟨y0, y1, y2, y3, rfl⟩ := four_list (show xs.length = 4 from hxl)
  have h0 : DataW.trod enc Tryd.prog w 0 spare held m 3 (List.take (Tryd.prog.cellsOf 3) (List.drop 0 [c0, c1, c2, c3])) = some y0 := hf 0 _ rfl
  have h1 : DataW.trod enc Tryd.prog w 0 spare held m 3 (List.take (Tryd.prog.cellsOf 3) (List.drop 1 [c0, c1, c2, c3])) = some y1 := hf 1 _ rfl
  have h2 : DataW.trod enc Tryd.prog w 0 spare held m 9 (List.take (Tryd.prog.cellsOf 9) (List.drop 2 [c0, c1, c2, c3])) = some y2 := hf 2 _ rfl
  have h3 : DataW.trod enc Tryd.prog w 0 spare held m 22 (List.take (Tryd.prog.cellsOf 22) (List.drop 3 [c0, c1, c2, c3])) = some y3 := hf 3 _ rfl
  rw [wire_cells.2.1] at h0 h1
  rw [wire_cells.2.2.1] at h2
  rw [wire_cells.2.2.2] at h3
  replace h0 : DataW.trod enc Tryd.prog w 0 spare held m 3 [c0] = some y0 := h0
  replace h1 : DataW.trod enc Tryd.prog w 0 spare held m 3 [c1] = some y1 := h1
  replace h2 : DataW.trod enc Tryd.prog w 0 spare held m 9 [c2] = some y2 := h2
  replace h3 : DataW.trod enc Tryd.prog w 0 spare held m 22 [c3] = some y3 := h3
  obtain ⟨k, hk, _, _⟩ := DataW.trod_int Tryd.underlying3 h0
  obtain ⟨n, hn, _, _⟩ := DataW.trod_int Tryd.underlying3 h1
  obtain ⟨s, hs, _, _⟩ := DataW.trod_string Tryd.underlying9 h2
  simp only [List.cons.injEq, and_true] at hk hn hs
  subst hk hn hs
  exact ⟨k, n, s, c3, m, y3, rfl, rfl, h3⟩
/-- A slice that reads as wires. -/
theorem open_list : ∀ (fuel : Nat) (u : Value) (x : DataW H × List MemPlace), DataW.trod enc Tryd.prog w 0 spare held fuel 22 [u] = some x → ∃ l, HX w u l := by
  intro fuel
  induction fuel using Nat.strongRecOn with
  | _ fuel ih =>
    intro u x h
    rcases DataW.trod_slice Tryd.underlying22 h with ⟨hu, _⟩ | ⟨a, len, cap, elems, rest, n, rfl, hu, _, _, hlc, _, hel, hi, _⟩
    · simp only [List.cons.injEq, and_true] at hu
      subst hu
      exact ⟨[], .nil _ _⟩
    · simp only [List.cons.injEq, and_true] at hu
      subst hu
      by_cases h0 : len = 0
      · subst h0; exact ⟨[], .nil _ _⟩
      have hel' : ∀ i, i < len → ∃ p : Wr × Value, w.cell? (a.add (i * 4)) = some (.int .i64 p.1.k) ∧ w.cell? (a.add (i * 4 + 1)) = some (.int .i64 p.1.n) ∧ w.cell? (a.add (i * 4 + 2)) = some (.string p.1.s) ∧ w.cell? (a.add (i * 4 + 3)) = some p.2 ∧ HX w p.2 p.1.l := by
        intro i hin
        have h1 := hi i hin
        rw [wire_cells.1, List.getElem?_eq_getElem (by omega)] at h1
        obtain ⟨cs, hc, ht⟩ := Option.bind_eq_some_iff.1 h1
        obtain ⟨k, m, s, v, q, y, hq, rfl, hv⟩ := open_cells ht
        obtain ⟨l, hl⟩ := ih q (by omega) v y hv
        obtain ⟨_, _, hat⟩ := World.cells?_some hc
        have a0 := hat 0 (by omega)
        have a1 := hat 1 (by omega)
        have a2 := hat 2 (by omega)
        have a3 := hat 3 (by omega)
        rw [Go.Deep.add_add] at a0 a1 a2 a3
        exact ⟨(.mk k m s l, v), a0, a1, a2, a3, hl⟩
      haveI : Inhabited (Wr × Value) := ⟨(.mk 0 0 ⟨#[]⟩ [], .nilIface)⟩
      obtain ⟨f, hf⟩ := Go.Deep.choose_lt hel'
      obtain ⟨b, o, sp⟩ := a
      have c0 := (hf 0 (by omega)).1
      cases sp with
      | some sp =>
        exfalso
        simp only [Addr.add, World.cell?] at c0
        split at c0 <;> simp at c0
      | none =>
        have hadd : ∀ i, (⟨b, o, none⟩ : Addr).add i = ⟨b, o + i, none⟩ := fun i => by unfold Addr.add; split <;> simp_all
        have hbl : b < w.heap.size := by have := block_lt_of_cell c0; simpa [Addr.add] using this
        refine ⟨(List.range len).map (fun i => (f i).1), ?_⟩
        have hget : ∀ i x, ((List.range len).map (fun i => (f i).1))[i]? = some x → i < len ∧ x = (f i).1 := by
          intro i x hx
          obtain ⟨hi, rfl⟩ := List.getElem?_eq_some_iff.1 hx
          simp at hi
          exact ⟨hi, by simp⟩
        have hrow : HX w (.slice (some ⟨b, o, none⟩) ((List.range len).map (fun i => (f i).1)).length cap) ((List.range len).map (fun i => (f i).1)) := by
          refine .row b o cap _ (fun i => (f i).2) (fun _ => hbl) ?_ ?_ ?_ ?_ ?_
          · intro i x hx; obtain ⟨hi, rfl⟩ := hget i x hx; have := (hf i hi).1; rw [hadd] at this; exact this
          · intro i x hx; obtain ⟨hi, rfl⟩ := hget i x hx; have := (hf i hi).2.1; rw [hadd, ← Nat.add_assoc] at this; exact this
          · intro i x hx; obtain ⟨hi, rfl⟩ := hget i x hx; have := (hf i hi).2.2.1; rw [hadd, ← Nat.add_assoc] at this; exact this
          · intro i x hx; obtain ⟨hi, rfl⟩ := hget i x hx; have := (hf i hi).2.2.2.1; rw [hadd, ← Nat.add_assoc] at this; exact this
          · intro i x hx; obtain ⟨hi, rfl⟩ := hget i x hx; exact (hf i hi).2.2.2.2
        rwa [show ((List.range len).map (fun i => (f i).1)).length = len by simp] at hrow
set_option maxRecDepth 100000 in
/-- An argument that is a wire. -/
theorem open_wire {r : Reach} {b0 : Nat} {v : Value} {d : DataW H} {p : List MemPlace} (hv : Value.okWide Tryd.prog w r b0 24 v) (h : DataW.Trod enc Tryd.prog w 0 spare held 24 v d p) :
    ∃ (x : Wr) (L : Value), v = .agg #[.int .i64 x.k, .int .i64 x.n, .string x.s, L] ∧ HX w L x.l := by
  obtain ⟨v0, v1, v2, v3, y0, y1, y2, y3, n, rfl, _, _, h0, h1, h2, h3⟩ := Go.Joins.open_agg4 Tryd.underlying24 (by kernel_rfl) wire_cells.1 hv h
  obtain ⟨k, hk, _, _⟩ := DataW.trod_int Tryd.underlying3 h0
  obtain ⟨m, hn, _, _⟩ := DataW.trod_int Tryd.underlying3 h1
  obtain ⟨s, hs, _, _⟩ := DataW.trod_string Tryd.underlying9 h2
  simp only [List.cons.injEq, and_true] at hk hn hs
  subst hk hn hs
  obtain ⟨l, hl⟩ := open_list n v3 y3 h3
  exact ⟨.mk k m s l, v3, rfl, hl⟩
end
end Go.Proofs.YtbammjhafgbfkaaDoor
