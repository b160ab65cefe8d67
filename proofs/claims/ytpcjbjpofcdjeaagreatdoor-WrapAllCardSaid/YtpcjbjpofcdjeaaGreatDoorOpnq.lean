/- Arguments opened, whatever the type of a slice's elements: each element's cells read as something of one's own. Records, wraps, logs that came in, opened. -/
import Derived.Lib.SmallJoins
import Derived.Deep.Slices
import Derived.Deep.Fields
import Derived.ChangeArms
import Derived.ChangeSame
import Derived.Test.YtpcjbjpofcdjeaaGreatDoorMbAq
import Derived.ChangeMaps5
set_option maxRecDepth 100000
namespace Go.Proofs.YtpcjbjpofcdjeaaGreatDoor.Op
open Go Go.RowKit Go.ChangeShapes Go.WideShapes
def LR {α : Type} (w : World) (N : Nat) (R : α → List Value → Prop) (A : Option Addr) (n : Nat) (l : List α) : Prop :=
 l.length = n ∧ (0 < n → ∃ g o, A = some ⟨g, o, none⟩ ∧ g < w.heap.size ∧ ∀ i a, l[i]? = some a → ∃ cs : List Value, R a cs ∧ cs.length = N ∧ ∀ j, j < N → w.cell? ⟨g, o + i * N + j, none⟩ = cs[j]?)
section
variable {H : Type} {enc : TypeId × Value → H} {P : Program} {w : World} {spare : Nat → Bool} {held : Bool}
theorem lr_of {t e : TypeId} {N : Nat} {α : Type} [Inhabited α] (R : α → List Value → Prop) (ht : P.underlying t = some (.slice e)) (hN : P.cellsOf e = N) (hp : 0 < N)
  (hd : ∀ (fuel : Nat) (cs : List Value) (x : DataW H × List MemPlace), cs.length = N → DataW.trod enc P w 0 spare held fuel e cs = some x → ∃ a, R a cs)
  {fuel : Nat} {u : Value} {x : DataW H × List MemPlace} (h : DataW.trod enc P w 0 spare held fuel t [u] = some x) : ∃ A n c l, u = .slice A n c ∧ n ≤ c ∧ c ≤ maxLen ∧ (c = 0 ∨ A ≠ none) ∧ (A = none → c = 0) ∧ LR w N R A n l := by
 rcases Go.Deep.open_slice ht h with ⟨hu, _⟩ | ⟨a, len, cap, m, k, D, Pl, hu, _, hlc, hcm, hm, _, hi⟩
 ·simp only [List.cons.injEq, and_true] at hu
  subst hu
  exact ⟨none, 0, 0, [], rfl, Nat.le_refl _, by decide, .inl rfl, fun _ => rfl, rfl, fun h => absurd h (by omega)⟩
 ·simp only [List.cons.injEq, and_true] at hu
  subst hu
  have hel : ∀ i, i < len → ∃ p : α × List Value, R p.1 p.2 ∧ p.2.length = N ∧ ∀ j, j < N → w.cell? ((a.add (i * N)).add j) = p.2[j]? := fun i hil => by
   obtain ⟨cs', hc, ht'⟩ := hi i (by rw [hm]; split <;> omega)
   rw [hN] at hc
   obtain ⟨_, hlen, hat⟩ := World.cells?_some hc
   obtain ⟨b, hb⟩ := hd _ _ _ hlen ht'
   exact ⟨(b, cs'), hb, hlen, fun j hj => by rw [hat j hj]⟩
  haveI : Inhabited (α × List Value) := ⟨(default, [])⟩
  obtain ⟨f, hf⟩ := Go.Deep.choose_lt hel
  refine ⟨some a, len, cap, (List.range len).map fun i => (f i).1, rfl, hlc, hcm, .inr (by simp), (fun h => by simp at h), by simp, fun h0 => ?_⟩
  obtain ⟨b, o, sp⟩ := a
  obtain ⟨_, l0, c0⟩ := hf 0 h0
  have c00 := c0 0 hp
  rw [List.getElem?_eq_getElem (by omega)] at c00
  cases sp with
  | some sp =>
   exfalso
   simp only [Addr.add, World.cell?] at c00
   split at c00 <;> simp at c00
  | none =>
   have hadd : ∀ i, (⟨b, o, none⟩ : Addr).add i = ⟨b, o + i, none⟩ := fun i => by unfold Addr.add; split <;> simp_all
   have hadd2 : ∀ i j, ((⟨b, o, none⟩ : Addr).add i).add j = ⟨b, o + i + j, none⟩ := fun i j => by rw [hadd]; unfold Addr.add; split <;> simp_all
   have hbl : b < w.heap.size := by
    rw [hadd2] at c00
    have := block_lt_of_cell c00; simpa using this
   refine ⟨b, o, rfl, hbl, fun i y hy => ?_⟩
   obtain ⟨hil, rfl⟩ := List.getElem?_eq_some_iff.1 hy
   simp only [List.length_map, List.length_range] at hil
   obtain ⟨r1, r2, r3⟩ := hf i hil
   refine ⟨(f i).2, by simpa using r1, r2, fun j hj => ?_⟩
   have := r3 j hj
   rwa [hadd2] at this
theorem open_lr {r : Reach} {b0 : Nat} {t e : TypeId} {N : Nat} {α : Type} [Inhabited α] (R : α → List Value → Prop) (ht : P.underlying t = some (.slice e)) (hN : P.cellsOf e = N) (hp : 0 < N)
  (hd : ∀ (fuel : Nat) (cs : List Value) (x : DataW H × List MemPlace), cs.length = N → DataW.trod enc P w 0 spare held fuel e cs = some x → ∃ a, R a cs)
  {v : Value} {d : DataW H} {p : List MemPlace} (hv : Value.okWide P w r b0 t v) (h : DataW.Trod enc P w 0 spare held t v d p) : ∃ A n c l, v = .slice A n c ∧ n ≤ c ∧ c ≤ maxLen ∧ (c = 0 ∨ A ≠ none) ∧ (A = none → c = 0) ∧ LR w N R A n l := by
 obtain ⟨A, n, c, rfl⟩ := okWide_slice ht hv
 obtain ⟨fuel, hf⟩ := h
 obtain ⟨A', n', c', l, e1, h1⟩ := lr_of R ht hN hp hd (u := .slice A n c) (by simpa [Value.cells] using hf)
 cases e1
 exact ⟨A, n, c, l, rfl, h1⟩
end
end Go.Proofs.YtpcjbjpofcdjeaaGreatDoor.Op
section
namespace Go.Proofs.YtpcjbjpofcdjeaaGreatDoor.Mb
open Go Go.RowKit Go.ChangeShapes Go.WideShapes Mm Op
section
variable {H : Type} {enc : TypeId × Value → H} {w : World} {spare : Nat → Bool} {held : Bool}
theorem mb_cells : Tryz.prog.cellsOf 70 = 2 ∧ Tryz.prog.cellsOf 25 = 6 ∧ Tryz.prog.cellsOf 3 = 1 ∧ Tryz.prog.cellsOf 9 = 1 ∧ Tryz.prog.cellsOf 23 = 1 := ⟨by kernel_rfl, by kernel_rfl, by kernel_rfl, by kernel_rfl, by kernel_rfl⟩
theorem cells_wrap {fuel : Nat} {cs : List Value} {x : DataW H × List MemPlace} (hl : cs.length = 2) (h : DataW.trod enc Tryz.prog w 0 spare held fuel 70 cs = some x) : ∃ r : Wp, cs = wv1 r := by
 obtain ⟨xs, m, rfl, _, hlen, hxl, hf⟩ := DataW.trod_struct Tryz.underlying70 h
 match cs, hl with
 | [c0, c1], _ =>
  match xs, hxl with
  | [y0, y1], _ =>
   have h0 : DataW.trod enc Tryz.prog w 0 spare held m 3 (List.take (Tryz.prog.cellsOf 3) (List.drop 0 [c0, c1])) = some y0 := hf 0 _ rfl
   have h1 : DataW.trod enc Tryz.prog w 0 spare held m 9 (List.take (Tryz.prog.cellsOf 9) (List.drop 1 [c0, c1])) = some y1 := hf 1 _ rfl
   rw [mb_cells.2.2.1] at h0
   rw [mb_cells.2.2.2.1] at h1
   obtain ⟨a, ha, _, _⟩ := DataW.trod_int Tryz.underlying3 (show DataW.trod enc Tryz.prog w 0 spare held m 3 [c0] = some y0 from h0)
   obtain ⟨b, hb, _, _⟩ := DataW.trod_string Tryz.underlying9 (show DataW.trod enc Tryz.prog w 0 spare held m 9 [c1] = some y1 from h1)
   simp only [List.cons.injEq, and_true] at ha hb
   subst ha hb
   exact ⟨⟨a, b⟩, rfl⟩
theorem wl_rows {A : Option Addr} {n : Nat} {l : List Wp} (h : LR w 2 (fun (r : Wp) cs => cs = wv1 r) A n l) : WL w A n l :=
 ⟨h.1, fun h0 => by
  obtain ⟨g, o, e, hg, hc⟩ := h.2 h0
  refine ⟨g, o, e, hg, fun i x hx => ?_⟩
  obtain ⟨cs, rfl, _, hj⟩ := hc i x hx
  exact ⟨hj 0 (by decide), hj 1 (by decide)⟩⟩
def RecC (w : World) (r : Rc) (cs : List Value) : Prop := ∃ A c, cs = [.int .i64 r.seq, .string r.prev, .int .i64 r.kind, .int .i64 r.dev, .slice A r.wraps.length c, .string r.tag] ∧ WL w A r.wraps.length r.wraps ∧ r.wraps.length ≤ c
theorem cells_record {fuel : Nat} {cs : List Value} {x : DataW H × List MemPlace} (hl : cs.length = 6) (h : DataW.trod enc Tryz.prog w 0 spare held fuel 25 cs = some x) : ∃ r : Rc, RecC w r cs := by
 obtain ⟨xs, m, rfl, _, hlen, hxl, hf⟩ := DataW.trod_struct Tryz.underlying25 h
 match cs, hl with
 | [c0, c1, c2, c3, c4, c5], _ =>
  match xs, hxl with
  | [y0, y1, y2, y3, y4, y5], _ =>
   have h0 : DataW.trod enc Tryz.prog w 0 spare held m 3 (List.take (Tryz.prog.cellsOf 3) (List.drop 0 [c0, c1, c2, c3, c4, c5])) = some y0 := hf 0 _ rfl
   have h1 : DataW.trod enc Tryz.prog w 0 spare held m 9 (List.take (Tryz.prog.cellsOf 9) (List.drop 1 [c0, c1, c2, c3, c4, c5])) = some y1 := hf 1 _ rfl
   have h2 : DataW.trod enc Tryz.prog w 0 spare held m 3 (List.take (Tryz.prog.cellsOf 3) (List.drop 2 [c0, c1, c2, c3, c4, c5])) = some y2 := hf 2 _ rfl
   have h3 : DataW.trod enc Tryz.prog w 0 spare held m 3 (List.take (Tryz.prog.cellsOf 3) (List.drop 3 [c0, c1, c2, c3, c4, c5])) = some y3 := hf 3 _ rfl
   have h4 : DataW.trod enc Tryz.prog w 0 spare held m 23 (List.take (Tryz.prog.cellsOf 23) (List.drop 4 [c0, c1, c2, c3, c4, c5])) = some y4 := hf 4 _ rfl
   have h5 : DataW.trod enc Tryz.prog w 0 spare held m 9 (List.take (Tryz.prog.cellsOf 9) (List.drop 5 [c0, c1, c2, c3, c4, c5])) = some y5 := hf 5 _ rfl
   rw [mb_cells.2.2.1] at h0 h2 h3
   rw [mb_cells.2.2.2.1] at h1 h5
   rw [mb_cells.2.2.2.2] at h4
   obtain ⟨a, ha, _, _⟩ := DataW.trod_int Tryz.underlying3 (show DataW.trod enc Tryz.prog w 0 spare held m 3 [c0] = some y0 from h0)
   obtain ⟨b, hb, _, _⟩ := DataW.trod_string Tryz.underlying9 (show DataW.trod enc Tryz.prog w 0 spare held m 9 [c1] = some y1 from h1)
   obtain ⟨c, hc, _, _⟩ := DataW.trod_int Tryz.underlying3 (show DataW.trod enc Tryz.prog w 0 spare held m 3 [c2] = some y2 from h2)
   obtain ⟨d, hd, _, _⟩ := DataW.trod_int Tryz.underlying3 (show DataW.trod enc Tryz.prog w 0 spare held m 3 [c3] = some y3 from h3)
   obtain ⟨f, hf5, _, _⟩ := DataW.trod_string Tryz.underlying9 (show DataW.trod enc Tryz.prog w 0 spare held m 9 [c5] = some y5 from h5)
   haveI : Inhabited Wp := ⟨⟨0, ⟨#[]⟩⟩⟩
   obtain ⟨A, n, cp, l, e4, hcp, _, _, _, hr⟩ := lr_of (fun (r : Wp) cs => cs = wv1 r) Tryz.underlying23 mb_cells.1 (by decide) (fun _ _ _ hl h => cells_wrap hl h) (show DataW.trod enc Tryz.prog w 0 spare held m 23 [c4] = some y4 from h4)
   simp only [List.cons.injEq, and_true] at ha hb hc hd hf5
   subst ha hb hc hd hf5 e4
   have hw := wl_rows hr
   obtain rfl := hw.1
   exact ⟨⟨a, b, c, d, l, f⟩, A, cp, rfl, hw, hcp⟩
theorem log_rows {A : Option Addr} {n : Nat} {l : List Rc} (h : LR w 6 (RecC w) A n l) : LogL w A n l :=
 ⟨h.1, fun h0 => by
  obtain ⟨g, o, e, hg, hc⟩ := h.2 h0
  refine ⟨g, o, e, hg, fun i x hx => ?_⟩
  obtain ⟨cs, ⟨B, c, rfl, h1, h2⟩, _, hj⟩ := hc i x hx
  exact ⟨B, c, hj 0 (by decide), hj 1 (by decide), hj 2 (by decide), hj 3 (by decide), hj 4 (by decide), hj 5 (by decide), h1, h2⟩⟩
theorem open_log {r : Reach} {b0 : Nat} {v : Value} {d : DataW H} {p : List MemPlace} (hv : Value.okWide Tryz.prog w r b0 22 v) (h : DataW.Trod enc Tryz.prog w 0 spare held 22 v d p) : ∃ A n c l, v = .slice A n c ∧ LogL w A n l ∧ n ≤ c := by
 haveI : Inhabited Rc := ⟨⟨0, ⟨#[]⟩, 0, 0, [], ⟨#[]⟩⟩⟩
 obtain ⟨A, n, c, l, rfl, hc, _, _, _, hr⟩ := open_lr (RecC w) Tryz.underlying22 mb_cells.2.1 (by decide) (fun _ _ _ hl h => cells_record hl h) hv h
 exact ⟨A, n, c, l, rfl, log_rows hr, hc⟩
end
end Go.Proofs.YtpcjbjpofcdjeaaGreatDoor.Mb
end
