/- Arguments opened, whatever the type of a slice's elements: each element's cells read as something of one's own. Runs, dots that came in, opened. States, facts, texts that came in, opened. -/
import Derived.Test.YthijiefopcnclaaGreatDoorBase
import Derived.Lib.SmallJoins
import Derived.Deep.Slices
import Derived.Deep.Fields
import Derived.ChangeArms
import Derived.ChangeSame
import Derived.Test.YthijiefopcnclaaGreatDoorDtB
import Derived.Test.YthijiefopcnclaaGreatDoorFtA
import Derived.ChangeMaps5
namespace Go.Proofs.YthijiefopcnclaaGreatDoor.Op
open Go Go.RowKit Go.ChangeShapes Go.WideShapes

/-- The slice at A, of n elements of N cells each, reads as l: each element's cells are as R says. -/
def LR {α : Type} (w : World) (N : Nat) (R : α → List Value → Prop) (A : Option Addr) (n : Nat) (l : List α) : Prop :=
  l.length = n ∧ (0 < n → ∃ g o, A = some ⟨g, o, none⟩ ∧ g < w.heap.size ∧ ∀ i a, l[i]? = some a → ∃ cs : List Value, R a cs ∧ cs.length = N ∧ ∀ j, j < N → w.cell? ⟨g, o + i * N + j, none⟩ = cs[j]?)
section
variable {H : Type} {enc : TypeId × Value → H} {P : Program} {w : World} {spare : Nat → Bool} {held : Bool}
theorem lr_of {t e : TypeId} {N : Nat} {α : Type} [Inhabited α] (R : α → List Value → Prop) (ht : P.underlying t = some (.slice e)) (hN : P.cellsOf e = N) (hp : 0 < N)
    (hd : ∀ (fuel : Nat) (cs : List Value) (x : DataW H × List MemPlace), cs.length = N → DataW.trod enc P w 0 spare held fuel e cs = some x → ∃ a, R a cs)
    {fuel : Nat} {u : Value} {x : DataW H × List MemPlace} (h : DataW.trod enc P w 0 spare held fuel t [u] = some x) : ∃ A n c l, u = .slice A n c ∧ n ≤ c ∧ c ≤ maxLen ∧ (c = 0 ∨ A ≠ none) ∧ (A = none → c = 0) ∧ LR w N R A n l := by
  rcases Go.Deep.open_slice ht h with ⟨hu, _⟩ | ⟨a, len, cap, m, k, D, Pl, hu, _, hlc, hcm, hm, _, hi⟩
  · simp only [List.cons.injEq, and_true] at hu
    subst hu
    exact ⟨none, 0, 0, [], rfl, Nat.le_refl _, by decide, .inl rfl, fun _ => rfl, rfl, fun h => absurd h (by omega)⟩
  · simp only [List.cons.injEq, and_true] at hu
    subst hu
    have hel : ∀ i, i < len → ∃ p : α × List Value, R p.1 p.2 ∧ p.2.length = N ∧ ∀ j, j < N → w.cell? ((a.add (i * N)).add j) = p.2[j]? := fun i hil => by
      obtain ⟨cs', hc, ht'⟩ := hi i (by rw [hm]; split <;> omega)
      rw [hN] at hc
      obtain ⟨_, hlen, hat⟩ := World.cells?_some hc
      obtain ⟨b, hb⟩ := hd _ _ _ hlen ht'
      exact ⟨(b, cs'), hb, hlen, fun j hj => by rw [hat j hj]⟩
    haveI : Inhabited (α × List Value) := ⟨(default, [])⟩
    obtain ⟨f, hf⟩ := Go.Deep.choose_lt hel
    refine ⟨some a, len, cap, (List.range len).map fun i => (f i).1, rfl, hlc, hcm, .inr (by simp), (fun h => by simp at h), by simp, fun h0 => ?_⟩
    obtain ⟨b, o, sp⟩ := a
    obtain ⟨_, l0, c0⟩ := hf 0 h0
    have c00 := c0 0 hp
    rw [List.getElem?_eq_getElem (by omega)] at c00
    cases sp with
    | some sp =>
      exfalso
      simp only [Addr.add, World.cell?] at c00
      split at c00 <;> simp at c00
    | none =>
      have hadd : ∀ i, (⟨b, o, none⟩ : Addr).add i = ⟨b, o + i, none⟩ := fun i => by unfold Addr.add; split <;> simp_all
      have hadd2 : ∀ i j, ((⟨b, o, none⟩ : Addr).add i).add j = ⟨b, o + i + j, none⟩ := fun i j => by rw [hadd]; unfold Addr.add; split <;> simp_all
      have hbl : b < w.heap.size := by
        rw [hadd2] at c00
        have := block_lt_of_cell c00; simpa using this
      refine ⟨b, o, rfl, hbl, fun i y hy => ?_⟩
      obtain ⟨hil, rfl⟩ := List.getElem?_eq_some_iff.1 hy
      simp only [List.length_map, List.length_range] at hil
      obtain ⟨r1, r2, r3⟩ := hf i hil
      refine ⟨(f i).2, by simpa using r1, r2, fun j hj => ?_⟩
      have := r3 j hj
      rwa [hadd2] at this
theorem open_lr {r : Reach} {b0 : Nat} {t e : TypeId} {N : Nat} {α : Type} [Inhabited α] (R : α → List Value → Prop) (ht : P.underlying t = some (.slice e)) (hN : P.cellsOf e = N) (hp : 0 < N)
    (hd : ∀ (fuel : Nat) (cs : List Value) (x : DataW H × List MemPlace), cs.length = N → DataW.trod enc P w 0 spare held fuel e cs = some x → ∃ a, R a cs)
    {v : Value} {d : DataW H} {p : List MemPlace} (hv : Value.okWide P w r b0 t v) (h : DataW.Trod enc P w 0 spare held t v d p) : ∃ A n c l, v = .slice A n c ∧ n ≤ c ∧ c ≤ maxLen ∧ (c = 0 ∨ A ≠ none) ∧ (A = none → c = 0) ∧ LR w N R A n l := by
  obtain ⟨A, n, c, rfl⟩ := okWide_slice ht hv
  obtain ⟨fuel, hf⟩ := h
  obtain ⟨A', n', c', l, e1, h1⟩ := lr_of R ht hN hp hd (u := .slice A n c) (by simpa [Value.cells] using hf)
  cases e1
  exact ⟨A, n, c, l, rfl, h1⟩
end
end Go.Proofs.YthijiefopcnclaaGreatDoor.Op

section
set_option maxRecDepth 100000
namespace Go.Proofs.YthijiefopcnclaaGreatDoor.Dt
open Go Go.RowKit Go.ChangeShapes Go.WideShapes Go.Proofs.YthijiefopcnclaaGreatDoor.Mm Go.Proofs.YthijiefopcnclaaGreatDoor.Op

section
variable {H : Type} {enc : TypeId × Value → H} {w : World} {spare : Nat → Bool} {held : Bool}
theorem run_cells : Tryz.prog.cellsOf 50 = 3 ∧ Tryz.prog.cellsOf 44 = 2 ∧ Tryz.prog.cellsOf 3 = 1 := ⟨by kernel_rfl, by kernel_rfl, by kernel_rfl⟩
theorem cells_run {fuel : Nat} {cs : List Value} {x : DataW H × List MemPlace} (hl : cs.length = 3) (h : DataW.trod enc Tryz.prog w 0 spare held fuel 50 cs = some x) : ∃ r : Rn, cs = [.int .i64 r.d, .int .i64 r.f, .int .i64 r.t] := by
  obtain ⟨xs, m, rfl, _, hlen, hxl, hf⟩ := DataW.trod_struct Tryz.underlying50 h
  match cs, hl with
  | [c0, c1, c2], _ =>
    match xs, hxl with
    | [y0, y1, y2], _ =>
      have h0 : DataW.trod enc Tryz.prog w 0 spare held m 3 (List.take (Tryz.prog.cellsOf 3) (List.drop 0 [c0, c1, c2])) = some y0 := hf 0 _ rfl
      have h1 : DataW.trod enc Tryz.prog w 0 spare held m 3 (List.take (Tryz.prog.cellsOf 3) (List.drop 1 [c0, c1, c2])) = some y1 := hf 1 _ rfl
      have h2 : DataW.trod enc Tryz.prog w 0 spare held m 3 (List.take (Tryz.prog.cellsOf 3) (List.drop 2 [c0, c1, c2])) = some y2 := hf 2 _ rfl
      rw [run_cells.2.2] at h0 h1 h2
      obtain ⟨a, ha, _, _⟩ := DataW.trod_int Tryz.underlying3 (show DataW.trod enc Tryz.prog w 0 spare held m 3 [c0] = some y0 from h0)
      obtain ⟨b, hb, _, _⟩ := DataW.trod_int Tryz.underlying3 (show DataW.trod enc Tryz.prog w 0 spare held m 3 [c1] = some y1 from h1)
      obtain ⟨c, hc, _, _⟩ := DataW.trod_int Tryz.underlying3 (show DataW.trod enc Tryz.prog w 0 spare held m 3 [c2] = some y2 from h2)
      simp only [List.cons.injEq, and_true] at ha hb hc
      subst ha hb hc
      exact ⟨⟨a, b, c⟩, rfl⟩
theorem cells_dot {fuel : Nat} {cs : List Value} {x : DataW H × List MemPlace} (hl : cs.length = 2) (h : DataW.trod enc Tryz.prog w 0 spare held fuel 44 cs = some x) : ∃ r : Int × Int, cs = [.int .i64 r.1, .int .i64 r.2] := by
  obtain ⟨xs, m, rfl, _, hlen, hxl, hf⟩ := DataW.trod_struct Tryz.underlying44 h
  match cs, hl with
  | [c0, c1], _ =>
    match xs, hxl with
    | [y0, y1], _ =>
      have h0 : DataW.trod enc Tryz.prog w 0 spare held m 3 (List.take (Tryz.prog.cellsOf 3) (List.drop 0 [c0, c1])) = some y0 := hf 0 _ rfl
      have h1 : DataW.trod enc Tryz.prog w 0 spare held m 3 (List.take (Tryz.prog.cellsOf 3) (List.drop 1 [c0, c1])) = some y1 := hf 1 _ rfl
      rw [run_cells.2.2] at h0 h1
      obtain ⟨a, ha, _, _⟩ := DataW.trod_int Tryz.underlying3 (show DataW.trod enc Tryz.prog w 0 spare held m 3 [c0] = some y0 from h0)
      obtain ⟨b, hb, _, _⟩ := DataW.trod_int Tryz.underlying3 (show DataW.trod enc Tryz.prog w 0 spare held m 3 [c1] = some y1 from h1)
      simp only [List.cons.injEq, and_true] at ha hb
      subst ha hb
      exact ⟨(a, b), rfl⟩
theorem rl_rows {A : Option Addr} {n : Nat} {l : List Rn} (h : LR w 3 (fun (r : Rn) cs => cs = [.int .i64 r.d, .int .i64 r.f, .int .i64 r.t]) A n l) : RL w A n l :=
  ⟨h.1, fun h0 => by
    obtain ⟨g, o, e, hg, hc⟩ := h.2 h0
    refine ⟨g, o, e, hg, fun i x hx => ?_⟩
    obtain ⟨cs, rfl, _, hj⟩ := hc i x hx
    exact ⟨hj 0 (by decide), hj 1 (by decide), hj 2 (by decide)⟩⟩
theorem dl_rows {A : Option Addr} {n : Nat} {l : List (Int × Int)} (h : LR w 2 (fun (r : Int × Int) cs => cs = [.int .i64 r.1, .int .i64 r.2]) A n l) : DL w A n l :=
  ⟨h.1, fun h0 => by
    obtain ⟨g, o, e, hg, hc⟩ := h.2 h0
    refine ⟨g, o, e, hg, fun i x hx => ?_⟩
    obtain ⟨cs, rfl, _, hj⟩ := hc i x hx
    exact ⟨hj 0 (by decide), hj 1 (by decide)⟩⟩
theorem open_runs {r : Reach} {b0 : Nat} {v : Value} {d : DataW H} {p : List MemPlace} (hv : Value.okWide Tryz.prog w r b0 22 v) (h : DataW.Trod enc Tryz.prog w 0 spare held 22 v d p) : ∃ A n c l, v = .slice A n c ∧ RL w A n l ∧ n ≤ c := by
  haveI : Inhabited Rn := ⟨⟨0, 0, 0⟩⟩
  obtain ⟨A, n, c, l, rfl, hc, _, _, _, hr⟩ := open_lr (fun (r : Rn) cs => cs = [.int .i64 r.d, .int .i64 r.f, .int .i64 r.t]) Tryz.underlying22 run_cells.1 (by decide) (fun _ _ _ hl h => cells_run hl h) hv h
  exact ⟨A, n, c, l, rfl, rl_rows hr, hc⟩
theorem open_dots {r : Reach} {b0 : Nat} {v : Value} {d : DataW H} {p : List MemPlace} (hv : Value.okWide Tryz.prog w r b0 118 v) (h : DataW.Trod enc Tryz.prog w 0 spare held 118 v d p) : ∃ A n c l, v = .slice A n c ∧ DL w A n l ∧ n ≤ c := by
  obtain ⟨A, n, c, l, rfl, hc, _, _, _, hr⟩ := open_lr (fun (r : Int × Int) cs => cs = [.int .i64 r.1, .int .i64 r.2]) Tryz.underlying118 run_cells.2.1 (by decide) (fun _ _ _ hl h => cells_dot hl h) hv h
  exact ⟨A, n, c, l, rfl, dl_rows hr, hc⟩
theorem open_dot {r : Reach} {b0 : Nat} {v : Value} {d : DataW H} {p : List MemPlace} (hv : Value.okWide Tryz.prog w r b0 44 v) (h : DataW.Trod enc Tryz.prog w 0 spare held 44 v d p) : ∃ a b, v = .agg #[.int .i64 a, .int .i64 b] := by
  obtain ⟨v0, v1, y0, y1, n, rfl, _, _, h0, h1⟩ := Go.Joins.open_agg2 Tryz.underlying44 (by kernel_rfl) run_cells.2.1 hv h
  obtain ⟨k, hk, _, _⟩ := DataW.trod_int Tryz.underlying3 h0
  obtain ⟨m, hn, _, _⟩ := DataW.trod_int Tryz.underlying3 h1
  simp only [List.cons.injEq, and_true] at hk hn
  subst hk hn
  exact ⟨k, m, rfl⟩
end
end Go.Proofs.YthijiefopcnclaaGreatDoor.Dt
end

section
set_option maxRecDepth 100000
namespace Go.Proofs.YthijiefopcnclaaGreatDoor.Dt
open Go Go.RowKit Go.ChangeShapes Go.WideShapes Go.Proofs.YthijiefopcnclaaGreatDoor.Mm Go.Proofs.YthijiefopcnclaaGreatDoor.Op

section
variable {H : Type} {enc : TypeId × Value → H} {w : World} {spare : Nat → Bool} {held : Bool}
theorem fact_cells : Tryz.prog.cellsOf 46 = 6 ∧ Tryz.prog.cellsOf 9 = 1 ∧ Tryz.prog.cellsOf 25 = 2 := ⟨by kernel_rfl, by kernel_rfl, by kernel_rfl⟩
set_option maxRecDepth 100000 in
theorem cells_fact {fuel : Nat} {cs : List Value} {x : DataW H × List MemPlace} (hl : cs.length = 6) (h : DataW.trod enc Tryz.prog w 0 spare held fuel 46 cs = some x) : ∃ r : Fc, cs = fv1 r := by
  obtain ⟨xs, m, rfl, _, hlen, hxl, hf⟩ := DataW.trod_struct Tryz.underlying46 h
  match cs, hl with
  | [c0, c1, c2, c3, c4, c5], _ =>
    match xs, hxl with
    | [y0, y1, y2, y3, y4], _ =>
      have h0 : DataW.trod enc Tryz.prog w 0 spare held m 44 (List.take (Tryz.prog.cellsOf 44) (List.drop 0 [c0, c1, c2, c3, c4, c5])) = some y0 := hf 0 _ rfl
      have h1 : DataW.trod enc Tryz.prog w 0 spare held m 9 (List.take (Tryz.prog.cellsOf 9) (List.drop 2 [c0, c1, c2, c3, c4, c5])) = some y1 := hf 1 _ rfl
      have h2 : DataW.trod enc Tryz.prog w 0 spare held m 3 (List.take (Tryz.prog.cellsOf 3) (List.drop 3 [c0, c1, c2, c3, c4, c5])) = some y2 := hf 2 _ rfl
      have h3 : DataW.trod enc Tryz.prog w 0 spare held m 9 (List.take (Tryz.prog.cellsOf 9) (List.drop 4 [c0, c1, c2, c3, c4, c5])) = some y3 := hf 3 _ rfl
      have h4 : DataW.trod enc Tryz.prog w 0 spare held m 3 (List.take (Tryz.prog.cellsOf 3) (List.drop 5 [c0, c1, c2, c3, c4, c5])) = some y4 := hf 4 _ rfl
      rw [run_cells.2.1] at h0
      rw [run_cells.2.2] at h2 h4
      rw [fact_cells.2.1] at h1 h3
      obtain ⟨d, hd⟩ := cells_dot rfl (show DataW.trod enc Tryz.prog w 0 spare held m 44 [c0, c1] = some y0 from h0)
      obtain ⟨a, ha, _, _⟩ := DataW.trod_string Tryz.underlying9 (show DataW.trod enc Tryz.prog w 0 spare held m 9 [c2] = some y1 from h1)
      obtain ⟨b, hb, _, _⟩ := DataW.trod_int Tryz.underlying3 (show DataW.trod enc Tryz.prog w 0 spare held m 3 [c3] = some y2 from h2)
      obtain ⟨c, hc, _, _⟩ := DataW.trod_string Tryz.underlying9 (show DataW.trod enc Tryz.prog w 0 spare held m 9 [c4] = some y3 from h3)
      obtain ⟨e, he, _, _⟩ := DataW.trod_int Tryz.underlying3 (show DataW.trod enc Tryz.prog w 0 spare held m 3 [c5] = some y4 from h4)
      simp only [List.cons.injEq, and_true] at hd ha hb hc he
      obtain ⟨rfl, rfl⟩ := hd
      subst ha hb hc he
      exact ⟨⟨d.1, d.2, a, b, c, e⟩, rfl⟩
theorem fl_rows {A : Option Addr} {n : Nat} {l : List Fc} (h : LR w 6 (fun (r : Fc) cs => cs = fv1 r) A n l) : FL w A n l :=
  ⟨h.1, fun h0 => by
    obtain ⟨g, o, e, hg, hc⟩ := h.2 h0
    refine ⟨g, o, e, hg, fun i x hx => ?_⟩
    obtain ⟨cs, rfl, _, hj⟩ := hc i x hx
    exact ⟨hj 0 (by decide), hj 1 (by decide), hj 2 (by decide), hj 3 (by decide), hj 4 (by decide), hj 5 (by decide)⟩⟩
set_option maxRecDepth 100000 in
theorem open_state {r : Reach} {b0 : Nat} {v : Value} {d : DataW H} {p : List MemPlace} (hv : Value.okWide Tryz.prog w r b0 25 v) (h : DataW.Trod enc Tryz.prog w 0 spare held 25 v d p) : ∃ A n c B m e s, v = .agg #[.slice A n c, .slice B m e] ∧ SL w A n B m s ∧ n ≤ c ∧ m ≤ e := by
  obtain ⟨v0, v1, y0, y1, n, rfl, _, _, h0, h1⟩ := Go.Joins.open_agg2 Tryz.underlying25 (by kernel_rfl) fact_cells.2.2 hv h
  haveI : Inhabited Rn := ⟨⟨0, 0, 0⟩⟩
  haveI : Inhabited Fc := ⟨⟨0, 0, ⟨#[]⟩, 0, ⟨#[]⟩, 0⟩⟩
  obtain ⟨A, n1, c, l, rfl, hc, _, _, _, hr⟩ := lr_of (fun (r : Rn) cs => cs = [.int .i64 r.d, .int .i64 r.f, .int .i64 r.t]) Tryz.underlying22 run_cells.1 (by decide) (fun _ _ _ hl h => cells_run hl h) h0
  obtain ⟨B, m, e, k, rfl, he, _, _, _, hk⟩ := lr_of (fun (r : Fc) cs => cs = fv1 r) Tryz.underlying23 fact_cells.1 (by decide) (fun _ _ _ hl h => cells_fact hl h) h1
  exact ⟨A, n1, c, B, m, e, ⟨l, k⟩, rfl, ⟨rl_rows hr, fl_rows hk⟩, hc, he⟩
set_option maxRecDepth 100000 in
theorem open_fact {r : Reach} {b0 : Nat} {v : Value} {d : DataW H} {p : List MemPlace} (hv : Value.okWide Tryz.prog w r b0 46 v) (h : DataW.Trod enc Tryz.prog w 0 spare held 46 v d p) : ∃ x : Fc, v = .agg #[.int .i64 x.d, .int .i64 x.n, .string x.key, .int .i64 x.kind, .string x.item, .int .i64 x.v] := by
  obtain ⟨cs, rfl, hsz⟩ := okWide_struct Tryz.underlying46 hv
  obtain ⟨fuel, hf⟩ := h
  obtain ⟨x, hx⟩ := cells_fact (by rw [Array.length_toList, hsz]; exact fact_cells.1) (show DataW.trod enc Tryz.prog w 0 spare held fuel 46 cs.toList = some (d, p) from hf)
  refine ⟨x, ?_⟩
  obtain ⟨l⟩ := cs
  have hx : l = fv1 x := hx
  rw [hx]; rfl
theorem open_str {r : Reach} {b0 : Nat} {v : Value} {d : DataW H} {p : List MemPlace} (hv : Value.okWide Tryz.prog w r b0 9 v) (h : DataW.Trod enc Tryz.prog w 0 spare held 9 v d p) : ∃ s, v = .string s := by
  obtain ⟨s, rfl, _⟩ := Go.ChangeMaps.open_string Tryz.underlying9 hv h
  exact ⟨s, rfl⟩
end
end Go.Proofs.YthijiefopcnclaaGreatDoor.Dt
end
