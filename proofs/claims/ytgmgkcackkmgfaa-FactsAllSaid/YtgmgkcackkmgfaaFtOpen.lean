/- States, facts, texts that came in, opened. -/
import Derived.Test.YtgmgkcackkmgfaaDtOpen
import Derived.Test.YtgmgkcackkmgfaaFtMem
import Derived.ChangeMaps5
namespace Go.Proofs.Ytgmgkcackkmgfaa.Dt
open Go Go.RowKit Go.ChangeShapes Go.WideShapes Go.Proofs.Ytgmgkcackkmgfaa.Mm Go.Proofs.Ytgmgkcackkmgfaa.Op

section
variable {H : Type} {enc : TypeId × Value → H} {w : World} {spare : Nat → Bool} {held : Bool}
theorem fact_cells : Try.prog.cellsOf 29 = 6 ∧ Try.prog.cellsOf 9 = 1 ∧ Try.prog.cellsOf 25 = 2 := ⟨by kernel_rfl, by kernel_rfl, by kernel_rfl⟩
set_option maxRecDepth 100000 in
theorem cells_fact {fuel : Nat} {cs : List Value} {x : DataW H × List MemPlace} (hl : cs.length = 6) (h : DataW.trod enc Try.prog w 0 spare held fuel 29 cs = some x) : ∃ r : Fc, cs = fv1 r := by
  obtain ⟨xs, m, rfl, _, hlen, hxl, hf⟩ := DataW.trod_struct Try.underlying29 h
  match cs, hl with
  | [c0, c1, c2, c3, c4, c5], _ =>
    match xs, hxl with
    | [y0, y1, y2, y3, y4], _ =>
      have h0 : DataW.trod enc Try.prog w 0 spare held m 27 (List.take (Try.prog.cellsOf 27) (List.drop 0 [c0, c1, c2, c3, c4, c5])) = some y0 := hf 0 _ rfl
      have h1 : DataW.trod enc Try.prog w 0 spare held m 9 (List.take (Try.prog.cellsOf 9) (List.drop 2 [c0, c1, c2, c3, c4, c5])) = some y1 := hf 1 _ rfl
      have h2 : DataW.trod enc Try.prog w 0 spare held m 3 (List.take (Try.prog.cellsOf 3) (List.drop 3 [c0, c1, c2, c3, c4, c5])) = some y2 := hf 2 _ rfl
      have h3 : DataW.trod enc Try.prog w 0 spare held m 9 (List.take (Try.prog.cellsOf 9) (List.drop 4 [c0, c1, c2, c3, c4, c5])) = some y3 := hf 3 _ rfl
      have h4 : DataW.trod enc Try.prog w 0 spare held m 3 (List.take (Try.prog.cellsOf 3) (List.drop 5 [c0, c1, c2, c3, c4, c5])) = some y4 := hf 4 _ rfl
      rw [run_cells.2.1] at h0
      rw [run_cells.2.2] at h2 h4
      rw [fact_cells.2.1] at h1 h3
      obtain ⟨d, hd⟩ := cells_dot rfl (show DataW.trod enc Try.prog w 0 spare held m 27 [c0, c1] = some y0 from h0)
      obtain ⟨a, ha, _, _⟩ := DataW.trod_string Try.underlying9 (show DataW.trod enc Try.prog w 0 spare held m 9 [c2] = some y1 from h1)
      obtain ⟨b, hb, _, _⟩ := DataW.trod_int Try.underlying3 (show DataW.trod enc Try.prog w 0 spare held m 3 [c3] = some y2 from h2)
      obtain ⟨c, hc, _, _⟩ := DataW.trod_string Try.underlying9 (show DataW.trod enc Try.prog w 0 spare held m 9 [c4] = some y3 from h3)
      obtain ⟨e, he, _, _⟩ := DataW.trod_int Try.underlying3 (show DataW.trod enc Try.prog w 0 spare held m 3 [c5] = some y4 from h4)
      simp only [List.cons.injEq, and_true] at hd ha hb hc he
      obtain ⟨rfl, rfl⟩ := hd
      subst ha hb hc he
      exact ⟨⟨d.1, d.2, a, b, c, e⟩, rfl⟩
theorem fl_rows {A : Option Addr} {n : Nat} {l : List Fc} (h : LR w 6 (fun (r : Fc) cs => cs = fv1 r) A n l) : FL w A n l :=
  ⟨h.1, fun h0 => by
    obtain ⟨g, o, e, hg, hc⟩ := h.2 h0
    refine ⟨g, o, e, hg, fun i x hx => ?_⟩
    obtain ⟨cs, rfl, _, hj⟩ := hc i x hx
    exact ⟨hj 0 (by decide), hj 1 (by decide), hj 2 (by decide), hj 3 (by decide), hj 4 (by decide), hj 5 (by decide)⟩⟩
set_option maxRecDepth 100000 in
theorem open_state {r : Reach} {b0 : Nat} {v : Value} {d : DataW H} {p : List MemPlace} (hv : Value.okWide Try.prog w r b0 25 v) (h : DataW.Trod enc Try.prog w 0 spare held 25 v d p) : ∃ A n c B m e s, v = .agg #[.slice A n c, .slice B m e] ∧ SL w A n B m s ∧ n ≤ c ∧ m ≤ e := by
  obtain ⟨v0, v1, y0, y1, n, rfl, _, _, h0, h1⟩ := Go.Joins.open_agg2 Try.underlying25 (by kernel_rfl) fact_cells.2.2 hv h
  haveI : Inhabited Rn := ⟨⟨0, 0, 0⟩⟩
  haveI : Inhabited Fc := ⟨⟨0, 0, ⟨#[]⟩, 0, ⟨#[]⟩, 0⟩⟩
  obtain ⟨A, n1, c, l, rfl, hc, _, _, _, hr⟩ := lr_of (fun (r : Rn) cs => cs = [.int .i64 r.d, .int .i64 r.f, .int .i64 r.t]) Try.underlying22 run_cells.1 (by decide) (fun _ _ _ hl h => cells_run hl h) h0
  obtain ⟨B, m, e, k, rfl, he, _, _, _, hk⟩ := lr_of (fun (r : Fc) cs => cs = fv1 r) Try.underlying23 fact_cells.1 (by decide) (fun _ _ _ hl h => cells_fact hl h) h1
  exact ⟨A, n1, c, B, m, e, ⟨l, k⟩, rfl, ⟨rl_rows hr, fl_rows hk⟩, hc, he⟩
set_option maxRecDepth 100000 in
theorem open_fact {r : Reach} {b0 : Nat} {v : Value} {d : DataW H} {p : List MemPlace} (hv : Value.okWide Try.prog w r b0 29 v) (h : DataW.Trod enc Try.prog w 0 spare held 29 v d p) : ∃ x : Fc, v = .agg #[.int .i64 x.d, .int .i64 x.n, .string x.key, .int .i64 x.kind, .string x.item, .int .i64 x.v] := by
  obtain ⟨cs, rfl, hsz⟩ := okWide_struct Try.underlying29 hv
  obtain ⟨fuel, hf⟩ := h
  obtain ⟨x, hx⟩ := cells_fact (by rw [Array.length_toList, hsz]; exact fact_cells.1) (show DataW.trod enc Try.prog w 0 spare held fuel 29 cs.toList = some (d, p) from hf)
  refine ⟨x, ?_⟩
  obtain ⟨l⟩ := cs
  have hx : l = fv1 x := hx
  rw [hx]; rfl
theorem open_str {r : Reach} {b0 : Nat} {v : Value} {d : DataW H} {p : List MemPlace} (hv : Value.okWide Try.prog w r b0 9 v) (h : DataW.Trod enc Try.prog w 0 spare held 9 v d p) : ∃ s, v = .string s := by
  obtain ⟨s, rfl, _⟩ := Go.ChangeMaps.open_string Try.underlying9 hv h
  exact ⟨s, rfl⟩
end
end Go.Proofs.Ytgmgkcackkmgfaa.Dt
