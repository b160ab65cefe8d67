/- Runs, dots that came in, opened. -/
import Derived.Test.YtgmgkcackkmgfaaOpen
import Derived.Test.YtgmgkcackkmgfaaDtOf
namespace Go.Proofs.Ytgmgkcackkmgfaa.Dt
open Go Go.RowKit Go.ChangeShapes Go.WideShapes Go.Proofs.Ytgmgkcackkmgfaa.Mm Go.Proofs.Ytgmgkcackkmgfaa.Op

section
variable {H : Type} {enc : TypeId × Value → H} {w : World} {spare : Nat → Bool} {held : Bool}
theorem run_cells : Try.prog.cellsOf 51 = 3 ∧ Try.prog.cellsOf 27 = 2 ∧ Try.prog.cellsOf 3 = 1 := ⟨by kernel_rfl, by kernel_rfl, by kernel_rfl⟩
set_option maxRecDepth 100000 in
theorem cells_run {fuel : Nat} {cs : List Value} {x : DataW H × List MemPlace} (hl : cs.length = 3) (h : DataW.trod enc Try.prog w 0 spare held fuel 51 cs = some x) : ∃ r : Rn, cs = [.int .i64 r.d, .int .i64 r.f, .int .i64 r.t] := by
  obtain ⟨xs, m, rfl, _, hlen, hxl, hf⟩ := DataW.trod_struct Try.underlying51 h
  match cs, hl with
  | [c0, c1, c2], _ =>
    match xs, hxl with
    | [y0, y1, y2], _ =>
      have h0 : DataW.trod enc Try.prog w 0 spare held m 3 (List.take (Try.prog.cellsOf 3) (List.drop 0 [c0, c1, c2])) = some y0 := hf 0 _ rfl
      have h1 : DataW.trod enc Try.prog w 0 spare held m 3 (List.take (Try.prog.cellsOf 3) (List.drop 1 [c0, c1, c2])) = some y1 := hf 1 _ rfl
      have h2 : DataW.trod enc Try.prog w 0 spare held m 3 (List.take (Try.prog.cellsOf 3) (List.drop 2 [c0, c1, c2])) = some y2 := hf 2 _ rfl
      rw [run_cells.2.2] at h0 h1 h2
      obtain ⟨a, ha, _, _⟩ := DataW.trod_int Try.underlying3 (show DataW.trod enc Try.prog w 0 spare held m 3 [c0] = some y0 from h0)
      obtain ⟨b, hb, _, _⟩ := DataW.trod_int Try.underlying3 (show DataW.trod enc Try.prog w 0 spare held m 3 [c1] = some y1 from h1)
      obtain ⟨c, hc, _, _⟩ := DataW.trod_int Try.underlying3 (show DataW.trod enc Try.prog w 0 spare held m 3 [c2] = some y2 from h2)
      simp only [List.cons.injEq, and_true] at ha hb hc
      subst ha hb hc
      exact ⟨⟨a, b, c⟩, rfl⟩
set_option maxRecDepth 100000 in
theorem cells_dot {fuel : Nat} {cs : List Value} {x : DataW H × List MemPlace} (hl : cs.length = 2) (h : DataW.trod enc Try.prog w 0 spare held fuel 27 cs = some x) : ∃ r : Int × Int, cs = [.int .i64 r.1, .int .i64 r.2] := by
  obtain ⟨xs, m, rfl, _, hlen, hxl, hf⟩ := DataW.trod_struct Try.underlying27 h
  match cs, hl with
  | [c0, c1], _ =>
    match xs, hxl with
    | [y0, y1], _ =>
      have h0 : DataW.trod enc Try.prog w 0 spare held m 3 (List.take (Try.prog.cellsOf 3) (List.drop 0 [c0, c1])) = some y0 := hf 0 _ rfl
      have h1 : DataW.trod enc Try.prog w 0 spare held m 3 (List.take (Try.prog.cellsOf 3) (List.drop 1 [c0, c1])) = some y1 := hf 1 _ rfl
      rw [run_cells.2.2] at h0 h1
      obtain ⟨a, ha, _, _⟩ := DataW.trod_int Try.underlying3 (show DataW.trod enc Try.prog w 0 spare held m 3 [c0] = some y0 from h0)
      obtain ⟨b, hb, _, _⟩ := DataW.trod_int Try.underlying3 (show DataW.trod enc Try.prog w 0 spare held m 3 [c1] = some y1 from h1)
      simp only [List.cons.injEq, and_true] at ha hb
      subst ha hb
      exact ⟨(a, b), rfl⟩
theorem rl_rows {A : Option Addr} {n : Nat} {l : List Rn} (h : LR w 3 (fun (r : Rn) cs => cs = [.int .i64 r.d, .int .i64 r.f, .int .i64 r.t]) A n l) : RL w A n l :=
  ⟨h.1, fun h0 => by
    obtain ⟨g, o, e, hg, hc⟩ := h.2 h0
    refine ⟨g, o, e, hg, fun i x hx => ?_⟩
    obtain ⟨cs, rfl, _, hj⟩ := hc i x hx
    exact ⟨hj 0 (by decide), hj 1 (by decide), hj 2 (by decide)⟩⟩
theorem dl_rows {A : Option Addr} {n : Nat} {l : List (Int × Int)} (h : LR w 2 (fun (r : Int × Int) cs => cs = [.int .i64 r.1, .int .i64 r.2]) A n l) : DL w A n l :=
  ⟨h.1, fun h0 => by
    obtain ⟨g, o, e, hg, hc⟩ := h.2 h0
    refine ⟨g, o, e, hg, fun i x hx => ?_⟩
    obtain ⟨cs, rfl, _, hj⟩ := hc i x hx
    exact ⟨hj 0 (by decide), hj 1 (by decide)⟩⟩
theorem open_runs {r : Reach} {b0 : Nat} {v : Value} {d : DataW H} {p : List MemPlace} (hv : Value.okWide Try.prog w r b0 22 v) (h : DataW.Trod enc Try.prog w 0 spare held 22 v d p) : ∃ A n c l, v = .slice A n c ∧ RL w A n l ∧ n ≤ c := by
  haveI : Inhabited Rn := ⟨⟨0, 0, 0⟩⟩
  obtain ⟨A, n, c, l, rfl, hc, _, _, _, hr⟩ := open_lr (fun (r : Rn) cs => cs = [.int .i64 r.d, .int .i64 r.f, .int .i64 r.t]) Try.underlying22 run_cells.1 (by decide) (fun _ _ _ hl h => cells_run hl h) hv h
  exact ⟨A, n, c, l, rfl, rl_rows hr, hc⟩
theorem open_dots {r : Reach} {b0 : Nat} {v : Value} {d : DataW H} {p : List MemPlace} (hv : Value.okWide Try.prog w r b0 44 v) (h : DataW.Trod enc Try.prog w 0 spare held 44 v d p) : ∃ A n c l, v = .slice A n c ∧ DL w A n l ∧ n ≤ c := by
  obtain ⟨A, n, c, l, rfl, hc, _, _, _, hr⟩ := open_lr (fun (r : Int × Int) cs => cs = [.int .i64 r.1, .int .i64 r.2]) Try.underlying44 run_cells.2.1 (by decide) (fun _ _ _ hl h => cells_dot hl h) hv h
  exact ⟨A, n, c, l, rfl, dl_rows hr, hc⟩
theorem open_dot {r : Reach} {b0 : Nat} {v : Value} {d : DataW H} {p : List MemPlace} (hv : Value.okWide Try.prog w r b0 27 v) (h : DataW.Trod enc Try.prog w 0 spare held 27 v d p) : ∃ a b, v = .agg #[.int .i64 a, .int .i64 b] := by
  obtain ⟨v0, v1, y0, y1, n, rfl, _, _, h0, h1⟩ := Go.Joins.open_agg2 Try.underlying27 (by kernel_rfl) run_cells.2.1 hv h
  obtain ⟨k, hk, _, _⟩ := DataW.trod_int Try.underlying3 h0
  obtain ⟨m, hn, _, _⟩ := DataW.trod_int Try.underlying3 h1
  simp only [List.cons.injEq, and_true] at hk hn
  subst hk hn
  exact ⟨k, m, rfl⟩
end
end Go.Proofs.Ytgmgkcackkmgfaa.Dt
