/- Records, wraps, logs that came in, opened. -/
import Derived.Test.YtaecfcodldbnhaaOpn
import Derived.Test.YtaecfcodldbnhaaMbMem
import Derived.ChangeMaps5
set_option maxRecDepth 100000
namespace Go.Proofs.Ytaecfcodldbnhaa.Mb
open Go Go.RowKit Go.ChangeShapes Go.WideShapes Go.Proofs.Ytaecfcodldbnhaa.Mm Go.Proofs.Ytaecfcodldbnhaa.Op

section
variable {H : Type} {enc : TypeId × Value → H} {w : World} {spare : Nat → Bool} {held : Bool}
theorem mb_cells : Try.prog.cellsOf 58 = 2 ∧ Try.prog.cellsOf 32 = 6 ∧ Try.prog.cellsOf 3 = 1 ∧ Try.prog.cellsOf 9 = 1 ∧ Try.prog.cellsOf 30 = 1 := ⟨by kernel_rfl, by kernel_rfl, by kernel_rfl, by kernel_rfl, by kernel_rfl⟩
theorem cells_wrap {fuel : Nat} {cs : List Value} {x : DataW H × List MemPlace} (hl : cs.length = 2) (h : DataW.trod enc Try.prog w 0 spare held fuel 58 cs = some x) : ∃ r : Wp, cs = wv1 r := by
  obtain ⟨xs, m, rfl, _, hlen, hxl, hf⟩ := DataW.trod_struct Try.underlying58 h
  match cs, hl with
  | [c0, c1], _ =>
    match xs, hxl with
    | [y0, y1], _ =>
      have h0 : DataW.trod enc Try.prog w 0 spare held m 3 (List.take (Try.prog.cellsOf 3) (List.drop 0 [c0, c1])) = some y0 := hf 0 _ rfl
      have h1 : DataW.trod enc Try.prog w 0 spare held m 9 (List.take (Try.prog.cellsOf 9) (List.drop 1 [c0, c1])) = some y1 := hf 1 _ rfl
      rw [mb_cells.2.2.1] at h0
      rw [mb_cells.2.2.2.1] at h1
      obtain ⟨a, ha, _, _⟩ := DataW.trod_int Try.underlying3 (show DataW.trod enc Try.prog w 0 spare held m 3 [c0] = some y0 from h0)
      obtain ⟨b, hb, _, _⟩ := DataW.trod_string Try.underlying9 (show DataW.trod enc Try.prog w 0 spare held m 9 [c1] = some y1 from h1)
      simp only [List.cons.injEq, and_true] at ha hb
      subst ha hb
      exact ⟨⟨a, b⟩, rfl⟩
theorem wl_rows {A : Option Addr} {n : Nat} {l : List Wp} (h : LR w 2 (fun (r : Wp) cs => cs = wv1 r) A n l) : WL w A n l :=
  ⟨h.1, fun h0 => by
    obtain ⟨g, o, e, hg, hc⟩ := h.2 h0
    refine ⟨g, o, e, hg, fun i x hx => ?_⟩
    obtain ⟨cs, rfl, _, hj⟩ := hc i x hx
    exact ⟨hj 0 (by decide), hj 1 (by decide)⟩⟩
/-- The cells of a record. -/
def RecC (w : World) (r : Rc) (cs : List Value) : Prop := ∃ A c, cs = [.int .i64 r.seq, .string r.prev, .int .i64 r.kind, .int .i64 r.dev, .slice A r.wraps.length c, .string r.tag] ∧ WL w A r.wraps.length r.wraps ∧ r.wraps.length ≤ c
set_option maxRecDepth 100000 in
theorem cells_record {fuel : Nat} {cs : List Value} {x : DataW H × List MemPlace} (hl : cs.length = 6) (h : DataW.trod enc Try.prog w 0 spare held fuel 32 cs = some x) : ∃ r : Rc, RecC w r cs := by
  obtain ⟨xs, m, rfl, _, hlen, hxl, hf⟩ := DataW.trod_struct Try.underlying32 h
  match cs, hl with
  | [c0, c1, c2, c3, c4, c5], _ =>
    match xs, hxl with
    | [y0, y1, y2, y3, y4, y5], _ =>
      have h0 : DataW.trod enc Try.prog w 0 spare held m 3 (List.take (Try.prog.cellsOf 3) (List.drop 0 [c0, c1, c2, c3, c4, c5])) = some y0 := hf 0 _ rfl
      have h1 : DataW.trod enc Try.prog w 0 spare held m 9 (List.take (Try.prog.cellsOf 9) (List.drop 1 [c0, c1, c2, c3, c4, c5])) = some y1 := hf 1 _ rfl
      have h2 : DataW.trod enc Try.prog w 0 spare held m 3 (List.take (Try.prog.cellsOf 3) (List.drop 2 [c0, c1, c2, c3, c4, c5])) = some y2 := hf 2 _ rfl
      have h3 : DataW.trod enc Try.prog w 0 spare held m 3 (List.take (Try.prog.cellsOf 3) (List.drop 3 [c0, c1, c2, c3, c4, c5])) = some y3 := hf 3 _ rfl
      have h4 : DataW.trod enc Try.prog w 0 spare held m 30 (List.take (Try.prog.cellsOf 30) (List.drop 4 [c0, c1, c2, c3, c4, c5])) = some y4 := hf 4 _ rfl
      have h5 : DataW.trod enc Try.prog w 0 spare held m 9 (List.take (Try.prog.cellsOf 9) (List.drop 5 [c0, c1, c2, c3, c4, c5])) = some y5 := hf 5 _ rfl
      rw [mb_cells.2.2.1] at h0 h2 h3
      rw [mb_cells.2.2.2.1] at h1 h5
      rw [mb_cells.2.2.2.2] at h4
      obtain ⟨a, ha, _, _⟩ := DataW.trod_int Try.underlying3 (show DataW.trod enc Try.prog w 0 spare held m 3 [c0] = some y0 from h0)
      obtain ⟨b, hb, _, _⟩ := DataW.trod_string Try.underlying9 (show DataW.trod enc Try.prog w 0 spare held m 9 [c1] = some y1 from h1)
      obtain ⟨c, hc, _, _⟩ := DataW.trod_int Try.underlying3 (show DataW.trod enc Try.prog w 0 spare held m 3 [c2] = some y2 from h2)
      obtain ⟨d, hd, _, _⟩ := DataW.trod_int Try.underlying3 (show DataW.trod enc Try.prog w 0 spare held m 3 [c3] = some y3 from h3)
      obtain ⟨f, hf5, _, _⟩ := DataW.trod_string Try.underlying9 (show DataW.trod enc Try.prog w 0 spare held m 9 [c5] = some y5 from h5)
      haveI : Inhabited Wp := ⟨⟨0, ⟨#[]⟩⟩⟩
      obtain ⟨A, n, cp, l, e4, hcp, _, _, _, hr⟩ := lr_of (fun (r : Wp) cs => cs = wv1 r) Try.underlying30 mb_cells.1 (by decide) (fun _ _ _ hl h => cells_wrap hl h) (show DataW.trod enc Try.prog w 0 spare held m 30 [c4] = some y4 from h4)
      simp only [List.cons.injEq, and_true] at ha hb hc hd hf5
      subst ha hb hc hd hf5 e4
      have hw := wl_rows hr
      obtain rfl := hw.1
      exact ⟨⟨a, b, c, d, l, f⟩, A, cp, rfl, hw, hcp⟩
set_option maxRecDepth 100000 in
theorem open_record {r : Reach} {b0 : Nat} {v : Value} {d : DataW H} {p : List MemPlace} (hv : Value.okWide Try.prog w r b0 32 v) (h : DataW.Trod enc Try.prog w 0 spare held 32 v d p) : ∃ (x : Rc) (A : Option Addr) (c : Nat), v = .agg #[.int .i64 x.seq, .string x.prev, .int .i64 x.kind, .int .i64 x.dev, .slice A x.wraps.length c, .string x.tag] ∧ WL w A x.wraps.length x.wraps ∧ x.wraps.length ≤ c := by
  obtain ⟨cs, rfl, hsz⟩ := okWide_struct Try.underlying32 hv
  obtain ⟨fuel, hf⟩ := h
  obtain ⟨x, A, c, hx, h1, h2⟩ := cells_record (by rw [Array.length_toList, hsz]; exact mb_cells.2.1) (show DataW.trod enc Try.prog w 0 spare held fuel 32 cs.toList = some (d, p) from hf)
  refine ⟨x, A, c, ?_, h1, h2⟩
  obtain ⟨l⟩ := cs
  have hx : l = _ := hx
  rw [hx]
theorem log_rows {A : Option Addr} {n : Nat} {l : List Rc} (h : LR w 6 (RecC w) A n l) : LogL w A n l :=
  ⟨h.1, fun h0 => by
    obtain ⟨g, o, e, hg, hc⟩ := h.2 h0
    refine ⟨g, o, e, hg, fun i x hx => ?_⟩
    obtain ⟨cs, ⟨B, c, rfl, h1, h2⟩, _, hj⟩ := hc i x hx
    exact ⟨B, c, hj 0 (by decide), hj 1 (by decide), hj 2 (by decide), hj 3 (by decide), hj 4 (by decide), hj 5 (by decide), h1, h2⟩⟩
theorem open_log {r : Reach} {b0 : Nat} {v : Value} {d : DataW H} {p : List MemPlace} (hv : Value.okWide Try.prog w r b0 22 v) (h : DataW.Trod enc Try.prog w 0 spare held 22 v d p) : ∃ A n c l, v = .slice A n c ∧ LogL w A n l ∧ n ≤ c := by
  haveI : Inhabited Rc := ⟨⟨0, ⟨#[]⟩, 0, 0, [], ⟨#[]⟩⟩⟩
  obtain ⟨A, n, c, l, rfl, hc, _, _, _, hr⟩ := open_lr (RecC w) Try.underlying22 mb_cells.2.1 (by decide) (fun _ _ _ hl h => cells_record hl h) hv h
  exact ⟨A, n, c, l, rfl, log_rows hr, hc⟩
end
end Go.Proofs.Ytaecfcodldbnhaa.Mb
