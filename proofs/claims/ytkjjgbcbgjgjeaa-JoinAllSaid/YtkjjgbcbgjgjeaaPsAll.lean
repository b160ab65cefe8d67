import Derived.Test.YtkjjgbcbgjgjeaaOpen
import Derived.Test.YtkjjgbcbgjgjeaaDtOf
import Derived.Test.YtkjjgbcbgjgjeaaFtMem
import Derived.ChangeMaps5
import Derived.Test.YtkjjgbcbgjgjeaaToldL
import Derived.Test.YtkjjgbcbgjgjeaaVPA
import Derived.Test.YtkjjgbcbgjgjeaaDtMem
import Derived.Maps.AppendAt
import Derived.Deep.DeepCutAuto
import Derived.Test.YtkjjgbcbgjgjeaaFtMay
import Derived.Deep.AppendLies
/- Runs, dots that came in, opened. -/
namespace Go.Proofs.Ytkjjgbcbgjgjeaa.Dt
open Go Go.RowKit Go.ChangeShapes Go.WideShapes Go.Proofs.Ytkjjgbcbgjgjeaa.Mm Go.Proofs.Ytkjjgbcbgjgjeaa.Op

section
variable {H : Type} {enc : TypeId × Value → H} {w : World} {spare : Nat → Bool} {held : Bool}
theorem run_cells : Try.prog.cellsOf 58 = 3 ∧ Try.prog.cellsOf 35 = 2 ∧ Try.prog.cellsOf 3 = 1 := ⟨by kernel_rfl, by kernel_rfl, by kernel_rfl⟩
set_option maxRecDepth 100000 in
theorem cells_run {fuel : Nat} {cs : List Value} {x : DataW H × List MemPlace} (hl : cs.length = 3) (h : DataW.trod enc Try.prog w 0 spare held fuel 58 cs = some x) : ∃ r : Rn, cs = [.int .i64 r.d, .int .i64 r.f, .int .i64 r.t] := by
  obtain ⟨xs, m, rfl, _, hlen, hxl, hf⟩ := DataW.trod_struct Try.underlying58 h
  match cs, hl with
  | [c0, c1, c2], _ =>
    match xs, hxl with
    | [y0, y1, y2], _ =>
      have h0 : DataW.trod enc Try.prog w 0 spare held m 3 (List.take (Try.prog.cellsOf 3) (List.drop 0 [c0, c1, c2])) = some y0 := hf 0 _ rfl
      have h1 : DataW.trod enc Try.prog w 0 spare held m 3 (List.take (Try.prog.cellsOf 3) (List.drop 1 [c0, c1, c2])) = some y1 := hf 1 _ rfl
      have h2 : DataW.trod enc Try.prog w 0 spare held m 3 (List.take (Try.prog.cellsOf 3) (List.drop 2 [c0, c1, c2])) = some y2 := hf 2 _ rfl
      rw [run_cells.2.2] at h0 h1 h2
      obtain ⟨a, ha, _, _⟩ := DataW.trod_int Try.underlying3 (show DataW.trod enc Try.prog w 0 spare held m 3 [c0] = some y0 from h0)
      obtain ⟨b, hb, _, _⟩ := DataW.trod_int Try.underlying3 (show DataW.trod enc Try.prog w 0 spare held m 3 [c1] = some y1 from h1)
      obtain ⟨c, hc, _, _⟩ := DataW.trod_int Try.underlying3 (show DataW.trod enc Try.prog w 0 spare held m 3 [c2] = some y2 from h2)
      simp only [List.cons.injEq, and_true] at ha hb hc
      subst ha hb hc
      exact ⟨⟨a, b, c⟩, rfl⟩
set_option maxRecDepth 100000 in
theorem cells_dot {fuel : Nat} {cs : List Value} {x : DataW H × List MemPlace} (hl : cs.length = 2) (h : DataW.trod enc Try.prog w 0 spare held fuel 35 cs = some x) : ∃ r : Int × Int, cs = [.int .i64 r.1, .int .i64 r.2] := by
  obtain ⟨xs, m, rfl, _, hlen, hxl, hf⟩ := DataW.trod_struct Try.underlying35 h
  match cs, hl with
  | [c0, c1], _ =>
    match xs, hxl with
    | [y0, y1], _ =>
      have h0 : DataW.trod enc Try.prog w 0 spare held m 3 (List.take (Try.prog.cellsOf 3) (List.drop 0 [c0, c1])) = some y0 := hf 0 _ rfl
      have h1 : DataW.trod enc Try.prog w 0 spare held m 3 (List.take (Try.prog.cellsOf 3) (List.drop 1 [c0, c1])) = some y1 := hf 1 _ rfl
      rw [run_cells.2.2] at h0 h1
      obtain ⟨a, ha, _, _⟩ := DataW.trod_int Try.underlying3 (show DataW.trod enc Try.prog w 0 spare held m 3 [c0] = some y0 from h0)
      obtain ⟨b, hb, _, _⟩ := DataW.trod_int Try.underlying3 (show DataW.trod enc Try.prog w 0 spare held m 3 [c1] = some y1 from h1)
      simp only [List.cons.injEq, and_true] at ha hb
      subst ha hb
      exact ⟨(a, b), rfl⟩
theorem rl_rows {A : Option Addr} {n : Nat} {l : List Rn} (h : LR w 3 (fun (r : Rn) cs => cs = [.int .i64 r.d, .int .i64 r.f, .int .i64 r.t]) A n l) : RL w A n l :=
  ⟨h.1, fun h0 => by
    obtain ⟨g, o, e, hg, hc⟩ := h.2 h0
    refine ⟨g, o, e, hg, fun i x hx => ?_⟩
    obtain ⟨cs, rfl, _, hj⟩ := hc i x hx
    exact ⟨hj 0 (by decide), hj 1 (by decide), hj 2 (by decide)⟩⟩
theorem dl_rows {A : Option Addr} {n : Nat} {l : List (Int × Int)} (h : LR w 2 (fun (r : Int × Int) cs => cs = [.int .i64 r.1, .int .i64 r.2]) A n l) : DL w A n l :=
  ⟨h.1, fun h0 => by
    obtain ⟨g, o, e, hg, hc⟩ := h.2 h0
    refine ⟨g, o, e, hg, fun i x hx => ?_⟩
    obtain ⟨cs, rfl, _, hj⟩ := hc i x hx
    exact ⟨hj 0 (by decide), hj 1 (by decide)⟩⟩
theorem open_runs {r : Reach} {b0 : Nat} {v : Value} {d : DataW H} {p : List MemPlace} (hv : Value.okWide Try.prog w r b0 23 v) (h : DataW.Trod enc Try.prog w 0 spare held 23 v d p) : ∃ A n c l, v = .slice A n c ∧ RL w A n l ∧ n ≤ c := by
  haveI : Inhabited Rn := ⟨⟨0, 0, 0⟩⟩
  obtain ⟨A, n, c, l, rfl, hc, _, _, _, hr⟩ := open_lr (fun (r : Rn) cs => cs = [.int .i64 r.d, .int .i64 r.f, .int .i64 r.t]) Try.underlying23 run_cells.1 (by decide) (fun _ _ _ hl h => cells_run hl h) hv h
  exact ⟨A, n, c, l, rfl, rl_rows hr, hc⟩
theorem open_dots {r : Reach} {b0 : Nat} {v : Value} {d : DataW H} {p : List MemPlace} (hv : Value.okWide Try.prog w r b0 44 v) (h : DataW.Trod enc Try.prog w 0 spare held 44 v d p) : ∃ A n c l, v = .slice A n c ∧ DL w A n l ∧ n ≤ c := by
  obtain ⟨A, n, c, l, rfl, hc, _, _, _, hr⟩ := open_lr (fun (r : Int × Int) cs => cs = [.int .i64 r.1, .int .i64 r.2]) Try.underlying44 run_cells.2.1 (by decide) (fun _ _ _ hl h => cells_dot hl h) hv h
  exact ⟨A, n, c, l, rfl, dl_rows hr, hc⟩
theorem open_dot {r : Reach} {b0 : Nat} {v : Value} {d : DataW H} {p : List MemPlace} (hv : Value.okWide Try.prog w r b0 35 v) (h : DataW.Trod enc Try.prog w 0 spare held 35 v d p) : ∃ a b, v = .agg #[.int .i64 a, .int .i64 b] := by
  obtain ⟨v0, v1, y0, y1, n, rfl, _, _, h0, h1⟩ := Go.Joins.open_agg2 Try.underlying35 (by kernel_rfl) run_cells.2.1 hv h
  obtain ⟨k, hk, _, _⟩ := DataW.trod_int Try.underlying3 h0
  obtain ⟨m, hn, _, _⟩ := DataW.trod_int Try.underlying3 h1
  simp only [List.cons.injEq, and_true] at hk hn
  subst hk hn
  exact ⟨k, m, rfl⟩
end
end Go.Proofs.Ytkjjgbcbgjgjeaa.Dt
/- States, facts, texts that came in, opened. -/
namespace Go.Proofs.Ytkjjgbcbgjgjeaa.Dt
open Go Go.RowKit Go.ChangeShapes Go.WideShapes Go.Proofs.Ytkjjgbcbgjgjeaa.Mm Go.Proofs.Ytkjjgbcbgjgjeaa.Op

section
variable {H : Type} {enc : TypeId × Value → H} {w : World} {spare : Nat → Bool} {held : Bool}
theorem fact_cells : Try.prog.cellsOf 37 = 6 ∧ Try.prog.cellsOf 9 = 1 ∧ Try.prog.cellsOf 26 = 2 := ⟨by kernel_rfl, by kernel_rfl, by kernel_rfl⟩
set_option maxRecDepth 100000 in
theorem cells_fact {fuel : Nat} {cs : List Value} {x : DataW H × List MemPlace} (hl : cs.length = 6) (h : DataW.trod enc Try.prog w 0 spare held fuel 37 cs = some x) : ∃ r : Fc, cs = fv1 r := by
  obtain ⟨xs, m, rfl, _, hlen, hxl, hf⟩ := DataW.trod_struct Try.underlying37 h
  match cs, hl with
  | [c0, c1, c2, c3, c4, c5], _ =>
    match xs, hxl with
    | [y0, y1, y2, y3, y4], _ =>
      have h0 : DataW.trod enc Try.prog w 0 spare held m 35 (List.take (Try.prog.cellsOf 35) (List.drop 0 [c0, c1, c2, c3, c4, c5])) = some y0 := hf 0 _ rfl
      have h1 : DataW.trod enc Try.prog w 0 spare held m 9 (List.take (Try.prog.cellsOf 9) (List.drop 2 [c0, c1, c2, c3, c4, c5])) = some y1 := hf 1 _ rfl
      have h2 : DataW.trod enc Try.prog w 0 spare held m 3 (List.take (Try.prog.cellsOf 3) (List.drop 3 [c0, c1, c2, c3, c4, c5])) = some y2 := hf 2 _ rfl
      have h3 : DataW.trod enc Try.prog w 0 spare held m 9 (List.take (Try.prog.cellsOf 9) (List.drop 4 [c0, c1, c2, c3, c4, c5])) = some y3 := hf 3 _ rfl
      have h4 : DataW.trod enc Try.prog w 0 spare held m 3 (List.take (Try.prog.cellsOf 3) (List.drop 5 [c0, c1, c2, c3, c4, c5])) = some y4 := hf 4 _ rfl
      rw [run_cells.2.1] at h0
      rw [run_cells.2.2] at h2 h4
      rw [fact_cells.2.1] at h1 h3
      obtain ⟨d, hd⟩ := cells_dot rfl (show DataW.trod enc Try.prog w 0 spare held m 35 [c0, c1] = some y0 from h0)
      obtain ⟨a, ha, _, _⟩ := DataW.trod_string Try.underlying9 (show DataW.trod enc Try.prog w 0 spare held m 9 [c2] = some y1 from h1)
      obtain ⟨b, hb, _, _⟩ := DataW.trod_int Try.underlying3 (show DataW.trod enc Try.prog w 0 spare held m 3 [c3] = some y2 from h2)
      obtain ⟨c, hc, _, _⟩ := DataW.trod_string Try.underlying9 (show DataW.trod enc Try.prog w 0 spare held m 9 [c4] = some y3 from h3)
      obtain ⟨e, he, _, _⟩ := DataW.trod_int Try.underlying3 (show DataW.trod enc Try.prog w 0 spare held m 3 [c5] = some y4 from h4)
      simp only [List.cons.injEq, and_true] at hd ha hb hc he
      obtain ⟨rfl, rfl⟩ := hd
      subst ha hb hc he
      exact ⟨⟨d.1, d.2, a, b, c, e⟩, rfl⟩
theorem fl_rows {A : Option Addr} {n : Nat} {l : List Fc} (h : LR w 6 (fun (r : Fc) cs => cs = fv1 r) A n l) : FL w A n l :=
  ⟨h.1, fun h0 => by
    obtain ⟨g, o, e, hg, hc⟩ := h.2 h0
    refine ⟨g, o, e, hg, fun i x hx => ?_⟩
    obtain ⟨cs, rfl, _, hj⟩ := hc i x hx
    exact ⟨hj 0 (by decide), hj 1 (by decide), hj 2 (by decide), hj 3 (by decide), hj 4 (by decide), hj 5 (by decide)⟩⟩
set_option maxRecDepth 100000 in
theorem open_state {r : Reach} {b0 : Nat} {v : Value} {d : DataW H} {p : List MemPlace} (hv : Value.okWide Try.prog w r b0 26 v) (h : DataW.Trod enc Try.prog w 0 spare held 26 v d p) : ∃ A n c B m e s, v = .agg #[.slice A n c, .slice B m e] ∧ SL w A n B m s ∧ n ≤ c ∧ m ≤ e := by
  obtain ⟨v0, v1, y0, y1, n, rfl, _, _, h0, h1⟩ := Go.Joins.open_agg2 Try.underlying26 (by kernel_rfl) fact_cells.2.2 hv h
  haveI : Inhabited Rn := ⟨⟨0, 0, 0⟩⟩
  haveI : Inhabited Fc := ⟨⟨0, 0, ⟨#[]⟩, 0, ⟨#[]⟩, 0⟩⟩
  obtain ⟨A, n1, c, l, rfl, hc, _, _, _, hr⟩ := lr_of (fun (r : Rn) cs => cs = [.int .i64 r.d, .int .i64 r.f, .int .i64 r.t]) Try.underlying23 run_cells.1 (by decide) (fun _ _ _ hl h => cells_run hl h) h0
  obtain ⟨B, m, e, k, rfl, he, _, _, _, hk⟩ := lr_of (fun (r : Fc) cs => cs = fv1 r) Try.underlying24 fact_cells.1 (by decide) (fun _ _ _ hl h => cells_fact hl h) h1
  exact ⟨A, n1, c, B, m, e, ⟨l, k⟩, rfl, ⟨rl_rows hr, fl_rows hk⟩, hc, he⟩
set_option maxRecDepth 100000 in
theorem open_fact {r : Reach} {b0 : Nat} {v : Value} {d : DataW H} {p : List MemPlace} (hv : Value.okWide Try.prog w r b0 37 v) (h : DataW.Trod enc Try.prog w 0 spare held 37 v d p) : ∃ x : Fc, v = .agg #[.int .i64 x.d, .int .i64 x.n, .string x.key, .int .i64 x.kind, .string x.item, .int .i64 x.v] := by
  obtain ⟨cs, rfl, hsz⟩ := okWide_struct Try.underlying37 hv
  obtain ⟨fuel, hf⟩ := h
  obtain ⟨x, hx⟩ := cells_fact (by rw [Array.length_toList, hsz]; exact fact_cells.1) (show DataW.trod enc Try.prog w 0 spare held fuel 37 cs.toList = some (d, p) from hf)
  refine ⟨x, ?_⟩
  obtain ⟨l⟩ := cs
  have hx : l = fv1 x := hx
  rw [hx]; rfl
theorem open_str {r : Reach} {b0 : Nat} {v : Value} {d : DataW H} {p : List MemPlace} (hv : Value.okWide Try.prog w r b0 9 v) (h : DataW.Trod enc Try.prog w 0 spare held 9 v d p) : ∃ s, v = .string s := by
  obtain ⟨s, rfl, _⟩ := Go.ChangeMaps.open_string Try.underlying9 hv h
  exact ⟨s, rfl⟩
end
end Go.Proofs.Ytkjjgbcbgjgjeaa.Dt
/- wp_region_told_list where the plain tail writes a slot that the head reads (runs = append(runs, ..)): the head's looks alone are held against the head's writes. Plain laws, no program. -/
namespace Go.Proofs.Ytkjjgbcbgjgjeaa.Td.Tm
open Go

section
variable {P : Program} {ops : Array Oper} {Q : Exit → Act → World → Prop} {le : World → World → Prop}
def toldB (n m : Nat) (ops : Array Oper) : Bool :=
  Region.noSelect ops && (List.range ops.size).all fun i =>
    match ops[i]? with
    | none => true
    | some o =>
      (o.after.all fun e => !Region.binds .any e || Nat.blt e.on i) &&
      (match o.dst with
        | none => true
        | some d => Nat.blt d n && (List.range ops.size).all fun j => j == i || !(dstAt ops j == some d)) &&
      (o.looksAt ops).all fun t => (List.range m).all fun j => !(dstAt ops j == some t) || (Nat.blt j i && waits o j)

structure Fine (n m : Nat) (ops : Array Oper) : Prop where
  sel : ∀ (j : Nat) (o : Oper) cs b, ops[j]? = some o → o.op ≠ .select cs b
  back : ∀ i o, ops[i]? = some o → ∀ e ∈ o.after, Region.binds .any e = true → e.on < i
  fits : ∀ i d, dstAt ops i = some d → d < n
  once : ∀ i j d, dstAt ops i = some d → dstAt ops j = some d → j = i
  looks : ∀ i o, ops[i]? = some o → ∀ t ∈ o.looksAt ops, ∀ j, j < m → dstAt ops j = some t → j < i ∧ ∃ e ∈ o.after, Region.binds .any e = true ∧ e.on = j

theorem fine_of {n m : Nat} {ops : Array Oper} (h : toldB n m ops = true) : Fine n m ops := by
  unfold toldB at h
  rw [Bool.and_eq_true, List.all_eq_true] at h
  obtain ⟨hs, h⟩ := h
  have at_ : ∀ i o, ops[i]? = some o → _ := fun i o ho => by
    have := h i (List.mem_range.2 (Array.getElem?_eq_some_iff.1 ho).1)
    rw [ho] at this
    simp only [Bool.and_eq_true] at this
    exact this
  have dst_ : ∀ i d, dstAt ops i = some d → ∃ o, ops[i]? = some o ∧ o.dst = some d := fun i d hd => by
    unfold dstAt at hd
    cases ho : ops[i]? with
    | none => rw [ho] at hd; cases hd
    | some o => rw [ho] at hd; exact ⟨o, rfl, hd⟩
  refine ⟨Region.noSelect_spec hs, ?_, ?_, ?_, ?_⟩
  · intro i o ho e he hb
    have := (at_ i o ho).1.1
    rw [Array.all_eq_true_iff_forall_mem] at this
    have := this e he
    rw [hb] at this
    simpa using this
  · intro i d hd
    obtain ⟨o, ho, hd'⟩ := dst_ i d hd
    have := (at_ i o ho).1.2
    rw [hd'] at this
    simp only [Bool.and_eq_true] at this
    simpa using this.1
  · intro i j d hi hj
    obtain ⟨o, ho, hd'⟩ := dst_ i d hi
    have := (at_ i o ho).1.2
    rw [hd'] at this
    simp only [Bool.and_eq_true, List.all_eq_true] at this
    have := this.2 j (List.mem_range.2 (lt_of_dst hj))
    rw [hj] at this
    simpa using this
  · intro i o ho t ht j hjm hj
    have := (at_ i o ho).2
    rw [List.all_eq_true] at this
    have := this t ht
    rw [List.all_eq_true] at this
    have := this j (List.mem_range.2 hjm)
    rw [hj] at this
    simp only [beq_self_eq_true, Bool.not_true, Bool.false_or, Bool.and_eq_true] at this
    refine ⟨by simpa using this.1, ?_⟩
    have hw := this.2
    unfold waits at hw
    obtain ⟨e, he, hb⟩ := Array.any_eq_true'.1 hw
    simp only [Bool.and_eq_true, beq_iff_eq] at hb
    exact ⟨e, he, hb.1, hb.2⟩

theorem wanted_in {a : Act} {n m : Nat} (hF : Fine n m ops) (hn : a.tmps.size = n) (o : Oper) : Region.wanted o (yielded ops a.tmps) = wantedIn ops (slots a) o := by
  unfold Region.wanted wantedIn
  cases o.guard with
  | none => rfl
  | some gw =>
    obtain ⟨g, want⟩ := gw
    have hy : yielded ops a.tmps g = match (dstAt ops g).bind (fun t => a.tmps[t]?) with | some (Value.bool b) => some b | _ => none := rfl
    simp only [hy]
    cases ht : dstAt ops g with
    | none => rfl
    | some t =>
      simp only [Option.bind_some]
      rw [slots_get (by rw [hn]; exact hF.fits g t ht)]
      cases slots a t <;> rfl

theorem all_listed {n m : Nat} (hF : Fine n m ops) {listed : Array Bool} (hs : listed.size = ops.size) (hr : Region.ready .any ops listed = []) : ∀ i, i < ops.size → listed.getD i false = true := by
  intro i
  induction i using Nat.strongRecOn with
  | ind i ih =>
    intro hi
    cases hb : listed.getD i false with
    | true => rfl
    | false =>
      exfalso
      obtain ⟨o, ho⟩ : ∃ o, ops[i]? = some o := ⟨_, Array.getElem?_eq_getElem hi⟩
      have : i ∈ Region.ready .any ops listed := mem_ready.2 ⟨by rw [listed_or (by omega), hb], o, ho, fun e he hbd => ih e.on (hF.back i o ho e he hbd) (by have := hF.back i o ho e he hbd; omega)⟩
      rw [hr] at this
      cases this

theorem inv_next {n m : Nat} (hF : Fine n m ops) (ht : ∀ a b c, le a b → le b c → le a c) {w0 : World} {a0 : Act} (hn : a0.tmps.size = n) {Vs : Nat → Spec} (hst : ∀ i, i < ops.size → Stays le (Vs i)) {listed : Array Bool} {a : Act} {W W' : World} (hI : Inv ops le w0 a0 Vs listed a W)
    {i : Nat} (hi : i < ops.size) {v : Value} (hle : le W W') (hV : Vs i W' v) : Inv ops le w0 a0 Vs (listed.setIfInBounds i true) (a.put (dstAt ops i) v) W' := by
  have hset : (listed.setIfInBounds i true).getD i true = true := by simp [hI.hls, hi]
  refine ⟨ht _ _ _ hI.hle hle, by rw [put_defers_, hI.hdef], by rw [put_size, hI.hsz], by simp [hI.hls], fun t h => ?_, fun j hj hjs => ?_⟩
  · have hne : dstAt ops i ≠ some t := fun e => by rw [h i e] at hset; cases hset
    rw [put_far hne]
    refine hI.hold t fun j hj => ?_
    have hji : i ≠ j := fun e => hne (e ▸ hj)
    have := h j hj
    rw [getD_set_ne true hji] at this
    exact this
  · by_cases e : j = i
    · subst e
      cases hd : dstAt ops j with
      | none => exact ⟨v, hV⟩
      | some d =>
        simp only []
        rw [slots_of (put_at (by rw [hI.hsz, hn]; exact hF.fits j d hd))]
        exact hV
    · rw [getD_set_ne false (Ne.symm e)] at hj
      have h1 := hI.hnew j hj hjs
      cases hd : dstAt ops j with
      | none =>
        rw [hd] at h1
        obtain ⟨v, h1⟩ := h1
        exact ⟨v, hst j hjs _ _ _ hle h1⟩
      | some d =>
        rw [hd] at h1
        simp only []
        have : slots (a.put (dstAt ops i) v) d = slots a d := slots_like (put_far (fun e' => e (hF.once i j d e' hd)))
        rw [this]
        exact hst j hjs _ _ _ hle h1

def elder (ops : Array Oper) (m : Nat) (t : Tmp) : Bool := (List.range m).all fun j => !(dstAt ops j == some t)

def Elder (ops : Array Oper) (m : Nat) (a : Act) (f : Tmp → Value) : Prop := ∀ t, elder ops m t = true → f t = a.tmps.getD t undef

def ToldOp (P : Program) (ops : Array Oper) (m : Nat) (le : World → World → Prop) (w0 : World) (a : Act) (o : Oper) (V : Spec) (env : List (Option Tmp × Spec)) : Prop :=
  ∀ W f, le w0 W → Known ops o W f env → Elder ops m a f → ∀ K : Value → World → Prop, (∀ v W', le W W' → V W' v → K v W') →
    if wantedIn ops f o = true then Upon P K ((execOp (Td.look f) o).run P W) else K undef W

theorem told_list_any {n m : Nat} (hF : Fine n m ops) (ht : ∀ a b c, le a b → le b c → le a c) {w0 : World} {a0 : Act} (hn : a0.tmps.size = n) {Vs : Nat → Spec} (hm : m < ops.size)
    (hsink : Region.sinkB .any ops m = true) (hchain : Region.chainB .any ops m = true) (hseq : Region.seqB .any ops (ops.size - m) m (firsts m (ops.size - m)) = true)
    (hop : ∀ i o, i < m → ops[i]? = some o → ToldOp P ops m le w0 a0 o (Vs i) (envAt ops Vs i) ∧ Stays le (Vs i)) (hst : ∀ i, m ≤ i → Stays le (Vs i))
    (hend : ∀ W f, le w0 W → KnownAll W f (envAt ops Vs m) → wpList P ops Q (ops.toList.drop m) (lexAt ops f a0 m) W) :
    ∀ (f : Nat) (listed : Array Bool) (a : Act) (W : World), Inv ops le w0 a0 Vs listed a W → HeadInv .any ops m listed → (List.range m).countP (fun i => !listed.getD i true) = f → wpAny P .any ops Q (f + (ops.size - m)) listed a W := by
  intro f
  induction f with
  | zero =>
    intro listed a W hI hH hc
    have h1 : ∀ i, i < m → listed.getD i false = true := fun i hi => by
      have h0 := List.countP_eq_zero.1 hc i (List.mem_range.2 hi)
      rw [← listed_or (by rw [hI.hls]; omega)]
      simpa using h0
    have hl := firsts_is hI.hls (Nat.le_of_lt hm) h1 hH.tail
    have hlen : (ops.toList.drop m).length = ops.size - m := by rw [List.length_drop, Array.length_toList]
    have hfr : a = lexAt ops (slots a) a0 m := by
      have ht : a.tmps = (lexAt ops (slots a) a0 m).tmps := by
        apply Array.ext_getElem?
        intro t
        by_cases h : ∃ j, j < m ∧ dstAt ops j = some t
        · obtain ⟨j, hjm, hj⟩ := h
          have hlt := hF.fits j t hj
          rw [lex_new (by rw [hn]; exact hlt) hj _ hjm, slots_get (by rw [hI.hsz, hn]; exact hlt)]
        · rw [hI.hold t (fun i hi => hH.tail i (Nat.le_of_not_lt fun hlt => h ⟨i, hlt, hi⟩) (lt_of_dst hi)), lex_old _ (fun j hj e => h ⟨j, hj, e⟩)]
      have hd : a.defers = (lexAt ops (slots a) a0 m).defers := by rw [hI.hdef, lex_defers]
      generalize lexAt ops (slots a) a0 m = b at *
      obtain ⟨t, d⟩ := a
      obtain ⟨t', d'⟩ := b
      cases ht; cases hd; rfl
    have hkn : KnownAll W (slots a) (envAt ops Vs m) := fun j d V hj => by
      obtain ⟨k, hk, hdk, hVk⟩ := env_at hj
      have := hI.hnew k (h1 k hk) (by omega)
      rw [hdk, hVk] at this
      exact this
    have hw := hend W (slots a) hI.hle hkn
    rw [← hfr] at hw
    have := wpAny_of_seq (P := P) (md := .any) (ops := ops) (Q' := Q) (ops.toList.drop m) m listed a W (fun j => by rw [List.getElem?_drop, Array.getElem?_toList]) (by rw [hlen, hl]; exact hseq) hw
    rwa [hlen, ← Nat.zero_add (ops.size - m)] at this
  | succ f ih =>
    intro listed a W hI hH hc
    rw [show f + 1 + (ops.size - m) = (f + (ops.size - m)) + 1 by omega]
    obtain ⟨i0, hi0, hun0⟩ : ∃ i0, i0 < m ∧ listed.getD i0 true = false := by
      have hp : 0 < (List.range m).countP (fun i => !listed.getD i true) := by omega
      obtain ⟨i, hi, h⟩ := List.countP_pos_iff.1 hp
      exact ⟨i, List.mem_range.1 hi, by simpa using h⟩
    refine ⟨fun hr => ?_, fun i hr => ?_⟩
    · exfalso
      have := all_listed hF hI.hls hr i0 (by omega)
      rw [← listed_or (by rw [hI.hls]; omega), hun0] at this
      cases this
    have him : i < m := Nat.lt_of_not_le fun h => tail_waits hsink hchain hm hH _ i0 rfl hi0 hun0 i h hr
    obtain ⟨h0, o, ho, hall⟩ := mem_ready.1 hr
    have hi := (Array.getElem?_eq_some_iff.1 ho).1
    have hd : dstAt ops i = o.dst := by unfold dstAt; rw [ho]; rfl
    have hkn : Known ops o W (slots a) (envAt ops Vs i) := fun j t V hj hc => by
      obtain ⟨k, hk, hdk, hVk⟩ := env_at hj
      obtain ⟨_, e, he, hb, h2⟩ := hF.looks i o ho t (by simpa using hc) k (by omega) hdk
      have := hI.hnew k (by rw [← h2]; exact hall e he hb) (by omega)
      rw [hdk, hVk] at this
      exact this
    have hel : Elder ops m a0 (slots a) := fun t h => slots_like (hI.hold t fun j hj => by
      rcases Nat.lt_or_ge j m with hjm | hjm
      · unfold elder at h
        rw [List.all_eq_true] at h
        have := h j (List.mem_range.2 hjm)
        rw [hj] at this
        simp at this
      · exact hH.tail j hjm (lt_of_dst hj))
    have hnext : ∀ v W', le W W' → Vs i W' v → wpAny P .any ops Q (f + (ops.size - m)) (listed.setIfInBounds i true) (a.put o.dst v) W' := fun v W' h1 h2 => by
      rw [← hd]
      refine ih _ _ _ (inv_next hF ht hn (fun j hj => ?_) hI hi h1 h2) (hH.set hr him) ?_
      · by_cases e : j < m
        · exact (hop j _ e (Array.getElem?_eq_getElem hj)).2
        · exact hst j (Nat.le_of_not_lt e)
      have hls := hI.hls
      have hone : ∀ (l : List Nat), l.Nodup → (∀ x ∈ l, x < m) → l.countP (fun j => !listed.getD j true) = l.countP (fun j => !(listed.setIfInBounds i true).getD j true) + (if i ∈ l then 1 else 0) := by
        intro l
        induction l with
        | nil => intro _ _; simp
        | cons x l ihl =>
          intro hnd hlt
          have h3 := ihl (List.nodup_cons.1 hnd).2 (fun y hy => hlt y (by simp [hy]))
          rw [List.countP_cons, List.countP_cons, h3]
          by_cases e : i = x
          · subst e
            have hni : ¬ i ∈ l := (List.nodup_cons.1 hnd).1
            have hset : (listed.setIfInBounds i true).getD i true = true := by simp [hls, hi]
            rw [hset, h0]
            simp [hni]
          · rw [getD_set_ne true e]
            have : (i ∈ x :: l) ↔ (i ∈ l) := by simp [e]
            simp only [this]
            omega
      have h4 := hone (List.range m) List.nodup_range (fun x hx => List.mem_range.1 hx)
      rw [if_pos (List.mem_range.2 him)] at h4
      omega
    have hT := (hop i o him ho).1 W (slots a) hI.hle hkn hel (fun v W' => wpAny P .any ops Q (f + (ops.size - m)) (listed.setIfInBounds i true) (a.put o.dst v) W') hnext
    unfold wpOp
    simp only [ho]
    rw [wanted_in hF (by rw [hI.hsz, hn])]
    split
    · rename_i hw
      rw [if_pos hw] at hT
      refine .inl ?_
      unfold Oper.wp
      rw [eval_look]
      generalize (execOp (Td.look (slots a)) o).run P W = r at *
      cases r with
      | ok x w' =>
        cases x <;> simp only [Oper.upon, Upon] at hT ⊢
        case value u => exact hT
        case skip => exact hT
        case enter g args =>
          refine Calls.mono hT fun e w'' he => ?_
          obtain ⟨v, rfl, he⟩ := he
          exact he
        case row row args => exact Rows.mono hT fun u w'' he => he
      | halt x w' => simp only [Upon] at hT
    · rename_i hw
      rw [if_neg hw] at hT
      exact hT

def toldHead (P : Program) (ops : Array Oper) (Q : Exit → Act → World → Prop) (le : World → World → Prop) (w0 : World) (a : Act) (m : Nat) : List Oper → List Spec → List (Option Tmp × Spec) → Prop
  | [], _, env => ∀ W f, le w0 W → KnownAll W f env → wpList P ops Q (ops.toList.drop m) (lexIn f (ops.toList.take m) a) W
  | _ :: _, [], _ => False
  | o :: rest, V :: Vs, env => ToldOp P ops m le w0 a o V env ∧ Stays le V ∧ toldHead P ops Q le w0 a m rest Vs ((o.dst, V) :: env)

theorem head_is {w0 : World} {a : Act} {m : Nat} {o : Oper} {rest : List Oper} {Vs : List Spec} {env : List (Option Tmp × Spec)} {c : Value} (h1 : ToldOp P ops m le w0 a o (isV c) env) (h2 : toldHead P ops Q le w0 a m rest Vs ((o.dst, isV c) :: env)) :
    toldHead P ops Q le w0 a m (o :: rest) (isV c :: Vs) env := ⟨h1, stays_is, h2⟩

theorem head_at {w0 : World} {a : Act} {m : Nat} {o : Oper} {rest : List Oper} {V : Spec} {Vs : List Spec} {env : List (Option Tmp × Spec)} (hs : Stays le V) (h1 : ToldOp P ops m le w0 a o V env) (h2 : toldHead P ops Q le w0 a m rest Vs ((o.dst, V) :: env)) :
    toldHead P ops Q le w0 a m (o :: rest) (V :: Vs) env := ⟨h1, hs, h2⟩

theorem head_parts {w0 : World} {a : Act} {m : Nat} (Vs : List Spec) : ∀ (l : List Oper) (k : Nat), (∀ j, j < l.length → l[j]? = ops[k + j]?) →
    toldHead P ops Q le w0 a m l (Vs.drop k) (envAt ops (fun j => Vs.getD j (fun _ _ => False)) k) →
    (∀ i o, k ≤ i → i < k + l.length → ops[i]? = some o → ToldOp P ops m le w0 a o (Vs.getD i (fun _ _ => False)) (envAt ops (fun j => Vs.getD j (fun _ _ => False)) i) ∧ Stays le (Vs.getD i (fun _ _ => False))) ∧
    (∀ W f, le w0 W → KnownAll W f (envAt ops (fun j => Vs.getD j (fun _ _ => False)) (k + l.length)) → wpList P ops Q (ops.toList.drop m) (lexIn f (ops.toList.take m) a) W) := by
  intro l
  induction l with
  | nil =>
    intro k hl h
    exact ⟨fun i o hk hi ho => by simp at hi; omega, fun W f hW hE => h W f hW hE⟩
  | cons o l ih =>
    intro k hl h
    have ho : ops[k]? = some o := by simpa using (hl 0 (by simp)).symm
    have hd : dstAt ops k = o.dst := by unfold dstAt; rw [ho]; rfl
    cases hV : Vs.drop k with
    | nil => rw [hV] at h; exact h.elim
    | cons V Vs' =>
      rw [hV] at h
      obtain ⟨h1, h2, h3⟩ := h
      have hg : Vs.getD k (fun _ _ => False) = V := by
        rw [List.getD_eq_getElem?_getD]
        have : (Vs.drop k)[0]? = some V := by rw [hV]; rfl
        rw [List.getElem?_drop] at this
        simp only [Nat.add_zero] at this
        rw [this]; rfl
      have hV' : Vs.drop (k + 1) = Vs' := by
        rw [← List.drop_drop, hV]; rfl
      rw [← hV', ← hd, ← hg] at h3
      have h5 := ih (k + 1) (fun j hj => by have := hl (j + 1) (by simp; omega); simpa [Nat.add_assoc, Nat.add_comm 1 j] using this) h3
      refine ⟨fun i o' hk hi ho' => ?_, ?_⟩
      · rcases Nat.eq_or_lt_of_le hk with e | hlt
        · subst e
          rw [ho] at ho'
          cases ho'
          rw [hg]
          exact ⟨h1, h2⟩
        · exact h5.1 i o' hlt (by simp at hi; omega) ho'
      · have := h5.2
        rw [show k + 1 + l.length = k + (o :: l).length by simp; omega] at this
        exact this

theorem wp_region_told_list {id : Nat} {a : Act} {w : World} {n : Nat} (m : Nat) (Vs : List Spec) (hm : P.follows .mixedOrders = true) (hB : toldB n m ops = true) (hn : a.tmps.size = n)
    (hC : (decide (m < ops.size) && Region.sinkB .any ops m && Region.chainB .any ops m && Region.seqB .any ops (ops.size - m) m (firsts m (ops.size - m))) = true) (hlen : Vs.length = m)
    (ht : ∀ a b c, le a b → le b c → le a c) (hw : le w { w with drawn := w.drawn + 1 })
    (h : toldHead P ops Q le w a m (ops.toList.take m) Vs []) : (Code.region id ops true).wp P Q a w := by
  simp only [Bool.and_eq_true, decide_eq_true_eq] at hC
  obtain ⟨⟨⟨hmz, hsink⟩, hchain⟩, hseq⟩ := hC
  have hF := fine_of hB
  refine wp_region_any hm ?_
  have hlm : (ops.toList.take m).length = m := by rw [List.length_take, Array.length_toList]; omega
  have hp := head_parts (P := P) (ops := ops) (Q := Q) (le := le) (a := a) (w0 := w) (m := m) Vs (ops.toList.take m) 0 (fun j hj => by rw [Nat.zero_add, List.getElem?_take, if_pos (by omega), Array.getElem?_toList]) h
  rw [hlm] at hp
  have key := told_list_any (Q := Q) hF ht hn (Vs := fun j => Vs.getD j (fun _ _ => False)) hmz hsink hchain hseq (fun i o hi ho => hp.1 i o (Nat.zero_le _) (by omega) ho) (fun i hi W W' v _ h => by
    rw [List.getD_eq_getElem?_getD, List.getElem?_eq_none (by omega)] at h
    exact h.elim) (fun W f h1 h2 => by
      have := hp.2 W f h1 (by rw [Nat.zero_add]; exact h2)
      rwa [lexIn_take f a m (Nat.le_of_lt hmz)] at this) m (Array.replicate ops.size false) a _ ⟨hw, rfl, rfl, by simp, fun _ _ => rfl, fun i hi his => by simp [his] at hi⟩ ⟨by simp, (fun j oj hj hl => by rw [getD_replicate_false] at hl; cases hl), (fun t h1 h2 => by simp [h2])⟩ (by
      have : ∀ l : List Nat, (∀ x ∈ l, x < ops.size) → l.countP (fun i => !(Array.replicate ops.size false).getD i true) = l.length := fun l hl => by
        rw [List.countP_eq_length]
        intro x hx
        simp [hl x hx]
      rw [this _ (fun x hx => by have := List.mem_range.1 hx; omega), List.length_range])
  rw [show m + (ops.size - m) = ops.size by omega] at key
  exact key
end
end Go.Proofs.Ytkjjgbcbgjgjeaa.Td.Tm
/- The document's Num, Text, List, Nums: wires made. -/
namespace Go.Proofs.Ytkjjgbcbgjgjeaa.Dt
open Go Go.RowKit Go.Proofs.Ytkjjgbcbgjgjeaa.Mm Go.Proofs.Ytkjjgbcbgjgjeaa.Vw

set_option maxHeartbeats 4000000 in
set_option maxRecDepth 100000 in
theorem num1_any (n : Int) (w : World) : Calls Try.prog 52 #[.int .i64 n] w fun e w' => e = .returned (.agg #[.int .i64 1, .int .i64 n, .string ⟨#[]⟩, .slice none 0 0]) ∧ w.grownBy w' none := by
  go_enter Try.func52, Try.ntmps52
  go_wp2_with fail
  exact bodyPost_ret (results_cell_row rfl _ _ w.heap.size 72 _ (0, 0) _ rfl (Row.new w 72 #[.int .i64 1, .int .i64 n, .string ⟨#[]⟩, .slice none 0 0]) Try.underlying72 rfl (by kernel_rfl)) rfl ⟨rfl, gb_alloc (gb_refl _ _) _⟩
set_option maxHeartbeats 4000000 in
set_option maxRecDepth 100000 in
theorem text1_any (s : ByteArray) (w : World) : Calls Try.prog 53 #[.string s] w fun e w' => e = .returned (.agg #[.int .i64 2, .int .i64 0, .string s, .slice none 0 0]) ∧ w.grownBy w' none := by
  go_enter Try.func53, Try.ntmps53
  go_wp2_with fail
  exact bodyPost_ret (results_cell_row rfl _ _ w.heap.size 72 _ (0, 0) _ rfl (Row.new w 72 #[.int .i64 2, .int .i64 0, .string s, .slice none 0 0]) Try.underlying72 rfl (by kernel_rfl)) rfl ⟨rfl, gb_alloc (gb_refl _ _) _⟩
set_option maxHeartbeats 4000000 in
set_option maxRecDepth 100000 in
theorem list1_any (A : Option Addr) (n c : Nat) (w : World) : Calls Try.prog 51 #[.slice A n c] w fun e w' => e = .returned (.agg #[.int .i64 3, .int .i64 0, .string ⟨#[]⟩, .slice A n c]) ∧ w.grownBy w' none := by
  go_enter Try.func51, Try.ntmps51
  go_wp2_with fail
  exact bodyPost_ret (results_cell_row rfl _ _ w.heap.size 72 _ (0, 0) _ rfl (Row.new w 72 #[.int .i64 3, .int .i64 0, .string ⟨#[]⟩, .slice A n c]) Try.underlying72 rfl (by kernel_rfl)) rfl ⟨rfl, gb_alloc (gb_refl _ _) _⟩
/-- A number as a wire. -/
def nW (n : Int) : Wr := .mk 1 n ⟨#[]⟩ []
def tW (s : ByteArray) : Wr := .mk 2 0 s []
def lW (l : List Wr) : Wr := .mk 3 0 ⟨#[]⟩ l
def nps (l : List Int) : List (Wr × Value) := l.map fun z => (nW z, .slice none 0 0)
theorem nps_fst (l : List Int) : (nps l).map Prod.fst = l.map nW := by unfold nps; rw [List.map_map]; rfl
/-- A list of numbers, told. -/
def ListV (l : List Wr) (w : World) (e : Ending) (w' : World) : Prop := ∃ A c, e = .returned (.agg #[.int .i64 3, .int .i64 0, .string ⟨#[]⟩, .slice A l.length c]) ∧ HL w' w.heap.size (.slice A l.length c) l ∧ w.grownBy w' none
theorem own_HL {B : Nat} {v : Value} {ps : List (Wr × Value)} {w : World} (h : Own B v ps w) (hn : ps.length ≤ 1099511627776) (hp : ∀ p ∈ ps, HL w B p.2 p.1.l) : HL w B v (ps.map Prod.fst) := by
  have hcells := fun (g : Nat) (hg : v.ownBlock = some g) => World.ownsRow.cells h hg
  rcases h.2 with ⟨rfl, h0⟩ | ⟨g, cap, cur, rfl, hB, hg, _⟩
  · rw [List.length_eq_zero_iff.1 h0]; exact .nil _ _
  · have hc : ∀ j u, (flat ps)[j]? = some u → w.cell? ⟨g, 0 + j, none⟩ = some u := fun j u hu => by
      have := hcells g rfl j u hu
      have hadd : (⟨g, 0, none⟩ : Addr).add j = ⟨g, 0 + j, none⟩ := by unfold Addr.add; split <;> simp_all
      rwa [hadd] at this
    have hl : (ps.map Prod.fst).length = ps.length := List.length_map _
    have key : ∀ (i : Nat) (x : Wr), (ps.map Prod.fst)[i]? = some x → ∃ p : Wr × Value, ps[i]? = some p ∧ p.1 = x := fun i x hx => by
      rw [List.getElem?_map] at hx
      obtain ⟨p, h1, h2⟩ := Option.map_eq_some_iff.1 hx
      exact ⟨p, h1, h2⟩
    rw [← hl]
    refine .row g 0 cap _ (fun i => match ps[i]? with | some p => p.2 | none => .nilIface) hB (Array.getElem?_eq_some_iff.1 hg).1 (by rw [hl]; exact hn) ?_ ?_ ?_ ?_ ?_
    · intro i x hx; obtain ⟨p, h1, rfl⟩ := key i x hx; exact hc _ _ (flat_get ps i p h1).1
    · intro i x hx; obtain ⟨p, h1, rfl⟩ := key i x hx; exact hc _ _ (flat_get ps i p h1).2.1
    · intro i x hx; obtain ⟨p, h1, rfl⟩ := key i x hx; exact hc _ _ (flat_get ps i p h1).2.2.1
    · intro i x hx; obtain ⟨p, h1, rfl⟩ := key i x hx; simp only [h1]; exact hc _ _ (flat_get ps i p h1).2.2.2
    · intro i x hx; obtain ⟨p, h1, rfl⟩ := key i x hx; simp only [h1]; exact hp p (List.mem_of_getElem? h1)
set_option maxHeartbeats 8000000 in
set_option maxRecDepth 100000 in
theorem nums3_any (g : Nat) (a b c : Int) (w : World) (hr : Row w g 3 #[.int .i64 a, .int .i64 b, .int .i64 c]) :
    Calls Try.prog 50 #[.slice (some ⟨g, 0, none⟩) 3 3] w (ListV [nW a, nW b, nW c] w) := by
  obtain ⟨h0, hh0⟩ : ∃ h0, w.heap.size = h0 := ⟨_, rfl⟩
  obtain ⟨W0, hW0⟩ : ∃ W0, w.alloc (.cells #[.int .i64 0, .int .i64 0, .string ⟨#[]⟩, .slice none 0 0] 72) = W0 := ⟨_, rfl⟩
  have G0 : w.grownBy W0 none := by rw [← hW0]; exact gb_alloc (gb_refl _ _) _
  have HG := Lib.hid G0
  have HR0 : Hid (Row W0 h0 72 #[.int .i64 0, .int .i64 0, .string ⟨#[]⟩, .slice none 0 0]) := by rw [← hW0, ← hh0]; exact Row.new _ _ _
  have HR := Lib.hid (hr.kept G0 (by simp))
  have Hh0 : Hid (w.heap.size ≤ h0 ∧ W0.heap.size = h0 + 1) := ⟨by omega, by rw [← hW0, World.size_alloc, hh0]⟩
  obtain ⟨iW, hi, hz, hs4, hb56⟩ := wire_parts
  have Hi := Lib.hid hi
  have Hz := Lib.hid hz
  have Hs4 := Lib.hid hs4
  have Hb56 := Lib.hid hb56
  clear hi hz hs4 hb56 hr G0
  go_enter Try.func50, Try.ntmps50
  go_upto_region 1 with fail
  clear hW0 hh0
  go_wp2_with fail
  go_loopw [3, 4] (fun ov iv wr => ∃ k : Nat, k ≤ 3 ∧ iv = .int .i64 k ∧ Hid (Own (h0 + 1) ov (nps ([a, b, c].take k)) wr) ∧ W0.grownBy wr none) (fun _ iv _ => 3 - (intOf iv).toNat)
  case atStart => exact ⟨0, by omega, rfl, Own.nil _ _, gb_refl _ _⟩
  case round =>
    rename_i u3
    obtain ⟨k, hk, rfl, Ho, hg⟩ := hrel
    by_cases hlt : k < 3
    · have d1 : decide (k < 3) = true := decide_eq_true hlt
      have d2 : decide ((k : Int) < 3) = true := decide_eq_true (by omega)
      have b0 : (k : Int) < 3 := by omega
      obtain ⟨z, hz⟩ : ∃ z, [a, b, c][k]? = some z := ⟨_, List.getElem?_eq_getElem (by simpa using hlt)⟩
      have hcell : wr.cell? ⟨g, k, none⟩ = some (.int .i64 z) := by
        have h := HR.out.kept hg (by simp)
        match k, hlt, hz with
        | 0, _, hz => cases hz; exact h.at_ (i := 0) rfl
        | 1, _, hz => cases hz; exact h.at_ (i := 1) rfl
        | 2, _, hz => cases hz; exact h.at_ (i := 2) rfl
      have hnx : nps ([a, b, c].take (k + 1)) = nps ([a, b, c].take k) ++ [(nW z, .slice none 0 0)] := by
        rw [List.take_add_one, hz]; unfold nps; rw [List.map_append]; rfl
      have hlen : (nps ([a, b, c].take k)).length = k := by unfold nps; rw [List.length_map, List.length_take]; simp; omega
      have Hnx := Lib.hid hnx
      have Hlen := Lib.hid hlen
      have Hg := Lib.hid hg
      have Hlt := Lib.hid hlt
      have t1 : IntKind.i64.wrap ((k : Int) + 1) = ((k + 1 : Nat) : Int) := by rw [IntKind.wrap_i64]; omega
      have HNum : Hid (∀ W, Calls Try.prog 52 #[.int .i64 z] W fun e w' => e = .returned (.agg #[.int .i64 1, .int .i64 z, .string ⟨#[]⟩, .slice none 0 0]) ∧ W.grownBy w' none) := fun W => num1_any z W
      clear hz hnx hlen hg hlt hk
      go_wp2_with (first
        | (go_at_call 52; refine (HNum.out wr).mono ?_; rintro e w2 ⟨rfl, g2⟩; have Hg2 := Lib.hid (gb_none Hg.out g2); have Ho2 : Hid (Own (h0 + 1) u3 (nps ([a, b, c].take k)) (w2.alloc (.cells #[.int .i64 1, .int .i64 z, .string ⟨#[]⟩, .slice none 0 0] 72))) := (Ho.out.kept g2).kept (gb_alloc (gb_refl _ _) _); have hgs : h0 + 1 ≤ w2.heap.size := (by have h1 := Hg2.out.size; have h2 := Hh0.out.2; omega); clear g2)
        | (at_builtin; refine wpList_append_own_at _ rfl (.tmp 11) (.tmp 17) 70 rfl (h0 + 1) 72 iW (.agg #[.int .i64 0, .int .i64 0, .string ⟨#[]⟩, .slice none 0 0]) 4 56 Try.underlying70 Hi.out Hz.out Hs4.out Hb56.out rfl (by decide) _ (nps ([a, b, c].take k)).length _ rfl Ho2.out ⟨w2.heap.size, 0, none⟩ 1 1 [.int .i64 1, .int .i64 z, .string ⟨#[]⟩, .slice none 0 0] rfl rfl (cells4 _ _ _ _ _) (one4 _ _ _ _ _ _) (by have := Hlen.out; have := Hlt.out; simp only [maxLen]; omega) (by have := Hlen.out; have := Hlt.out; omega) (by rw [World.size_alloc]; omega) ?_; intro v' w' own' grow' _ hat; obtain ⟨vA, vn, vc, rfl⟩ := own_slice4 own'; have Hown : Hid (Own (h0 + 1) (.slice vA vn vc) (nps ([a, b, c].take (k + 1))) w') := (by show World.ownsRow _ _ _ _ _ _ _; rw [Hnx.out, flat_snoc, List.length_append]; exact own'); have Hg3 : Hid (W0.grownBy w' none) := gb_step (gb_alloc Hg2.out _) grow' (fun i e => .inr (by have h1 := (Ho2.out.lt i e).1; have h2 := Hh0.out.2; omega)); clear own' grow' hat))
      go_roundw
      case rel => exact ⟨k + 1, by have := Hlt.out; omega, rfl, Hown, Hg3.out⟩
      case measure => simp [intOf]; have := Hlt.out; omega
    · have hk3 : k = 3 := by omega
      subst hk3
      have d1 : decide (3 < 3) = false := by decide
      have d2 : decide ((3 : Int) < 3) = false := by decide
      obtain ⟨A, cc, rfl⟩ := Ho.out.slice
      have Hh : Hid (HL wr (h0 + 1) (.slice A 3 cc) [nW a, nW b, nW c]) := own_HL Ho.out (by unfold nps; simp) (fun p hp => by
        obtain ⟨z, _, rfl⟩ := List.mem_map.1 hp
        exact .nil _ _)
      have Hg := Lib.hid hg
      have Hrow := Lib.hid (HR0.out.kept hg (by simp))
      clear hk hlt hg Ho
      go_wp2_with (go_at_call 51; refine (list1_any A 3 cc wr).mono ?_; rintro e w2 ⟨rfl, g2⟩; have hr := Hrow.out.kept g2 (by simp); have q0 := hr.free 0; have q1 := hr.free 1; have q2 := hr.free 2; have q3 := hr.free 3; have e0 := hr.at_ (i := 0) rfl; have e1 := hr.at_ (i := 1) rfl; have e2 := hr.at_ (i := 2) rfl; have e3 := hr.at_ (i := 3) rfl; have Hr := Lib.hid hr; have Hg2 := Lib.hid g2; clear hr g2)
      have k0 := gb_set1 w2 h0 0 (.int .i64 3)
      have r0 := Hr.out.set_ 0 (.int .i64 3)
      have r3 := ((r0.set_ 1 (.int .i64 0)).set_ 2 (.string ⟨#[]⟩)).set_ 3 (.slice A 3 cc)
      have kk : w2.grownBy ((((w2.setCell ⟨h0, 0, none⟩ (.int .i64 3)).setCell ⟨h0, 1, none⟩ (.int .i64 0)).setCell ⟨h0, 2, none⟩ (.string ⟨#[]⟩)).setCell ⟨h0, 3, none⟩ (.slice A 3 cc)) (some h0) := gb_then (gb_then (gb_then k0 (gb_set1 _ _ _ _)) (gb_set1 _ _ _ _)) (gb_set1 _ _ _ _)
      exact bodyPost_ret (results_cell_row rfl _ _ h0 72 _ (0, 0) _ rfl r3 Try.underlying72 rfl (by kernel_rfl)) rfl ⟨A, cc, rfl, ((Hh.out.kept Hg2.out).grown kk (fun i e => by have := Option.some.inj e; omega)).low (by have := Hh0.out.1; omega), gb_new (gb_none (gb_none HG.out Hg.out) Hg2.out) kk Hh0.out.1⟩
end Go.Proofs.Ytkjjgbcbgjgjeaa.Dt
/- The document's PutState: a state as bytes. -/
namespace Go.Proofs.Ytkjjgbcbgjgjeaa.Dt
open Go Go.RowKit Go.Proofs.Ytkjjgbcbgjgjeaa.Mm Go.Proofs.Ytkjjgbcbgjgjeaa.Vw Go.Proofs.Ytkjjgbcbgjgjeaa.Td

def runW (r : Rn) : Wr := lW [nW r.d, nW r.f, nW r.t]
def factL (f : Fc) : List Wr := [nW f.d, nW f.n, tW f.key, nW f.kind, tW f.item, nW f.v]
def factW (f : Fc) : Wr := lW (factL f)
/-- A state as a wire. -/
def stW (s : St) : Wr := lW [lW (s.seen.map runW), lW (s.facts.map factW)]
def intsV (x : Rn) : Td.Spec := fun W v => ∃ g, v = .slice (some ⟨g, 0, none⟩) 3 3 ∧ Row W g 3 #[.int .i64 x.d, .int .i64 x.f, .int .i64 x.t]
theorem intsV_stays {x : Rn} : Stays (fun a b => a.grownBy b none) (intsV x) := fun _ _ _ h ⟨g, e, hr⟩ => ⟨g, e, hr.kept h (by simp)⟩
def wireV (N : Nat) (l : List Wr) : Td.Spec := fun W v => ∃ A n c, v = .agg #[.int .i64 3, .int .i64 0, .string ⟨#[]⟩, .slice A n c] ∧ HL W N (.slice A n c) l
theorem wireV_stays {N : Nat} {l : List Wr} : Stays (fun a b => a.grownBy b none) (wireV N l) := fun _ _ _ h ⟨A, n, c, e, hr⟩ => ⟨A, n, c, e, hr.kept h⟩
def rowV (N : Nat) (l : List Wr) : Td.Spec := fun W v => ∃ g A n c, v = .slice (some ⟨g, 0, none⟩) 1 1 ∧ Row W g 72 #[.int .i64 3, .int .i64 0, .string ⟨#[]⟩, .slice A n c] ∧ HL W N (.slice A n c) l
theorem rowV_stays {N : Nat} {l : List Wr} : Stays (fun a b => a.grownBy b none) (rowV N l) := fun _ _ _ h ⟨g, A, n, c, e, hr, hl⟩ => ⟨g, A, n, c, e, hr.kept h (by simp), hl.kept h⟩
def sixV (N : Nat) (l : List Wr) : Td.Spec := fun W v => ∃ g, v = .slice (some ⟨g, 0, none⟩) 6 6 ∧ HL W N (.slice (some ⟨g, 0, none⟩) 6 6) l
theorem sixV_stays {N : Nat} {l : List Wr} : Stays (fun a b => a.grownBy b none) (sixV N l) := fun _ _ _ h ⟨g, e, hl⟩ => ⟨g, e, hl.kept h⟩
theorem hl_new (w : World) (ps : List (Wr × Value)) (n : Nat) (cs : Array Value) (hn : ps.length = n) (hc : cs.toList = flat ps) (h0 : n ≤ 1000) (hp : ∀ q ∈ ps, HL (w.alloc (.cells cs 72)) w.heap.size q.2 q.1.l) : HL (w.alloc (.cells cs 72)) w.heap.size (.slice (some ⟨w.heap.size, 0, none⟩) n n) (ps.map Prod.fst) := by
  have hl : cs.size = n * 4 := by rw [← Array.length_toList, hc, flat_len, hn]
  refine own_HL (B := w.heap.size) ⟨by rw [flat_len], .inr ⟨w.heap.size, n, cs, by rw [hn], Nat.le_refl _, heap_alloc_new w _, by omega, by simp only [maxLen]; omega, hl, ?_⟩⟩ (by omega) hp
  rw [hc, List.take_of_length_le (by rw [flat_len]; exact Nat.le_refl _)]
theorem hl_six (x : Fc) (w : World) : HL (w.alloc (.cells #[.int .i64 1, .int .i64 x.d, .string ⟨#[]⟩, .slice none 0 0, .int .i64 1, .int .i64 x.n, .string ⟨#[]⟩, .slice none 0 0, .int .i64 2, .int .i64 0, .string x.key, .slice none 0 0, .int .i64 1, .int .i64 x.kind, .string ⟨#[]⟩, .slice none 0 0, .int .i64 2, .int .i64 0, .string x.item, .slice none 0 0, .int .i64 1, .int .i64 x.v, .string ⟨#[]⟩, .slice none 0 0] 72)) w.heap.size (.slice (some ⟨w.heap.size, 0, none⟩) 6 6) (factL x) :=
  hl_new w [(nW x.d, .slice none 0 0), (nW x.n, .slice none 0 0), (tW x.key, .slice none 0 0), (nW x.kind, .slice none 0 0), (tW x.item, .slice none 0 0), (nW x.v, .slice none 0 0)] 6 _ rfl rfl (by decide) (fun q hq => by
    simp only [List.mem_cons, List.not_mem_nil, or_false] at hq
    rcases hq with rfl | rfl | rfl | rfl | rfl | rfl <;> exact .nil _ _)
theorem hl_two (w : World) {A1 A2 : Option Addr} {n1 c1 n2 c2 : Nat} {l1 l2 : List Wr} (h1 : HL w 0 (.slice A1 n1 c1) l1) (h2 : HL w 0 (.slice A2 n2 c2) l2) : HL (w.alloc (.cells #[.int .i64 3, .int .i64 0, .string ⟨#[]⟩, .slice A1 n1 c1, .int .i64 3, .int .i64 0, .string ⟨#[]⟩, .slice A2 n2 c2] 72)) 0 (.slice (some ⟨w.heap.size, 0, none⟩) 2 2) [lW l1, lW l2] := by
  have hg := gb_alloc (gb_refl w none) (.cells #[.int .i64 3, .int .i64 0, .string ⟨#[]⟩, .slice A1 n1 c1, .int .i64 3, .int .i64 0, .string ⟨#[]⟩, .slice A2 n2 c2] 72)
  have ho : Own 0 (.slice (some ⟨w.heap.size, 0, none⟩) 2 2) [(lW l1, .slice A1 n1 c1), (lW l2, .slice A2 n2 c2)] (w.alloc (.cells #[.int .i64 3, .int .i64 0, .string ⟨#[]⟩, .slice A1 n1 c1, .int .i64 3, .int .i64 0, .string ⟨#[]⟩, .slice A2 n2 c2] 72)) := ⟨rfl, .inr ⟨w.heap.size, 2, _, rfl, Nat.zero_le _, heap_alloc_new w _, Nat.le_refl _, by decide, rfl, rfl⟩⟩
  exact own_HL ho (by simp) (fun q hq => by
    simp only [List.mem_cons, List.not_mem_nil, or_false] at hq
    rcases hq with rfl | rfl
    · exact h1.kept hg
    · exact h2.kept hg)
theorem encs_le {C : Nat} : ∀ {xs : List Wr}, (∀ x ∈ xs, x.enc.length ≤ C) → (encs xs).length ≤ C * xs.length
  | [], _ => by simp [encs_nil]
  | x :: xs, h => by
    have h1 := h x (by simp)
    have h2 := encs_le (xs := xs) fun y hy => h y (by simp [hy])
    rw [encs_cons, List.length_append, List.length_cons, Nat.mul_succ]; omega
theorem nW_len (n : Int) : (nW n).enc.length = 9 := rfl
theorem tW_len (s : ByteArray) : (tW s).enc.length = 5 + s.size := by
  unfold tW; rw [enc_mk, if_neg (by decide), if_pos rfl]; simp [highs_len]; omega
theorem lW_len (l : List Wr) : (lW l).enc.length = 5 + (encs l).length := lst_len l
theorem st_len {s : St} (hm : MayS s) (hp : s.seen.length ≤ 10000) : (stW s).enc.length ≤ 1099511627776 := by
  have h1 : (encs (s.seen.map runW)).length ≤ 32 * (s.seen.map runW).length := encs_le fun x hx => by
    obtain ⟨r, _, rfl⟩ := List.mem_map.1 hx
    unfold runW
    rw [lW_len, encs_cons, encs_cons, encs_cons, encs_nil]
    simp only [List.length_append, nW_len, List.length_nil]; omega
  have h2 : (encs (s.facts.map factW)).length ≤ 300 * (s.facts.map factW).length := encs_le fun x hx => by
    obtain ⟨f, hf, rfl⟩ := List.mem_map.1 hx
    have hr := (hm.2.2.1 f hf).1
    unfold RightF at hr
    unfold factW factL
    rw [lW_len, encs_cons, encs_cons, encs_cons, encs_cons, encs_cons, encs_cons, encs_nil]
    simp only [List.length_append, nW_len, tW_len, List.length_nil]; omega
  have h3 := hm.2.1
  rw [List.length_map] at h1 h2
  unfold stW
  rw [lW_len, encs_cons, encs_cons, encs_nil, List.length_append, List.length_append, lW_len, lW_len, List.length_nil]
  omega
attribute [local go_sem] Td.upon_value Td.upon_skip Td.upon_enter Td.upon_row Td.look_tmp Td.look_const Td.look_func Td.look_global
set_option maxHeartbeats 40000000 in
set_option maxRecDepth 100000 in
theorem putState_any (A B : Option Addr) (p c n d : Nat) (s : St) (w : World) (hs : SL w A p B n s) (hm : MayS s) (hp : p ≤ 10000) :
    Calls Try.prog 27 #[.agg #[.slice A p c, .slice B n d]] w fun e w' => e = .returned (.string (stW s).bytes) ∧ w.grownBy w' none := by
  obtain ⟨h0, hh0⟩ : ∃ h0, w.heap.size = h0 := ⟨_, rfl⟩
  obtain ⟨W0, hW0⟩ : ∃ W0, w.alloc (.cells #[.slice A p c, .slice B n d] 26) = W0 := ⟨_, rfl⟩
  have G0 : w.grownBy W0 none := by rw [← hW0]; exact gb_alloc (gb_refl _ _) _
  have hr0 : Row W0 h0 26 #[.slice A p c, .slice B n d] := by rw [← hW0, ← hh0]; exact Row.new _ _ _
  have HC : Hid (∀ W, W0.grownBy W none → W.cell? ⟨h0, 0, none⟩ = some (.slice A p c) ∧ W.cell? ⟨h0, 1, none⟩ = some (.slice B n d)) := fun W hW => ⟨(hr0.kept hW (by simp)).at_ (i := 0) rfl, (hr0.kept hW (by simp)).at_ (i := 1) rfl⟩
  have HG := Lib.hid G0
  have Hs := Lib.hid (hs.keep G0)
  have Hpn : Hid (p ≤ 10000 ∧ n ≤ 400) := ⟨hp, by rw [← hs.2.1]; exact hm.2.1⟩
  have Henc := Lib.hid (st_len hm (by rw [hs.1.1]; exact hp))
  have HMy : Hid (Calls Try.prog 20 #[.agg #[.slice A p c, .slice B n d]] W0 fun e w' => e = .returned (.bool true) ∧ W0.grownBy w' none) := (refMayS_any A B p c n d s W0 (hs.keep G0) (by omega) (by have := Hpn.out; omega)).mono fun e w' hh => hh.yes hm
  obtain ⟨h1, hh1⟩ : ∃ h1, W0.heap.size = h1 := ⟨_, rfl⟩
  have Hb0 : Hid (W0.heap.size ≤ h1 ∧ h1 ≤ W0.heap.size) := ⟨by omega, by omega⟩
  obtain ⟨y0, y1⟩ := HC.out W0 (gb_refl _ _)
  obtain ⟨iW, hi, hz, hs4, hb56⟩ := wire_parts
  have Hi := Lib.hid hi
  have Hz := Lib.hid hz
  have Hs4 := Lib.hid hs4
  have Hb56 := Lib.hid hb56
  clear hi hz hs4 hb56
  clear hr0 hs hm hp G0 hh1
  go_enter Try.func27, Try.ntmps27
  go_upto_region 1 with fail
  clear hW0 hh0
  go_wp2_with (go_at_call 20; refine HMy.out.mono ?_; rintro e w1 ⟨rfl, g1⟩)
  have Hg1 := Lib.hid g1
  clear g1 y0 y1
  go_loopw [3, 5] (fun rv iv wr => ∃ (k : Nat) (ps : List (Wr × Value)) (u : Value), u = rv ∧ k ≤ p ∧ iv = .int .i64 k ∧ Hid (Own h1 rv ps wr) ∧ Hid (ps.length = k ∧ ps.map Prod.fst = (s.seen.take k).map runW) ∧ Hid (∀ q ∈ ps, HP wr (Off rv) q.2 q.1.l) ∧ W0.grownBy wr none) (fun _ iv _ => p - (intOf iv).toNat)
  case atStart => exact ⟨0, [], _, rfl, Nat.zero_le _, rfl, Own.nil _ _, ⟨rfl, rfl⟩, fun q hq => (by cases hq), Hg1.out⟩
  case round =>
    obtain ⟨k, ps, u, rfl, hk, rfl, Ho, Hm, Hps, hg⟩ := hrel
    obtain ⟨y0, y1⟩ := HC.out wr hg
    by_cases hlt : k < p
    · have d1 : decide (k < p) = true := decide_eq_true hlt
      have d2 : decide ((k : Int) < (p : Int)) = true := decide_eq_true (by omega)
      obtain ⟨x, hx⟩ : ∃ x, s.seen[k]? = some x := ⟨_, List.getElem?_eq_getElem (by rw [Hs.out.1.1]; exact hlt)⟩
      obtain ⟨gB, oB, eA, hgB, hcc⟩ := (Hs.out.1.keep hg).2 (by omega)
      subst eA
      have hc3 := hcc k x hx
      have HX : Hid (∀ W, wr.grownBy W none → W.cell? ⟨gB, oB + k * 3, none⟩ = some (.int .i64 x.d) ∧ W.cell? ⟨gB, oB + k * 3 + 1, none⟩ = some (.int .i64 x.f) ∧ W.cell? ⟨gB, oB + k * 3 + 2, none⟩ = some (.int .i64 x.t)) := fun W hW => by
        have hb := hW.block gB hgB (by simp)
        exact ⟨(World.cell?_of_block (a := ⟨gB, oB + k * 3, none⟩) hb).trans hc3.1, (World.cell?_of_block (a := ⟨gB, oB + k * 3 + 1, none⟩) hb).trans hc3.2.1, (World.cell?_of_block (a := ⟨gB, oB + k * 3 + 2, none⟩) hb).trans hc3.2.2⟩
      have HBk : Hid ((k : Int) < (p : Int)) := by show _ < _; omega
      have Hg := Lib.hid hg
      have Hlt := Lib.hid hlt
      have Hlen : Hid (ps.length ≤ 10000) := by have h1 := Hm.out.1; have h2 := Hpn.out; show _ ≤ _; omega
      have Hnx : Hid ((ps ++ [(lW [nW x.d, nW x.f, nW x.t], Value.nilIface)]).map Prod.fst = (s.seen.take (k + 1)).map runW) := by
        show _ = _
        rw [List.map_append, Hm.out.2, List.take_add_one, hx, List.map_append]; rfl
      have Ht1 : Hid (IntKind.i64.wrap ((k : Int) + 1) = ((k + 1 : Nat) : Int)) := by show _ = _; rw [IntKind.wrap_i64]; have := Hpn.out; omega
      have t1 := Ht1.out
      clear hk hlt hx hgB hcc hc3 hg
      go_upto_region 7 with fail
      clear d1 d2 y0 y1
      apply Tm.wp_region_told_list (le := fun a b => a.grownBy b none) 22 [isV _, isV _, isV _, isV _, isV _, isV _, isV _, isV _, isV _, isV _, isV _, isV _, isV _, isV _, isV _, isV _, isV _, isV _, isV _, intsV x, wireV wr.heap.size [nW x.d, nW x.f, nW x.t], rowV wr.heap.size [nW x.d, nW x.f, nW x.t]]
      case hC => kernel_rfl
      case hlen => rfl
      case hn => rfl
      case hm => kernel_rfl
      case hB => kernel_rfl
      case ht => exact fun _ _ _ h k => gb_none h k
      case hw => exact gb_drew (gb_refl _ _)
      -- 0: ref.go:391 move
      apply Tm.head_is
      · intro W f hW hE h0 K hK
        have e3 := h0 3 (by kernel_rfl)
        conv at e3 => rhs; whnf
        clear hE h0
        refine yes_of (want_free rfl) ?_
        go_simp; exact hK _ _ (gb_refl _ _) rfl
      -- 1: ref.go:391 fieldAddr
      apply Tm.head_is
      · intro W f hW hE h0 K hK
        have e1 := h0 1 (by kernel_rfl)
        conv at e1 => rhs; whnf
        clear hE h0
        refine yes_of (want_free rfl) ?_
        go_simp; exact hK _ _ (gb_refl _ _) rfl
      -- 2: ref.go:391 load
      apply Tm.head_is
      · intro W f hW hE h0 K hK
        have e19 : f 19 = _ := hE 0 19 _ rfl (by kernel_rfl)
        clear hE h0
        refine yes_of (want_free rfl) ?_
        obtain ⟨z0, z1⟩ := HC.out W (gb_none Hg.out hW)
        go_simp; exact hK _ _ (gb_refl _ _) rfl
      -- 3: ref.go:391 move
      apply Tm.head_is
      · intro W f hW hE h0 K hK
        have e5 := h0 5 (by kernel_rfl)
        conv at e5 => rhs; whnf
        clear hE h0
        refine yes_of (want_free rfl) ?_
        go_simp; exact hK _ _ (gb_refl _ _) rfl
      -- 4: ref.go:391 indexAddr
      apply Tm.head_is
      · intro W f hW hE h0 K hK
        have e20 : f 20 = _ := hE 1 20 _ rfl (by kernel_rfl)
        have e21 : f 21 = _ := hE 0 21 _ rfl (by kernel_rfl)
        clear hE h0
        refine yes_of (want_free rfl) ?_
        have b0 := HBk.out
        go_simp; exact hK _ _ (gb_refl _ _) rfl
      -- 5: ref.go:391 fieldAddr
      apply Tm.head_is
      · intro W f hW hE h0 K hK
        have e22 : f 22 = _ := hE 0 22 _ rfl (by kernel_rfl)
        clear hE h0
        refine yes_of (want_free rfl) ?_
        go_simp; exact hK _ _ (gb_refl _ _) rfl
      -- 6: ref.go:391 load
      apply Tm.head_is
      · intro W f hW hE h0 K hK
        have e23 : f 23 = _ := hE 0 23 _ rfl (by kernel_rfl)
        clear hE h0
        refine yes_of (want_free rfl) ?_
        obtain ⟨c0, c1, c2⟩ := HX.out W hW
        go_simp; exact hK _ _ (gb_refl _ _) rfl
      -- 7: ref.go:391 fieldAddr
      apply Tm.head_is
      · intro W f hW hE h0 K hK
        have e1 := h0 1 (by kernel_rfl)
        conv at e1 => rhs; whnf
        clear hE h0
        refine yes_of (want_free rfl) ?_
        go_simp; exact hK _ _ (gb_refl _ _) rfl
      -- 8: ref.go:391 load
      apply Tm.head_is
      · intro W f hW hE h0 K hK
        have e25 : f 25 = _ := hE 0 25 _ rfl (by kernel_rfl)
        clear hE h0
        refine yes_of (want_free rfl) ?_
        obtain ⟨z0, z1⟩ := HC.out W (gb_none Hg.out hW)
        go_simp; exact hK _ _ (gb_refl _ _) rfl
      -- 9: ref.go:391 move
      apply Tm.head_is
      · intro W f hW hE h0 K hK
        have e5 := h0 5 (by kernel_rfl)
        conv at e5 => rhs; whnf
        clear hE h0
        refine yes_of (want_free rfl) ?_
        go_simp; exact hK _ _ (gb_refl _ _) rfl
      -- 10: ref.go:391 indexAddr
      apply Tm.head_is
      · intro W f hW hE h0 K hK
        have e26 : f 26 = _ := hE 1 26 _ rfl (by kernel_rfl)
        have e27 : f 27 = _ := hE 0 27 _ rfl (by kernel_rfl)
        clear hE h0
        refine yes_of (want_free rfl) ?_
        have b0 := HBk.out
        go_simp; exact hK _ _ (gb_refl _ _) rfl
      -- 11: ref.go:391 fieldAddr
      apply Tm.head_is
      · intro W f hW hE h0 K hK
        have e28 : f 28 = _ := hE 0 28 _ rfl (by kernel_rfl)
        clear hE h0
        refine yes_of (want_free rfl) ?_
        go_simp; exact hK _ _ (gb_refl _ _) rfl
      -- 12: ref.go:391 load
      apply Tm.head_is
      · intro W f hW hE h0 K hK
        have e29 : f 29 = _ := hE 0 29 _ rfl (by kernel_rfl)
        clear hE h0
        refine yes_of (want_free rfl) ?_
        obtain ⟨c0, c1, c2⟩ := HX.out W hW
        go_simp; exact hK _ _ (gb_refl _ _) rfl
      -- 13: ref.go:391 fieldAddr
      apply Tm.head_is
      · intro W f hW hE h0 K hK
        have e1 := h0 1 (by kernel_rfl)
        conv at e1 => rhs; whnf
        clear hE h0
        refine yes_of (want_free rfl) ?_
        go_simp; exact hK _ _ (gb_refl _ _) rfl
      -- 14: ref.go:391 load
      apply Tm.head_is
      · intro W f hW hE h0 K hK
        have e31 : f 31 = _ := hE 0 31 _ rfl (by kernel_rfl)
        clear hE h0
        refine yes_of (want_free rfl) ?_
        obtain ⟨z0, z1⟩ := HC.out W (gb_none Hg.out hW)
        go_simp; exact hK _ _ (gb_refl _ _) rfl
      -- 15: ref.go:391 move
      apply Tm.head_is
      · intro W f hW hE h0 K hK
        have e5 := h0 5 (by kernel_rfl)
        conv at e5 => rhs; whnf
        clear hE h0
        refine yes_of (want_free rfl) ?_
        go_simp; exact hK _ _ (gb_refl _ _) rfl
      -- 16: ref.go:391 indexAddr
      apply Tm.head_is
      · intro W f hW hE h0 K hK
        have e32 : f 32 = _ := hE 1 32 _ rfl (by kernel_rfl)
        have e33 : f 33 = _ := hE 0 33 _ rfl (by kernel_rfl)
        clear hE h0
        refine yes_of (want_free rfl) ?_
        have b0 := HBk.out
        go_simp; exact hK _ _ (gb_refl _ _) rfl
      -- 17: ref.go:391 fieldAddr
      apply Tm.head_is
      · intro W f hW hE h0 K hK
        have e34 : f 34 = _ := hE 0 34 _ rfl (by kernel_rfl)
        clear hE h0
        refine yes_of (want_free rfl) ?_
        go_simp; exact hK _ _ (gb_refl _ _) rfl
      -- 18: ref.go:391 load
      apply Tm.head_is
      · intro W f hW hE h0 K hK
        have e35 : f 35 = _ := hE 0 35 _ rfl (by kernel_rfl)
        clear hE h0
        refine yes_of (want_free rfl) ?_
        obtain ⟨c0, c1, c2⟩ := HX.out W hW
        go_simp; exact hK _ _ (gb_refl _ _) rfl
      -- 19: ref.go:391 buildSlice
      apply Tm.head_at intsV_stays
      · intro W f hW hE h0 K hK
        have e24 : f 24 = _ := hE 12 24 _ rfl (by kernel_rfl)
        have e30 : f 30 = _ := hE 6 30 _ rfl (by kernel_rfl)
        have e36 : f 36 = _ := hE 0 36 _ rfl (by kernel_rfl)
        clear hE h0
        refine yes_of (want_free rfl) ?_
        go_simp
        exact hK _ _ (gb_alloc (gb_refl _ _) _) ⟨_, rfl, Row.new _ _ _⟩
      -- 20: ref.go:391 call
      apply Tm.head_at wireV_stays
      · intro W f hW hE h0 K hK
        have e37 := hE 0 37 _ rfl (by kernel_rfl)
        clear hE h0
        refine yes_of (want_free rfl) ?_
        obtain ⟨g3, e37, hr3⟩ := e37
        go_simp
        refine (nums3_any g3 x.d x.f x.t W hr3).mono ?_
        rintro e w1' ⟨A2, c2', rfl, h1, g'⟩
        exact ⟨_, rfl, hK _ _ g' ⟨A2, _, c2', rfl, h1.low hW.size⟩⟩
      -- 21: ref.go:391 buildSlice
      apply Tm.head_at rowV_stays
      · intro W f hW hE h0 K hK
        have e38 := hE 0 38 _ rfl (by kernel_rfl)
        clear hE h0
        refine yes_of (want_free rfl) ?_
        obtain ⟨A2, n2, c2', e38, h1⟩ := e38
        go_simp
        exact hK _ _ (gb_alloc (gb_refl _ _) _) ⟨_, A2, n2, c2', rfl, Row.new _ _ _, h1.kept (gb_alloc (gb_refl _ _) _)⟩
      intro W f hW hA
      simp only [List.take_succ_cons, List.take_zero, List.drop_succ_cons, List.drop_zero, lexIn, Act.put, List.setIfInBounds_toArray, List.set_cons_zero, List.set_cons_succ]
      have e18 : f 18 = _ := hA 21 (some 18) _ rfl
      rw [e18]
      have e39 := hA 0 (some 39) _ rfl
      clear hA
      obtain ⟨gn, A2, n2, c2', e39, hrn, hh⟩ := e39
      rw [e39]
      have Hgw : Hid (W0.grownBy W none) := gb_none Hg.out hW
      have Ho2 : Hid (Own h1 u ps W) := Ho.out.kept hW
      have Hps2 : Hid (∀ q ∈ ps, HP W (Off u) q.2 q.1.l) := fun q hq => ((Hps.out q hq).kept hW)
      have Hoff : Hid (∀ i, u.ownBlock = some i → i < wr.heap.size) := fun i e => (Ho.out.lt i e).2
      have Hhh := Lib.hid hh
      have Hrn := Lib.hid hrn
      have hgs : h1 ≤ W.heap.size := by have h1 := Hgw.out.size; have h2 := Hb0.out; omega
      clear hW hrn hh
      go_wp2_with (at_builtin; go_must (refine wpList_append_own_at _ rfl (.tmp 18) (.tmp 39) 70 rfl h1 72 iW (.agg #[.int .i64 0, .int .i64 0, .string ⟨#[]⟩, .slice none 0 0]) 4 56 Try.underlying70 Hi.out Hz.out Hs4.out Hb56.out rfl (by decide) _ ps.length _ rfl Ho2.out ⟨gn, 0, none⟩ 1 1 [.int .i64 3, .int .i64 0, .string ⟨#[]⟩, .slice A2 n2 c2'] rfl rfl (World.news_of_block (cs := #[.int .i64 3, .int .i64 0, .string ⟨#[]⟩, .slice A2 n2 c2']) (t := 72) (fr := (0, 0)) Hrn.out) (one4 _ _ _ _ _ _) (by have := Hlen.out; simp only [maxLen]; omega) (by have := Hlen.out; omega) hgs ?_); intro v' w' own' grow' _ hat; obtain ⟨vA, vn, vc, rfl⟩ := own_slice4 own')
      have Hown : Hid (Own h1 (.slice vA vn vc) (ps ++ [(lW [nW x.d, nW x.f, nW x.t], .slice A2 n2 c2')]) w') := by
        show World.ownsRow _ _ _ _ _ _ _
        rw [flat_snoc, List.length_append]
        exact own'
      have Hg3 : Hid (W0.grownBy w' none) := gb_step Hgw.out grow' (fun i e => .inr (by have h1 := (Ho2.out.lt i e).1; have := Hb0.out; omega))
      have Hps3 : Hid (∀ q ∈ ps ++ [(lW [nW x.d, nW x.f, nW x.t], Value.slice A2 n2 c2')], HP w' (Off (.slice vA vn vc)) q.2 q.1.l) := by
        intro q hq
        rcases List.mem_append.1 hq with hq | hq
        · exact HP.after (Hps2.out q hq) grow' hat
        · rw [List.mem_singleton.1 hq]
          refine HP.after (u := u) ?_ grow' hat
          exact (HP.of Hhh.out).keep (Nat.le_refl _) (fun g hB hl => ⟨rfl, fun e => by have := Hoff.out g e.symm; omega⟩)
      clear own' grow' hat
      go_roundw
      case rel => exact ⟨k + 1, ps ++ [(lW [nW x.d, nW x.f, nW x.t], .slice A2 n2 c2')], _, rfl, by have := Hlt.out; omega, rfl, Hown, ⟨by rw [List.length_append, Hm.out.1]; rfl, by rw [← Hnx.out, List.map_append, List.map_append]; rfl⟩, Hps3, Hg3.out⟩
      case measure => simp [intOf]; have := Hlt.out; omega
    · have hkp : k = p := by omega
      subst hkp
      have d1 : decide (k < k) = false := by simp
      have d2 : decide ((k : Int) < (k : Int)) = false := by simp
      obtain ⟨A1, c1, rfl⟩ := Ho.out.slice
      have hfin : ps.map Prod.fst = s.seen.map runW := by rw [Hm.out.2, List.take_of_length_le (by rw [Hs.out.1.1]; exact Nat.le_refl _)]
      have hll : ps.length = s.seen.length := by rw [Hm.out.1, Hs.out.1.1]
      have HLr : Hid (HL wr 0 (.slice A1 s.seen.length c1) (s.seen.map runW)) := by
        have h := Ho.out.list (by have h1 := Hm.out.1; have h2 := Hpn.out; omega) (fun q hq => (Hps.out q hq).list)
        rw [hfin] at h
        rwa [hll] at h
      rw [hll]
      have Hg := Lib.hid hg
      clear hk hlt hfin hll Hps Ho hg
      go_wp2_with fail
      clear d1 d2
      rename World => W1
      have Hb0' : Hid (W1.heap.size = W1.heap.size) := rfl
      go_loopw [4, 6] (fun rv iv wr => ∃ (k : Nat) (ps : List (Wr × Value)) (u : Value), u = rv ∧ k ≤ n ∧ iv = .int .i64 k ∧ Hid (Own W1.heap.size rv ps wr) ∧ Hid (ps.length = k ∧ ps.map Prod.fst = (s.facts.take k).map factW) ∧ Hid (∀ q ∈ ps, HP wr (Off rv) q.2 q.1.l) ∧ W1.grownBy wr none) (fun _ iv _ => n - (intOf iv).toNat)
      case atStart => exact ⟨0, [], _, rfl, Nat.zero_le _, rfl, Own.nil _ _, ⟨rfl, rfl⟩, fun q hq => (by cases hq), gb_refl _ _⟩
      case round =>
        obtain ⟨k, ps, u, rfl, hk, rfl, Ho, Hm, Hps, hg⟩ := hrel
        obtain ⟨y0, y1⟩ := HC.out wr (gb_none Hg.out hg)
        by_cases hlt : k < n
        · have d1 : decide (k < n) = true := decide_eq_true hlt
          have d2 : decide ((k : Int) < (n : Int)) = true := decide_eq_true (by omega)
          obtain ⟨x, hx⟩ : ∃ x, s.facts[k]? = some x := ⟨_, List.getElem?_eq_getElem (by rw [Hs.out.2.1]; exact hlt)⟩
          obtain ⟨gB, oB, eA, hgB, hcc⟩ := (Hs.out.2.keep (gb_none Hg.out hg)).2 (by omega)
          subst eA
          obtain ⟨v0, v1, v2, v3, v4, v5⟩ := hcc k x hx
          have bk : (k : Int) < (n : Int) := by omega
          have Hgx := Lib.hid hg
          have Hlt := Lib.hid hlt
          have Hlen : Hid (ps.length ≤ 10000) := by have h1 := Hm.out.1; have h2 := Hpn.out; show _ ≤ _; omega
          have Hnx : Hid ((ps ++ [(lW (factL x), Value.nilIface)]).map Prod.fst = (s.facts.take (k + 1)).map factW) := by
            show _ = _
            rw [List.map_append, Hm.out.2, List.take_add_one, hx, List.map_append]; rfl
          have Ht1 : Hid (IntKind.i64.wrap ((k : Int) + 1) = ((k + 1 : Nat) : Int)) := by show _ = _; rw [IntKind.wrap_i64]; have := Hpn.out; omega
          have HX0 : Hid (Row (wr.alloc (.cells #[.int .i64 x.d, .int .i64 x.n, .string x.key, .int .i64 x.kind, .string x.item, .int .i64 x.v] 37)) wr.heap.size 37 #[.int .i64 x.d, .int .i64 x.n, .string x.key, .int .i64 x.kind, .string x.item, .int .i64 x.v]) := Row.new _ _ _
          have Hg4 : Hid (W1.grownBy (wr.alloc (.cells #[.int .i64 x.d, .int .i64 x.n, .string x.key, .int .i64 x.kind, .string x.item, .int .i64 x.v] 37)) none) := gb_alloc hg _
          have Ho4 : Hid (Own W1.heap.size u ps (wr.alloc (.cells #[.int .i64 x.d, .int .i64 x.n, .string x.key, .int .i64 x.kind, .string x.item, .int .i64 x.v] 37))) := Ho.out.kept (gb_alloc (gb_refl _ _) _)
          have Hps4 : Hid (∀ q ∈ ps, HP (wr.alloc (.cells #[.int .i64 x.d, .int .i64 x.n, .string x.key, .int .i64 x.kind, .string x.item, .int .i64 x.v] 37)) (Off u) q.2 q.1.l) := fun q hq => (Hps.out q hq).kept (gb_alloc (gb_refl _ _) _)
          have t1 := Ht1.out
          clear hk hlt hx hgB hcc hg
          go_upto_region 12 with fail
          clear d1 d2 y0 y1 v0 v1 v2 v3 v4 v5 bk Ho Hps
          generalize wr.heap.size = bf at *
          generalize wr.alloc (.cells #[.int .i64 x.d, .int .i64 x.n, .string x.key, .int .i64 x.kind, .string x.item, .int .i64 x.v] 37) = W4 at *
          have HX : Hid (∀ W, W4.grownBy W none → At6 W bf 0 x) := fun W hW => by
            have k := HX0.out.kept hW (by simp)
            exact ⟨k.at_ (i := 0) rfl, k.at_ (i := 1) rfl, k.at_ (i := 2) rfl, k.at_ (i := 3) rfl, k.at_ (i := 4) rfl, k.at_ (i := 5) rfl⟩
          have Hrg := Hg
          replace Hg : Hid (W1.grownBy W4 none) := Hg4.out
          replace Hb0 : Hid (W1.heap.size ≤ W1.heap.size) := Nat.le_refl _
          have Hps := Hps4
          apply Tm.wp_region_told_list (le := fun a b => a.grownBy b none) 24 [isV _, isV _, isV _, isV _, isV _, isV _, isV _, isV _, isV _, isV _, isV _, isV _, isV _, isV _, isV _, isV _, isV _, isV _, isV _, isV _, isV _, sixV W4.heap.size (factL x), wireV W4.heap.size (factL x), rowV W4.heap.size (factL x)]
          case hC => kernel_rfl
          case hlen => rfl
          case hn => rfl
          case hm => kernel_rfl
          case hB => kernel_rfl
          case ht => exact fun _ _ _ h k => gb_none h k
          case hw => exact gb_drew (gb_refl _ _)
          -- 0: ref.go:395 move
          apply Tm.head_is
          · intro W f hW hE h0 K hK
            have e4 := h0 4 (by kernel_rfl)
            conv at e4 => rhs; whnf
            clear hE h0
            refine yes_of (want_free rfl) ?_
            go_simp; exact hK _ _ (gb_refl _ _) rfl
          -- 1: ref.go:395 fieldAddr
          apply Tm.head_is
          · intro W f hW hE h0 K hK
            have e7 := h0 7 (by kernel_rfl)
            conv at e7 => rhs; whnf
            clear hE h0
            refine yes_of (want_free rfl) ?_
            go_simp; exact hK _ _ (gb_refl _ _) rfl
          -- 2: ref.go:395 fieldAddr
          apply Tm.head_is
          · intro W f hW hE h0 K hK
            have e54 : f 54 = _ := hE 0 54 _ rfl (by kernel_rfl)
            clear hE h0
            refine yes_of (want_free rfl) ?_
            go_simp; exact hK _ _ (gb_refl _ _) rfl
          -- 3: ref.go:395 load
          apply Tm.head_is
          · intro W f hW hE h0 K hK
            have e55 : f 55 = _ := hE 0 55 _ rfl (by kernel_rfl)
            clear hE h0
            refine yes_of (want_free rfl) ?_
            obtain ⟨c0, c1, c2, c3, c4, c5⟩ := HX.out W hW
            go_simp; exact hK _ _ (gb_refl _ _) rfl
          -- 4: ref.go:395 call
          apply Tm.head_is
          · intro W f hW hE h0 K hK
            have e56 : f 56 = _ := hE 0 56 _ rfl (by kernel_rfl)
            clear hE h0
            refine yes_of (want_free rfl) ?_
            go_simp
            refine (num1_any x.d W).mono ?_
            rintro e w1' ⟨rfl, g'⟩
            exact ⟨_, rfl, hK _ _ g' rfl⟩
          -- 5: ref.go:395 fieldAddr
          apply Tm.head_is
          · intro W f hW hE h0 K hK
            have e7 := h0 7 (by kernel_rfl)
            conv at e7 => rhs; whnf
            clear hE h0
            refine yes_of (want_free rfl) ?_
            go_simp; exact hK _ _ (gb_refl _ _) rfl
          -- 6: ref.go:395 fieldAddr
          apply Tm.head_is
          · intro W f hW hE h0 K hK
            have e58 : f 58 = _ := hE 0 58 _ rfl (by kernel_rfl)
            clear hE h0
            refine yes_of (want_free rfl) ?_
            go_simp; exact hK _ _ (gb_refl _ _) rfl
          -- 7: ref.go:395 load
          apply Tm.head_is
          · intro W f hW hE h0 K hK
            have e59 : f 59 = _ := hE 0 59 _ rfl (by kernel_rfl)
            clear hE h0
            refine yes_of (want_free rfl) ?_
            obtain ⟨c0, c1, c2, c3, c4, c5⟩ := HX.out W hW
            go_simp; exact hK _ _ (gb_refl _ _) rfl
          -- 8: ref.go:395 call
          apply Tm.head_is
          · intro W f hW hE h0 K hK
            have e60 : f 60 = _ := hE 0 60 _ rfl (by kernel_rfl)
            clear hE h0
            refine yes_of (want_free rfl) ?_
            go_simp
            refine (num1_any x.n W).mono ?_
            rintro e w1' ⟨rfl, g'⟩
            exact ⟨_, rfl, hK _ _ g' rfl⟩
          -- 9: ref.go:395 fieldAddr
          apply Tm.head_is
          · intro W f hW hE h0 K hK
            have e7 := h0 7 (by kernel_rfl)
            conv at e7 => rhs; whnf
            clear hE h0
            refine yes_of (want_free rfl) ?_
            go_simp; exact hK _ _ (gb_refl _ _) rfl
          -- 10: ref.go:395 load
          apply Tm.head_is
          · intro W f hW hE h0 K hK
            have e62 : f 62 = _ := hE 0 62 _ rfl (by kernel_rfl)
            clear hE h0
            refine yes_of (want_free rfl) ?_
            obtain ⟨c0, c1, c2, c3, c4, c5⟩ := HX.out W hW
            go_simp; exact hK _ _ (gb_refl _ _) rfl
          -- 11: ref.go:395 call
          apply Tm.head_is
          · intro W f hW hE h0 K hK
            have e63 : f 63 = _ := hE 0 63 _ rfl (by kernel_rfl)
            clear hE h0
            refine yes_of (want_free rfl) ?_
            go_simp
            refine (text1_any x.key W).mono ?_
            rintro e w1' ⟨rfl, g'⟩
            exact ⟨_, rfl, hK _ _ g' rfl⟩
          -- 12: ref.go:395 fieldAddr
          apply Tm.head_is
          · intro W f hW hE h0 K hK
            have e7 := h0 7 (by kernel_rfl)
            conv at e7 => rhs; whnf
            clear hE h0
            refine yes_of (want_free rfl) ?_
            go_simp; exact hK _ _ (gb_refl _ _) rfl
          -- 13: ref.go:395 load
          apply Tm.head_is
          · intro W f hW hE h0 K hK
            have e65 : f 65 = _ := hE 0 65 _ rfl (by kernel_rfl)
            clear hE h0
            refine yes_of (want_free rfl) ?_
            obtain ⟨c0, c1, c2, c3, c4, c5⟩ := HX.out W hW
            go_simp; exact hK _ _ (gb_refl _ _) rfl
          -- 14: ref.go:395 call
          apply Tm.head_is
          · intro W f hW hE h0 K hK
            have e66 : f 66 = _ := hE 0 66 _ rfl (by kernel_rfl)
            clear hE h0
            refine yes_of (want_free rfl) ?_
            go_simp
            refine (num1_any x.kind W).mono ?_
            rintro e w1' ⟨rfl, g'⟩
            exact ⟨_, rfl, hK _ _ g' rfl⟩
          -- 15: ref.go:395 fieldAddr
          apply Tm.head_is
          · intro W f hW hE h0 K hK
            have e7 := h0 7 (by kernel_rfl)
            conv at e7 => rhs; whnf
            clear hE h0
            refine yes_of (want_free rfl) ?_
            go_simp; exact hK _ _ (gb_refl _ _) rfl
          -- 16: ref.go:395 load
          apply Tm.head_is
          · intro W f hW hE h0 K hK
            have e68 : f 68 = _ := hE 0 68 _ rfl (by kernel_rfl)
            clear hE h0
            refine yes_of (want_free rfl) ?_
            obtain ⟨c0, c1, c2, c3, c4, c5⟩ := HX.out W hW
            go_simp; exact hK _ _ (gb_refl _ _) rfl
          -- 17: ref.go:395 call
          apply Tm.head_is
          · intro W f hW hE h0 K hK
            have e69 : f 69 = _ := hE 0 69 _ rfl (by kernel_rfl)
            clear hE h0
            refine yes_of (want_free rfl) ?_
            go_simp
            refine (text1_any x.item W).mono ?_
            rintro e w1' ⟨rfl, g'⟩
            exact ⟨_, rfl, hK _ _ g' rfl⟩
          -- 18: ref.go:395 fieldAddr
          apply Tm.head_is
          · intro W f hW hE h0 K hK
            have e7 := h0 7 (by kernel_rfl)
            conv at e7 => rhs; whnf
            clear hE h0
            refine yes_of (want_free rfl) ?_
            go_simp; exact hK _ _ (gb_refl _ _) rfl
          -- 19: ref.go:395 load
          apply Tm.head_is
          · intro W f hW hE h0 K hK
            have e71 : f 71 = _ := hE 0 71 _ rfl (by kernel_rfl)
            clear hE h0
            refine yes_of (want_free rfl) ?_
            obtain ⟨c0, c1, c2, c3, c4, c5⟩ := HX.out W hW
            go_simp; exact hK _ _ (gb_refl _ _) rfl
          -- 20: ref.go:395 call
          apply Tm.head_is
          · intro W f hW hE h0 K hK
            have e72 : f 72 = _ := hE 0 72 _ rfl (by kernel_rfl)
            clear hE h0
            refine yes_of (want_free rfl) ?_
            go_simp
            refine (num1_any x.v W).mono ?_
            rintro e w1' ⟨rfl, g'⟩
            exact ⟨_, rfl, hK _ _ g' rfl⟩
          -- 21: ref.go:395 buildSlice
          apply Tm.head_at sixV_stays
          · intro W f hW hE h0 K hK
            have e57 : f 57 = _ := hE 16 57 _ rfl (by kernel_rfl)
            have e61 : f 61 = _ := hE 12 61 _ rfl (by kernel_rfl)
            have e64 : f 64 = _ := hE 9 64 _ rfl (by kernel_rfl)
            have e67 : f 67 = _ := hE 6 67 _ rfl (by kernel_rfl)
            have e70 : f 70 = _ := hE 3 70 _ rfl (by kernel_rfl)
            have e73 : f 73 = _ := hE 0 73 _ rfl (by kernel_rfl)
            clear hE h0
            refine yes_of (want_free rfl) ?_
            go_simp
            exact hK _ _ (gb_alloc (gb_refl _ _) _) ⟨_, rfl, (hl_six x W).low hW.size⟩
          -- 22: ref.go:395 call
          apply Tm.head_at wireV_stays
          · intro W f hW hE h0 K hK
            have e74 := hE 0 74 _ rfl (by kernel_rfl)
            clear hE h0
            refine yes_of (want_free rfl) ?_
            obtain ⟨g3, e74, h1⟩ := e74
            go_simp
            refine (list1_any (some ⟨g3, 0, none⟩) 6 6 W).mono ?_
            rintro e w1' ⟨rfl, g'⟩
            exact ⟨_, rfl, hK _ _ g' ⟨_, _, _, rfl, h1.kept g'⟩⟩
          -- 23: ref.go:395 buildSlice
          apply Tm.head_at rowV_stays
          · intro W f hW hE h0 K hK
            have e75 := hE 0 75 _ rfl (by kernel_rfl)
            clear hE h0
            refine yes_of (want_free rfl) ?_
            obtain ⟨A2, n2, c2', e75, h1⟩ := e75
            go_simp
            exact hK _ _ (gb_alloc (gb_refl _ _) _) ⟨_, A2, n2, c2', rfl, Row.new _ _ _, h1.kept (gb_alloc (gb_refl _ _) _)⟩
          intro W f hW hA
          simp only [List.take_succ_cons, List.take_zero, List.drop_succ_cons, List.drop_zero, lexIn, Act.put, List.setIfInBounds_toArray, List.set_cons_zero, List.set_cons_succ]
          have e53 : f 53 = _ := hA 23 (some 53) _ rfl
          rw [e53]
          have e76 := hA 0 (some 76) _ rfl
          clear hA
          obtain ⟨gn, A2, n2, c2', e76, hrn, hh⟩ := e76
          rw [e76]
          have Hgw : Hid (W1.grownBy W none) := gb_none Hg.out hW
          have Ho2 : Hid (Own W1.heap.size u ps W) := Ho4.out.kept hW
          have Hps2 : Hid (∀ q ∈ ps, HP W (Off u) q.2 q.1.l) := fun q hq => ((Hps.out q hq).kept hW)
          have Hoff : Hid (∀ i, u.ownBlock = some i → i < W4.heap.size) := fun i e => (Ho4.out.lt i e).2
          have Hhh := Lib.hid hh
          have Hrn := Lib.hid hrn
          have hgs : W1.heap.size ≤ W.heap.size := by have h1 := Hgw.out.size; have h2 := Hb0.out; omega
          clear hW hrn hh
          go_wp2_with (at_builtin; go_must (refine wpList_append_own_at _ rfl (.tmp 53) (.tmp 76) 70 rfl W1.heap.size 72 iW (.agg #[.int .i64 0, .int .i64 0, .string ⟨#[]⟩, .slice none 0 0]) 4 56 Try.underlying70 Hi.out Hz.out Hs4.out Hb56.out rfl (by decide) _ ps.length _ rfl Ho2.out ⟨gn, 0, none⟩ 1 1 [.int .i64 3, .int .i64 0, .string ⟨#[]⟩, .slice A2 n2 c2'] rfl rfl (World.news_of_block (cs := #[.int .i64 3, .int .i64 0, .string ⟨#[]⟩, .slice A2 n2 c2']) (t := 72) (fr := (0, 0)) Hrn.out) (one4 _ _ _ _ _ _) (by have := Hlen.out; simp only [maxLen]; omega) (by have := Hlen.out; omega) hgs ?_); intro v' w' own' grow' _ hat; obtain ⟨vA, vn, vc, rfl⟩ := own_slice4 own')
          have Hown : Hid (Own W1.heap.size (.slice vA vn vc) (ps ++ [(lW (factL x), .slice A2 n2 c2')]) w') := by
            show World.ownsRow _ _ _ _ _ _ _
            rw [flat_snoc, List.length_append]
            exact own'
          have Hg3 : Hid (W1.grownBy w' none) := gb_step Hgw.out grow' (fun i e => .inr (by have h1 := (Ho2.out.lt i e).1; have := Hb0.out; omega))
          have Hps3 : Hid (∀ q ∈ ps ++ [(lW (factL x), Value.slice A2 n2 c2')], HP w' (Off (.slice vA vn vc)) q.2 q.1.l) := by
            intro q hq
            rcases List.mem_append.1 hq with hq | hq
            · exact HP.after (Hps2.out q hq) grow' hat
            · rw [List.mem_singleton.1 hq]
              refine HP.after (u := u) ?_ grow' hat
              exact (HP.of Hhh.out).keep (Nat.le_refl _) (fun g hB hl => ⟨rfl, fun e => by have := Hoff.out g e.symm; omega⟩)
          clear own' grow' hat
          go_roundw
          case rel => exact ⟨k + 1, ps ++ [(lW (factL x), .slice A2 n2 c2')], _, rfl, by have := Hlt.out; omega, rfl, Hown, ⟨by rw [List.length_append, Hm.out.1]; rfl, by rw [← Hnx.out, List.map_append, List.map_append]; rfl⟩, Hps3, Hg3.out⟩
          case measure => simp [intOf]; have := Hlt.out; omega
        · have hkn : k = n := by omega
          subst hkn
          have d1 : decide (k < k) = false := by simp
          have d2 : decide ((k : Int) < (k : Int)) = false := by simp
          obtain ⟨A2, c2, rfl⟩ := Ho.out.slice
          have hfin : ps.map Prod.fst = s.facts.map factW := by rw [Hm.out.2, List.take_of_length_le (by rw [Hs.out.2.1]; exact Nat.le_refl _)]
          have hll : ps.length = s.facts.length := by rw [Hm.out.1, Hs.out.2.1]
          have HLf : Hid (HL wr 0 (.slice A2 s.facts.length c2) (s.facts.map factW)) := by
            have h := Ho.out.list (by have h1 := Hm.out.1; have h2 := Hpn.out; omega) (fun q hq => (Hps.out q hq).list)
            rw [hfin] at h
            rwa [hll] at h
          rw [hll]
          have HLr2 : Hid (HL wr 0 (.slice A1 s.seen.length c1) (s.seen.map runW)) := HLr.out.kept hg
          have Hg2 : Hid (w.grownBy wr none) := gb_none HG.out (gb_none Hg.out hg)
          clear hk hlt hfin hll Hps Ho hg
          go_wp2_with (go_at_call 51; first
            | (with_reducible refine (list1_any A1 s.seen.length c1 wr).mono ?_); rintro e v1 ⟨rfl, g1⟩; have Hv1 := Lib.hid g1; clear g1
            | (with_reducible refine (list1_any A2 s.facts.length c2 v1).mono ?_); rintro e v2 ⟨rfl, g2⟩; have Hv2 := Lib.hid (gb_none Hv1.out g2); clear g2
            | (with_reducible refine (list1_any (some ⟨v2.heap.size, 0, none⟩) 2 2 _).mono ?_); rintro e v3 ⟨rfl, g3⟩; have Hv3 := Lib.hid g3; clear g3)
          have hW4 := gb_alloc Hv2.out (.cells #[.int .i64 3, .int .i64 0, .string ⟨#[]⟩, .slice A1 s.seen.length c1, .int .i64 3, .int .i64 0, .string ⟨#[]⟩, .slice A2 s.facts.length c2] 72)
          have HPW : Hid (Calls Try.prog 54 #[.agg #[.int .i64 3, .int .i64 0, .string ⟨#[]⟩, .slice (some ⟨v2.heap.size, 0, none⟩) 2 2]] v3 fun e w' => e = .returned (.string (stW s).bytes) ∧ v3.grownBy w' none) := putwire_all (stW s) _ v3 ((hl_two v2 (HLr2.out.kept Hv2.out) (HLf.out.kept Hv2.out)).kept Hv3.out) Henc.out
          have Hend : Hid (w.grownBy v3 none) := gb_none (gb_none Hg2.out hW4) Hv3.out
          clear hW4
          go_wp2_with (go_at_call 54; refine HPW.out.mono ?_; rintro e v4 ⟨rfl, g4⟩)
          go_ret
          exact ⟨rfl, gb_none Hend.out g4⟩
end Go.Proofs.Ytkjjgbcbgjgjeaa.Dt
