/- Facts and states in memory. -/
import Derived.Test.YtblndpfgfakdeaaDtMem
import Derived.Test.YtblndpfgfakdeaaDtUnion
import Derived.Test.YtblndpfgfakdeaaFtPure
namespace Go.Proofs.Ytblndpfgfakdeaa.Dt
open Go Go.RowKit Go.Proofs.Ytblndpfgfakdeaa.Mm

/-- The six cells of a fact lie here. -/
def At6 (W : World) (g o : Nat) (x : Fc) : Prop := W.cell? ⟨g, o, none⟩ = some (.int .i64 x.d) ∧ W.cell? ⟨g, o + 1, none⟩ = some (.int .i64 x.n) ∧ W.cell? ⟨g, o + 2, none⟩ = some (.string x.key) ∧ W.cell? ⟨g, o + 3, none⟩ = some (.int .i64 x.kind) ∧ W.cell? ⟨g, o + 4, none⟩ = some (.string x.item) ∧ W.cell? ⟨g, o + 5, none⟩ = some (.int .i64 x.v)
theorem At6.kept {W W' : World} {g o : Nat} {x : Fc} {row : Option Nat} (h : At6 W g o x) (hg : g < W.heap.size) (k : W.grownBy W' row) (hr : some g ≠ row) : At6 W' g o x := by
  have hb := k.block g hg hr
  obtain ⟨h0, h1, h2, h3, h4, h5⟩ := h
  exact ⟨(World.cell?_of_block (a := ⟨g, o, none⟩) hb).trans h0, (World.cell?_of_block (a := ⟨g, o + 1, none⟩) hb).trans h1, (World.cell?_of_block (a := ⟨g, o + 2, none⟩) hb).trans h2, (World.cell?_of_block (a := ⟨g, o + 3, none⟩) hb).trans h3, (World.cell?_of_block (a := ⟨g, o + 4, none⟩) hb).trans h4, (World.cell?_of_block (a := ⟨g, o + 5, none⟩) hb).trans h5⟩
theorem At6.keep {W W' : World} {g o : Nat} {x : Fc} (h : At6 W g o x) (hg : g < W.heap.size) (k : W.grownBy W' none) : At6 W' g o x := h.kept hg k (by simp)
/-- The slice at A, of n facts, reads as these. -/
def FL (w : World) (A : Option Addr) (n : Nat) (l : List Fc) : Prop :=
  l.length = n ∧ (0 < n → ∃ g o, A = some ⟨g, o, none⟩ ∧ g < w.heap.size ∧ ∀ i x, l[i]? = some x → At6 w g (o + i * 6) x)
theorem FL.keep {w w' : World} {A : Option Addr} {n : Nat} {l : List Fc} (h : FL w A n l) (hg : w.grownBy w' none) : FL w' A n l := by
  refine ⟨h.1, fun hn => ?_⟩
  obtain ⟨g, o, e, hl, hc⟩ := h.2 hn
  exact ⟨g, o, e, Nat.lt_of_lt_of_le hl hg.size, fun i x hx => (hc i x hx).keep hl hg⟩
theorem FL.none (w : World) (A : Option Addr) : FL w A 0 [] := ⟨rfl, fun h => absurd h (by omega)⟩
theorem fl_at6 {w : World} {g o n : Nat} {l : List Fc} (h : FL w (some ⟨g, o, none⟩) n l) {i : Nat} {x : Fc} (hx : l[i]? = some x) : At6 w g (o + i * 6) x := by
  have hi := (List.getElem?_eq_some_iff.1 hx).1
  obtain ⟨g', o', e, _, hc⟩ := h.2 (by have := h.1; omega)
  simp only [Option.some.injEq, Addr.mk.injEq, and_true] at e
  obtain ⟨rfl, rfl⟩ := e
  exact hc i x hx
theorem ftake_more {l : List Fc} {k : Nat} {x : Fc} (h : l[k]? = some x) : l.take (k + 1) = l.take k ++ [x] := by
  rw [List.take_add_one, h]; rfl
/-- The cells of facts. -/
def fv1 (x : Fc) : List Value := [.int .i64 x.d, .int .i64 x.n, .string x.key, .int .i64 x.kind, .string x.item, .int .i64 x.v]
def fv (l : List Fc) : List Value := l.flatMap fv1
theorem fv_cons (r : Fc) (l : List Fc) : fv (r :: l) = fv1 r ++ fv l := rfl
theorem fv_append (a b : List Fc) : fv (a ++ b) = fv a ++ fv b := by unfold fv; rw [List.flatMap_append]
theorem fv_len (l : List Fc) : (fv l).length = l.length * 6 := by
  induction l with
  | nil => rfl
  | cons r l ih => rw [fv_cons, List.length_append, ih, List.length_cons]; simp [fv1]; omega
theorem fv_one (l : List Fc) : ∀ u ∈ fv l, u.oneCell' = true := by
  intro u hu
  unfold fv at hu
  obtain ⟨x, _, hx⟩ := List.mem_flatMap.1 hu
  unfold fv1 at hx
  simp only [List.mem_cons, List.not_mem_nil, or_false] at hx
  rcases hx with rfl | rfl | rfl | rfl | rfl | rfl <;> rfl
theorem fv1_one (x : Fc) : ∀ u ∈ fv1 x, u.oneCell' = true := by
  have h := fv_one [x]
  rwa [show fv [x] = fv1 x from List.append_nil _] at h
theorem fv_at : ∀ (l : List Fc) (i : Nat) (x : Fc), l[i]? = some x → ∀ j, j < 6 → (fv l)[i * 6 + j]? = (fv1 x)[j]?
  | [], i, x, h => by simp at h
  | r :: l, 0, x, h => fun j hj => by
    obtain rfl : r = x := by simpa using h
    rw [fv_cons, List.getElem?_append_left (by simp [fv1]; omega), Nat.zero_mul, Nat.zero_add]
  | r :: l, i + 1, x, h => fun j hj => by
    have ih := fv_at l i x (by simpa using h) j hj
    rw [fv_cons, List.getElem?_append_right (by simp [fv1]; omega)]
    rw [show (i + 1) * 6 + j - (fv1 r).length = i * 6 + j by simp [fv1]; omega, ih]
theorem own_fl {w : World} {B n : Nat} {t : TypeId} {v : Value} {l : List Fc} (h : w.ownsRow B t 6 v n (fv l)) (hn : l.length = n) : ∃ A c, v = .slice A n c ∧ FL w A n l ∧ n ≤ c := by
  have hcells := fun (g : Nat) (hg : v.ownBlock = some g) => World.ownsRow.cells h hg
  rcases h.2 with ⟨rfl, h0⟩ | ⟨g, cap, cur, rfl, hB, hg, hle, _⟩
  · exact ⟨none, 0, by rw [h0], ⟨hn, fun hp => absurd hp (by omega)⟩, by omega⟩
  · refine ⟨_, cap, rfl, ⟨hn, fun _ => ⟨g, 0, rfl, (Array.getElem?_eq_some_iff.1 hg).1, fun i x hx => ?_⟩⟩, hle⟩
    have hat : ∀ j u, (fv l)[j]? = some u → w.cell? ⟨g, 0 + j, none⟩ = some u := fun j u hu => by
      have := hcells g rfl j u hu
      have hadd : (⟨g, 0, none⟩ : Addr).add j = ⟨g, 0 + j, none⟩ := by unfold Addr.add; split <;> simp_all
      rwa [hadd] at this
    have r := fv_at l i x hx
    exact ⟨hat _ _ (r 0 (by decide)), hat _ _ (r 1 (by decide)), hat _ _ (r 2 (by decide)), hat _ _ (r 3 (by decide)), hat _ _ (r 4 (by decide)), hat _ _ (r 5 (by decide))⟩
/-- A fact as a value. -/
def fV (x : Fc) : Value := .agg #[.int .i64 x.d, .int .i64 x.n, .string x.key, .int .i64 x.kind, .string x.item, .int .i64 x.v]
/-- Facts that were told. -/
def Facts (l : List Fc) (w : World) (e : Ending) (w' : World) : Prop := ∃ A c, e = .returned (.slice A l.length c) ∧ FL w' A l.length l ∧ l.length ≤ c ∧ w.grownBy w' none
/-- The two slices of a state read as it. -/
def SL (w : World) (A : Option Addr) (n : Nat) (B : Option Addr) (m : Nat) (s : St) : Prop := RL w A n s.seen ∧ FL w B m s.facts
theorem SL.keep {w w' : World} {A B : Option Addr} {n m : Nat} {s : St} (h : SL w A n B m s) (hg : w.grownBy w' none) : SL w' A n B m s := ⟨h.1.keep hg, h.2.keep hg⟩
end Go.Proofs.Ytblndpfgfakdeaa.Dt
