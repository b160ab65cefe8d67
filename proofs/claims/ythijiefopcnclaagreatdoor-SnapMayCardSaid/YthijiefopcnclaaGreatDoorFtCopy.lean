/- A copy of facts in a row of the call's own, written at places. -/
import Derived.Test.YthijiefopcnclaaGreatDoorFtMake
import Derived.ArgAppend
namespace Go.Proofs.YthijiefopcnclaaGreatDoor.Dt
open Go Go.RowKit Go.Proofs.YthijiefopcnclaaGreatDoor.Mm Go.Proofs.YthijiefopcnclaaGreatDoor.Td

/-- The block g begins with these facts, and may be written. -/
def RF (W : World) (g : Nat) (l : List Fc) : Prop := ∃ cur, Row W g 46 cur ∧ l.length * 6 ≤ cur.size ∧ cur.toList.take (l.length * 6) = fv l
section
variable {W W' : World} {g : Nat} {l : List Fc}
theorem RF.cell (h : RF W g l) {p : Nat} {v : Value} (hv : (fv l)[p]? = some v) : W.cell? ⟨g, p, none⟩ = some v := by
  obtain ⟨cur, hr, hs, he⟩ := h
  refine hr.at_ ?_
  have hp : p < l.length * 6 := by rw [← fv_len]; exact (List.getElem?_eq_some_iff.1 hv).1
  rw [← he, List.getElem?_take, if_pos hp] at hv
  rwa [← Array.getElem?_toList]
theorem RF.free (h : RF W g l) (p : Nat) : W.frozen? ⟨g, p, none⟩ = false := by
  obtain ⟨cur, hr, _⟩ := h; exact hr.free p
theorem RF.lt (h : RF W g l) : g < W.heap.size := by
  obtain ⟨cur, hr, _⟩ := h; exact hr.lt
theorem RF.kept {r : Option Nat} (h : RF W g l) (hg : W.grownBy W' r) (hn : some g ≠ r) : RF W' g l := by
  obtain ⟨cur, hr, hs, he⟩ := h; exact ⟨cur, hr.kept hg hn, hs, he⟩
theorem RF.ne (h : RF W g l) {q : Nat} {t : TypeId} {cs : Array Value} (hr : Row W q t cs) (ht : 46 ≠ t) : g ≠ q := by
  obtain ⟨cur, hg, _⟩ := h
  rintro rfl
  unfold Row at hg hr
  rw [hg] at hr
  simp only [Option.some.injEq, Obj.cells.injEq] at hr
  exact ht hr.2.1
theorem RF.at6 (h : RF W g l) {i : Nat} {x : Fc} (hx : l[i]? = some x) : At6 W g (i * 6) x := by
  have r := fv_at l i x hx
  exact ⟨h.cell (r 0 (by decide)), h.cell (r 1 (by decide)), h.cell (r 2 (by decide)), h.cell (r 3 (by decide)), h.cell (r 4 (by decide)), h.cell (r 5 (by decide))⟩
theorem RF.fl (h : RF W g l) {n : Nat} (hn : l.length = n) : FL W (some ⟨g, 0, none⟩) n l := ⟨hn, fun _ => ⟨g, 0, rfl, h.lt, fun i x hx => by rw [Nat.zero_add]; exact h.at6 hx⟩⟩
theorem fv_set {l : List Fc} {k j : Nat} {y y' : Fc} {v : Value} (hy : l[k]? = some y) (hj : j < 6) (h : fv1 y' = (fv1 y).set j v) : (fv l).set (k * 6 + j) v = fv (l.set k y') := by
  induction l generalizing k with
  | nil => simp at hy
  | cons r l ih =>
    cases k with
    | zero =>
      obtain rfl : r = y := by simpa using hy
      rw [fv_cons, List.set_cons_zero, fv_cons, h, Nat.zero_mul, Nat.zero_add, List.set_append_left _ _ (by simp [fv1]; exact hj)]
    | succ k =>
      have ih := ih (k := k) (by simpa using hy)
      rw [fv_cons, List.set_cons_succ, fv_cons, ← ih, List.set_append_right _ _ (by simp [fv1]; omega)]
      have e : (k + 1) * 6 + j - (fv1 r).length = k * 6 + j := by simp [fv1]; omega
      rw [e]
theorem RF.put (h : RF W g l) {k : Nat} {y : Fc} (hy : l[k]? = some y) (j : Nat) (v : Value) (y' : Fc) (hj : j < 6) (e : fv1 y' = (fv1 y).set j v) : RF (W.setCell ⟨g, k * 6 + j, none⟩ v) g (l.set k y') := by
  obtain ⟨cur, hr, hs, he⟩ := h
  refine ⟨_, hr.set_ (k * 6 + j) v, by simpa using hs, ?_⟩
  rw [List.length_set, Array.toList_setIfInBounds, List.take_set, he, fv_set hy hj e]
theorem set_at {l : List Fc} {k : Nat} {y : Fc} (hy : l[k]? = some y) (x : Fc) : (l.set k x)[k]? = some x := by
  rw [List.getElem?_set_self (List.getElem?_eq_some_iff.1 hy).1]
theorem RF.put6 (h : RF W g l) {k : Nat} {y : Fc} (hy : l[k]? = some y) (x : Fc) : RF ((((((W.setCell ⟨g, k * 6, none⟩ (.int .i64 x.d)).setCell ⟨g, k * 6 + 1, none⟩ (.int .i64 x.n)).setCell ⟨g, k * 6 + 2, none⟩ (.string x.key)).setCell ⟨g, k * 6 + 3, none⟩ (.int .i64 x.kind)).setCell ⟨g, k * 6 + 4, none⟩ (.string x.item)).setCell ⟨g, k * 6 + 5, none⟩ (.int .i64 x.v)) g (l.set k x) := by
  have h0 := h.put hy 0 (.int .i64 x.d) ⟨x.d, y.n, y.key, y.kind, y.item, y.v⟩ (by decide) rfl
  have h1 := h0.put (set_at hy _) 1 (.int .i64 x.n) ⟨x.d, x.n, y.key, y.kind, y.item, y.v⟩ (by decide) rfl
  rw [List.set_set] at h1
  have h2 := h1.put (set_at hy _) 2 (.string x.key) ⟨x.d, x.n, x.key, y.kind, y.item, y.v⟩ (by decide) rfl
  rw [List.set_set] at h2
  have h3 := h2.put (set_at hy _) 3 (.int .i64 x.kind) ⟨x.d, x.n, x.key, x.kind, y.item, y.v⟩ (by decide) rfl
  rw [List.set_set] at h3
  have h4 := h3.put (set_at hy _) 4 (.string x.item) ⟨x.d, x.n, x.key, x.kind, x.item, y.v⟩ (by decide) rfl
  rw [List.set_set] at h4
  have h5 := h4.put (set_at hy _) 5 (.int .i64 x.v) x (by decide) rfl
  rw [List.set_set] at h5
  exact h5
theorem RF.grown6 (W : World) (g k : Nat) (x : Fc) : W.grownBy ((((((W.setCell ⟨g, k * 6, none⟩ (.int .i64 x.d)).setCell ⟨g, k * 6 + 1, none⟩ (.int .i64 x.n)).setCell ⟨g, k * 6 + 2, none⟩ (.string x.key)).setCell ⟨g, k * 6 + 3, none⟩ (.int .i64 x.kind)).setCell ⟨g, k * 6 + 4, none⟩ (.string x.item)).setCell ⟨g, k * 6 + 5, none⟩ (.int .i64 x.v)) (some g) :=
  gb_then (gb_then (gb_then (gb_then (gb_then (gb_set1 _ _ _ _) (gb_set1 _ _ _ _)) (gb_set1 _ _ _ _)) (gb_set1 _ _ _ _)) (gb_set1 _ _ _ _)) (gb_set1 _ _ _ _)
theorem RF.of_own {B n : Nat} {v : Value} (h : W.ownsRow B 46 6 v n (fv l)) (hn : l.length = n) (h0 : 0 < n) : ∃ g c, v = .slice (some ⟨g, 0, none⟩) n c ∧ B ≤ g ∧ n ≤ c ∧ RF W g l := by
  rcases h.2 with ⟨_, h1⟩ | ⟨g, c, cur, rfl, hB, hg, hle, _, hsz, htk⟩
  · omega
  · refine ⟨g, c, rfl, hB, hle, cur, hg, ?_, ?_⟩
    · rw [hn, hsz]; exact Nat.mul_le_mul_right 6 hle
    · rw [hn]; exact htk
end
/-- What the append of facts to nothing gives: a copy in a block of its own. -/
theorem upon_copy {W : World} {K : Value → World → Prop} {f : Tmp → Value} {o : Oper} (s x : Operand) (ho : o.op = .call { callee := .builtin .append, args := #[s, x], argTypes := #[23, 23] }) (g : Nat) (hs : Td.look f s = .slice (some ⟨g, 0, none⟩) 0 0)
    (A : Option Addr) (n c : Nat) (l : List Fc) (hx : Td.look f x = .slice A n c) (hl : FL W A n l) (h0 : 0 < n) (hb : n ≤ 100000)
    (h : ∀ g' c' W', RF W' g' l → W.heap.size ≤ g' → n ≤ c' → W.grownBy W' none → K (.slice (some ⟨g', 0, none⟩) n c') W') : Upon Tryz.prog K ((execOp (Td.look f) o).run Tryz.prog W) := by
  obtain ⟨ga, oa, rfl, hga, hat⟩ := hl.2 h0
  obtain ⟨i0, hi0, hz0, hz1, hz2⟩ := info_parts6 fact_inf
  obtain ⟨v', W', hr, hown, hgr⟩ := run_append_arg_grows (P := Tryz.prog) W 23 o.type 46 i0 (.agg #[.int .i64 0, .int .i64 0, .string ⟨#[]⟩, .int .i64 0, .string ⟨#[]⟩, .int .i64 0]) 6 64 Tryz.underlying23 hi0 hz0 hz1 hz2 rfl (by decide)
    ⟨g, 0, none⟩ 0 0 [] rfl (fun j u hu => by simp at hu) ⟨ga, oa, none⟩ n c (fv l) (by rw [fv_len, hl.1]) (fun j u hu => by
      have hj : j < n * 6 := by have := (List.getElem?_eq_some_iff.1 hu).1; rw [fv_len, hl.1] at this; exact this
      obtain ⟨y, hy⟩ : ∃ y, l[j / 6]? = some y := ⟨_, List.getElem?_eq_getElem (by rw [hl.1]; omega)⟩
      have hc := fv_at l (j / 6) y hy (j % 6) (Nat.mod_lt _ (by decide))
      rw [show j / 6 * 6 + j % 6 = j by omega, hu] at hc
      have hadd : (⟨ga, oa, none⟩ : Addr).add j = ⟨ga, oa + j, none⟩ := by unfold Addr.add; split <;> simp_all
      obtain ⟨c0, c1, c2, c3, c4, c5⟩ := hat (j / 6) y hy
      rw [hadd]
      obtain ⟨q, hq⟩ : ∃ q, j % 6 = q := ⟨_, rfl⟩
      have hjj : oa + j = oa + j / 6 * 6 + q := by omega
      rw [hq] at hc
      rw [hjj]
      have hq6 : q < 6 := by omega
      match q, hq6, hc with
      | 0, _, hc => rw [hc]; exact c0
      | 1, _, hc => rw [hc]; exact c1
      | 2, _, hc => rw [hc]; exact c2
      | 3, _, hc => rw [hc]; exact c3
      | 4, _, hc => rw [hc]; exact c4
      | 5, _, hc => rw [hc]; exact c5) (by omega) (by simp only [maxLen]; omega) (by omega)
  rw [Nat.zero_add] at hown
  obtain ⟨g', c', rfl, hB, hle, hRF⟩ := RF.of_own (l := l) hown hl.1 h0
  unfold execOp
  simp only [ho, resolve, invoke, builtin, Sem.run_bind, Sem.run_pure, Result.andThen_ok, List.map_toArray, List.map_cons, List.map_nil, hs, hx, hr, Upon]
  exact h g' c' W' hRF hB hle hgr
/-- An empty slice in a block of its own. -/
def emptyV : Td.Spec := fun _ v => ∃ g, v = .slice (some ⟨g, 0, none⟩) 0 0
theorem emptyV_stays : Stays (fun a b => a.grownBy b none) emptyV := fun _ _ _ _ h => h
/-- A copy of facts. -/
def copyV (N n : Nat) (l : List Fc) : Td.Spec := fun W v => ∃ g c, v = .slice (some ⟨g, 0, none⟩) n c ∧ N ≤ g ∧ n ≤ c ∧ RF W g l
theorem copyV_stays {N n : Nat} {l : List Fc} : Stays (fun a b => a.grownBy b none) (copyV N n l) := fun _ _ _ h ⟨g, c, e, h1, h2, h3⟩ => ⟨g, c, e, h1, h2, h3.kept h (by simp)⟩
/-- A state with a copy of facts. -/
def stV (N : Nat) (A : Option Addr) (p q n : Nat) (l : List Fc) : Td.Spec := fun W v => ∃ g c, v = .agg #[.slice A p q, .slice (some ⟨g, 0, none⟩) n c] ∧ N ≤ g ∧ n ≤ c ∧ RF W g l
theorem stV_stays {N : Nat} {A : Option Addr} {p q n : Nat} {l : List Fc} : Stays (fun a b => a.grownBy b none) (stV N A p q n l) := fun _ _ _ h ⟨g, c, e, h1, h2, h3⟩ => ⟨g, c, e, h1, h2, h3.kept h (by simp)⟩
end Go.Proofs.YthijiefopcnclaaGreatDoor.Dt
