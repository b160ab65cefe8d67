/- Lists of states that grow, in a block of the call's own. -/
import Derived.Test.YtbdpckphlagijaaDoorJnB
import Derived.Test.YtbdpckphlagijaaDoorFtFindW
import Derived.Test.YtbdpckphlagijaaDoorFtCopy
import Derived.Laws.OwnMore
set_option linter.unusedVariables false
namespace Go.Proofs.YtbdpckphlagijaaDoor.Bf
open Go Go.RowKit Go.Proofs.YtbdpckphlagijaaDoor.Mm Go.Proofs.YtbdpckphlagijaaDoor.Td Go.Proofs.YtbdpckphlagijaaDoor.Dt

/-- Slices alone. -/
def OnlyS (cs : Array Value) : Prop := ∀ (j : Nat) (v : Value), cs[j]? = some v → ∃ X a b, v = .slice X a b
/-- Place i of these cells holds this state. -/
def CellsAt (W : World) (cs : Array Value) (i : Nat) (s : St) : Prop := ∃ (A : Option Addr) (n c : Nat) (B : Option Addr) (m d : Nat), cs[i * 2]? = some (.slice A n c) ∧ cs[i * 2 + 1]? = some (.slice B m d) ∧ SL W A n B m s ∧ n ≤ c ∧ m ≤ d
/-- A list of states of the call's own (from block B on), in a block of slices alone. -/
def LS (W : World) (B : Nat) (v : Value) (ls : List St) : Prop :=
  (v = .slice none 0 0 ∧ ls = []) ∨
  ∃ (g cap : Nat) (cur : Array Value), v = .slice (some ⟨g, 0, none⟩) ls.length cap ∧ B ≤ g ∧ Row W g 28 cur ∧ ls.length ≤ cap ∧ cap ≤ maxLen ∧ cur.size = cap * 2 ∧ OnlyS cur ∧ (∀ i s, ls[i]? = some s → CellsAt W cur i s) ∧ 0 < ls.length
section
variable {W W' : World} {B : Nat} {v : Value} {ls : List St}
theorem LS.nil (W : World) (B : Nat) : LS W B (.slice none 0 0) [] := .inl ⟨rfl, rfl⟩
theorem CellsAt.keep {cs : Array Value} {i : Nat} {s : St} (h : CellsAt W cs i s) (k : W.grownBy W' none) : CellsAt W' cs i s := by
  obtain ⟨A, n, c, Bq, m, d, h1, h2, h3, h4, h5⟩ := h
  exact ⟨A, n, c, Bq, m, d, h1, h2, h3.keep k, h4, h5⟩
theorem CellsAt.beside {cs cur : Array Value} {i g : Nat} {s : St} {t : TypeId} (h : CellsAt W cs i s) (k : W.grownBy W' (some g)) (hr : Row W g t cur) (ho : OnlyS cur) : CellsAt W' cs i s := by
  obtain ⟨A, n, c, Bq, m, d, h1, h2, h3, h4, h5⟩ := h
  exact ⟨A, n, c, Bq, m, d, h1, h2, sl_besideN h3 k hr ho, h4, h5⟩
theorem LS.keep (h : LS W B v ls) (k : W.grownBy W' none) : LS W' B v ls := by
  rcases h with h | ⟨g, cap, cur, e, hB, hr, h1, h2, h3, h4, h5⟩
  · exact .inl h
  · exact .inr ⟨g, cap, cur, e, hB, hr.kept k (by simp), h1, h2, h3, h4, fun i s hi => (h5.1 i s hi).keep k, h5.2⟩
theorem LS.low (h : LS W B v ls) {B' : Nat} (hB : B' ≤ B) : LS W B' v ls := by
  rcases h with h | ⟨q, cap, cs, e, hq, r⟩
  · exact .inl h
  · exact .inr ⟨q, cap, cs, e, Nat.le_trans hB hq, r⟩
theorem LS.far (h : LS W B v ls) : ∀ i, v.ownBlock = some i → B ≤ i := fun i hi => by
  rcases h with ⟨rfl, _⟩ | ⟨g, cap, cur, rfl, hB, _⟩
  · simp [Value.ownBlock] at hi
  · simp [Value.ownBlock] at hi; omega
theorem LS.beside (h : LS W B v ls) {g : Nat} {t : TypeId} {cur : Array Value} (k : W.grownBy W' (some g)) (hr : Row W g t cur) (ho : OnlyS cur) (hg : g < B) : LS W' B v ls := by
  rcases h with h | ⟨q, cap, cs, e, hB, hq, h1, h2, h3, h4, h5⟩
  · exact .inl h
  · exact .inr ⟨q, cap, cs, e, hB, hq.kept k (fun e => by have := Option.some.inj e; omega), h1, h2, h3, h4, fun i s hi => (h5.1 i s hi).beside k hr ho, h5.2⟩
/-- States stay where a box of two cells is written. -/
theorem sl_small {A Bq : Option Addr} {n m h : Nat} {s : St} {t : TypeId} {cs : Array Value} (hs : SL W A n Bq m s) (k : W.grownBy W' (some h)) (hr : Row W h t cs) (h2 : cs.size ≤ 2) : SL W' A n Bq m s := by
  refine ⟨⟨hs.1.1, fun h0 => ?_⟩, ⟨hs.2.1, fun h0 => ?_⟩⟩
  · obtain ⟨g, o, e, hl, hc⟩ := hs.1.2 h0
    obtain ⟨x, hx⟩ : ∃ x, s.seen[0]? = some x := ⟨_, List.getElem?_eq_getElem (by rw [hs.1.1]; exact h0)⟩
    have hne : some g ≠ some h := fun e2 => by
      obtain rfl := Option.some.inj e2
      have h1 := (hc 0 x hx).2.2
      rw [hr.get] at h1
      have := (Array.getElem?_eq_some_iff.1 h1).1
      omega
    have hb := k.block g hl hne
    refine ⟨g, o, e, Nat.lt_of_lt_of_le hl k.size, fun i y hy => ?_⟩
    obtain ⟨c0, c1, c2⟩ := hc i y hy
    exact ⟨(World.cell?_of_block (a := ⟨g, o + i * 3, none⟩) hb).trans c0, (World.cell?_of_block (a := ⟨g, o + i * 3 + 1, none⟩) hb).trans c1, (World.cell?_of_block (a := ⟨g, o + i * 3 + 2, none⟩) hb).trans c2⟩
  · obtain ⟨g, o, e, hl, hc⟩ := hs.2.2 h0
    obtain ⟨x, hx⟩ : ∃ x, s.facts[0]? = some x := ⟨_, List.getElem?_eq_getElem (by rw [hs.2.1]; exact h0)⟩
    have hne : some g ≠ some h := fun e2 => by
      obtain rfl := Option.some.inj e2
      have h1 := (hc 0 x hx).2.2.1
      rw [hr.get] at h1
      have := (Array.getElem?_eq_some_iff.1 h1).1
      omega
    exact ⟨g, o, e, Nat.lt_of_lt_of_le hl k.size, fun i y hy => (hc i y hy).kept hl k hne⟩
theorem LS.small (h : LS W B v ls) {g : Nat} {t : TypeId} {cs : Array Value} (k : W.grownBy W' (some g)) (hr : Row W g t cs) (h2 : cs.size ≤ 2) (hg : g < B) : LS W' B v ls := by
  rcases h with h | ⟨q, cap, cur, e, hB, hq, h1, h3, h4, h5, h6, h7⟩
  · exact .inl h
  · refine .inr ⟨q, cap, cur, e, hB, hq.kept k (fun e => by have := Option.some.inj e; omega), h1, h3, h4, h5, fun i s hi => ?_, h7⟩
    obtain ⟨A, n, c, Bq, m, d, k1, k2, k3, k4, k5⟩ := h6 i s hi
    exact ⟨A, n, c, Bq, m, d, k1, k2, sl_small k3 k hr h2, k4, k5⟩
/-- A list of states stays where a box of two cells, ahead of all of it, or elsewhere, is written. -/
theorem al_small {A : Option Addr} {n h : Nat} {t : TypeId} {cs : Array Value} (ha : AL W A n ls) (k : W.grownBy W' (some h)) (hr : Row W h t cs) (h2 : cs.size ≤ 2) (hn : 0 < n → ∀ g o, A = some ⟨g, o, none⟩ → g ≠ h) : AL W' A n ls := by
  refine ⟨ha.1, fun h0 => ?_⟩
  obtain ⟨g, o, e, hg, hs⟩ := ha.2 h0
  have hb := k.block g hg (fun e2 => hn h0 g o e (Option.some.inj e2))
  refine ⟨g, o, e, Nat.lt_of_lt_of_le hg k.size, fun i s hi => ?_⟩
  obtain ⟨A', n', c', B', m', d', k1, k2, k3, k4, k5⟩ := hs i s hi
  exact ⟨A', n', c', B', m', d', (World.cell?_of_block (a := ⟨g, _, none⟩) hb).trans k1, (World.cell?_of_block (a := ⟨g, _, none⟩) hb).trans k2, sl_small k3 k hr h2, k4, k5⟩
/-- States elsewhere stay where the list grows. -/
theorem LS.other (h : LS W B v ls) (k : W.grownBy W' v.ownBlock) {A Bq : Option Addr} {n m : Nat} {s : St} (hs : SL W A n Bq m s) : SL W' A n Bq m s := by
  rcases h with ⟨rfl, _⟩ | ⟨q, cap, cs, rfl, hB, hq, h1, h2, h3, h4, h5⟩
  · exact hs.keep k
  · exact sl_besideN hs k hq h4
theorem LS.al (h : LS W B v ls) : ∃ A c, v = .slice A ls.length c ∧ AL W A ls.length ls ∧ ls.length ≤ c := by
  rcases h with ⟨rfl, rfl⟩ | ⟨g, cap, cur, rfl, hB, hr, h1, h2, h3, h4, h5⟩
  · exact ⟨none, 0, rfl, ⟨rfl, fun h => absurd h (by simp)⟩, Nat.le_refl _⟩
  · refine ⟨_, cap, rfl, ⟨rfl, fun _ => ⟨g, 0, rfl, hr.lt, fun i s hi => ?_⟩⟩, h1⟩
    obtain ⟨A, n, c, Bq, m, d, k1, k2, k3, k4, k5⟩ := h5.1 i s hi
    exact ⟨A, n, c, Bq, m, d, by rw [Nat.zero_add]; exact hr.at_ k1, by rw [Nat.zero_add]; exact hr.at_ k2, k3, k4, k5⟩
theorem LS.slice (h : LS W B v ls) : ∃ A m c, v = .slice A m c := by obtain ⟨A, c, e, _⟩ := h.al; exact ⟨A, _, c, e⟩
/-- A slice that reads as a list of states, and is a slice as Go has them. -/
structure BL (W : World) (A : Option Addr) (n c : Nat) (ls : List St) : Prop where
  al : AL W A n ls
  le : n ≤ c
  nil : A = none → c = 0
  spot : ∀ x, A = some x → x.spot = none
theorem BL.keep {A : Option Addr} {n c : Nat} (h : BL W A n c ls) (k : W.grownBy W' none) : BL W' A n c ls := ⟨h.al.keep k, h.le, h.nil, h.spot⟩
theorem BL.none (W : World) : BL W none 0 0 [] := ⟨⟨rfl, fun h => absurd h (by omega)⟩, Nat.le_refl _, fun _ => rfl, fun x h => by cases h⟩
/-- What is known of a slice that was told. -/
theorem LS.told {A : Option Addr} {m c : Nat} (h : LS W B (.slice A m c) ls) : BL W A m c ls ∧ m = ls.length := by
  obtain ⟨A', c', e, h1, h2⟩ := h.al
  obtain ⟨rfl, rfl, rfl⟩ : A = A' ∧ m = ls.length ∧ c = c' := by simpa using e
  refine ⟨⟨h1, h2, fun hA => ?_, fun x hx => ?_⟩, rfl⟩
  · subst hA
    rcases h with ⟨e, _⟩ | ⟨g, cap, cur, e, _⟩
    · have : ls.length = 0 ∧ c = 0 := by simpa using e
      exact this.2
    · cases e
  · subst hx
    rcases h with ⟨e, _⟩ | ⟨g, cap, cur, e, _⟩
    · cases e
    · have : x = ⟨g, 0, Option.none⟩ := by simp at e; exact e.1
      rw [this]
end
theorem state_inf : (Tryd.prog.info? 28).map (fun i => (i.zero, i.size, i.bytes)) = some (some (.agg #[.slice none 0 0, .slice none 0 0]), 2, 48) := by kernel_rfl
theorem only_zero (k : Nat) : ∀ u ∈ (Builtin.zeroCells (Value.agg #[.slice none 0 0, .slice none 0 0]).cells k).toList, ∃ X a b, u = .slice X a b := by
  intro u hu
  unfold Builtin.zeroCells at hu
  simp only [Array.toList_map, List.mem_map] at hu
  obtain ⟨i, _, rfl⟩ := hu
  have h2 : i % 2 < 2 := Nat.mod_lt _ (by decide)
  show ∃ X a b, (#[Value.slice none 0 0, Value.slice none 0 0][i % 2]!) = .slice X a b
  generalize i % 2 = j at h2
  match j, h2 with
  | 0, _ => exact ⟨none, 0, 0, rfl⟩
  | 1, _ => exact ⟨none, 0, 0, rfl⟩
theorem onlyS_of {l : List Value} (h : ∀ u ∈ l, ∃ X a b, u = Value.slice X a b) : OnlyS l.toArray := fun j v hv => h v (by
  have := Array.getElem?_toList (xs := l.toArray) (i := j)
  rw [List.toList_toArray] at this
  rw [← this] at hv
  exact List.mem_of_getElem? hv)
theorem OnlyS.mem {cs : Array Value} (h : OnlyS cs) : ∀ u ∈ cs.toList, ∃ X a b, u = Value.slice X a b := fun u hu => by
  obtain ⟨j, hj⟩ := List.getElem?_of_mem hu
  rw [Array.getElem?_toList] at hj
  exact h j u hj
theorem two_only (A B : Option Addr) (n c m d : Nat) : OnlyS #[.slice A n c, .slice B m d] := fun j v hv => by
  match j, hv with
  | 0, hv => exact ⟨A, n, c, by simpa using hv.symm⟩
  | 1, hv => exact ⟨B, m, d, by simpa using hv.symm⟩
  | j + 2, hv => simp at hv
/-- The world grows, but for blocks of slices alone (from N0 on), whose place n may be made to hold this state. -/
structure Le (N0 n : Nat) (s : St) (a b : World) : Prop where
  os : b.os = a.os
  tape : b.tape = a.tape
  output : b.output = a.output
  size : a.heap.size ≤ b.heap.size
  block : ∀ k, k < a.heap.size → b.heap[k]? = a.heap[k]? ∨ (N0 ≤ k ∧ ∃ cs cs' : Array Value, a.heap[k]? = some (.cells cs 28 (0, 0)) ∧ b.heap[k]? = some (.cells cs' 28 (0, 0)) ∧ OnlyS cs ∧ OnlyS cs' ∧ cs'.size = cs.size ∧ 2 < cs.size ∧ (∀ j, j < n * 2 → cs'[j]? = cs[j]?) ∧ CellsAt b cs' n s)
section
variable {N0 n : Nat} {s : St} {a b c : World}
theorem Le.of_gb (h : a.grownBy b none) : Le N0 n s a b := ⟨h.os, h.tape, h.output, h.size, fun k hk => .inl (h.block k hk (by simp))⟩
theorem Le.refl (a : World) : Le N0 n s a a := .of_gb (gb_refl _ _)
theorem Le.low (h : Le N0 n s a b) {N1 : Nat} (hN : N1 ≤ N0) : Le N1 n s a b := ⟨h.os, h.tape, h.output, h.size, fun k hk => (h.block k hk).imp id fun ⟨h1, h2⟩ => ⟨Nat.le_trans hN h1, h2⟩⟩
/-- A block that is not of slices alone stays. -/
theorem Le.same (h : Le N0 n s a b) {g o : Nat} {v : Value} (hg : g < a.heap.size) (hv : a.cell? ⟨g, o, none⟩ = some v) (hn : ∀ X x y, v ≠ .slice X x y) : b.heap[g]? = a.heap[g]? := by
  rcases h.block g hg with h1 | ⟨_, cs, cs', h2, _, h3, _⟩
  · exact h1
  · rw [cell_of_row a g o cs _ (0, 0) h2] at hv
    obtain ⟨X, x, y, e⟩ := h3 o v hv
    exact absurd e (hn X x y)
theorem Le.rl (h : Le N0 n s a b) {A : Option Addr} {m : Nat} {l : List Rn} (hr : RL a A m l) : RL b A m l := by
  refine ⟨hr.1, fun h0 => ?_⟩
  obtain ⟨g, o, e, hl, hc⟩ := hr.2 h0
  obtain ⟨x, hx⟩ : ∃ x, l[0]? = some x := ⟨_, List.getElem?_eq_getElem (by rw [hr.1]; exact h0)⟩
  have hb := h.same hl (hc 0 x hx).1 (fun _ _ _ => by simp)
  refine ⟨g, o, e, Nat.lt_of_lt_of_le hl h.size, fun i y hy => ?_⟩
  obtain ⟨c0, c1, c2⟩ := hc i y hy
  exact ⟨(World.cell?_of_block (a := ⟨g, o + i * 3, none⟩) hb).trans c0, (World.cell?_of_block (a := ⟨g, o + i * 3 + 1, none⟩) hb).trans c1, (World.cell?_of_block (a := ⟨g, o + i * 3 + 2, none⟩) hb).trans c2⟩
theorem Le.fl (h : Le N0 n s a b) {A : Option Addr} {m : Nat} {l : List Fc} (hr : FL a A m l) : FL b A m l := by
  refine ⟨hr.1, fun h0 => ?_⟩
  obtain ⟨g, o, e, hl, hc⟩ := hr.2 h0
  obtain ⟨x, hx⟩ : ∃ x, l[0]? = some x := ⟨_, List.getElem?_eq_getElem (by rw [hr.1]; exact h0)⟩
  have hb := h.same hl (hc 0 x hx).1 (fun _ _ _ => by simp)
  refine ⟨g, o, e, Nat.lt_of_lt_of_le hl h.size, fun i y hy => ?_⟩
  obtain ⟨h0, h1, h2, h3, h4, h5⟩ := hc i y hy
  exact ⟨(World.cell?_of_block (a := ⟨g, _, none⟩) hb).trans h0, (World.cell?_of_block (a := ⟨g, _, none⟩) hb).trans h1, (World.cell?_of_block (a := ⟨g, _, none⟩) hb).trans h2, (World.cell?_of_block (a := ⟨g, _, none⟩) hb).trans h3, (World.cell?_of_block (a := ⟨g, _, none⟩) hb).trans h4, (World.cell?_of_block (a := ⟨g, _, none⟩) hb).trans h5⟩
theorem Le.sl (h : Le N0 n s a b) {A B : Option Addr} {p q : Nat} {t : St} (hr : SL a A p B q t) : SL b A p B q t := ⟨h.rl hr.1, h.fl hr.2⟩
theorem Le.cells (h : Le N0 n s a b) {cs : Array Value} {i : Nat} {t : St} (hc : CellsAt a cs i t) : CellsAt b cs i t := by
  obtain ⟨A, p, c, B, q, d, h1, h2, h3, h4, h5⟩ := hc
  exact ⟨A, p, c, B, q, d, h1, h2, h.sl h3, h4, h5⟩
theorem Le.trans (h : Le N0 n s a b) (k : Le N0 n s b c) : Le N0 n s a c := by
  refine ⟨k.os.trans h.os, k.tape.trans h.tape, k.output.trans h.output, Nat.le_trans h.size k.size, fun i hi => ?_⟩
  rcases h.block i hi with h1 | ⟨h0, cs, cs', h2, h3, h4, h5, h6, h7, h8, h9⟩
  · rcases k.block i (Nat.lt_of_lt_of_le hi h.size) with k1 | ⟨k0, ds, ds', k2, k3⟩
    · exact .inl (k1.trans h1)
    · exact .inr ⟨k0, ds, ds', h1.symm.trans k2, k3⟩
  · rcases k.block i (Nat.lt_of_lt_of_le hi h.size) with k1 | ⟨k0, ds, ds', k2, k3, k4, k5, k6, k7, k8, k9⟩
    · exact .inr ⟨h0, cs, cs', h2, k1.trans h3, h4, h5, h6, h7, h8, k.cells h9⟩
    · rw [h3] at k2
      obtain rfl : cs' = ds := by simpa using k2
      exact .inr ⟨h0, cs, ds', h2, k3, h4, k5, k6.trans h6, h7, fun j hj => (k8 j hj).trans (h8 j hj), k9⟩
/-- A row ahead of N0, or of two cells at most, stays. -/
theorem Le.row (h : Le N0 n s a b) {g : Nat} {t : TypeId} {cs : Array Value} (hr : Row a g t cs) (hg : g < N0 ∨ cs.size ≤ 2) : Row b g t cs := by
  rcases h.block g hr.lt with h1 | ⟨h0, ds, ds', h2, h3, h4, h5, h6, h7, _⟩
  · exact h1.trans hr
  · rcases hg with hg | hg
    · omega
    · have := hr.symm.trans h2
      simp only [Option.some.injEq, Obj.cells.injEq] at this
      obtain ⟨rfl, _⟩ := this
      omega
theorem Le.ls (h : Le N0 n s a b) {B : Nat} {v : Value} {ls : List St} (hl : LS a B v ls) (hn : ls.length ≤ n ∨ ∃ l, l.length = n ∧ ls = l ++ [s]) : LS b B v ls := by
  rcases hl with hl | ⟨g, cap, cur, e, hB, hr, h1, h2, h3, h4, h5, h6⟩
  · exact .inl hl
  rcases h.block g hr.lt with k1 | ⟨k0, cs, cs', k2, k3, k4, k5, k6, k7, k8, k9⟩
  · exact .inr ⟨g, cap, cur, e, hB, k1.trans hr, h1, h2, h3, h4, fun i t hi => h.cells (h5 i t hi), h6⟩
  · have := hr.symm.trans k2
    simp only [Option.some.injEq, Obj.cells.injEq] at this
    obtain ⟨rfl, _⟩ := this
    refine .inr ⟨g, cap, cs', e, hB, k3, h1, h2, k6.trans h3, k5, fun i t hi => ?_, h6⟩
    by_cases hin : i < n
    · obtain ⟨A, p, c, Bq, q, d, m1, m2, m3, m4, m5⟩ := h.cells (h5 i t hi)
      exact ⟨A, p, c, Bq, q, d, (k8 _ (by omega)).trans m1, (k8 _ (by omega)).trans m2, m3, m4, m5⟩
    · rcases hn with hn | ⟨l, hl, rfl⟩
      · have := (List.getElem?_eq_some_iff.1 hi).1; omega
      · have hi2 : i = l.length := by have := (List.getElem?_eq_some_iff.1 hi).1; simp at this; omega
        subst hi2
        rw [List.getElem?_append_right (Nat.le_refl _), Nat.sub_self] at hi
        obtain rfl : s = t := by simpa using hi
        rw [hl]; exact k9
theorem Le.gb (h : Le a.heap.size n s a b) : a.grownBy b none := ⟨h.os, h.tape, h.output, h.size, fun k hk _ => (h.block k hk).elim id fun h2 => absurd h2.1 (by omega)⟩
end
/-- One state more is appended. -/
theorem LS.append {W : World} {B : Nat} {v : Value} {ls : List St} (h : LS W B v ls) (hn : ls.length ≤ 1000000) (hB : B ≤ W.heap.size) {A Bq : Option Addr} {n c m d : Nat} {s : St} (hs : SL W A n Bq m s) (hc : n ≤ c) (hd : m ≤ d)
    (q cq : Nat) (q0 : W.cell? ⟨q, 0, none⟩ = some (.slice A n c)) (q1 : W.cell? ⟨q, 1, none⟩ = some (.slice Bq m d)) (ty : TypeId) :
    ∃ v' w', (Builtin.append_ #[24, 24] ty #[v, .slice (some ⟨q, 0, none⟩) 1 cq]).run Tryd.prog W = .ok v' w' ∧ LS w' B v' (ls ++ [s]) ∧ W.grownBy w' v.ownBlock ∧ Le B ls.length s W w' := by
  obtain ⟨i0, hi0, hz0, hz1, hz2⟩ := info_parts6 state_inf
  obtain ⟨news, hnw⟩ : ∃ news : List Value, [.slice A n c, .slice Bq m d] = news := ⟨_, rfl⟩
  have hl : news.length = 1 * i0.size := by rw [← hnw, hz1]; rfl
  have hl2 : news.length = 2 := by rw [← hnw]; rfl
  have hnews : ∀ j u, news[j]? = some u → W.cell? ((⟨q, 0, none⟩ : Addr).add j) = some u := fun j u hu => by
    have hadd : (⟨q, 0, none⟩ : Addr).add j = ⟨q, j, none⟩ := by unfold Addr.add; split <;> simp_all
    rw [hadd]
    rw [← hnw] at hu
    match j, hu with
    | 0, hu => rw [q0]; exact hu
    | 1, hu => rw [q1]; exact hu
    | j + 2, hu => simp at hu
  have hsl : ∀ u ∈ news, ∃ X a b, u = Value.slice X a b := fun u hu => by
    rw [← hnw] at hu
    simp only [List.mem_cons, List.not_mem_nil, or_false] at hu
    rcases hu with rfl | rfl
    · exact ⟨A, n, c, rfl⟩
    · exact ⟨Bq, m, d, rfl⟩
  have h1c : ∀ u ∈ news, u.oneCell' = true := fun u hu => by
    obtain ⟨X, a, b, rfl⟩ := hsl u hu
    rfl
  -- what a fresh block of old cells, the new ones and noughts comes to
  have fresh : ∀ (olds : List Value) (old : Nat), olds.length = ls.length * 2 → (∀ u ∈ olds, ∃ X a b, u = Value.slice X a b) → (∀ i t, ls[i]? = some t → CellsAt W olds.toArray i t) → old < ls.length + 1 →
      LS (W.drew.alloc (.cells (olds.toArray ++ news.toArray ++ Builtin.zeroCells (Value.agg #[.slice none 0 0, .slice none 0 0]).cells (grownCap W (ls.length + 1) old 28 - (ls.length + 1))) 28)) B
        (.slice (some ⟨W.heap.size, 0, none⟩) (ls.length + 1) (grownCap W (ls.length + 1) old 28)) (ls ++ [s]) := by
    intro olds old ho hos hoa hlt
    have hge := grownCap_ge W (ls.length + 1) old 28
    have hcm := grownCap_le_maxLen W (ls.length + 1) old 28 (by simp only [maxLen]; omega)
    generalize grownCap W (ls.length + 1) old 28 = C at *
    obtain ⟨zs, hzs⟩ : ∃ zs, (Builtin.zeroCells (Value.agg #[.slice none 0 0, .slice none 0 0]).cells (C - (ls.length + 1))) = zs := ⟨_, rfl⟩
    have hzl : zs.size = (C - (ls.length + 1)) * 2 := by rw [← hzs, size_zeroCells]; rfl
    have hzo := only_zero (C - (ls.length + 1))
    rw [hzs] at hzo ⊢
    have hg : W.grownBy (W.drew.alloc (.cells (olds.toArray ++ news.toArray ++ zs) 28)) none := gb_alloc (gb_drew (gb_refl _ _)) _
    have hlen : (ls ++ [s]).length = ls.length + 1 := by simp
    have e : olds.toArray ++ news.toArray ++ zs = (olds ++ news ++ zs.toList).toArray := by
      apply Array.toList_inj.1
      simp
    rw [e] at hg ⊢
    refine .inr ⟨W.heap.size, C, (olds ++ news ++ zs.toList).toArray, by rw [hlen], hB, heap_alloc_new W.drew _, by rw [hlen]; exact hge, hcm, ?_, ?_, ?_, by rw [hlen]; omega⟩
    · rw [List.size_toArray, List.length_append, List.length_append, ho, hl2, Array.length_toList (xs := zs), hzl]; omega
    · refine onlyS_of fun u hu => ?_
      rcases List.mem_append.1 hu with hu | hu
      · rcases List.mem_append.1 hu with hu | hu
        · exact hos u hu
        · exact hsl u hu
      · exact hzo u hu
    · intro i t hi
      by_cases hil : i < ls.length
      · rw [List.getElem?_append_left hil] at hi
        obtain ⟨A', n', c', B', m', d', k1, k2, k3, k4, k5⟩ := (hoa i t hi).keep hg
        refine ⟨A', n', c', B', m', d', ?_, ?_, k3, k4, k5⟩
        · rw [← Array.getElem?_toList] at k1 ⊢
          rw [List.toList_toArray] at k1 ⊢
          rw [List.append_assoc, List.getElem?_append_left (by omega)]
          exact k1
        · rw [← Array.getElem?_toList] at k2 ⊢
          rw [List.toList_toArray] at k2 ⊢
          rw [List.append_assoc, List.getElem?_append_left (by omega)]
          exact k2
      · have hil2 : i = ls.length := by have := (List.getElem?_eq_some_iff.1 hi).1; rw [hlen] at this; omega
        subst hil2
        rw [List.getElem?_append_right (Nat.le_refl _), Nat.sub_self] at hi
        obtain rfl : s = t := by simpa using hi
        refine ⟨A, n, c, Bq, m, d, ?_, ?_, hs.keep hg, hc, hd⟩
        · rw [← Array.getElem?_toList, List.toList_toArray, List.append_assoc, List.getElem?_append_right (by omega), ho, Nat.sub_self, ← hnw]; rfl
        · rw [← Array.getElem?_toList, List.toList_toArray, List.append_assoc, List.getElem?_append_right (by omega), ho, show ls.length * 2 + 1 - ls.length * 2 = 1 by omega, ← hnw]; rfl
  rcases h with ⟨rfl, rfl⟩ | ⟨g, cap, cur, rfl, hBg, hr, hcap, hmax, hsz, hos, hat, hpos⟩
  · have hr := run_append_nil (P := Tryd.prog) W 24 ty 28 i0 (.agg #[.slice none 0 0, .slice none 0 0]) Tryd.underlying24 hi0 hz0 ⟨q, 0, none⟩ 1 cq news hl hnews (by decide) (by decide) (by rw [hz2]; decide)
    have hf := fresh [] 0 rfl (fun u hu => by cases hu) (fun i t hi => by simp at hi) (by simp)
    simp only [List.length_nil, Nat.zero_add, List.nil_append] at hf
    have e0 : (#[] : Array Value) ++ news.toArray = news.toArray := by simp
    rw [e0] at hf
    exact ⟨_, _, hr, hf, gb_alloc (gb_drew (gb_refl _ _)) _, .of_gb (gb_alloc (gb_drew (gb_refl _ _)) _)⟩
  · have htake : (cur.toList.take (ls.length * i0.size)).length = ls.length * i0.size := by rw [List.length_take, Array.length_toList (xs := cur), hsz, hz1, Nat.min_eq_left (Nat.mul_le_mul_right 2 hcap)]
    by_cases hroom : ls.length + 1 ≤ cap
    · have hfit : ls.length * i0.size + news.length ≤ cur.size := by rw [hl, hsz, hz1]; omega
      have hrun := run_append_room (P := Tryd.prog) W 24 ty 28 i0 Tryd.underlying24 hi0 g ls.length cap cur hr ⟨q, 0, none⟩ 1 cq news hl hnews h1c hroom hfit
      rw [hz1] at hrun
      obtain ⟨T, hT⟩ : ∃ T, cur.toList.take (ls.length * 2) ++ news ++ cur.toList.drop (ls.length * 2 + news.length) = T := ⟨_, rfl⟩
      rw [hT] at hrun
      have hg : W.grownBy (W.setRow g T.toArray) (some g) := gb_setRow1 W g _
      have hlen : (ls ++ [s]).length = ls.length + 1 := by simp
      have htl : (cur.toList.take (ls.length * 2)).length = ls.length * 2 := by rw [hz1] at htake; exact htake
      have hTs : T.toArray.size = cap * 2 := by rw [← hT, List.size_toArray, List.length_append, List.length_append, List.length_drop, htl, hl2, Array.length_toList (xs := cur), hsz]; omega
      have hTo : OnlyS T.toArray := by
        refine onlyS_of fun u hu => ?_
        rw [← hT] at hu
        rcases List.mem_append.1 hu with hu | hu
        · rcases List.mem_append.1 hu with hu | hu
          · exact hos.mem u (List.mem_of_mem_take hu)
          · exact hsl u hu
        · exact hos.mem u (List.mem_of_mem_drop hu)
      have hTp : ∀ j, j < ls.length * 2 → T.toArray[j]? = cur[j]? := fun j hj => by
        rw [← Array.getElem?_toList, List.toList_toArray, ← hT, List.append_assoc, List.getElem?_append_left (by omega), List.getElem?_take, if_pos hj, Array.getElem?_toList]
      have hTn : CellsAt (W.setRow g T.toArray) T.toArray ls.length s := by
        refine ⟨A, n, c, Bq, m, d, ?_, ?_, sl_besideN hs hg hr hos, hc, hd⟩
        · rw [← Array.getElem?_toList, List.toList_toArray, ← hT, List.append_assoc, List.getElem?_append_right (by omega), htl, Nat.sub_self, ← hnw]; rfl
        · rw [← Array.getElem?_toList, List.toList_toArray, ← hT, List.append_assoc, List.getElem?_append_right (by omega), htl, show ls.length * 2 + 1 - ls.length * 2 = 1 by omega, ← hnw]; rfl
      refine ⟨_, _, hrun, .inr ⟨g, cap, T.toArray, by rw [hlen], hBg, hr.setRow_ _, by rw [hlen]; exact hroom, hmax, hTs, hTo, fun i t hi => ?_, by rw [hlen]; omega⟩, hg, ⟨hg.os, hg.tape, hg.output, hg.size, fun k hk => ?_⟩⟩
      · by_cases hil : i < ls.length
        · rw [List.getElem?_append_left hil] at hi
          obtain ⟨A', n', c', B', m', d', k1, k2, k3, k4, k5⟩ := (hat i t hi).beside hg hr hos
          exact ⟨A', n', c', B', m', d', (hTp _ (by omega)).trans k1, (hTp _ (by omega)).trans k2, k3, k4, k5⟩
        · have hil2 : i = ls.length := by have := (List.getElem?_eq_some_iff.1 hi).1; rw [hlen] at this; omega
          subst hil2
          rw [List.getElem?_append_right (Nat.le_refl _), Nat.sub_self] at hi
          obtain rfl : s = t := by simpa using hi
          exact hTn
      · by_cases hkg : k = g
        · subst hkg
          exact .inr ⟨hBg, cur, T.toArray, hr, hr.setRow_ _, hos, hTo, by rw [hTs, hsz], by rw [hsz]; omega, hTp, hTn⟩
        · exact .inl (hg.block k hk (fun e => hkg (Option.some.inj e)))
    · have holds : ∀ j u, (cur.toList.take (ls.length * i0.size))[j]? = some u → W.cell? ((⟨g, 0, none⟩ : Addr).add j) = some u := fun j u hu => by
        have hadd : (⟨g, 0, none⟩ : Addr).add j = ⟨g, j, none⟩ := by unfold Addr.add; split <;> simp_all
        rw [hadd, hr.get]
        rw [List.getElem?_take] at hu
        split at hu
        · rwa [Array.getElem?_toList] at hu
        · cases hu
      have hrun := run_append_grow (P := Tryd.prog) W 24 ty 28 i0 (.agg #[.slice none 0 0, .slice none 0 0]) Tryd.underlying24 hi0 hz0 ⟨g, 0, none⟩ ls.length cap (cur.toList.take (ls.length * i0.size)) htake holds ⟨q, 0, none⟩ 1 cq news hl hnews (by omega) (by omega) (growslice_fits (by omega) (by rw [hz2]; omega))
      have hf := fresh (cur.toList.take (ls.length * i0.size)) cap (by rw [htake, hz1]) (fun u hu => hos.mem u (List.mem_of_mem_take hu)) (fun i t hi => by
        obtain ⟨A', n', c', B', m', d', k1, k2, k3, k4, k5⟩ := hat i t hi
        have hil := (List.getElem?_eq_some_iff.1 hi).1
        refine ⟨A', n', c', B', m', d', ?_, ?_, k3, k4, k5⟩
        · rw [← Array.getElem?_toList, List.toList_toArray, List.getElem?_take, if_pos (by rw [hz1]; omega), Array.getElem?_toList]; exact k1
        · rw [← Array.getElem?_toList, List.toList_toArray, List.getElem?_take, if_pos (by rw [hz1]; omega), Array.getElem?_toList]; exact k2) (by omega)
      exact ⟨_, _, hrun, hf, gb_alloc (gb_drew (gb_refl _ _)) _, .of_gb (gb_alloc (gb_drew (gb_refl _ _)) _)⟩
/-- For the walk. -/
theorem wpList_append_st {W : World} {ops : Array Oper} {rest : List Oper} {o : Oper} {a : Act} {Q : Exit → Act → World → Prop} (hgd : o.guard = none) (s x : Operand)
    (ho : o.op = .call { callee := .builtin .append, args := #[s, x], argTypes := #[24, 24] })
    (B : Nat) (v : Value) (ls : List St) (hv : a.eval s = v) (h : LS W B v ls) (hn : ls.length ≤ 1000000) (hB : B ≤ W.heap.size) {A Bq : Option Addr} {n c m d : Nat} {t : St} (hs : SL W A n Bq m t) (hc : n ≤ c) (hd : m ≤ d)
    (q cq : Nat) (hx : a.eval x = .slice (some ⟨q, 0, none⟩) 1 cq) (q0 : W.cell? ⟨q, 0, none⟩ = some (.slice A n c)) (q1 : W.cell? ⟨q, 1, none⟩ = some (.slice Bq m d))
    (hK : ∀ v' w', LS w' B v' (ls ++ [t]) → W.grownBy w' v.ownBlock → wpList Tryd.prog ops Q rest (a.put o.dst v') w') : wpList Tryd.prog ops Q (o :: rest) a W := by
  refine wpList_plain hgd fun K hKK => ?_
  obtain ⟨v', w', hr, h2, h3, _⟩ := h.append hn hB hs hc hd q cq q0 q1 o.type
  unfold Oper.wp
  simp [execOp, ho, resolve, invoke, builtin, hv, hx, hr, Result.andThen]
  exact hKK _ _ (hK v' w' h2 h3)
/-- For a region that draws its order. -/
theorem upon_append_st {W : World} {K : Value → World → Prop} {f : Tmp → Value} {o : Oper} (x y : Operand)
    (ho : o.op = .call { callee := .builtin .append, args := #[x, y], argTypes := #[24, 24] })
    (B : Nat) (v : Value) (ls : List St) (hv : Td.look f x = v) (h : LS W B v ls) (hn : ls.length ≤ 1000000) (hB : B ≤ W.heap.size) {A Bq : Option Addr} {n c m d : Nat} {t : St} (hs : SL W A n Bq m t) (hc : n ≤ c) (hd : m ≤ d)
    (q cq : Nat) (hx : Td.look f y = .slice (some ⟨q, 0, none⟩) 1 cq) (q0 : W.cell? ⟨q, 0, none⟩ = some (.slice A n c)) (q1 : W.cell? ⟨q, 1, none⟩ = some (.slice Bq m d))
    (hK : ∀ v' w', LS w' B v' (ls ++ [t]) → Le B ls.length t W w' → K v' w') : Upon Tryd.prog K ((execOp (Td.look f) o).run Tryd.prog W) := by
  obtain ⟨v', w', hr, h2, _, h3⟩ := h.append hn hB hs hc hd q cq q0 q1 o.type
  unfold execOp
  simp only [ho, resolve, invoke, builtin, Sem.run_bind, Sem.run_pure, Result.andThen_ok, List.map_toArray, List.map_cons, List.map_nil, hv, hx, hr, Upon]
  exact hK _ _ h2 h3
end Go.Proofs.YtbdpckphlagijaaDoor.Bf
