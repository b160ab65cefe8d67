/- Copies of logs whose wraps are older; rows of keys. -/
import Derived.Test.YtpcjbjpofcdjeaaGreatDoorWcMemq
set_option linter.unusedVariables false
namespace Go.Proofs.YtpcjbjpofcdjeaaGreatDoor.Wc
open Go Go.RowKit Mm Td Vw Mb
def CopiedN (w : World) (N B : Nat) (v : Value) (l : List Rc) : Prop := (l = [] ∧ Bare0 v) ∨ LR w (· < N) B v l
theorem CopiedN.slice {w : World} {N B : Nat} {v : Value} {l : List Rc} (h : CopiedN w N B v l) : ∃ A m c, v = .slice A m c := by
 rcases h with ⟨_, X, rfl⟩ | h
 ·exact ⟨X, 0, 0, rfl⟩
 ·exact h.slice
theorem CopiedN.keep {w w' : World} {N B : Nat} {v : Value} {l : List Rc} (h : CopiedN w N B v l) (k : Gn w w') : CopiedN w' N B v l := h.imp id fun h => h.keep k
theorem run_copyN {w0 w : World} (ty : TypeId) (X : Option Addr) (A : Option Addr) (n c : Nat) (l : List Rc) (hl : LogL w0 A n l) (g0 : Gn w0 w) (hn : n ≤ 1000000) (hc : n ≤ c) :
  ∃ v' w', (Builtin.append_ #[22, 22] ty #[.slice X 0 0, .slice A n c]).run Tryz.prog w = .ok v' w' ∧ CopiedN w' w0.heap.size w.heap.size v' l ∧ Gn w w' := by
 obtain ⟨i0, hi0, hz0, hz1, hz2⟩ := recI
 rcases Nat.eq_zero_or_pos n with h0 | h0
 ·obtain ⟨v', w', hr, hc', hg⟩ := run_copy (w := w) 22 ty rfl X A n c l (hl.keep g0) hn hc
  have e : l = [] := List.eq_nil_of_length_eq_zero (by rw [hl.1, h0])
  subst e
  refine ⟨v', w', hr, ?_, hg⟩
  rcases hc' with h | ⟨L, h1, h2, h3⟩
  ·exact .inl h
  ·have e2 : L = [] := List.map_eq_nil_iff.1 h1
   subst e2
   exact .inr ⟨[], rfl, h2, fun x hx => by cases hx⟩
 ·obtain ⟨g, o, rfl, hg, _⟩ := hl.2 h0
  obtain ⟨L, hL, hcells0, hs0⟩ := log_rx hl
  have hcells : ∀ (j : Nat) (u : Value), (rxs L)[j]? = some u → w.cell? ((⟨g, o, none⟩ : Addr).add j) = some u := fun j u hu => by
   have h := hcells0 j u hu
   rw [addr_add] at h ⊢
   exact (World.cell?_of_block (a := ⟨g, o + j, none⟩) (g0.block g hg (by simp))).trans h
  have hs : ∀ x ∈ L, Sure w (· < w0.heap.size) x := fun x hx => (hs0 x hx).kept g0 (by simp)
  have hLn : L.length = n := by rw [← hl.1, ← hL, List.length_map]
  have fin : ∀ v' w', w'.ownsRow w.heap.size 25 6 v' n (rxs L) → Gn w w' → CopiedN w' w0.heap.size w.heap.size v' l := fun v' w' hown hgr => by
   refine .inr ⟨L, hL, by rw [hLn]; exact hown, fun x hx => (hs x hx).kept hgr (by simp)⟩
  cases X with
  | some b =>
   obtain ⟨v', w', hr, hown, hgr⟩ := run_append_arg_grows (P := Tryz.prog) w 22 ty 25 i0 _ 6 80 Tryz.underlying22 hi0 hz0 hz1 hz2 rfl (by decide) b 0 0 [] rfl (fun j u hu => by simp at hu) ⟨g, o, none⟩ n c (rxs L) (by rw [rxs_len, hLn]) hcells (by omega) (by simp only [maxLen]; omega) (by omega)
   rw [Nat.zero_add, List.nil_append] at hown
   exact ⟨v', w', hr, fin v' w' hown hgr, hgr⟩
  | none =>
   obtain ⟨v', w', hr, hown, hgr, _⟩ := run_append_own (P := Tryz.prog) w w.heap.size 22 ty 25 i0 _ 6 80 Tryz.underlying22 hi0 hz0 hz1 hz2 rfl (by decide) (.slice none 0 0) 0 [] (World.ownsRow_nil w _ _ _) ⟨g, o, none⟩ n c (rxs L) (by rw [rxs_len, hLn]) hcells (rxs_one L) (by simp only [maxLen]; omega) (by omega) (Nat.le_refl _)
   rw [Nat.zero_add, List.nil_append] at hown
   exact ⟨v', w', hr, fin v' w' hown hgr, hgr⟩
theorem run_moreN {w : World} (ty : TypeId) (N B : Nat) (v : Value) (l : List Rc) (h : CopiedN w N B v l) (hNB : N ≤ B) (hn : l.length ≤ 1000000) (hB : B ≤ w.heap.size)
  (g c : Nat) (r : Rc) (A : Option Addr) (d : Nat) (hc : RecC0 w g r A d) (hw : WL w A r.wraps.length r.wraps) (hd : r.wraps.length ≤ d) (hA : 0 < r.wraps.length → ∀ b, A = some b → b.block < N) :
  ∃ v' w', (Builtin.append_ #[22, 22] ty #[v, .slice (some ⟨g, 0, none⟩) 1 c]).run Tryz.prog w = .ok v' w' ∧ LR w' (· < N) B v' (l ++ [r]) ∧ ∀ u : World, u.heap.size ≤ B → Gn u w → Gn u w' := by
 rcases h with ⟨rfl, hb⟩ | h
 ·obtain ⟨v', w', hr, ⟨L, h1, h2, h3⟩, hu⟩ := run_more ty B v [] (.inl ⟨rfl, hb⟩) (Nat.zero_le _) hB g c r A d hc hw hd (fun h0 b hb => Nat.lt_of_lt_of_le (hA h0 b hb) hNB)
  obtain ⟨X, rfl⟩ := hb
  obtain ⟨i0, hi0, hz0, hz1, hz2⟩ := recI
  have fin : ∀ v' w', w'.ownsRow w.heap.size 25 6 v' 1 (rx1 ⟨r, A, d⟩) → Gn w w' → LR w' (· < N) B v' [r] := fun v' w' hown hgr => by
   refine LR.low (B := w.heap.size) ⟨[⟨r, A, d⟩], rfl, by rw [rxs_one_]; exact hown, fun x hx => ?_⟩ hB
   rw [List.mem_singleton.1 hx]
   exact Sure.kept (x := ⟨r, A, d⟩) ⟨hw, hd, hA⟩ hgr (by simp)
  cases X with
  | some b =>
   obtain ⟨v', w', hr, hown, hgr⟩ := run_append_arg_grows (P := Tryz.prog) w 22 ty 25 i0 _ 6 80 Tryz.underlying22 hi0 hz0 hz1 hz2 rfl (by decide) b 0 0 [] rfl (fun j u hu => by simp at hu) ⟨g, 0, none⟩ 1 c (rx1 ⟨r, A, d⟩) rfl (rx_cells hc) (by omega) (by simp only [maxLen]; omega) (by omega)
   rw [Nat.zero_add, List.nil_append] at hown
   exact ⟨v', w', hr, fin v' w' hown hgr, fun u _ hu => gb_none hu hgr⟩
  | none =>
   obtain ⟨v', w', hr, hown, hgr, _⟩ := run_append_own (P := Tryz.prog) w w.heap.size 22 ty 25 i0 _ 6 80 Tryz.underlying22 hi0 hz0 hz1 hz2 rfl (by decide) (.slice none 0 0) 0 [] (World.ownsRow_nil w _ _ _) ⟨g, 0, none⟩ 1 c (rx1 ⟨r, A, d⟩) rfl (rx_cells hc) (rx1_one _) (by simp only [maxLen]; omega) (by omega) (Nat.le_refl _)
   rw [Nat.zero_add, List.nil_append] at hown
   exact ⟨v', w', hr, fin v' w' hown hgr, fun u _ hu => gb_none hu hgr⟩
 ·have hf := h.far
  obtain ⟨v', w', hr, hl, hg, _⟩ := run_rec ty (· < N) B v l h hn hB (fun q hq e => by have := (hf q e.symm).1; omega) g c r A d hc hw hd hA
  exact ⟨v', w', hr, hl, fun u hu1 hu => gb_step hu hg fun i e => .inr (Nat.le_trans hu1 (hf i e).1)⟩
theorem keyI_inf : (Tryz.prog.info? 31).map (fun i => (i.zero, i.size, i.bytes)) = some (some (.agg #[.int .i64 0, .string ⟨#[]⟩]), 2, 24) := by kernel_rfl
theorem keyI : ∃ i, Tryz.prog.info? 31 = some i ∧ i.zero = some (.agg #[.int .i64 0, .string ⟨#[]⟩]) ∧ i.size = 2 ∧ i.bytes = 24 := by
 obtain ⟨i, hi, h⟩ := Option.map_eq_some_iff.1 keyI_inf
 simp only [Prod.mk.injEq] at h
 exact ⟨i, hi, h.1, h.2.1, h.2.2⟩
def KR (w : World) (B : Nat) (v : Value) (l : List Mb.Wp) : Prop := w.ownsRow B 31 2 v l.length (wv l)
theorem KR.keep {w w' : World} {B : Nat} {v : Value} {l : List Mb.Wp} (h : KR w B v l) (k : Gn w w') : KR w' B v l := World.ownsRow.kept h k (by cases hv : v.ownBlock <;> simp)
theorem KR.nil (w : World) (B : Nat) : KR w B (.slice none 0 0) [] := World.ownsRow_nil _ _ _ _
theorem KR.wl {w : World} {B : Nat} {v : Value} {l : List Mb.Wp} (h : KR w B v l) : ∃ A c, v = .slice A l.length c ∧ WL w A l.length l ∧ l.length ≤ c := own_wl h rfl
theorem wl_cells {w : World} {g o n : Nat} {l : List Mb.Wp} (h : WL w (some ⟨g, o, none⟩) n l) : ∀ (j : Nat) (u : Value), (wv l)[j]? = some u → w.cell? ((⟨g, o, none⟩ : Addr).add j) = some u := fun j u hu => by
 have hj : j < l.length * 2 := by have := (List.getElem?_eq_some_iff.1 hu).1; rwa [wv_len] at this
 obtain ⟨x, hx⟩ : ∃ x, l[j / 2]? = some x := ⟨_, List.getElem?_eq_getElem (by omega)⟩
 obtain ⟨g', o', e, _, c0, c1⟩ := wl_at h hx
 cases e
 have hc := wv_at l (j / 2) x hx (j % 2) (Nat.mod_lt _ (by decide))
 rw [show j / 2 * 2 + j % 2 = j by omega, hu] at hc
 rw [addr_add]
 rcases Nat.mod_two_eq_zero_or_one j with h2 | h2
 ·rw [h2] at hc; rw [show o + j = o + j / 2 * 2 by omega, hc]; exact c0
 ·rw [h2] at hc; rw [show o + j = o + j / 2 * 2 + 1 by omega, hc]; exact c1
def CopiedK (w : World) (B : Nat) (v : Value) (l : List Mb.Wp) : Prop := (l = [] ∧ Bare0 v) ∨ KR w B v l
theorem CopiedK.slice {w : World} {B : Nat} {v : Value} {l : List Mb.Wp} (h : CopiedK w B v l) : ∃ A m c, v = .slice A m c := by
 rcases h with ⟨_, X, rfl⟩ | h
 ·exact ⟨X, 0, 0, rfl⟩
 ·obtain ⟨A, c, e, _⟩ := h.wl; exact ⟨A, _, c, e⟩
theorem CopiedK.keep {w w' : World} {B : Nat} {v : Value} {l : List Mb.Wp} (h : CopiedK w B v l) (k : Gn w w') : CopiedK w' B v l := h.imp id fun h => h.keep k
theorem CopiedK.wl {w : World} {B : Nat} {v : Value} {l : List Mb.Wp} (h : CopiedK w B v l) : ∃ A c, v = .slice A l.length c ∧ WL w A l.length l ∧ l.length ≤ c := by
 rcases h with ⟨rfl, X, rfl⟩ | h
 ·exact ⟨X, 0, rfl, WL.none _ _, Nat.le_refl _⟩
 ·exact h.wl
theorem run_keys {w : World} (ty : TypeId) (B : Nat) (v : Value) (l : List Mb.Wp) (h : CopiedK w B v l) (hn : l.length ≤ 1000000) (hB : B ≤ w.heap.size) (A : Option Addr) (m c : Nat) (news : List Mb.Wp) (hw : WL w A m news) (hm : m ≤ 1000000) (hc : m ≤ c) :
  ∃ v' w', (Builtin.append_ #[26, 26] ty #[v, .slice A m c]).run Tryz.prog w = .ok v' w' ∧ CopiedK w' B v' (l ++ news) ∧ ∀ u : World, u.heap.size ≤ B → Gn u w → Gn u w' := by
 obtain ⟨i0, hi0, hz0, hz1, hz2⟩ := keyI
 rcases Nat.eq_zero_or_pos m with h0 | h0
 ·have e : news = [] := List.eq_nil_of_length_eq_zero (by rw [hw.1, h0])
  subst h0 e
  obtain ⟨V, k, d, rfl⟩ := h.slice
  refine ⟨.slice V k d, w, ?_, by rw [List.append_nil]; exact h, fun u _ hu => hu⟩
  have hkd : k ≤ d := by
   obtain ⟨_, _, e1, _, h2⟩ := h.wl
   cases e1; exact h2
  cases V <;> cases A <;> simp [Builtin.append_, run_underlying Tryz.underlying26, sizeOf, typeInfo, hi0, Builtin.lenOf, Builtin.firstCells, storeCells, loadCells, loadCellsFrom, hkd]
 ·obtain ⟨g, o, rfl, hg, _⟩ := hw.2 h0
  have hcells := wl_cells hw
  have hlen : (wv news).length = m * 2 := by rw [wv_len, hw.1]
  rcases h with ⟨rfl, X, rfl⟩ | h
  ·have fin : ∀ v' w', w'.ownsRow w.heap.size 31 2 v' m (wv news) → Gn w w' → CopiedK w' B v' ([] ++ news) := fun v' w' hown hgr => by
    refine .inr ⟨by rw [List.nil_append, wv_len], ?_⟩
    rw [List.nil_append, hw.1]
    rcases hown.2 with h1 | ⟨g, cap, cur, h1, h2, h3⟩
    ·exact .inl h1
    ·exact .inr ⟨g, cap, cur, h1, Nat.le_trans hB h2, h3⟩
   cases X with
   | some b =>
    obtain ⟨v', w', hr, hown, hgr⟩ := run_append_arg_grows (P := Tryz.prog) w 26 ty 31 i0 _ 2 24 Tryz.underlying26 hi0 hz0 hz1 hz2 rfl (by decide) b 0 0 [] rfl (fun j u hu => by simp at hu) ⟨g, o, none⟩ m c (wv news) hlen hcells (by omega) (by simp only [maxLen]; omega) (by omega)
    rw [Nat.zero_add, List.nil_append] at hown
    exact ⟨v', w', hr, fin v' w' hown hgr, fun u _ hu => gb_none hu hgr⟩
   | none =>
    obtain ⟨v', w', hr, hown, hgr, _⟩ := run_append_own (P := Tryz.prog) w w.heap.size 26 ty 31 i0 _ 2 24 Tryz.underlying26 hi0 hz0 hz1 hz2 rfl (by decide) (.slice none 0 0) 0 [] (World.ownsRow_nil w _ _ _) ⟨g, o, none⟩ m c (wv news) hlen hcells (wv_one news) (by simp only [maxLen]; omega) (by omega) (Nat.le_refl _)
    rw [Nat.zero_add, List.nil_append] at hown
    exact ⟨v', w', hr, fin v' w' hown hgr, fun u _ hu => gb_none hu hgr⟩
  ·have hf := own_far6 h
   obtain ⟨v', w', hr, own, hgr, _, hb⟩ := run_append_own_at (P := Tryz.prog) w B 26 ty 31 i0 _ 2 24 Tryz.underlying26 hi0 hz0 hz1 hz2 rfl (by decide) v l.length (wv l) h ⟨g, o, none⟩ m c (wv news) hlen hcells (wv_one news) (by simp only [maxLen]; omega) (by omega) hB
   refine ⟨v', w', hr, .inr ?_, fun u hu1 hu => gb_step hu hgr fun i e => .inr (Nat.le_trans hu1 (hf i e).1)⟩
   show World.ownsRow _ _ _ _ _ _ _
   rw [List.length_append, hw.1, wv_append]
   exact own
end Go.Proofs.YtpcjbjpofcdjeaaGreatDoor.Wc
