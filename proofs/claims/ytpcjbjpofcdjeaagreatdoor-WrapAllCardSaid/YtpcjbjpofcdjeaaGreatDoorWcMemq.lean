/- Rows of one's own of records with wraps, of keys. -/
import Derived.Test.YtpcjbjpofcdjeaaGreatDoorWcPq
import Derived.ArgAppend
set_option linter.unusedVariables false
namespace Go.Proofs.YtpcjbjpofcdjeaaGreatDoor.Wc
open Go Go.RowKit Mm Td Vw Mb
theorem head_size (r : Rc) : (Mb.headB r).size ≤ 2000 := by
 by_cases h : MayR r
 ·rw [headB_yes h]
  show (headW r).enc.toArray.size ≤ 2000
  rw [List.size_toArray]
  exact head_short h
 ·rw [headB_no h]; exact Nat.zero_le _
structure Rx where
 r : Rc
 A : Option Addr
 c : Nat
def rx1 (x : Rx) : List Value := [.int .i64 x.r.seq, .string x.r.prev, .int .i64 x.r.kind, .int .i64 x.r.dev, .slice x.A x.r.wraps.length x.c, .string x.r.tag]
def rxs (l : List Rx) : List Value := l.flatMap rx1
theorem rxs_append (a b : List Rx) : rxs (a ++ b) = rxs a ++ rxs b := by unfold rxs; rw [List.flatMap_append]
theorem rxs_cons (r : Rx) (l : List Rx) : rxs (r :: l) = rx1 r ++ rxs l := rfl
theorem rxs_one_ (x : Rx) : rxs [x] = rx1 x := List.append_nil _
theorem rxs_len (l : List Rx) : (rxs l).length = l.length * 6 := by
 induction l with
 | nil => rfl
 | cons r l ih => rw [rxs_cons, List.length_append, ih, List.length_cons]; simp [rx1]; omega
theorem rxs_one (l : List Rx) : ∀ u ∈ rxs l, u.oneCell' = true := by
 intro u hu
 unfold rxs at hu
 obtain ⟨x, _, hx⟩ := List.mem_flatMap.1 hu
 unfold rx1 at hx
 simp only [List.mem_cons, List.not_mem_nil, or_false] at hx
 rcases hx with rfl | rfl | rfl | rfl | rfl | rfl <;> rfl
theorem rxs_at : ∀ (l : List Rx) (i : Nat) (x : Rx), l[i]? = some x → ∀ j, j < 6 → (rxs l)[i * 6 + j]? = (rx1 x)[j]?
 | [], i, x, h => by simp at h
 | r :: l, 0, x, h => fun j hj => by
  obtain rfl : r = x := by simpa using h
  rw [rxs_cons, List.getElem?_append_left (by simp [rx1]; omega), Nat.zero_mul, Nat.zero_add]
 | r :: l, i + 1, x, h => fun j hj => by
  have ih := rxs_at l i x (by simpa using h) j hj
  rw [rxs_cons, List.getElem?_append_right (by simp [rx1]; omega)]
  rw [show (i + 1) * 6 + j - (rx1 r).length = i * 6 + j by simp [rx1]; omega, ih]
theorem addr_add (g o j : Nat) : (⟨g, o, none⟩ : Addr).add j = ⟨g, o + j, none⟩ := by unfold Addr.add; split <;> simp_all
section
variable {w w' : World}
theorem wl_kept {A : Option Addr} {n : Nat} {l : List Mb.Wp} {row : Option Nat} (h : WL w A n l) (k : w.grownBy w' row) (hr : 0 < n → ∀ a, A = some a → some a.block ≠ row) : WL w' A n l := by
 refine ⟨h.1, fun hn => ?_⟩
 obtain ⟨g, o, rfl, hl, hc⟩ := h.2 hn
 exact ⟨g, o, rfl, Nat.lt_of_lt_of_le hl k.size, fun i x hx => (hc i x hx).kept hl k (hr hn _ rfl)⟩
theorem wl_lt {A : Option Addr} {n : Nat} {l : List Mb.Wp} (h : WL w A n l) : 0 < n → ∀ a, A = some a → a.block < w.heap.size := fun hn a ha => by
 obtain ⟨g, o, e, hl, _⟩ := h.2 hn
 rw [e] at ha; cases ha; exact hl
def Sure (w : World) (P : Nat → Prop) (x : Rx) : Prop := WL w x.A x.r.wraps.length x.r.wraps ∧ x.r.wraps.length ≤ x.c ∧ (0 < x.r.wraps.length → ∀ a, x.A = some a → P a.block)
def LR (w : World) (P : Nat → Prop) (B : Nat) (v : Value) (l : List Rc) : Prop := ∃ L : List Rx, L.map (·.r) = l ∧ w.ownsRow B 25 6 v L.length (rxs L) ∧ ∀ x ∈ L, Sure w P x
theorem LR.nil (w : World) (P : Nat → Prop) (B : Nat) : LR w P B (.slice none 0 0) [] := ⟨[], rfl, World.ownsRow_nil _ _ _ _, fun x hx => by cases hx⟩
theorem Sure.kept {P : Nat → Prop} {x : Rx} {row : Option Nat} (h : Sure w P x) (k : w.grownBy w' row) (hP : ∀ g, P g → some g ≠ row) : Sure w' P x :=
 ⟨wl_kept h.1 k fun hn a ha => hP _ (h.2.2 hn a ha), h.2.1, h.2.2⟩
theorem LR.kept {P : Nat → Prop} {B : Nat} {v : Value} {l : List Rc} {row : Option Nat} (h : LR w P B v l) (k : w.grownBy w' row) (hv : v.ownBlock = none ∨ v.ownBlock ≠ row) (hP : ∀ g, P g → some g ≠ row) : LR w' P B v l := by
 obtain ⟨L, e, ho, hs⟩ := h
 exact ⟨L, e, ho.kept k hv, fun x hx => (hs x hx).kept k hP⟩
theorem LR.keep {P : Nat → Prop} {B : Nat} {v : Value} {l : List Rc} (h : LR w P B v l) (k : Gn w w') : LR w' P B v l :=
 h.kept k (by cases hv : v.ownBlock <;> simp) fun g _ => by simp
theorem LR.more {P Q : Nat → Prop} {B : Nat} {v : Value} {l : List Rc} (h : LR w P B v l) (hq : ∀ g, g < w.heap.size → P g → Q g) : LR w Q B v l := by
 obtain ⟨L, e, ho, hs⟩ := h
 exact ⟨L, e, ho, fun x hx => ⟨(hs x hx).1, (hs x hx).2.1, fun hn a ha => hq _ (wl_lt (hs x hx).1 hn a ha) ((hs x hx).2.2 hn a ha)⟩⟩
theorem LR.low {P : Nat → Prop} {B B' : Nat} {v : Value} {l : List Rc} (h : LR w P B v l) (hB : B' ≤ B) : LR w P B' v l := by
 obtain ⟨L, e, ho, hs⟩ := h
 refine ⟨L, e, ⟨ho.1, ?_⟩, hs⟩
 rcases ho.2 with h1 | ⟨g, cap, cur, h1, h2, h3⟩
 ·exact .inl h1
 ·exact .inr ⟨g, cap, cur, h1, Nat.le_trans hB h2, h3⟩
theorem own_far6 {B n s : Nat} {e : TypeId} {v : Value} {xs : List Value} (h : w.ownsRow B e s v n xs) : ∀ i, v.ownBlock = some i → B ≤ i ∧ i < w.heap.size := fun i hi => by
 rcases h.2 with ⟨rfl, _⟩ | ⟨g, cap, cur, rfl, hB, hg, _⟩
 ·simp [Value.ownBlock] at hi
 ·simp [Value.ownBlock] at hi; subst hi; exact ⟨hB, (Array.getElem?_eq_some_iff.1 hg).1⟩
theorem LR.far {P : Nat → Prop} {B : Nat} {v : Value} {l : List Rc} (h : LR w P B v l) : ∀ i, v.ownBlock = some i → B ≤ i ∧ i < w.heap.size := by
 obtain ⟨L, e, ho, hs⟩ := h
 exact own_far6 ho
theorem LR.log {P : Nat → Prop} {B : Nat} {v : Value} {l : List Rc} (h : LR w P B v l) : ∃ A c, v = .slice A l.length c ∧ LogL w A l.length l ∧ l.length ≤ c := by
 obtain ⟨L, rfl, ho, hs⟩ := h
 have hcells := fun (g : Nat) (hg : v.ownBlock = some g) => World.ownsRow.cells ho hg
 have hlen : (L.map (·.r)).length = L.length := List.length_map _
 rw [hlen]
 rcases ho.2 with ⟨rfl, h1⟩ | ⟨g, cap, cur, rfl, hB, hg, hle, _⟩
 ·exact ⟨none, 0, by rw [h1], ⟨hlen, fun hp => absurd hp (by omega)⟩, by omega⟩
 ·refine ⟨_, cap, rfl, ⟨hlen, fun _ => ⟨g, 0, rfl, (Array.getElem?_eq_some_iff.1 hg).1, fun i y hy => ?_⟩⟩, hle⟩
  rw [List.getElem?_map] at hy
  obtain ⟨x, hx, rfl⟩ := Option.map_eq_some_iff.1 hy
  have hat : ∀ j u, (rxs L)[j]? = some u → w.cell? ⟨g, 0 + j, none⟩ = some u := fun j u hu => by
   have := hcells g rfl j u hu
   rwa [addr_add] at this
  have r := rxs_at L i x hx
  have q := hs x (List.mem_of_getElem? hx)
  exact ⟨x.A, x.c, hat _ _ (r 0 (by decide)), hat _ _ (r 1 (by decide)), hat _ _ (r 2 (by decide)), hat _ _ (r 3 (by decide)), hat _ _ (r 4 (by decide)), hat _ _ (r 5 (by decide)), q.1, q.2.1⟩
theorem LR.slice {P : Nat → Prop} {B : Nat} {v : Value} {l : List Rc} (h : LR w P B v l) : ∃ A m c, v = .slice A m c := by obtain ⟨A, c, e, _⟩ := h.log; exact ⟨A, _, c, e⟩
theorem log_rx {g o n : Nat} {l : List Rc} (h : LogL w (some ⟨g, o, none⟩) n l) : ∃ L : List Rx, L.map (·.r) = l ∧ (∀ (j : Nat) (u : Value), (rxs L)[j]? = some u → w.cell? ((⟨g, o, none⟩ : Addr).add j) = some u) ∧ ∀ x ∈ L, Sure w (· < w.heap.size) x := by
 have key : ∀ k, k ≤ l.length → ∃ L : List Rx, L.map (·.r) = l.take k ∧ (∀ (j : Nat) (u : Value), (rxs L)[j]? = some u → w.cell? ((⟨g, o, none⟩ : Addr).add j) = some u) ∧ ∀ x ∈ L, Sure w (· < w.heap.size) x := by
  intro k
  induction k with
  | zero => exact fun _ => ⟨[], rfl, fun j u hu => by simp [rxs] at hu, fun x hx => by cases hx⟩
  | succ k ih =>
   intro hk
   obtain ⟨L, h1, h2, h3⟩ := ih (by omega)
   obtain ⟨r, hr⟩ : ∃ r, l[k]? = some r := ⟨_, List.getElem?_eq_getElem (by omega)⟩
   obtain ⟨g', o', e, hlt, A, c, c0, c1, c2, c3, c4, c5, hw, hc⟩ := log_at h hr
   cases e
   have hL : L.length = k := by have := congrArg List.length h1; rw [List.length_map, List.length_take] at this; omega
   refine ⟨L ++ [⟨r, A, c⟩], by rw [List.map_append, h1, List.take_add_one, hr]; rfl, fun j u hu => ?_, fun x hx => ?_⟩
   ·rw [rxs_append, rxs_one_] at hu
    by_cases hj : j < (rxs L).length
    ·rw [List.getElem?_append_left hj] at hu; exact h2 j u hu
    ·rw [List.getElem?_append_right (by omega), rxs_len, hL] at hu
     rw [rxs_len, hL] at hj
     obtain ⟨q, rfl⟩ : ∃ q, j = k * 6 + q := ⟨j - k * 6, by omega⟩
     rw [Nat.add_sub_cancel_left] at hu
     have hq : q < 6 := by have := (List.getElem?_eq_some_iff.1 hu).1; simpa [rx1] using this
     rw [addr_add, show o + (k * 6 + q) = o + k * 6 + q by omega]
     match q, hq, hu with
     | 0, _, hu => rw [← hu]; exact c0
     | 1, _, hu => rw [← hu]; exact c1
     | 2, _, hu => rw [← hu]; exact c2
     | 3, _, hu => rw [← hu]; exact c3
     | 4, _, hu => rw [← hu]; exact c4
     | 5, _, hu => rw [← hu]; exact c5
   ·rcases List.mem_append.1 hx with h4 | h4
    ·exact h3 x h4
    ·rw [List.mem_singleton.1 h4]; exact ⟨hw, hc, fun hn a ha => wl_lt hw hn a ha⟩
 obtain ⟨L, h1, h2⟩ := key l.length (Nat.le_refl _)
 rw [List.take_length] at h1
 exact ⟨L, h1, h2⟩
end
theorem recI_inf : (Tryz.prog.info? 25).map (fun i => (i.zero, i.size, i.bytes)) = some (some (.agg #[.int .i64 0, .string ⟨#[]⟩, .int .i64 0, .int .i64 0, .slice none 0 0, .string ⟨#[]⟩]), 6, 80) := by kernel_rfl
theorem recI : ∃ i, Tryz.prog.info? 25 = some i ∧ i.zero = some (.agg #[.int .i64 0, .string ⟨#[]⟩, .int .i64 0, .int .i64 0, .slice none 0 0, .string ⟨#[]⟩]) ∧ i.size = 6 ∧ i.bytes = 80 := by
 obtain ⟨i, hi, h⟩ := Option.map_eq_some_iff.1 recI_inf
 simp only [Prod.mk.injEq] at h
 exact ⟨i, hi, h.1, h.2.1, h.2.2⟩
theorem rx_cells {w : World} {g : Nat} {r : Rc} {A : Option Addr} {d : Nat} (h : RecC0 w g r A d) : ∀ j u, (rx1 ⟨r, A, d⟩)[j]? = some u → w.cell? ((⟨g, 0, none⟩ : Addr).add j) = some u := fun j u hu => by
 obtain ⟨c0, c1, c2, c3, c4, c5⟩ := h
 have hq : j < 6 := by have := (List.getElem?_eq_some_iff.1 hu).1; simpa [rx1] using this
 rw [addr_add, Nat.zero_add]
 match j, hq, hu with
 | 0, _, hu => rw [← hu]; exact c0
 | 1, _, hu => rw [← hu]; exact c1
 | 2, _, hu => rw [← hu]; exact c2
 | 3, _, hu => rw [← hu]; exact c3
 | 4, _, hu => rw [← hu]; exact c4
 | 5, _, hu => rw [← hu]; exact c5
theorem rx1_one (x : Rx) : ∀ u ∈ rx1 x, u.oneCell' = true := fun u hu => rxs_one [x] u (by rw [rxs_one_]; exact hu)
theorem run_rec {w : World} (ty : TypeId) (P : Nat → Prop) (B : Nat) (v : Value) (l : List Rc) (h : LR w P B v l) (hn : l.length ≤ 1000000) (hB : B ≤ w.heap.size) (hP : ∀ g, P g → some g ≠ v.ownBlock)
  (g c : Nat) (r : Rc) (A : Option Addr) (d : Nat) (hc : RecC0 w g r A d) (hw : WL w A r.wraps.length r.wraps) (hd : r.wraps.length ≤ d) (hA : 0 < r.wraps.length → ∀ b, A = some b → P b.block) :
  ∃ v' w', (Builtin.append_ #[22, 22] ty #[v, .slice (some ⟨g, 0, none⟩) 1 c]).run Tryz.prog w = .ok v' w' ∧ LR w' P B v' (l ++ [r]) ∧ w.grownBy w' v.ownBlock ∧ (v'.ownBlock = v.ownBlock ∨ v'.ownBlock = some w.heap.size) := by
 obtain ⟨L, rfl, how, hsu⟩ := h
 have hlen : (L.map (·.r)).length = L.length := List.length_map _
 rw [hlen] at hn
 obtain ⟨i0, hi0, hz0, hz1, hz2⟩ := recI
 obtain ⟨v', w', hr, own, hg, _, hb⟩ := run_append_own_at (P := Tryz.prog) w B 22 ty 25 i0 _ 6 80 Tryz.underlying22 hi0 hz0 hz1 hz2 rfl (by decide) v L.length (rxs L) how ⟨g, 0, none⟩ 1 c (rx1 ⟨r, A, d⟩) rfl (rx_cells hc) (rx1_one _) (by simp only [maxLen]; omega) (by omega) hB
 refine ⟨v', w', hr, ⟨L ++ [⟨r, A, d⟩], by rw [List.map_append]; rfl, ?_, fun y hy => ?_⟩, hg, hb⟩
 ·rw [List.length_append, rxs_append, rxs_one_]; exact own
 ·rcases List.mem_append.1 hy with h1 | h1
  ·exact (hsu y h1).kept hg hP
  ·rw [List.mem_singleton.1 h1]
   exact Sure.kept (x := ⟨r, A, d⟩) ⟨hw, hd, hA⟩ hg hP
def Bare0 (v : Value) : Prop := ∃ X, v = .slice X 0 0
def Copied (w : World) (B : Nat) (v : Value) (l : List Rc) : Prop := (l = [] ∧ Bare0 v) ∨ LR w (· < B) B v l
theorem Copied.slice {w : World} {B : Nat} {v : Value} {l : List Rc} (h : Copied w B v l) : ∃ A m c, v = .slice A m c := by
 rcases h with ⟨_, X, rfl⟩ | h
 ·exact ⟨X, 0, 0, rfl⟩
 ·exact h.slice
theorem Copied.keep {w w' : World} {B : Nat} {v : Value} {l : List Rc} (h : Copied w B v l) (k : Gn w w') : Copied w' B v l := h.imp id fun h => h.keep k
theorem run_copy {w : World} (t ty : TypeId) (ht : t = 22) (X : Option Addr) (A : Option Addr) (n c : Nat) (l : List Rc) (hl : LogL w A n l) (hn : n ≤ 1000000) (hc : n ≤ c) :
  ∃ v' w', (Builtin.append_ #[t, t] ty #[.slice X 0 0, .slice A n c]).run Tryz.prog w = .ok v' w' ∧ Copied w' w.heap.size v' l ∧ Gn w w' := by
 subst ht
 obtain ⟨i0, hi0, hz0, hz1, hz2⟩ := recI
 rcases Nat.eq_zero_or_pos n with h0 | h0
 ·have e : l = [] := List.eq_nil_of_length_eq_zero (by rw [hl.1, h0])
  subst h0 e
  refine ⟨.slice X 0 0, w, ?_, .inl ⟨rfl, X, rfl⟩, gb_refl _ _⟩
  cases X <;> cases A <;> simp [Builtin.append_, run_underlying Tryz.underlying22, sizeOf, typeInfo, hi0, Builtin.lenOf, Builtin.firstCells, storeCells, loadCells, loadCellsFrom]
 ·obtain ⟨g, o, rfl, hg, _⟩ := hl.2 h0
  obtain ⟨L, hL, hcells, hs⟩ := log_rx hl
  have hLn : L.length = n := by rw [← hl.1, ← hL, List.length_map]
  have fin : ∀ v' w', w'.ownsRow w.heap.size 25 6 v' n (rxs L) → Gn w w' → Copied w' w.heap.size v' l := fun v' w' hown hgr => by
   refine .inr ⟨L, hL, by rw [hLn]; exact hown, fun x hx => (hs x hx).kept hgr (by simp)⟩
  cases X with
  | some b =>
   obtain ⟨v', w', hr, hown, hgr⟩ := run_append_arg_grows (P := Tryz.prog) w 22 ty 25 i0 _ 6 80 Tryz.underlying22 hi0 hz0 hz1 hz2 rfl (by decide) b 0 0 [] rfl (fun j u hu => by simp at hu) ⟨g, o, none⟩ n c (rxs L) (by rw [rxs_len, hLn]) hcells (by omega) (by simp only [maxLen]; omega) (by omega)
   rw [Nat.zero_add, List.nil_append] at hown
   exact ⟨v', w', hr, fin v' w' hown hgr, hgr⟩
  | none =>
   obtain ⟨v', w', hr, hown, hgr, _⟩ := run_append_own (P := Tryz.prog) w w.heap.size 22 ty 25 i0 _ 6 80 Tryz.underlying22 hi0 hz0 hz1 hz2 rfl (by decide) (.slice none 0 0) 0 [] (World.ownsRow_nil w _ _ _) ⟨g, o, none⟩ n c (rxs L) (by rw [rxs_len, hLn]) hcells (rxs_one L) (by simp only [maxLen]; omega) (by omega) (Nat.le_refl _)
   rw [Nat.zero_add, List.nil_append] at hown
   exact ⟨v', w', hr, fin v' w' hown hgr, hgr⟩
theorem run_more {w : World} (ty : TypeId) (B : Nat) (v : Value) (l : List Rc) (h : Copied w B v l) (hn : l.length ≤ 1000000) (hB : B ≤ w.heap.size)
  (g c : Nat) (r : Rc) (A : Option Addr) (d : Nat) (hc : RecC0 w g r A d) (hw : WL w A r.wraps.length r.wraps) (hd : r.wraps.length ≤ d) (hA : 0 < r.wraps.length → ∀ b, A = some b → b.block < B) :
  ∃ v' w', (Builtin.append_ #[22, 22] ty #[v, .slice (some ⟨g, 0, none⟩) 1 c]).run Tryz.prog w = .ok v' w' ∧ LR w' (· < B) B v' (l ++ [r]) ∧ ∀ u : World, u.heap.size ≤ B → Gn u w → Gn u w' := by
 rcases h with ⟨rfl, X, rfl⟩ | h
 ·obtain ⟨i0, hi0, hz0, hz1, hz2⟩ := recI
  have fin : ∀ v' w', w'.ownsRow w.heap.size 25 6 v' 1 (rx1 ⟨r, A, d⟩) → Gn w w' → LR w' (· < B) B v' [r] := fun v' w' hown hgr => by
   refine LR.low (B := w.heap.size) ⟨[⟨r, A, d⟩], rfl, by rw [rxs_one_]; exact hown, fun x hx => ?_⟩ hB
   rw [List.mem_singleton.1 hx]
   exact Sure.kept (x := ⟨r, A, d⟩) ⟨hw, hd, hA⟩ hgr (by simp)
  cases X with
  | some b =>
   obtain ⟨v', w', hr, hown, hgr⟩ := run_append_arg_grows (P := Tryz.prog) w 22 ty 25 i0 _ 6 80 Tryz.underlying22 hi0 hz0 hz1 hz2 rfl (by decide) b 0 0 [] rfl (fun j u hu => by simp at hu) ⟨g, 0, none⟩ 1 c (rx1 ⟨r, A, d⟩) rfl (rx_cells hc) (by omega) (by simp only [maxLen]; omega) (by omega)
   rw [Nat.zero_add, List.nil_append] at hown
   exact ⟨v', w', hr, fin v' w' hown hgr, fun u _ hu => gb_none hu hgr⟩
  | none =>
   obtain ⟨v', w', hr, hown, hgr, _⟩ := run_append_own (P := Tryz.prog) w w.heap.size 22 ty 25 i0 _ 6 80 Tryz.underlying22 hi0 hz0 hz1 hz2 rfl (by decide) (.slice none 0 0) 0 [] (World.ownsRow_nil w _ _ _) ⟨g, 0, none⟩ 1 c (rx1 ⟨r, A, d⟩) rfl (rx_cells hc) (rx1_one _) (by simp only [maxLen]; omega) (by omega) (Nat.le_refl _)
   rw [Nat.zero_add, List.nil_append] at hown
   exact ⟨v', w', hr, fin v' w' hown hgr, fun u _ hu => gb_none hu hgr⟩
 ·have hf := h.far
  obtain ⟨v', w', hr, hl, hg, _⟩ := run_rec ty (· < B) B v l h hn hB (fun q hq e => by have := (hf q e.symm).1; omega) g c r A d hc hw hd hA
  exact ⟨v', w', hr, hl, fun u hu1 hu => gb_step hu hg fun i e => .inr (Nat.le_trans hu1 (hf i e).1)⟩
end Go.Proofs.YtpcjbjpofcdjeaaGreatDoor.Wc
