/- Records in memory. -/
import Derived.Test.YtaecfcodldbnhaaMbP
import Derived.Test.YtaecfcodldbnhaaBase
set_option linter.unusedVariables false
namespace Go.Proofs.Ytaecfcodldbnhaa.Mb
open Go Go.RowKit Go.Proofs.Ytaecfcodldbnhaa.Mm

section
variable {w w' : World}
/-- The slice at A, of n wraps, reads as these. -/
def WAt (w : World) (g o : Nat) (x : Wp) : Prop := w.cell? ⟨g, o, none⟩ = some (.int .i64 x.d) ∧ w.cell? ⟨g, o + 1, none⟩ = some (.string x.box)
def WL (w : World) (A : Option Addr) (n : Nat) (l : List Wp) : Prop :=
  l.length = n ∧ (0 < n → ∃ g o, A = some ⟨g, o, none⟩ ∧ g < w.heap.size ∧ ∀ i x, l[i]? = some x → WAt w g (o + i * 2) x)
theorem WAt.kept {g o : Nat} {x : Wp} {row : Option Nat} (h : WAt w g o x) (hg : g < w.heap.size) (k : w.grownBy w' row) (hr : some g ≠ row) : WAt w' g o x := by
  have hb := k.block g hg hr
  exact ⟨(World.cell?_of_block (a := ⟨g, o, none⟩) hb).trans h.1, (World.cell?_of_block (a := ⟨g, o + 1, none⟩) hb).trans h.2⟩
theorem WL.keep {A : Option Addr} {n : Nat} {l : List Wp} (h : WL w A n l) (k : w.grownBy w' none) : WL w' A n l := by
  refine ⟨h.1, fun hn => ?_⟩
  obtain ⟨g, o, e, hl, hc⟩ := h.2 hn
  exact ⟨g, o, e, Nat.lt_of_lt_of_le hl k.size, fun i x hx => (hc i x hx).kept hl k (by simp)⟩
theorem WL.none (w : World) (A : Option Addr) : WL w A 0 [] := ⟨rfl, fun h => absurd h (by omega)⟩
theorem wl_at {A : Option Addr} {n : Nat} {l : List Wp} (h : WL w A n l) {i : Nat} {x : Wp} (hx : l[i]? = some x) : ∃ g o, A = some ⟨g, o, Option.none⟩ ∧ g < w.heap.size ∧ WAt w g (o + i * 2) x := by
  have hi := (List.getElem?_eq_some_iff.1 hx).1
  obtain ⟨g, o, e, hg, hc⟩ := h.2 (by have := h.1; omega)
  exact ⟨g, o, e, hg, hc i x hx⟩
/-- The six cells of a record lie here, and its wraps there. -/
def RcAt (w : World) (g o : Nat) (r : Rc) : Prop := ∃ (A : Option Addr) (c : Nat), w.cell? ⟨g, o, none⟩ = some (.int .i64 r.seq) ∧ w.cell? ⟨g, o + 1, none⟩ = some (.string r.prev) ∧ w.cell? ⟨g, o + 2, none⟩ = some (.int .i64 r.kind) ∧ w.cell? ⟨g, o + 3, none⟩ = some (.int .i64 r.dev) ∧ w.cell? ⟨g, o + 4, none⟩ = some (.slice A r.wraps.length c) ∧ w.cell? ⟨g, o + 5, none⟩ = some (.string r.tag) ∧ WL w A r.wraps.length r.wraps ∧ r.wraps.length ≤ c
theorem RcAt.keep {g o : Nat} {r : Rc} (h : RcAt w g o r) (hg : g < w.heap.size) (k : w.grownBy w' none) : RcAt w' g o r := by
  have hb := k.block g hg (by simp)
  obtain ⟨A, c, h0, h1, h2, h3, h4, h5, h6, h7⟩ := h
  exact ⟨A, c, (World.cell?_of_block (a := ⟨g, o, none⟩) hb).trans h0, (World.cell?_of_block (a := ⟨g, o + 1, none⟩) hb).trans h1, (World.cell?_of_block (a := ⟨g, o + 2, none⟩) hb).trans h2, (World.cell?_of_block (a := ⟨g, o + 3, none⟩) hb).trans h3, (World.cell?_of_block (a := ⟨g, o + 4, none⟩) hb).trans h4, (World.cell?_of_block (a := ⟨g, o + 5, none⟩) hb).trans h5, h6.keep k, h7⟩
/-- The slice at A, of n records, reads as these. -/
def LogL (w : World) (A : Option Addr) (n : Nat) (l : List Rc) : Prop :=
  l.length = n ∧ (0 < n → ∃ g o, A = some ⟨g, o, none⟩ ∧ g < w.heap.size ∧ ∀ i r, l[i]? = some r → RcAt w g (o + i * 6) r)
theorem LogL.keep {A : Option Addr} {n : Nat} {l : List Rc} (h : LogL w A n l) (k : w.grownBy w' none) : LogL w' A n l := by
  refine ⟨h.1, fun hn => ?_⟩
  obtain ⟨g, o, e, hl, hc⟩ := h.2 hn
  exact ⟨g, o, e, Nat.lt_of_lt_of_le hl k.size, fun i x hx => (hc i x hx).keep hl k⟩
theorem LogL.none (w : World) (A : Option Addr) : LogL w A 0 [] := ⟨rfl, fun h => absurd h (by omega)⟩
theorem log_at {A : Option Addr} {n : Nat} {l : List Rc} (h : LogL w A n l) {i : Nat} {r : Rc} (hr : l[i]? = some r) : ∃ g o, A = some ⟨g, o, Option.none⟩ ∧ g < w.heap.size ∧ RcAt w g (o + i * 6) r := by
  have hi := (List.getElem?_eq_some_iff.1 hr).1
  obtain ⟨g, o, e, hg, hc⟩ := h.2 (by have := h.1; omega)
  exact ⟨g, o, e, hg, hc i r hr⟩
/-- The first of them. -/
theorem log_take {A : Option Addr} {n : Nat} {l : List Rc} (h : LogL w A n l) {k : Nat} (hk : k ≤ n) : LogL w A k (l.take k) := by
  refine ⟨by rw [List.length_take, h.1]; omega, fun h0 => ?_⟩
  obtain ⟨g, o, e, hg, hc⟩ := h.2 (by omega)
  refine ⟨g, o, e, hg, fun i r hr => hc i r ?_⟩
  rw [List.getElem?_take] at hr
  split at hr
  · exact hr
  · cases hr
/-- A record as a value. -/
def recV (r : Rc) (A : Option Addr) (c : Nat) : Value := .agg #[.int .i64 r.seq, .string r.prev, .int .i64 r.kind, .int .i64 r.dev, .slice A r.wraps.length c, .string r.tag]
/-- A record that was told. -/
def RecV (w : World) (v : Value) (r : Rc) : Prop := ∃ A c, v = recV r A c ∧ WL w A r.wraps.length r.wraps ∧ r.wraps.length ≤ c
theorem RecV.keep {v : Value} {r : Rc} (h : RecV w v r) (k : w.grownBy w' none) : RecV w' v r := by
  obtain ⟨A, c, e, h1, h2⟩ := h
  exact ⟨A, c, e, h1.keep k, h2⟩
/-! ### Rows of one's own -/
def wv1 (x : Wp) : List Value := [.int .i64 x.d, .string x.box]
def wv (l : List Wp) : List Value := l.flatMap wv1
theorem wv_append (a b : List Wp) : wv (a ++ b) = wv a ++ wv b := by unfold wv; rw [List.flatMap_append]
theorem wv_cons (x : Wp) (l : List Wp) : wv (x :: l) = wv1 x ++ wv l := rfl
theorem wv_len (l : List Wp) : (wv l).length = l.length * 2 := by
  induction l with
  | nil => rfl
  | cons r l ih => rw [wv_cons, List.length_append, ih, List.length_cons]; simp [wv1]; omega
theorem wv_one (l : List Wp) : ∀ u ∈ wv l, u.oneCell' = true := by
  intro u hu
  unfold wv at hu
  obtain ⟨x, _, hx⟩ := List.mem_flatMap.1 hu
  unfold wv1 at hx
  simp only [List.mem_cons, List.not_mem_nil, or_false] at hx
  rcases hx with rfl | rfl <;> rfl
theorem wv1_one (x : Wp) : ∀ u ∈ wv1 x, u.oneCell' = true := by
  have h := wv_one [x]
  rwa [show wv [x] = wv1 x from List.append_nil _] at h
theorem wv_at : ∀ (l : List Wp) (i : Nat) (x : Wp), l[i]? = some x → ∀ j, j < 2 → (wv l)[i * 2 + j]? = (wv1 x)[j]?
  | [], i, x, h => by simp at h
  | r :: l, 0, x, h => fun j hj => by
    obtain rfl : r = x := by simpa using h
    rw [wv_cons, List.getElem?_append_left (by simp [wv1]; omega), Nat.zero_mul, Nat.zero_add]
  | r :: l, i + 1, x, h => fun j hj => by
    have ih := wv_at l i x (by simpa using h) j hj
    rw [wv_cons, List.getElem?_append_right (by simp [wv1]; omega)]
    rw [show (i + 1) * 2 + j - (wv1 r).length = i * 2 + j by simp [wv1]; omega, ih]
theorem own_wl {B n : Nat} {t : TypeId} {v : Value} {l : List Wp} (h : w.ownsRow B t 2 v n (wv l)) (hn : l.length = n) : ∃ A c, v = .slice A n c ∧ WL w A n l ∧ n ≤ c := by
  have hcells := fun (g : Nat) (hg : v.ownBlock = some g) => World.ownsRow.cells h hg
  rcases h.2 with ⟨rfl, h0⟩ | ⟨g, cap, cur, rfl, hB, hg, hle, _⟩
  · exact ⟨Option.none, 0, by rw [h0], ⟨hn, fun hp => absurd hp (by omega)⟩, by omega⟩
  · refine ⟨_, cap, rfl, ⟨hn, fun _ => ⟨g, 0, rfl, (Array.getElem?_eq_some_iff.1 hg).1, fun i x hx => ?_⟩⟩, hle⟩
    have hat : ∀ j u, (wv l)[j]? = some u → w.cell? ⟨g, 0 + j, Option.none⟩ = some u := fun j u hu => by
      have := hcells g rfl j u hu
      have hadd : (⟨g, 0, Option.none⟩ : Addr).add j = ⟨g, 0 + j, Option.none⟩ := by unfold Addr.add; split <;> simp_all
      rwa [hadd] at this
    have r := wv_at l i x hx
    exact ⟨hat _ _ (r 0 (by decide)), hat _ _ (r 1 (by decide))⟩
/-- Records without wraps. -/
def bv1 (r : Rc) : List Value := [.int .i64 r.seq, .string r.prev, .int .i64 r.kind, .int .i64 r.dev, .slice Option.none 0 0, .string r.tag]
def bv (l : List Rc) : List Value := l.flatMap bv1
theorem bv_append (a b : List Rc) : bv (a ++ b) = bv a ++ bv b := by unfold bv; rw [List.flatMap_append]
theorem bv_cons (r : Rc) (l : List Rc) : bv (r :: l) = bv1 r ++ bv l := rfl
theorem bv_len (l : List Rc) : (bv l).length = l.length * 6 := by
  induction l with
  | nil => rfl
  | cons r l ih => rw [bv_cons, List.length_append, ih, List.length_cons]; simp [bv1]; omega
theorem bv_one (l : List Rc) : ∀ u ∈ bv l, u.oneCell' = true := by
  intro u hu
  unfold bv at hu
  obtain ⟨x, _, hx⟩ := List.mem_flatMap.1 hu
  unfold bv1 at hx
  simp only [List.mem_cons, List.not_mem_nil, or_false] at hx
  rcases hx with rfl | rfl | rfl | rfl | rfl | rfl <;> rfl
theorem bv1_one (x : Rc) : ∀ u ∈ bv1 x, u.oneCell' = true := by
  have h := bv_one [x]
  rwa [show bv [x] = bv1 x from List.append_nil _] at h
theorem bv_at : ∀ (l : List Rc) (i : Nat) (x : Rc), l[i]? = some x → ∀ j, j < 6 → (bv l)[i * 6 + j]? = (bv1 x)[j]?
  | [], i, x, h => by simp at h
  | r :: l, 0, x, h => fun j hj => by
    obtain rfl : r = x := by simpa using h
    rw [bv_cons, List.getElem?_append_left (by simp [bv1]; omega), Nat.zero_mul, Nat.zero_add]
  | r :: l, i + 1, x, h => fun j hj => by
    have ih := bv_at l i x (by simpa using h) j hj
    rw [bv_cons, List.getElem?_append_right (by simp [bv1]; omega)]
    rw [show (i + 1) * 6 + j - (bv1 r).length = i * 6 + j by simp [bv1]; omega, ih]
theorem own_log {B n : Nat} {t : TypeId} {v : Value} {l : List Rc} (h : w.ownsRow B t 6 v n (bv l)) (hn : l.length = n) (h0 : ∀ r ∈ l, r.wraps = []) : ∃ A c, v = .slice A n c ∧ LogL w A n l ∧ n ≤ c := by
  have hcells := fun (g : Nat) (hg : v.ownBlock = some g) => World.ownsRow.cells h hg
  rcases h.2 with ⟨rfl, h1⟩ | ⟨g, cap, cur, rfl, hB, hg, hle, _⟩
  · exact ⟨Option.none, 0, by rw [h1], ⟨hn, fun hp => absurd hp (by omega)⟩, by omega⟩
  · refine ⟨_, cap, rfl, ⟨hn, fun _ => ⟨g, 0, rfl, (Array.getElem?_eq_some_iff.1 hg).1, fun i x hx => ?_⟩⟩, hle⟩
    have hat : ∀ j u, (bv l)[j]? = some u → w.cell? ⟨g, 0 + j, Option.none⟩ = some u := fun j u hu => by
      have := hcells g rfl j u hu
      have hadd : (⟨g, 0, Option.none⟩ : Addr).add j = ⟨g, 0 + j, Option.none⟩ := by unfold Addr.add; split <;> simp_all
      rwa [hadd] at this
    have r := bv_at l i x hx
    have hw := h0 x (List.mem_of_getElem? hx)
    refine ⟨Option.none, 0, hat _ _ (r 0 (by decide)), hat _ _ (r 1 (by decide)), hat _ _ (r 2 (by decide)), hat _ _ (r 3 (by decide)), ?_, hat _ _ (r 5 (by decide)), ?_, ?_⟩
    · rw [hw]; exact hat _ _ (r 4 (by decide))
    · rw [hw]; exact WL.none _ _
    · rw [hw]; exact Nat.le_refl _
end
end Go.Proofs.Ytaecfcodldbnhaa.Mb
