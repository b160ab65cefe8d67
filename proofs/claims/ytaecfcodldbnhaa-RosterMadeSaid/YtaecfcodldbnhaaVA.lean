/- What a wire is, plain; and how memory holds a list of wires. wire.fits, allFit, May. wire.copied, List, Num, Text: wires in new memory. strings.Builder: WriteByte, WriteString at a builder that is used. A wire's bytes: plain. wire.size, putHigh, put, Put. wire.put of lists, Put. The reader: take, number, count. -/
import Derived.Test.YtaecfcodldbnhaaBase
import Derived.Lib.Hide
import Derived.Test.YtaecfcodldbnhaaProg
import Derived.WalkKit
import Derived.IntWalk
import Derived.Outline
import Derived.Laws.MakeOwn
import Derived.Lib.UnsafeStr
import Derived.Lib.Builder
import Derived.Lib.Strings
import Derived.Lib.AppendStr
import Derived.Lib.AppendZeros
import Derived.Laws.AppendOwn
import Derived.Maps.AppendAt
namespace Go.Proofs.Ytaecfcodldbnhaa.Vw
open Go Go.RowKit Go.Proofs.Ytaecfcodldbnhaa.Mm

inductive Wr : Type
  | mk (k n : Int) (s : ByteArray) (l : List Wr) : Wr
def Wr.k : Wr → Int | .mk k _ _ _ => k
def Wr.n : Wr → Int | .mk _ n _ _ => n
def Wr.s : Wr → ByteArray | .mk _ _ s _ => s
def Wr.l : Wr → List Wr | .mk _ _ _ l => l
@[simp] theorem Wr.k_mk (k n : Int) (s : ByteArray) (l : List Wr) : (Wr.mk k n s l).k = k := rfl
@[simp] theorem Wr.n_mk (k n : Int) (s : ByteArray) (l : List Wr) : (Wr.mk k n s l).n = n := rfl
@[simp] theorem Wr.s_mk (k n : Int) (s : ByteArray) (l : List Wr) : (Wr.mk k n s l).s = s := rfl
@[simp] theorem Wr.l_mk (k n : Int) (s : ByteArray) (l : List Wr) : (Wr.mk k n s l).l = l := rfl
theorem Wr.eta (x : Wr) : x = .mk x.k x.n x.s x.l := by cases x; rfl

/-- The slice value reads, in w, as the list of wires; all its blocks lie from B on. -/
inductive HL (w : World) (B : Nat) : Value → List Wr → Prop
  | nil (A : Option Addr) (c : Nat) : HL w B (.slice A 0 c) []
  | row (g o c : Nat) (l : List Wr) (L : Nat → Value) (hB : B ≤ g) (hg : g < w.heap.size) (hn : l.length ≤ 1099511627776)
      (hk : ∀ i x, l[i]? = some x → w.cell? ⟨g, o + i * 4, none⟩ = some (.int .i64 x.k))
      (hv : ∀ i x, l[i]? = some x → w.cell? ⟨g, o + i * 4 + 1, none⟩ = some (.int .i64 x.n))
      (hs : ∀ i x, l[i]? = some x → w.cell? ⟨g, o + i * 4 + 2, none⟩ = some (.string x.s))
      (hL : ∀ i x, l[i]? = some x → w.cell? ⟨g, o + i * 4 + 3, none⟩ = some (L i))
      (hl : ∀ i x, l[i]? = some x → HL w B (L i) x.l) : HL w B (.slice (some ⟨g, o, none⟩) l.length c) l

theorem cell_of_heap {w w' : World} {a : Addr} (h : w'.heap[a.block]? = w.heap[a.block]?) : w'.cell? a = w.cell? a := World.cell?_of_block h
theorem HL.keep {w w' : World} {B : Nat} {v : Value} {l : List Wr} (h : HL w B v l) (hsz : w.heap.size ≤ w'.heap.size) (hb : ∀ g, B ≤ g → g < w.heap.size → w'.heap[g]? = w.heap[g]?) : HL w' B v l := by
  induction h with
  | nil A c => exact .nil A c
  | row g o c l L hB hg hn hk hv hs hL hl ih =>
    refine .row g o c l L hB (Nat.lt_of_lt_of_le hg hsz) hn ?_ ?_ ?_ ?_ ih
    · intro i x hx; rw [cell_of_heap (hb g hB hg)]; exact hk i x hx
    · intro i x hx; rw [cell_of_heap (hb g hB hg)]; exact hv i x hx
    · intro i x hx; rw [cell_of_heap (hb g hB hg)]; exact hs i x hx
    · intro i x hx; rw [cell_of_heap (hb g hB hg)]; exact hL i x hx
theorem HL.low {w : World} {B B' : Nat} {v : Value} {l : List Wr} (h : HL w B v l) (hB : B' ≤ B) : HL w B' v l := by
  induction h with
  | nil A c => exact .nil A c
  | row g o c l L hB' hg hn hk hv hs hL hl ih => exact .row g o c l L (by omega) hg hn hk hv hs hL ih
/-- Whatever is made, and whatever is written into another block below B. -/
theorem HL.grown {w w' : World} {B : Nat} {v : Value} {l : List Wr} {r : Option Nat} (h : HL w B v l) (hg : w.grownBy w' r) (hr : ∀ i, r = some i → i < B) : HL w' B v l :=
  h.keep hg.size fun g hB hlt => hg.block g hlt (fun e => by have := hr g e.symm; omega)
theorem HL.kept {w w' : World} {B : Nat} {v : Value} {l : List Wr} (h : HL w B v l) (hg : w.grownBy w' none) : HL w' B v l := h.grown hg (fun _ e => by cases e)
theorem HL.slice {w : World} {B : Nat} {v : Value} {l : List Wr} (h : HL w B v l) : ∃ A c, v = .slice A l.length c := by
  cases h with
  | nil A c => exact ⟨A, c, rfl⟩
  | row g o c l L => exact ⟨_, c, rfl⟩
theorem HL.len {w : World} {B : Nat} {v : Value} {l : List Wr} (h : HL w B v l) : l.length ≤ 1099511627776 := by
  cases h with
  | nil A c => simp
  | row g o c l L hB hg hn => exact hn
/-- Its i-th wire. -/
theorem HL.item {w : World} {B : Nat} {A : Option Addr} {n c : Nat} {l : List Wr} (h : HL w B (.slice A n c) l) {i : Nat} {x : Wr} (hi : l[i]? = some x) :
    ∃ g o A2 c2, A = some ⟨g, o, none⟩ ∧ B ≤ g ∧ g < w.heap.size ∧ w.cell? ⟨g, o + i * 4, none⟩ = some (.int .i64 x.k) ∧ w.cell? ⟨g, o + i * 4 + 1, none⟩ = some (.int .i64 x.n) ∧ w.cell? ⟨g, o + i * 4 + 2, none⟩ = some (.string x.s) ∧ w.cell? ⟨g, o + i * 4 + 3, none⟩ = some (.slice A2 x.l.length c2) ∧ HL w B (.slice A2 x.l.length c2) x.l := by
  cases h with
  | nil A c => simp at hi
  | row g o c l L hB hg hn hk hv hs hL hl =>
    have h1 := hl i x hi
    have h2 := hL i x hi
    obtain ⟨A2, c2, he⟩ := h1.slice
    rw [he] at h1 h2
    exact ⟨g, o, A2, c2, rfl, hB, hg, hk i x hi, hv i x hi, hs i x hi, h2, h1⟩

/-! ### May -/
mutual
def Wr.fit (room : Int) : Wr → Bool
  | .mk k n s l =>
    if k = 1 then s.size == 0 && l.length == 0
    else if k = 2 then n == 0 && decide (s.size ≤ 1048576) && l.length == 0
    else if k = 3 then n == 0 && s.size == 0 && decide (0 < room) && (decide (l.length ≤ 65536) && allFit (room - 1) l)
    else false
def allFit (room : Int) : List Wr → Bool
  | [] => true
  | x :: r => x.fit room && allFit room r
end
theorem allFit_cons (room : Int) (x : Wr) (r : List Wr) : allFit room (x :: r) = (x.fit room && allFit room r) := by rw [allFit]
theorem allFit_nil (room : Int) : allFit room [] = true := by rw [allFit]
theorem fit_mk (room k n : Int) (s : ByteArray) (l : List Wr) : (Wr.mk k n s l).fit room = (if k = 1 then s.size == 0 && l.length == 0
    else if k = 2 then n == 0 && decide (s.size ≤ 1048576) && l.length == 0
    else if k = 3 then n == 0 && s.size == 0 && decide (0 < room) && (decide (l.length ≤ 65536) && allFit (room - 1) l)
    else false) := by rw [Wr.fit]
theorem allFit_drop (room : Int) (l : List Wr) (i : Nat) (x : Wr) (h : l[i]? = some x) : allFit room (l.drop i) = (x.fit room && allFit room (l.drop (i + 1))) := by
  obtain ⟨hi, rfl⟩ := List.getElem?_eq_some_iff.1 h
  rw [List.drop_eq_getElem_cons hi, allFit_cons]
/-- A wire that may be. -/
def Wr.may (x : Wr) : Bool := x.fit 6
end Go.Proofs.Ytaecfcodldbnhaa.Vw

namespace Go.Proofs.Ytaecfcodldbnhaa
open Go.RowKit Mm Vw

theorem ret_bool {a b : Bool} (h : a = b) : Ending.returned (.bool a) = .returned (.bool b) := by rw [h]
theorem cast_zero (n : Nat) : ((n : Int) == 0) = (n == 0) := by
  rw [Bool.eq_iff_iff]; simp
theorem size_zero {s : ByteArray} (h : s.size = 0) : s = ⟨#[]⟩ := by
  obtain ⟨⟨l⟩⟩ := s
  cases l with
  | nil => rfl
  | cons a r => simp [ByteArray.size] at h
theorem list_ne {s : ByteArray} (h : s.size ≠ 0) : s.toList.isEmpty = false := by
  rw [ByteArray.toList_eq, List.isEmpty_eq_false_iff]
  intro e
  exact h (by rw [ByteArray.size, ← Array.length_toList, e]; rfl)

/-- What is asked of a wire, ahead of its list. -/
def headB (n : Int) (s : ByteArray) (room : Int) : Bool := n == 0 && s.size == 0 && decide (0 < room)
end Go.Proofs.Ytaecfcodldbnhaa

namespace Go.Proofs.Ytaecfcodldbnhaa
open Go.RowKit Mm Vw

/-- A list in new memory. -/
def NewList (w : World) (l : List Wr) (e : Ending) (w' : World) : Prop := ∃ A c, e = .returned (.slice A l.length c) ∧ HL w' w.heap.size (.slice A l.length c) l ∧ w.grownBy w' none

/-- A row of n wires of which the first k are made: its block, their lists. -/
def Part (w : World) (g : Nat) (l : List Wr) (n k : Nat) : Prop :=
  ∃ (cs : Array Value) (L : Nat → Value), Row w g 54 cs ∧ cs.size = n * 4 ∧ ∀ i x, i < k → l[i]? = some x →
    cs[i * 4]? = some (.int .i64 x.k) ∧ cs[i * 4 + 1]? = some (.int .i64 x.n) ∧ cs[i * 4 + 2]? = some (.string x.s) ∧ cs[i * 4 + 3]? = some (L i) ∧ HL w (g + 1) (L i) x.l
theorem Part.lt {w : World} {g : Nat} {l : List Wr} {n k : Nat} (h : Part w g l n k) : g < w.heap.size := by
  obtain ⟨cs, L, hr, _⟩ := h; exact hr.lt
theorem Part.kept {w w' : World} {g : Nat} {l : List Wr} {n k : Nat} (h : Part w g l n k) (hg : w.grownBy w' none) : Part w' g l n k := by
  obtain ⟨cs, L, hr, hs, hi⟩ := h
  exact ⟨cs, L, hr.kept hg (by simp), hs, fun i x hik hx => ⟨(hi i x hik hx).1, (hi i x hik hx).2.1, (hi i x hik hx).2.2.1, (hi i x hik hx).2.2.2.1, (hi i x hik hx).2.2.2.2.kept hg⟩⟩
/-- What lies at the places of the k-th wire, which is not made yet; that they may be written. -/
theorem Part.room {w : World} {g : Nat} {l : List Wr} {n k : Nat} (h : Part w g l n k) {j : Nat} (hj : j < n * 4) : (∃ v, w.cell? ⟨g, j, none⟩ = some v) ∧ w.frozen? ⟨g, j, none⟩ = false := by
  obtain ⟨cs, L, hr, hs, _⟩ := h
  refine ⟨?_, hr.free j⟩
  rw [hr.get, Array.getElem?_eq_getElem (by omega)]
  exact ⟨_, rfl⟩
/-- One more is made: its four cells are written; nothing else that was there is turned but its own block. -/
theorem Part.more {w w2 : World} {g : Nat} {l : List Wr} {n k : Nat} {x : Wr} {v : Value} (h : Part w g l n k) (hg : w.grownBy w2 (some g)) (hr2 : ∀ cs, Row w g 54 cs → Row w2 g 54 cs) (hk : k < n) (hx : l[k]? = some x) (hv : HL w2 (g + 1) v x.l) :
    Part ((((w2.setCell ⟨g, k * 4, none⟩ (.int .i64 x.k)).setCell ⟨g, k * 4 + 1, none⟩ (.int .i64 x.n)).setCell ⟨g, k * 4 + 2, none⟩ (.string x.s)).setCell ⟨g, k * 4 + 3, none⟩ v) g l n (k + 1) := by
  obtain ⟨cs, L, hr, hs, hi⟩ := h
  have hrow := ((((hr2 cs hr).set_ (k * 4) (.int .i64 x.k)).set_ (k * 4 + 1) (.int .i64 x.n)).set_ (k * 4 + 2) (.string x.s)).set_ (k * 4 + 3) v
  have hgb : w2.grownBy ((((w2.setCell ⟨g, k * 4, none⟩ (.int .i64 x.k)).setCell ⟨g, k * 4 + 1, none⟩ (.int .i64 x.n)).setCell ⟨g, k * 4 + 2, none⟩ (.string x.s)).setCell ⟨g, k * 4 + 3, none⟩ v) (some g) :=
    gb_then (gb_then (gb_then (gb_set1 _ _ _ _) (gb_set1 _ _ _ _)) (gb_set1 _ _ _ _)) (gb_set1 _ _ _ _)
  refine ⟨_, fun i => if i = k then v else L i, hrow, by simp [hs], fun i y hik hy => ?_⟩
  by_cases hki : i = k
  · subst hki
    obtain rfl := Option.some.inj (hy.symm.trans hx)
    refine ⟨?_, ?_, ?_, ?_, ?_⟩
    · rw [Array.getElem?_setIfInBounds, if_neg (by omega), Array.getElem?_setIfInBounds, if_neg (by omega), Array.getElem?_setIfInBounds, if_neg (by omega), Array.getElem?_setIfInBounds, if_pos rfl, if_pos (by omega)]
    · rw [Array.getElem?_setIfInBounds, if_neg (by omega), Array.getElem?_setIfInBounds, if_neg (by omega), Array.getElem?_setIfInBounds, if_pos rfl, if_pos (by simp only [Array.size_setIfInBounds]; omega)]
    · rw [Array.getElem?_setIfInBounds, if_neg (by omega), Array.getElem?_setIfInBounds, if_pos rfl, if_pos (by simp only [Array.size_setIfInBounds]; omega)]
    · simp only [if_true]
      rw [Array.getElem?_setIfInBounds, if_pos rfl, if_pos (by simp only [Array.size_setIfInBounds]; omega)]
    · simp only [if_true]
      exact hv.grown hgb (fun j e => by cases e; omega)
  · obtain ⟨h0, h1, h2, h3, h4⟩ := hi i y (by omega) hy
    simp only [Array.getElem?_setIfInBounds, if_neg hki]
    refine ⟨?_, ?_, ?_, ?_, ?_⟩
    · rw [if_neg (by omega), if_neg (by omega), if_neg (by omega), if_neg (by omega)]; exact h0
    · rw [if_neg (by omega), if_neg (by omega), if_neg (by omega), if_neg (by omega)]; exact h1
    · rw [if_neg (by omega), if_neg (by omega), if_neg (by omega), if_neg (by omega)]; exact h2
    · rw [if_neg (by omega), if_neg (by omega), if_neg (by omega), if_neg (by omega)]; exact h3
    · exact (h4.grown hg (fun j e => by cases e; omega)).grown hgb (fun j e => by cases e; omega)
/-- All of them are made. -/
theorem Part.done {w : World} {g : Nat} {l : List Wr} {n k : Nat} (h : Part w g l n k) (hn : n = l.length) (hk : n ≤ k) (hl : l.length ≤ 1099511627776) (B : Nat) (hB : B ≤ g) (c : Nat) : HL w B (.slice (some ⟨g, 0, none⟩) l.length c) l := by
  obtain ⟨cs, L, hr, hs, hi⟩ := h
  subst hn
  have hlt : ∀ i x, l[i]? = some x → i < k := fun i x hx => by have := (List.getElem?_eq_some_iff.1 hx).1; omega
  refine .row g 0 c l L hB hr.lt hl ?_ ?_ ?_ ?_ ?_
  · intro i x hx; rw [Nat.zero_add, hr.get]; exact (hi i x (hlt i x hx) hx).1
  · intro i x hx; rw [Nat.zero_add, hr.get]; exact (hi i x (hlt i x hx) hx).2.1
  · intro i x hx; rw [Nat.zero_add, hr.get]; exact (hi i x (hlt i x hx) hx).2.2.1
  · intro i x hx; rw [Nat.zero_add, hr.get]; exact (hi i x (hlt i x hx) hx).2.2.2.1
  · intro i x hx; exact (hi i x (hlt i x hx) hx).2.2.2.2.low (by omega)
theorem gb_none' {a w : World} {r : Option Nat} (h : a.grownBy w none) : a.grownBy w r := gb_none (gb_refl a r) h
theorem gb_new4 {a w : World} {g : Nat} (hg : a.heap.size ≤ g) {i0 i1 i2 i3 : Nat} {v0 v1 v2 v3 : Value} (h : a.grownBy w none) : a.grownBy ((((w.setCell ⟨g, i0, none⟩ v0).setCell ⟨g, i1, none⟩ v1).setCell ⟨g, i2, none⟩ v2).setCell ⟨g, i3, none⟩ v3) none :=
  gb_new (gb_new (gb_new (gb_new h (gb_set1 _ _ _ _) hg) (gb_set1 _ _ _ _) hg) (gb_set1 _ _ _ _) hg) (gb_set1 _ _ _ _) hg
theorem Part.new (w : World) (l : List Wr) (n : Nat) (cs : Array Value) (hs : cs.size = n * 4) : Part (w.alloc (.cells cs 54)) w.heap.size l n 0 :=
  ⟨cs, fun _ => .nilIface, Row.new _ _ _, hs, fun i x hi => absurd hi (by omega)⟩

theorem wire_inf : (Try.prog.info? 54).map (fun i => (i.zero, i.size, i.bytes)) = some (some (.agg #[.int .i64 0, .int .i64 0, .string ⟨#[]⟩, .slice none 0 0]), 4, 56) := by kernel_rfl
theorem wire_parts : ∃ i, Try.prog.info? 54 = some i ∧ i.zero = some (.agg #[.int .i64 0, .int .i64 0, .string ⟨#[]⟩, .slice none 0 0]) ∧ i.size = 4 ∧ i.bytes = 56 := by
  obtain ⟨i, hi, h⟩ := Option.map_eq_some_iff.1 wire_inf
  simp only [Prod.mk.injEq] at h
  exact ⟨i, hi, h.1, h.2.1, h.2.2⟩
/-- What a new row of wires holds. -/
def madeW (n : Nat) : Array Value := madeCells #[.int .i64 0, .int .i64 0, .string ⟨#[]⟩, .slice none 0 0] (n * 4)
theorem madeW_size (n : Nat) : (madeW n).size = n * 4 := size_madeCells _ _
theorem makeW_at (n : Nat) (hn : n ≤ 1099511627776) (W : World) : (Instr.makeSlice 52 (.int .i64 (n : Int)) (.int .i64 (n : Int))).run Try.prog W = .ok (.slice (some ⟨W.heap.size, 0, none⟩) n n) (W.alloc (.cells (madeW n) 54)) := by
  obtain ⟨i, hi, hz, hs, hb⟩ := wire_parts
  have h := run_make (P := Try.prog) W 52 54 i _ Try.underlying52 hi hz .i64 .i64 n n (by omega) (by omega) (by rw [hb]; omega) (by omega)
  simpa [hs, Value.cells, madeW] using h

/-- A wire with a list in new memory. -/
def NewWire (w : World) (x : Wr) (e : Ending) (w' : World) : Prop := ∃ A c, e = .returned (.agg #[.int .i64 x.k, .int .i64 x.n, .string x.s, .slice A x.l.length c]) ∧ HL w' w.heap.size (.slice A x.l.length c) x.l ∧ w.grownBy w' none
/-- A block of four cells. -/
theorem box4 {w : World} {b : Nat} {a0 a1 a2 a3 : Value} {T : TypeId} (h : w.heap[b]? = some (.cells #[a0, a1, a2, a3] T (0, 0))) :
    (w.cell? ⟨b, 0, none⟩ = some a0 ∧ w.cell? ⟨b, 1, none⟩ = some a1 ∧ w.cell? ⟨b, 2, none⟩ = some a2 ∧ w.cell? ⟨b, 3, none⟩ = some a3) ∧
    (w.frozen? ⟨b, 0, none⟩ = false ∧ w.frozen? ⟨b, 1, none⟩ = false ∧ w.frozen? ⟨b, 2, none⟩ = false ∧ w.frozen? ⟨b, 3, none⟩ = false) ∧ b < w.heap.size :=
  ⟨⟨cell_of_row w b 0 _ _ _ h, cell_of_row w b 1 _ _ _ h, cell_of_row w b 2 _ _ _ h, cell_of_row w b 3 _ _ _ h⟩, ⟨frozen_of_row w b 0 _ _ h, frozen_of_row w b 1 _ _ h, frozen_of_row w b 2 _ _ h, frozen_of_row w b 3 _ _ h⟩, (Array.getElem?_eq_some_iff.1 h).1⟩
end Go.Proofs.Ytaecfcodldbnhaa

namespace Go.Proofs.Ytaecfcodldbnhaa
open Go.RowKit Wd Mm Vw

theorem byte_inf : (Try.prog.info? 5).map (fun i => (i.zero, i.size, i.bytes)) = some (some (.int .u8 0), 1, 1) := by kernel_rfl
theorem byte_parts : ∃ i, Try.prog.info? 5 = some i ∧ i.zero = some (.int .u8 0) ∧ i.size = 1 ∧ i.bytes = 1 := by
  obtain ⟨i, hi, h⟩ := Option.map_eq_some_iff.1 byte_inf
  simp only [Prod.mk.injEq] at h
  exact ⟨i, hi, h.1, h.2.1, h.2.2⟩
/-- The text's own bytes, as cells. -/
theorem text_cells (s : ByteArray) : Lib.strCells s = s.data.toList.map w8 := by simp [Lib.strCells, w8]
theorem byte_cells (l : List UInt8) : Lib.byteCells l = l.map w8 := by simp [Lib.byteCells, w8]
/-- What writing into a builder turns: its two blocks alone, of those that were there. -/
def BT (b : Nat) (g g' : Option Nat) (w w' : World) : Prop :=
  w'.os = w.os ∧ w'.tape = w.tape ∧ w'.output = w.output ∧ w.heap.size ≤ w'.heap.size ∧ (∀ i, i < w.heap.size → i ≠ b → some i ≠ g → w'.heap[i]? = w.heap[i]?) ∧ (g' = g ∨ ∃ n, g' = some n ∧ w.heap.size ≤ n)
theorem BT.size {b : Nat} {g g' : Option Nat} {w w' : World} (h : BT b g g' w w') : w.heap.size ≤ w'.heap.size := h.2.2.2.1
theorem BT.block {b : Nat} {g g' : Option Nat} {w w' : World} (h : BT b g g' w w') {i : Nat} (hi : i < w.heap.size) (hb : i ≠ b) (hg : some i ≠ g) : w'.heap[i]? = w.heap[i]? := h.2.2.2.2.1 i hi hb hg
theorem BT.refl (b : Nat) (g : Option Nat) (w : World) : BT b g g w w := ⟨rfl, rfl, rfl, Nat.le_refl _, fun _ _ _ _ => rfl, .inl rfl⟩
theorem BT.trans {b : Nat} {g g' g2 : Option Nat} {w w' w2 : World} (h : BT b g g' w w') (k : BT b g' g2 w' w2) : BT b g g2 w w2 := by
  obtain ⟨h1, h2, h3, h4, h5, h6⟩ := h
  obtain ⟨k1, k2, k3, k4, k5, k6⟩ := k
  refine ⟨k1.trans h1, k2.trans h2, k3.trans h3, Nat.le_trans h4 k4, fun i hi hb hg => ?_, ?_⟩
  · rw [k5 i (by omega) hb ?_, h5 i hi hb hg]
    rcases h6 with rfl | ⟨n, rfl, hn⟩
    · exact hg
    · intro e; cases e; omega
  · rcases k6 with rfl | ⟨n, rfl, hn⟩
    · exact h6
    · exact .inr ⟨n, rfl, by omega⟩
theorem BT.grown {b : Nat} {g g' : Option Nat} {w w' w2 : World} (h : BT b g g' w w') (k : w'.grownBy w2 none) : BT b g g' w w2 := by
  refine h.trans ⟨k.os, k.tape, k.output, k.size, fun i hi _ _ => k.block i hi (by simp), .inl rfl⟩
theorem BT.ahead {b : Nat} {g g' : Option Nat} {w w' w2 : World} (k : w.grownBy w' none) (h : BT b g g' w' w2) : BT b g g' w w2 :=
  BT.trans ⟨k.os, k.tape, k.output, k.size, fun i hi _ _ => k.block i hi (by simp), .inl rfl⟩ h
theorem BT.below {B b : Nat} {g g' : Option Nat} {w w' : World} (h : BT b g g' w w') (hB : B ≤ b) (hg : ∀ i, g = some i → B ≤ i) (hw : B ≤ w.heap.size) : Below B w w' :=
  ⟨h.1, h.2.1, h.2.2.1, h.size, fun i hi => h.block (by omega) (by omega) (fun e => by have := hg i e.symm; omega)⟩
theorem own_slice {w : World} {B : Nat} {e : TypeId} {v : Value} {n : Nat} {xs : List Value} (h : w.ownsRow B e 1 v n xs) : ∃ A m c, v = .slice A m c := by
  rcases h.2 with ⟨rfl, _⟩ | ⟨g, cap, cur, rfl, _⟩
  · exact ⟨_, _, _, rfl⟩
  · exact ⟨_, _, _, rfl⟩
theorem one_byte (w : World) (n : Int) : ∀ (j : Nat) (u : Value), [Value.int .u8 n][j]? = some u → (w.alloc (.cells #[.int .u8 n] 5)).cell? ((⟨w.heap.size, 0, none⟩ : Addr).add j) = some u := by
  intro j u hj
  cases j with
  | succ j => simp at hj
  | zero =>
    obtain rfl : Value.int .u8 n = u := by simpa using hj
    exact cell_of_row _ _ 0 #[.int .u8 n] 5 (0, 0) (heap_alloc_new _ _)
theorem one_small1 (n : Int) : ∀ u ∈ [Value.int .u8 n], u.oneCell' = true := by
  intro u hu
  rw [List.mem_singleton.1 hu]; rfl
theorem res_inj {a b : Value} {x y : World} (h : Result.ok a x = Result.ok b y) : a = b := by injection h
set_option maxRecDepth 100000 in
/-- Behind an append the row lies where it lay, or in the block that was made last. -/
theorem text_loc {w w' : World} {B : Nat} {v v' : Value} {n : Nat} {xs : List Value} {s : ByteArray} (hown : w.ownsRow B 5 1 v n xs) (hn : n + s.size ≤ 140737488355328)
    (hrun : (Builtin.append_ #[28, 9] 28 #[v, .string s]).run Try.prog w = .ok v' w') (hn0 : v' = .slice none 0 0 ↔ v = .slice none 0 0 ∧ s.size = 0) : v'.ownBlock = v.ownBlock ∨ v'.ownBlock = some w.heap.size := by
  obtain ⟨i, hi, hz, hs1, hs2⟩ := byte_parts
  rcases hown.2 with ⟨rfl, rfl⟩ | ⟨g, cap, cur, rfl, hbg, hg, hnc, hcm, hcs, htake⟩
  · by_cases hm : s.size = 0
    · left; rw [hn0.2 ⟨rfl, hm⟩]
    · right
      have h := run_append_nil_string (P := Try.prog) w 28 9 28 5 i (.int .u8 0) Try.underlying28 Try.underlying9 hi hz s (by omega) (by omega) (by rw [hs2]; omega)
      exact congrArg Value.ownBlock (res_inj (h.symm.trans hrun)).symm
  · by_cases hroom : n + s.size ≤ cap
    · left
      have h := Lib.run_append_room_string (P := Try.prog) w 28 9 28 5 i Try.underlying28 Try.underlying9 hi hs1 g n cap cur hg s hroom (by omega)
      rw [← res_inj (h.symm.trans hrun)]; rfl
    · right
      have h := Lib.run_append_grow_string (P := Try.prog) w 28 9 28 5 i (.int .u8 0) Try.underlying28 Try.underlying9 hi hz ⟨g, 0, none⟩ n cap xs (by rw [hs1]; exact hown.1) (hown.cells (g := g) rfl) s (by omega) (by omega) (by rw [hs2]; have := growslice_fits (bytes := 1) (need := n + s.size) (old := cap) (by omega) (by omega); exact this)
      exact congrArg Value.ownBlock (res_inj (h.symm.trans hrun)).symm
end Go.Proofs.Ytaecfcodldbnhaa

namespace Go.Proofs.Ytaecfcodldbnhaa.Vw
open Go Go.RowKit Go.Proofs.Ytaecfcodldbnhaa.Mm Go.Proofs.Ytaecfcodldbnhaa.Wd

/-- The byte of n that begins at bit 8 j. -/
def hiB (n : Int) (j : Nat) : UInt8 := UInt8.ofNat ((n / 2 ^ (8 * j)) % 256).toNat
/-- So many of n's lowest bytes, the highest first. -/
def highs (n : Int) : Nat → List UInt8
  | 0 => []
  | j + 1 => hiB n j :: highs n j
theorem highs_len (n : Int) (j : Nat) : (highs n j).length = j := by
  induction j with
  | zero => rfl
  | succ j ih => simp [highs, ih]
theorem hiB_nat (n : Int) (j : Nat) : ((hiB n j).toNat : Int) = (n / 2 ^ (8 * j)) % 256 := by
  unfold hiB
  have h1 := Int.emod_nonneg (n / 2 ^ (8 * j)) (show (256 : Int) ≠ 0 by decide)
  have h2 := Int.emod_lt_of_pos (n / 2 ^ (8 * j)) (show (0 : Int) < 256 by decide)
  rw [UInt8.toNat_ofNat', Nat.mod_eq_of_lt (by omega)]
  omega
mutual
def Wr.enc : Wr → List UInt8
  | .mk k n s l => UInt8.ofNat (k % 256).toNat :: (if k = 1 then highs n 8 else if k = 2 then highs s.size 4 ++ s.data.toList else highs l.length 4 ++ encs l)
def encs : List Wr → List UInt8
  | [] => []
  | x :: r => x.enc ++ encs r
end
theorem enc_mk (k n : Int) (s : ByteArray) (l : List Wr) : (Wr.mk k n s l).enc = UInt8.ofNat (k % 256).toNat :: (if k = 1 then highs n 8 else if k = 2 then highs s.size 4 ++ s.data.toList else highs l.length 4 ++ encs l) := by rw [Wr.enc]
theorem encs_cons (x : Wr) (r : List Wr) : encs (x :: r) = x.enc ++ encs r := by rw [encs]
theorem encs_nil : encs [] = [] := by rw [encs]
theorem encs_take (l : List Wr) (i : Nat) (x : Wr) (h : l[i]? = some x) : encs (l.take (i + 1)) = encs (l.take i) ++ x.enc := by
  obtain ⟨hi, rfl⟩ := List.getElem?_eq_some_iff.1 h
  induction l generalizing i with
  | nil => simp at hi
  | cons y r ih =>
    cases i with
    | zero => simp [encs_cons, encs_nil]
    | succ i =>
      have hi' : i < r.length := by simpa using hi
      simp only [List.take_succ_cons, encs_cons, List.append_assoc, List.getElem_cons_succ]
      rw [ih i hi' (List.getElem?_eq_getElem hi')]
theorem enc_pos (x : Wr) : 5 ≤ x.enc.length ∨ ¬ (x.k = 1 ∨ x.k = 2 ∨ x.k = 3) := by
  obtain ⟨k, n, s, l⟩ := x
  rw [enc_mk]
  by_cases h1 : k = 1
  · left; simp [h1, highs_len]
  · by_cases h2 : k = 2
    · left; simp [h2, highs_len]
    · left; simp [h1, h2, highs_len]
theorem encs_part (l : List Wr) (i : Nat) (x : Wr) (h : l[i]? = some x) : (encs (l.take i)).length + x.enc.length ≤ (encs l).length := by
  have h1 := encs_take l i x h
  have h2 : (encs l).length = (encs (l.take (i + 1))).length + (encs (l.drop (i + 1))).length := by
    have : ∀ a b, encs (a ++ b) = encs a ++ encs b := by
      intro a b
      induction a with
      | nil => simp [encs_nil]
      | cons y r ih => simp [encs_cons, ih]
    rw [← List.length_append, ← this, List.take_append_drop]
  rw [h2, h1, List.length_append]
  omega
/-- A wire's bytes as a text; of one that may not be none. -/
def Wr.bytes (x : Wr) : ByteArray := if x.may then ⟨x.enc.toArray⟩ else ⟨#[]⟩
/-- Bytes as a number, the highest first. -/
def beN (l : List UInt8) : Nat := l.foldl (fun a c => a * 256 + c.toNat) 0
theorem beN_snoc (l : List UInt8) (c : UInt8) : beN (l ++ [c]) = beN l * 256 + c.toNat := by simp [beN]
/-- .. as the program has it: in 64 bits. -/
def valI (l : List UInt8) : Int := wrap64 (beN l : Int)
theorem valI_nil : valI [] = 0 := by simp [valI, beN, wrap64]
theorem or_byte (m : Int) (c : Nat) (hc : c < 256) : bits .or .i64 (wrap64 (m * 256)) (wrap64 (c : Int)) = wrap64 (m * 256 + c) := by
  have hc' : wrap64 (c : Int) = c := by unfold wrap64; omega
  rw [hc']
  show IntKind.i64.wrap ((BitVec.ofInt 64 (wrap64 (m * 256)) ||| BitVec.ofInt 64 (c : Int)).toNat : Int) = _
  obtain ⟨q, hq⟩ : ∃ q : Nat, (BitVec.ofInt 64 (wrap64 (m * 256))).toNat = 256 * q := by
    rw [BitVec.toNat_ofInt]
    refine ⟨((wrap64 (m * 256)) % 2 ^ 64).toNat / 256, ?_⟩
    unfold wrap64
    omega
  have h2 : (BitVec.ofInt 64 (c : Int)).toNat = c := by
    rw [BitVec.toNat_ofInt]; omega
  have h3 : 256 * q ||| c = 256 * q + c := (Nat.two_pow_add_eq_or_of_lt (i := 8) (by omega) q).symm
  rw [BitVec.toNat_or, hq, h2, h3, IntKind.wrap_i64]
  rw [BitVec.toNat_ofInt] at hq
  unfold wrap64 at hq ⊢
  omega
theorem valI_snoc (l : List UInt8) (c : UInt8) : bits .or .i64 (wrap64 (valI l * 256)) (wrap64 (c.toNat : Int)) = valI (l ++ [c]) := by
  rw [or_byte _ _ c.toNat_lt]
  unfold valI
  rw [beN_snoc]
  unfold wrap64
  omega
end Go.Proofs.Ytaecfcodldbnhaa.Vw

namespace Go.Proofs.Ytaecfcodldbnhaa
open Go.RowKit Wd Mm Vw

/-- Memory as it was, below. -/
theorem HL.below {w0 w : World} {v : Value} {l : List Wr} (h : HL w0 0 v l) (hb : Below w0.heap.size w0 w) : HL w 0 v l := h.keep hb.size (fun g _ hg => hb.block g hg)

/-- What a wire that may be is like. -/
theorem all_fit {room : Int} {l : List Wr} (h : allFit room l = true) : ∀ x ∈ l, x.fit room = true := by
  induction l with
  | nil => intro x hx; cases hx
  | cons y r ih =>
    rw [allFit_cons, Bool.and_eq_true] at h
    intro x hx
    rcases List.mem_cons.1 hx with rfl | hx
    · exact h.1
    · exact ih h.2 x hx
theorem enc_list (k n : Int) (s : ByteArray) (l : List Wr) (h1 : k ≠ 1) (h2 : k ≠ 2) : (Wr.mk k n s l).enc.length = 5 + (encs l).length := by
  rw [enc_mk, if_neg h1, if_neg h2]; simp [highs_len]; omega
theorem fit_kinds {k n : Int} {s : ByteArray} {l : List Wr} {room : Int} (h : (Wr.mk k n s l).fit room = true) :
    (k = 1 ∨ k = 2 ∧ l = [] ∨ k = 3 ∧ s = ⟨#[]⟩) ∧ (k = 1 → l = []) ∧ (k = 3 → ∀ x ∈ l, x.fit (room - 1) = true) ∧ s.size ≤ 1048576 ∧ l.length ≤ 65536 := by
  rw [fit_mk] at h
  by_cases h1 : k = 1
  · subst h1
    simp only [if_true, Bool.and_eq_true, beq_iff_eq] at h
    have := List.length_eq_zero_iff.1 h.2
    refine ⟨.inl rfl, fun _ => this, fun h => absurd h (by decide), by omega, by omega⟩
  rw [if_neg h1] at h
  by_cases h2 : k = 2
  · subst h2
    simp only [if_true, Bool.and_eq_true, beq_iff_eq, decide_eq_true_eq] at h
    have := List.length_eq_zero_iff.1 h.2
    refine ⟨.inr (.inl ⟨rfl, this⟩), fun h => absurd h (by decide), fun h => absurd h (by decide), h.1.2, by omega⟩
  rw [if_neg h2] at h
  by_cases h3 : k = 3
  · subst h3
    simp only [if_true, Bool.and_eq_true, beq_iff_eq, decide_eq_true_eq] at h
    obtain ⟨⟨⟨_, hs⟩, _⟩, hl, ha⟩ := h
    refine ⟨.inr (.inr ⟨rfl, size_zero hs⟩), fun h => absurd h (by decide), fun _ => all_fit ha, by omega, hl⟩
  · rw [if_neg h3] at h; cases h

theorem byte_of (k : Int) (h1 : 0 ≤ k) (h2 : k ≤ 255) : ((UInt8.ofNat (k % 256).toNat).toNat : Int) = k := by
  rw [UInt8.toNat_ofNat']
  omega
/-- One that is not what a builder holds stays so. -/
theorem far_step {b i : Nat} {g g' : Option Nat} {w w' : World} (h : BT b g g' w w') (hi : i < w.heap.size) (hg : some i ≠ g) : some i ≠ g' := by
  rcases h.2.2.2.2.2 with rfl | ⟨n, rfl, hn⟩
  · exact hg
  · intro e; cases e; omega
end Go.Proofs.Ytaecfcodldbnhaa

namespace Go.Proofs.Ytaecfcodldbnhaa
open Go.RowKit Wd Mm Vw

theorem below_alloc {w0 w : World} (hb : Below w0.heap.size w0 w) (o : Obj) : Below w0.heap.size w0 (w.alloc o) := hb.alloc hb.size o

end Go.Proofs.Ytaecfcodldbnhaa

namespace Go.Proofs.Ytaecfcodldbnhaa
open Go.RowKit Wd Mm Vw

end Go.Proofs.Ytaecfcodldbnhaa
