/- What a wire is, plain; and how memory holds a list of wires. -/
import Derived.Test.YtbammjhafgbfkaaDoorMem
import Derived.Lib.Hide
namespace Go.Proofs.YtbammjhafgbfkaaDoor.Vw
open Go Go.RowKit Go.Proofs.YtbammjhafgbfkaaDoor.Mm

inductive Wr : Type
  | mk (k n : Int) (s : ByteArray) (l : List Wr) : Wr
def Wr.k : Wr → Int | .mk k _ _ _ => k
def Wr.n : Wr → Int | .mk _ n _ _ => n
def Wr.s : Wr → ByteArray | .mk _ _ s _ => s
def Wr.l : Wr → List Wr | .mk _ _ _ l => l
@[simp] theorem Wr.k_mk (k n : Int) (s : ByteArray) (l : List Wr) : (Wr.mk k n s l).k = k := rfl
@[simp] theorem Wr.n_mk (k n : Int) (s : ByteArray) (l : List Wr) : (Wr.mk k n s l).n = n := rfl
@[simp] theorem Wr.s_mk (k n : Int) (s : ByteArray) (l : List Wr) : (Wr.mk k n s l).s = s := rfl
@[simp] theorem Wr.l_mk (k n : Int) (s : ByteArray) (l : List Wr) : (Wr.mk k n s l).l = l := rfl
theorem Wr.eta (x : Wr) : x = .mk x.k x.n x.s x.l := by cases x; rfl

/-- The slice value reads, in w, as the list of wires; all its blocks lie from B on. -/
inductive HL (w : World) (B : Nat) : Value → List Wr → Prop
  | nil (A : Option Addr) (c : Nat) : HL w B (.slice A 0 c) []
  | row (g o c : Nat) (l : List Wr) (L : Nat → Value) (hB : B ≤ g) (hg : g < w.heap.size) (hn : l.length ≤ 1099511627776)
      (hk : ∀ i x, l[i]? = some x → w.cell? ⟨g, o + i * 4, none⟩ = some (.int .i64 x.k))
      (hv : ∀ i x, l[i]? = some x → w.cell? ⟨g, o + i * 4 + 1, none⟩ = some (.int .i64 x.n))
      (hs : ∀ i x, l[i]? = some x → w.cell? ⟨g, o + i * 4 + 2, none⟩ = some (.string x.s))
      (hL : ∀ i x, l[i]? = some x → w.cell? ⟨g, o + i * 4 + 3, none⟩ = some (L i))
      (hl : ∀ i x, l[i]? = some x → HL w B (L i) x.l) : HL w B (.slice (some ⟨g, o, none⟩) l.length c) l

theorem cell_of_heap {w w' : World} {a : Addr} (h : w'.heap[a.block]? = w.heap[a.block]?) : w'.cell? a = w.cell? a := World.cell?_of_block h
theorem HL.keep {w w' : World} {B : Nat} {v : Value} {l : List Wr} (h : HL w B v l) (hsz : w.heap.size ≤ w'.heap.size) (hb : ∀ g, B ≤ g → g < w.heap.size → w'.heap[g]? = w.heap[g]?) : HL w' B v l := by
  induction h with
  | nil A c => exact .nil A c
  | row g o c l L hB hg hn hk hv hs hL hl ih =>
    refine .row g o c l L hB (Nat.lt_of_lt_of_le hg hsz) hn ?_ ?_ ?_ ?_ ih
    · intro i x hx; rw [cell_of_heap (hb g hB hg)]; exact hk i x hx
    · intro i x hx; rw [cell_of_heap (hb g hB hg)]; exact hv i x hx
    · intro i x hx; rw [cell_of_heap (hb g hB hg)]; exact hs i x hx
    · intro i x hx; rw [cell_of_heap (hb g hB hg)]; exact hL i x hx
theorem HL.low {w : World} {B B' : Nat} {v : Value} {l : List Wr} (h : HL w B v l) (hB : B' ≤ B) : HL w B' v l := by
  induction h with
  | nil A c => exact .nil A c
  | row g o c l L hB' hg hn hk hv hs hL hl ih => exact .row g o c l L (by omega) hg hn hk hv hs hL ih
/-- Whatever is made, and whatever is written into another block below B. -/
theorem HL.grown {w w' : World} {B : Nat} {v : Value} {l : List Wr} {r : Option Nat} (h : HL w B v l) (hg : w.grownBy w' r) (hr : ∀ i, r = some i → i < B) : HL w' B v l :=
  h.keep hg.size fun g hB hlt => hg.block g hlt (fun e => by have := hr g e.symm; omega)
theorem HL.kept {w w' : World} {B : Nat} {v : Value} {l : List Wr} (h : HL w B v l) (hg : w.grownBy w' none) : HL w' B v l := h.grown hg (fun _ e => by cases e)
theorem HL.slice {w : World} {B : Nat} {v : Value} {l : List Wr} (h : HL w B v l) : ∃ A c, v = .slice A l.length c := by
  cases h with
  | nil A c => exact ⟨A, c, rfl⟩
  | row g o c l L => exact ⟨_, c, rfl⟩
theorem HL.len {w : World} {B : Nat} {v : Value} {l : List Wr} (h : HL w B v l) : l.length ≤ 1099511627776 := by
  cases h with
  | nil A c => simp
  | row g o c l L hB hg hn => exact hn
/-- Its i-th wire. -/
theorem HL.item {w : World} {B : Nat} {A : Option Addr} {n c : Nat} {l : List Wr} (h : HL w B (.slice A n c) l) {i : Nat} {x : Wr} (hi : l[i]? = some x) :
    ∃ g o A2 c2, A = some ⟨g, o, none⟩ ∧ B ≤ g ∧ g < w.heap.size ∧ w.cell? ⟨g, o + i * 4, none⟩ = some (.int .i64 x.k) ∧ w.cell? ⟨g, o + i * 4 + 1, none⟩ = some (.int .i64 x.n) ∧ w.cell? ⟨g, o + i * 4 + 2, none⟩ = some (.string x.s) ∧ w.cell? ⟨g, o + i * 4 + 3, none⟩ = some (.slice A2 x.l.length c2) ∧ HL w B (.slice A2 x.l.length c2) x.l := by
  cases h with
  | nil A c => simp at hi
  | row g o c l L hB hg hn hk hv hs hL hl =>
    have h1 := hl i x hi
    have h2 := hL i x hi
    obtain ⟨A2, c2, he⟩ := h1.slice
    rw [he] at h1 h2
    exact ⟨g, o, A2, c2, rfl, hB, hg, hk i x hi, hv i x hi, hs i x hi, h2, h1⟩

/-! ### May -/
mutual
def Wr.fit (room : Int) : Wr → Bool
  | .mk k n s l =>
    if k = 1 then s.size == 0 && l.length == 0
    else if k = 2 then n == 0 && decide (s.size ≤ 1048576) && l.length == 0
    else if k = 3 then n == 0 && s.size == 0 && decide (0 < room) && (decide (l.length ≤ 65536) && allFit (room - 1) l)
    else false
def allFit (room : Int) : List Wr → Bool
  | [] => true
  | x :: r => x.fit room && allFit room r
end
theorem allFit_cons (room : Int) (x : Wr) (r : List Wr) : allFit room (x :: r) = (x.fit room && allFit room r) := by rw [allFit]
theorem allFit_nil (room : Int) : allFit room [] = true := by rw [allFit]
theorem fit_mk (room k n : Int) (s : ByteArray) (l : List Wr) : (Wr.mk k n s l).fit room = (if k = 1 then s.size == 0 && l.length == 0
    else if k = 2 then n == 0 && decide (s.size ≤ 1048576) && l.length == 0
    else if k = 3 then n == 0 && s.size == 0 && decide (0 < room) && (decide (l.length ≤ 65536) && allFit (room - 1) l)
    else false) := by rw [Wr.fit]
theorem allFit_drop (room : Int) (l : List Wr) (i : Nat) (x : Wr) (h : l[i]? = some x) : allFit room (l.drop i) = (x.fit room && allFit room (l.drop (i + 1))) := by
  obtain ⟨hi, rfl⟩ := List.getElem?_eq_some_iff.1 h
  rw [List.drop_eq_getElem_cons hi, allFit_cons]
/-- A wire that may be. -/
def Wr.may (x : Wr) : Bool := x.fit 6
end Go.Proofs.YtbammjhafgbfkaaDoor.Vw
