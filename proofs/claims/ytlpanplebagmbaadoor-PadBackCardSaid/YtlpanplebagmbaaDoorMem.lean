/- Blocks of memory that are known whole, and which block a call may have turned: plain lemmas, no program. -/
import Derived.WalkKit
import Derived.Laws.Rows
import Derived.Laws.Tables
import Derived.Deep.Draws
namespace Go.Proofs.YtlpanplebagmbaaDoor.Mm
open Go Go.RowKit

/-- Block g is the cells cs, of elements t, none of them frozen. -/
def Row (w : World) (g : Nat) (t : TypeId) (cs : Array Value) : Prop := w.heap[g]? = some (.cells cs t (0, 0))

section
variable {w w' : World} {g g' : Nat} {t t' : TypeId} {cs cs' : Array Value}
theorem Row.get (h : Row w g t cs) (i : Nat) : w.cell? ⟨g, i, none⟩ = cs[i]? := cell_of_row w g i cs t (0, 0) h
theorem Row.at_ (h : Row w g t cs) {i : Nat} {v : Value} (hv : cs[i]? = some v) : w.cell? ⟨g, i, none⟩ = some v := by rw [h.get, hv]
theorem Row.free (h : Row w g t cs) (i : Nat) : w.frozen? ⟨g, i, none⟩ = false := frozen_of_row w g i cs t h
theorem Row.lt (h : Row w g t cs) : g < w.heap.size := (Array.getElem?_eq_some_iff.1 h).1
theorem Row.new (w : World) (t : TypeId) (cs : Array Value) : Row (w.alloc (.cells cs t)) w.heap.size t cs := heap_alloc_new w _
theorem Row.alloc (h : Row w g t cs) (o : Obj) : Row (w.alloc o) g t cs := (Below.heap_alloc w o g h.lt).trans h
theorem Row.drew (h : Row w g t cs) : Row w.drew g t cs := h
theorem Row.drewN (h : Row w g t cs) (n : Nat) : Row (w.drewN n) g t cs := h
theorem Row.set_ (h : Row w g t cs) (i : Nat) (v : Value) : Row (w.setCell ⟨g, i, none⟩ v) g t (cs.setIfInBounds i v) := heap_setCell_same w g i cs t v h
theorem Row.far (h : Row w g t cs) {a : Addr} (ha : g ≠ a.block) (v : Value) : Row (w.setCell a v) g t cs := (heap_setCell_other w a g v ha).trans h
theorem Row.setRow_ (h : Row w g t cs) (ds : Array Value) : Row (w.setRow g ds) g t ds := setRow_heap w g cs ds t _ h
theorem Row.setRow_far (h : Row w g t cs) (hn : g ≠ g') (ds : Array Value) : Row (w.setRow g' ds) g t cs := (setRow_other w g' g ds hn).trans h
theorem Row.kept {r : Option Nat} (h : Row w g t cs) (hg : w.grownBy w' r) (hn : some g ≠ r) : Row w' g t cs := (hg.block g h.lt hn).trans h
theorem Row.same (h : Row w g t cs) (h' : Row w g t' cs') : cs = cs' := by
  unfold Row at h h'; rw [h] at h'; injection h' with h'; injection h'
end

section
variable {a w w' : World} {r : Option Nat}
theorem gb_refl (w : World) (r : Option Nat) : w.grownBy w r := ⟨rfl, rfl, rfl, Nat.le_refl _, fun _ _ _ => rfl⟩
theorem gb_drew (h : a.grownBy w r) : a.grownBy w.drew r := ⟨h.os, h.tape, h.output, h.size, h.block⟩
theorem gb_drewN (h : a.grownBy w r) (n : Nat) : a.grownBy (w.drewN n) r := ⟨h.os, h.tape, h.output, h.size, h.block⟩
theorem gb_step (h : a.grownBy w r) {r' : Option Nat} (k : w.grownBy w' r') (hr : ∀ i, r' = some i → r = some i ∨ a.heap.size ≤ i) : a.grownBy w' r :=
  ⟨k.os.trans h.os, k.tape.trans h.tape, k.output.trans h.output, Nat.le_trans h.size k.size, fun i hi hn =>
    (k.block i (Nat.lt_of_lt_of_le hi h.size) (fun e => by
      rcases hr i e.symm with e' | e'
      · exact hn e'.symm
      · omega)).trans (h.block i hi hn)⟩
theorem gb_then (h : a.grownBy w r) (k : w.grownBy w' r) : a.grownBy w' r := gb_step h k fun _ e => .inl e
theorem gb_none (h : a.grownBy w r) (k : w.grownBy w' none) : a.grownBy w' r := gb_step h k fun _ e => by cases e
theorem gb_new (h : a.grownBy w r) {g : Nat} (k : w.grownBy w' (some g)) (hg : a.heap.size ≤ g) : a.grownBy w' r := gb_step h k fun i e => .inr (by cases e; exact hg)
theorem gb_alloc (h : a.grownBy w r) (o : Obj) : a.grownBy (w.alloc o) r :=
  gb_none h ⟨rfl, rfl, rfl, by simp, fun k hk _ => Below.heap_alloc w o k hk⟩
theorem gb_set1 (w : World) (g i : Nat) (v : Value) : w.grownBy (w.setCell ⟨g, i, none⟩ v) (some g) :=
  ⟨rfl, rfl, rfl, by simp [World.setCell], fun k _ hn => heap_setCell_other w _ k v (fun e => hn (by rw [e]))⟩
theorem gb_setRow1 (w : World) (g : Nat) (cs : Array Value) : w.grownBy (w.setRow g cs) (some g) :=
  ⟨rfl, rfl, rfl, by simp, fun k _ hn => setRow_other w g k cs (fun e => hn (by rw [e]))⟩
theorem gb_below {B : Nat} (h : a.grownBy w none) (hB : B ≤ a.heap.size) : Below B a w := ⟨h.os, h.tape, h.output, h.size, fun k hk => h.block k (by omega) (by simp)⟩
theorem gb_of_below (h : Below a.heap.size a w) (r : Option Nat) : a.grownBy w r := ⟨h.os, h.tape, h.output, h.size, fun k hk _ => h.block k hk⟩
end

/-- Cells from place o on, written one by one. -/
def put (cs : Array Value) (o : Nat) (f : Nat → Value) : Nat → Array Value
  | 0 => cs
  | k + 1 => (put cs o f k).setIfInBounds (o + k) (f k)
theorem put_size (cs : Array Value) (o : Nat) (f : Nat → Value) (k : Nat) : (put cs o f k).size = cs.size := by
  induction k with
  | zero => rfl
  | succ k ih => simp [put, ih]
theorem put_get (cs : Array Value) (o : Nat) (f : Nat → Value) (k i : Nat) : (put cs o f k)[i]? = if o ≤ i ∧ i < o + k ∧ i < cs.size then some (f (i - o)) else cs[i]? := by
  induction k with
  | zero => rw [if_neg (by omega)]; rfl
  | succ k ih =>
    simp only [put, Array.getElem?_setIfInBounds, put_size, ih]
    by_cases h : o + k = i
    · subst h
      by_cases hs : o + k < cs.size
      · simp [hs]
      · simp [hs]
    · rw [if_neg h]
      by_cases hc : o ≤ i ∧ i < o + k ∧ i < cs.size
      · rw [if_pos hc, if_pos (by omega)]
      · rw [if_neg hc, if_neg (by omega)]
theorem put_0_4 (a0 a1 a2 a3 a4 a5 a6 a7 a8 a9 a10 a11 a12 a13 a14 a15 : Value) (f : Nat → Value) : put #[a0, a1, a2, a3, a4, a5, a6, a7, a8, a9, a10, a11, a12, a13, a14, a15] 0 f 4 = #[f 0, f 1, f 2, f 3, a4, a5, a6, a7, a8, a9, a10, a11, a12, a13, a14, a15] := by
  simp [put]
theorem put_4_8 (a0 a1 a2 a3 a4 a5 a6 a7 a8 a9 a10 a11 a12 a13 a14 a15 : Value) (f : Nat → Value) : put #[a0, a1, a2, a3, a4, a5, a6, a7, a8, a9, a10, a11, a12, a13, a14, a15] 4 f 8 = #[a0, a1, a2, a3, f 0, f 1, f 2, f 3, f 4, f 5, f 6, f 7, a12, a13, a14, a15] := by
  simp [put]
theorem put_13_3 (a0 a1 a2 a3 a4 a5 a6 a7 a8 a9 a10 a11 a12 a13 a14 a15 : Value) (f : Nat → Value) : put #[a0, a1, a2, a3, a4, a5, a6, a7, a8, a9, a10, a11, a12, a13, a14, a15] 13 f 3 = #[a0, a1, a2, a3, a4, a5, a6, a7, a8, a9, a10, a11, a12, f 0, f 1, f 2] := by
  simp [put]
/-- A whole row written anew. -/
theorem put_all (cs : Array Value) (f : Nat → Value) (n : Nat) (ds : Array Value) (hc : cs.size = n) (hd : ds.size = n) (h : ∀ i, i < n → ds[i]? = some (f i)) : put cs 0 f n = ds := by
  apply Array.ext_getElem?
  intro i
  rw [put_get]
  by_cases hi : i < n
  · rw [if_pos (by omega), h i hi]; simp
  · rw [if_neg (by omega), Array.getElem?_eq_none (by omega), Array.getElem?_eq_none (by omega)]
end Go.Proofs.YtlpanplebagmbaaDoor.Mm
