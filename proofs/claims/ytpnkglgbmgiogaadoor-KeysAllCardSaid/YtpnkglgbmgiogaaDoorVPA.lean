/- Wires in memory, and the document's PutWire with what it calls: stage 4's texts, as far as they speak of what this seat has. -/
import Derived.Test.YtpnkglgbmgiogaaDoorBase
import Derived.Lib.Hide
import Derived.Test.YtpnkglgbmgiogaaDoorProg
import Derived.WalkKit
import Derived.IntWalk
import Derived.Outline
import Derived.Laws.MakeOwn
import Derived.Test.YtpnkglgbmgiogaaDoorShelf
import Derived.Lib.AppendStr
import Derived.Lib.AppendZeros
import Derived.Laws.AppendOwn
import Derived.Maps.AppendAt
import Derived.Shelf.Strconv.Clone
import Derived.LaidEql
import Derived.Stop.Asserts
import Derived.RowKitTokens
import Derived.SliceStrings
set_option linter.unusedVariables false
namespace Go.Proofs.YtpnkglgbmgiogaaDoor.Vw
open Go Go.RowKit Go.Proofs.YtpnkglgbmgiogaaDoor.Mm

inductive Wr : Type
  | mk (k n : Int) (s : ByteArray) (l : List Wr) : Wr
def Wr.k : Wr → Int | .mk k _ _ _ => k
def Wr.n : Wr → Int | .mk _ n _ _ => n
def Wr.s : Wr → ByteArray | .mk _ _ s _ => s
def Wr.l : Wr → List Wr | .mk _ _ _ l => l
@[simp] theorem Wr.k_mk (k n : Int) (s : ByteArray) (l : List Wr) : (Wr.mk k n s l).k = k := rfl
@[simp] theorem Wr.n_mk (k n : Int) (s : ByteArray) (l : List Wr) : (Wr.mk k n s l).n = n := rfl
@[simp] theorem Wr.s_mk (k n : Int) (s : ByteArray) (l : List Wr) : (Wr.mk k n s l).s = s := rfl
@[simp] theorem Wr.l_mk (k n : Int) (s : ByteArray) (l : List Wr) : (Wr.mk k n s l).l = l := rfl
theorem Wr.eta (x : Wr) : x = .mk x.k x.n x.s x.l := by cases x; rfl

/-- The slice value reads, in w, as the list of wires; all its blocks lie from B on. -/
inductive HL (w : World) (B : Nat) : Value → List Wr → Prop
  | nil (A : Option Addr) (c : Nat) : HL w B (.slice A 0 c) []
  | row (g o c : Nat) (l : List Wr) (L : Nat → Value) (hB : B ≤ g) (hg : g < w.heap.size) (hn : l.length ≤ 1099511627776)
      (hk : ∀ i x, l[i]? = some x → w.cell? ⟨g, o + i * 4, none⟩ = some (.int .i64 x.k))
      (hv : ∀ i x, l[i]? = some x → w.cell? ⟨g, o + i * 4 + 1, none⟩ = some (.int .i64 x.n))
      (hs : ∀ i x, l[i]? = some x → w.cell? ⟨g, o + i * 4 + 2, none⟩ = some (.string x.s))
      (hL : ∀ i x, l[i]? = some x → w.cell? ⟨g, o + i * 4 + 3, none⟩ = some (L i))
      (hl : ∀ i x, l[i]? = some x → HL w B (L i) x.l) : HL w B (.slice (some ⟨g, o, none⟩) l.length c) l

theorem cell_of_heap {w w' : World} {a : Addr} (h : w'.heap[a.block]? = w.heap[a.block]?) : w'.cell? a = w.cell? a := World.cell?_of_block h
theorem HL.keep {w w' : World} {B : Nat} {v : Value} {l : List Wr} (h : HL w B v l) (hsz : w.heap.size ≤ w'.heap.size) (hb : ∀ g, B ≤ g → g < w.heap.size → w'.heap[g]? = w.heap[g]?) : HL w' B v l := by
  induction h with
  | nil A c => exact .nil A c
  | row g o c l L hB hg hn hk hv hs hL hl ih =>
    refine .row g o c l L hB (Nat.lt_of_lt_of_le hg hsz) hn ?_ ?_ ?_ ?_ ih
    · intro i x hx; rw [cell_of_heap (hb g hB hg)]; exact hk i x hx
    · intro i x hx; rw [cell_of_heap (hb g hB hg)]; exact hv i x hx
    · intro i x hx; rw [cell_of_heap (hb g hB hg)]; exact hs i x hx
    · intro i x hx; rw [cell_of_heap (hb g hB hg)]; exact hL i x hx
theorem HL.low {w : World} {B B' : Nat} {v : Value} {l : List Wr} (h : HL w B v l) (hB : B' ≤ B) : HL w B' v l := by
  induction h with
  | nil A c => exact .nil A c
  | row g o c l L hB' hg hn hk hv hs hL hl ih => exact .row g o c l L (by omega) hg hn hk hv hs hL ih
/-- Whatever is made, and whatever is written into another block below B. -/
theorem HL.grown {w w' : World} {B : Nat} {v : Value} {l : List Wr} {r : Option Nat} (h : HL w B v l) (hg : w.grownBy w' r) (hr : ∀ i, r = some i → i < B) : HL w' B v l :=
  h.keep hg.size fun g hB hlt => hg.block g hlt (fun e => by have := hr g e.symm; omega)
theorem HL.kept {w w' : World} {B : Nat} {v : Value} {l : List Wr} (h : HL w B v l) (hg : w.grownBy w' none) : HL w' B v l := h.grown hg (fun _ e => by cases e)
theorem HL.slice {w : World} {B : Nat} {v : Value} {l : List Wr} (h : HL w B v l) : ∃ A c, v = .slice A l.length c := by
  cases h with
  | nil A c => exact ⟨A, c, rfl⟩
  | row g o c l L => exact ⟨_, c, rfl⟩
theorem HL.len {w : World} {B : Nat} {v : Value} {l : List Wr} (h : HL w B v l) : l.length ≤ 1099511627776 := by
  cases h with
  | nil A c => simp
  | row g o c l L hB hg hn => exact hn
/-- Its i-th wire. -/
theorem HL.item {w : World} {B : Nat} {A : Option Addr} {n c : Nat} {l : List Wr} (h : HL w B (.slice A n c) l) {i : Nat} {x : Wr} (hi : l[i]? = some x) :
    ∃ g o A2 c2, A = some ⟨g, o, none⟩ ∧ B ≤ g ∧ g < w.heap.size ∧ w.cell? ⟨g, o + i * 4, none⟩ = some (.int .i64 x.k) ∧ w.cell? ⟨g, o + i * 4 + 1, none⟩ = some (.int .i64 x.n) ∧ w.cell? ⟨g, o + i * 4 + 2, none⟩ = some (.string x.s) ∧ w.cell? ⟨g, o + i * 4 + 3, none⟩ = some (.slice A2 x.l.length c2) ∧ HL w B (.slice A2 x.l.length c2) x.l := by
  cases h with
  | nil A c => simp at hi
  | row g o c l L hB hg hn hk hv hs hL hl =>
    have h1 := hl i x hi
    have h2 := hL i x hi
    obtain ⟨A2, c2, he⟩ := h1.slice
    rw [he] at h1 h2
    exact ⟨g, o, A2, c2, rfl, hB, hg, hk i x hi, hv i x hi, hs i x hi, h2, h1⟩

/-! ### May -/
mutual
def Wr.fit (room : Int) : Wr → Bool
  | .mk k n s l =>
    if k = 1 then s.size == 0 && l.length == 0
    else if k = 2 then n == 0 && decide (s.size ≤ 1048576) && l.length == 0
    else if k = 3 then n == 0 && s.size == 0 && decide (0 < room) && (decide (l.length ≤ 65536) && allFit (room - 1) l)
    else false
def allFit (room : Int) : List Wr → Bool
  | [] => true
  | x :: r => x.fit room && allFit room r
end
theorem allFit_cons (room : Int) (x : Wr) (r : List Wr) : allFit room (x :: r) = (x.fit room && allFit room r) := by rw [allFit]
theorem allFit_nil (room : Int) : allFit room [] = true := by rw [allFit]
theorem fit_mk (room k n : Int) (s : ByteArray) (l : List Wr) : (Wr.mk k n s l).fit room = (if k = 1 then s.size == 0 && l.length == 0
    else if k = 2 then n == 0 && decide (s.size ≤ 1048576) && l.length == 0
    else if k = 3 then n == 0 && s.size == 0 && decide (0 < room) && (decide (l.length ≤ 65536) && allFit (room - 1) l)
    else false) := by rw [Wr.fit]
theorem allFit_drop (room : Int) (l : List Wr) (i : Nat) (x : Wr) (h : l[i]? = some x) : allFit room (l.drop i) = (x.fit room && allFit room (l.drop (i + 1))) := by
  obtain ⟨hi, rfl⟩ := List.getElem?_eq_some_iff.1 h
  rw [List.drop_eq_getElem_cons hi, allFit_cons]
/-- A wire that may be. -/
def Wr.may (x : Wr) : Bool := x.fit 6
end Go.Proofs.YtpnkglgbmgiogaaDoor.Vw

namespace Go.Proofs.YtpnkglgbmgiogaaDoor
open Go.RowKit Mm Vw

theorem ret_bool {a b : Bool} (h : a = b) : Ending.returned (.bool a) = .returned (.bool b) := by rw [h]
theorem cast_zero (n : Nat) : ((n : Int) == 0) = (n == 0) := by
  rw [Bool.eq_iff_iff]; simp
theorem size_zero {s : ByteArray} (h : s.size = 0) : s = ⟨#[]⟩ := by
  obtain ⟨⟨l⟩⟩ := s
  cases l with
  | nil => rfl
  | cons a r => simp [ByteArray.size] at h
theorem list_ne {s : ByteArray} (h : s.size ≠ 0) : s.toList.isEmpty = false := by
  rw [ByteArray.toList_eq, List.isEmpty_eq_false_iff]
  intro e
  exact h (by rw [ByteArray.size, ← Array.length_toList, e]; rfl)

/-- What is asked of a wire, ahead of its list. -/
def headB (n : Int) (s : ByteArray) (room : Int) : Bool := n == 0 && s.size == 0 && decide (0 < room)
end Go.Proofs.YtpnkglgbmgiogaaDoor

namespace Go.Proofs.YtpnkglgbmgiogaaDoor
open Go.RowKit Mm Vw

/-- A list in new memory. -/
def NewList (w : World) (l : List Wr) (e : Ending) (w' : World) : Prop := ∃ A c, e = .returned (.slice A l.length c) ∧ HL w' w.heap.size (.slice A l.length c) l ∧ w.grownBy w' none

theorem gb_none' {a w : World} {r : Option Nat} (h : a.grownBy w none) : a.grownBy w r := gb_none (gb_refl a r) h
theorem gb_new4 {a w : World} {g : Nat} (hg : a.heap.size ≤ g) {i0 i1 i2 i3 : Nat} {v0 v1 v2 v3 : Value} (h : a.grownBy w none) : a.grownBy ((((w.setCell ⟨g, i0, none⟩ v0).setCell ⟨g, i1, none⟩ v1).setCell ⟨g, i2, none⟩ v2).setCell ⟨g, i3, none⟩ v3) none :=
  gb_new (gb_new (gb_new (gb_new h (gb_set1 _ _ _ _) hg) (gb_set1 _ _ _ _) hg) (gb_set1 _ _ _ _) hg) (gb_set1 _ _ _ _) hg
/-- What a new row of wires holds. -/
def madeW (n : Nat) : Array Value := madeCells #[.int .i64 0, .int .i64 0, .string ⟨#[]⟩, .slice none 0 0] (n * 4)
theorem madeW_size (n : Nat) : (madeW n).size = n * 4 := size_madeCells _ _
/-- A wire with a list in new memory. -/
def NewWire (w : World) (x : Wr) (e : Ending) (w' : World) : Prop := ∃ A c, e = .returned (.agg #[.int .i64 x.k, .int .i64 x.n, .string x.s, .slice A x.l.length c]) ∧ HL w' w.heap.size (.slice A x.l.length c) x.l ∧ w.grownBy w' none
/-- A block of four cells. -/
theorem box4 {w : World} {b : Nat} {a0 a1 a2 a3 : Value} {T : TypeId} (h : w.heap[b]? = some (.cells #[a0, a1, a2, a3] T (0, 0))) :
    (w.cell? ⟨b, 0, none⟩ = some a0 ∧ w.cell? ⟨b, 1, none⟩ = some a1 ∧ w.cell? ⟨b, 2, none⟩ = some a2 ∧ w.cell? ⟨b, 3, none⟩ = some a3) ∧
    (w.frozen? ⟨b, 0, none⟩ = false ∧ w.frozen? ⟨b, 1, none⟩ = false ∧ w.frozen? ⟨b, 2, none⟩ = false ∧ w.frozen? ⟨b, 3, none⟩ = false) ∧ b < w.heap.size :=
  ⟨⟨cell_of_row w b 0 _ _ _ h, cell_of_row w b 1 _ _ _ h, cell_of_row w b 2 _ _ _ h, cell_of_row w b 3 _ _ _ h⟩, ⟨frozen_of_row w b 0 _ _ h, frozen_of_row w b 1 _ _ h, frozen_of_row w b 2 _ _ h, frozen_of_row w b 3 _ _ h⟩, (Array.getElem?_eq_some_iff.1 h).1⟩
end Go.Proofs.YtpnkglgbmgiogaaDoor

namespace Go.Proofs.YtpnkglgbmgiogaaDoor
open Go.RowKit Wd Mm Vw

theorem byte_inf : (Tryd.prog.info? 5).map (fun i => (i.zero, i.size, i.bytes)) = some (some (.int .u8 0), 1, 1) := by kernel_rfl
theorem byte_parts : ∃ i, Tryd.prog.info? 5 = some i ∧ i.zero = some (.int .u8 0) ∧ i.size = 1 ∧ i.bytes = 1 := by
  obtain ⟨i, hi, h⟩ := Option.map_eq_some_iff.1 byte_inf
  simp only [Prod.mk.injEq] at h
  exact ⟨i, hi, h.1, h.2.1, h.2.2⟩
/-- The text's own bytes, as cells. -/
theorem text_cells (s : ByteArray) : Lib.strCells s = s.data.toList.map w8 := by simp [Lib.strCells, w8]
/-- What writing into a builder turns: its two blocks alone, of those that were there. -/
def BT (b : Nat) (g g' : Option Nat) (w w' : World) : Prop :=
  w'.os = w.os ∧ w'.tape = w.tape ∧ w'.output = w.output ∧ w.heap.size ≤ w'.heap.size ∧ (∀ i, i < w.heap.size → i ≠ b → some i ≠ g → w'.heap[i]? = w.heap[i]?) ∧ (g' = g ∨ ∃ n, g' = some n ∧ w.heap.size ≤ n)
theorem BT.size {b : Nat} {g g' : Option Nat} {w w' : World} (h : BT b g g' w w') : w.heap.size ≤ w'.heap.size := h.2.2.2.1
theorem BT.block {b : Nat} {g g' : Option Nat} {w w' : World} (h : BT b g g' w w') {i : Nat} (hi : i < w.heap.size) (hb : i ≠ b) (hg : some i ≠ g) : w'.heap[i]? = w.heap[i]? := h.2.2.2.2.1 i hi hb hg
theorem BT.refl (b : Nat) (g : Option Nat) (w : World) : BT b g g w w := ⟨rfl, rfl, rfl, Nat.le_refl _, fun _ _ _ _ => rfl, .inl rfl⟩
theorem BT.trans {b : Nat} {g g' g2 : Option Nat} {w w' w2 : World} (h : BT b g g' w w') (k : BT b g' g2 w' w2) : BT b g g2 w w2 := by
  obtain ⟨h1, h2, h3, h4, h5, h6⟩ := h
  obtain ⟨k1, k2, k3, k4, k5, k6⟩ := k
  refine ⟨k1.trans h1, k2.trans h2, k3.trans h3, Nat.le_trans h4 k4, fun i hi hb hg => ?_, ?_⟩
  · rw [k5 i (by omega) hb ?_, h5 i hi hb hg]
    rcases h6 with rfl | ⟨n, rfl, hn⟩
    · exact hg
    · intro e; cases e; omega
  · rcases k6 with rfl | ⟨n, rfl, hn⟩
    · exact h6
    · exact .inr ⟨n, rfl, by omega⟩
theorem BT.grown {b : Nat} {g g' : Option Nat} {w w' w2 : World} (h : BT b g g' w w') (k : w'.grownBy w2 none) : BT b g g' w w2 := by
  refine h.trans ⟨k.os, k.tape, k.output, k.size, fun i hi _ _ => k.block i hi (by simp), .inl rfl⟩
theorem BT.ahead {b : Nat} {g g' : Option Nat} {w w' w2 : World} (k : w.grownBy w' none) (h : BT b g g' w' w2) : BT b g g' w w2 :=
  BT.trans ⟨k.os, k.tape, k.output, k.size, fun i hi _ _ => k.block i hi (by simp), .inl rfl⟩ h
theorem BT.below {B b : Nat} {g g' : Option Nat} {w w' : World} (h : BT b g g' w w') (hB : B ≤ b) (hg : ∀ i, g = some i → B ≤ i) (hw : B ≤ w.heap.size) : Below B w w' :=
  ⟨h.1, h.2.1, h.2.2.1, h.size, fun i hi => h.block (by omega) (by omega) (fun e => by have := hg i e.symm; omega)⟩
theorem own_slice {w : World} {B : Nat} {e : TypeId} {v : Value} {n : Nat} {xs : List Value} (h : w.ownsRow B e 1 v n xs) : ∃ A m c, v = .slice A m c := by
  rcases h.2 with ⟨rfl, _⟩ | ⟨g, cap, cur, rfl, _⟩
  · exact ⟨_, _, _, rfl⟩
  · exact ⟨_, _, _, rfl⟩
theorem one_byte (w : World) (n : Int) : ∀ (j : Nat) (u : Value), [Value.int .u8 n][j]? = some u → (w.alloc (.cells #[.int .u8 n] 5)).cell? ((⟨w.heap.size, 0, none⟩ : Addr).add j) = some u := by
  intro j u hj
  cases j with
  | succ j => simp at hj
  | zero =>
    obtain rfl : Value.int .u8 n = u := by simpa using hj
    exact cell_of_row _ _ 0 #[.int .u8 n] 5 (0, 0) (heap_alloc_new _ _)
theorem one_small1 (n : Int) : ∀ u ∈ [Value.int .u8 n], u.oneCell' = true := by
  intro u hu
  rw [List.mem_singleton.1 hu]; rfl
theorem res_inj {a b : Value} {x y : World} (h : Result.ok a x = Result.ok b y) : a = b := by injection h
set_option maxRecDepth 100000 in
/-- Behind an append the row lies where it lay, or in the block that was made last. -/
theorem text_loc {w w' : World} {B : Nat} {v v' : Value} {n : Nat} {xs : List Value} {s : ByteArray} (hown : w.ownsRow B 5 1 v n xs) (hn : n + s.size ≤ 140737488355328)
    (hrun : (Builtin.append_ #[37, 9] 37 #[v, .string s]).run Tryd.prog w = .ok v' w') (hn0 : v' = .slice none 0 0 ↔ v = .slice none 0 0 ∧ s.size = 0) : v'.ownBlock = v.ownBlock ∨ v'.ownBlock = some w.heap.size := by
  obtain ⟨i, hi, hz, hs1, hs2⟩ := byte_parts
  rcases hown.2 with ⟨rfl, rfl⟩ | ⟨g, cap, cur, rfl, hbg, hg, hnc, hcm, hcs, htake⟩
  · by_cases hm : s.size = 0
    · left; rw [hn0.2 ⟨rfl, hm⟩]
    · right
      have h := run_append_nil_string (P := Tryd.prog) w 37 9 37 5 i (.int .u8 0) Tryd.underlying37 Tryd.underlying9 hi hz s (by omega) (by omega) (by rw [hs2]; omega)
      exact congrArg Value.ownBlock (res_inj (h.symm.trans hrun)).symm
  · by_cases hroom : n + s.size ≤ cap
    · left
      have h := Lib.run_append_room_string (P := Tryd.prog) w 37 9 37 5 i Tryd.underlying37 Tryd.underlying9 hi hs1 g n cap cur hg s hroom (by omega)
      rw [← res_inj (h.symm.trans hrun)]; rfl
    · right
      have h := Lib.run_append_grow_string (P := Tryd.prog) w 37 9 37 5 i (.int .u8 0) Tryd.underlying37 Tryd.underlying9 hi hz ⟨g, 0, none⟩ n cap xs (by rw [hs1]; exact hown.1) (hown.cells (g := g) rfl) s (by omega) (by omega) (by rw [hs2]; have := growslice_fits (bytes := 1) (need := n + s.size) (old := cap) (by omega) (by omega); exact this)
      exact congrArg Value.ownBlock (res_inj (h.symm.trans hrun)).symm
end Go.Proofs.YtpnkglgbmgiogaaDoor

namespace Go.Proofs.YtpnkglgbmgiogaaDoor.Vw
open Go Go.RowKit Go.Proofs.YtpnkglgbmgiogaaDoor.Mm Go.Proofs.YtpnkglgbmgiogaaDoor.Wd

/-- The byte of n that begins at bit 8 j. -/
def hiB (n : Int) (j : Nat) : UInt8 := UInt8.ofNat ((n / 2 ^ (8 * j)) % 256).toNat
/-- So many of n's lowest bytes, the highest first. -/
def highs (n : Int) : Nat → List UInt8
  | 0 => []
  | j + 1 => hiB n j :: highs n j
theorem highs_len (n : Int) (j : Nat) : (highs n j).length = j := by
  induction j with
  | zero => rfl
  | succ j ih => simp [highs, ih]
theorem hiB_nat (n : Int) (j : Nat) : ((hiB n j).toNat : Int) = (n / 2 ^ (8 * j)) % 256 := by
  unfold hiB
  have h1 := Int.emod_nonneg (n / 2 ^ (8 * j)) (show (256 : Int) ≠ 0 by decide)
  have h2 := Int.emod_lt_of_pos (n / 2 ^ (8 * j)) (show (0 : Int) < 256 by decide)
  rw [UInt8.toNat_ofNat', Nat.mod_eq_of_lt (by omega)]
  omega
mutual
def Wr.enc : Wr → List UInt8
  | .mk k n s l => UInt8.ofNat (k % 256).toNat :: (if k = 1 then highs n 8 else if k = 2 then highs s.size 4 ++ s.data.toList else highs l.length 4 ++ encs l)
def encs : List Wr → List UInt8
  | [] => []
  | x :: r => x.enc ++ encs r
end
theorem enc_mk (k n : Int) (s : ByteArray) (l : List Wr) : (Wr.mk k n s l).enc = UInt8.ofNat (k % 256).toNat :: (if k = 1 then highs n 8 else if k = 2 then highs s.size 4 ++ s.data.toList else highs l.length 4 ++ encs l) := by rw [Wr.enc]
theorem encs_cons (x : Wr) (r : List Wr) : encs (x :: r) = x.enc ++ encs r := by rw [encs]
theorem encs_nil : encs [] = [] := by rw [encs]
theorem encs_take (l : List Wr) (i : Nat) (x : Wr) (h : l[i]? = some x) : encs (l.take (i + 1)) = encs (l.take i) ++ x.enc := by
  obtain ⟨hi, rfl⟩ := List.getElem?_eq_some_iff.1 h
  induction l generalizing i with
  | nil => simp at hi
  | cons y r ih =>
    cases i with
    | zero => simp [encs_cons, encs_nil]
    | succ i =>
      have hi' : i < r.length := by simpa using hi
      simp only [List.take_succ_cons, encs_cons, List.append_assoc, List.getElem_cons_succ]
      rw [ih i hi' (List.getElem?_eq_getElem hi')]
theorem enc_pos (x : Wr) : 5 ≤ x.enc.length ∨ ¬ (x.k = 1 ∨ x.k = 2 ∨ x.k = 3) := by
  obtain ⟨k, n, s, l⟩ := x
  rw [enc_mk]
  by_cases h1 : k = 1
  · left; simp [h1, highs_len]
  · by_cases h2 : k = 2
    · left; simp [h2, highs_len]
    · left; simp [h1, h2, highs_len]
theorem encs_part (l : List Wr) (i : Nat) (x : Wr) (h : l[i]? = some x) : (encs (l.take i)).length + x.enc.length ≤ (encs l).length := by
  have h1 := encs_take l i x h
  have h2 : (encs l).length = (encs (l.take (i + 1))).length + (encs (l.drop (i + 1))).length := by
    have : ∀ a b, encs (a ++ b) = encs a ++ encs b := by
      intro a b
      induction a with
      | nil => simp [encs_nil]
      | cons y r ih => simp [encs_cons, ih]
    rw [← List.length_append, ← this, List.take_append_drop]
  rw [h2, h1, List.length_append]
  omega
/-- A wire's bytes as a text; of one that may not be none. -/
def Wr.bytes (x : Wr) : ByteArray := if x.may then ⟨x.enc.toArray⟩ else ⟨#[]⟩
/-- Bytes as a number, the highest first. -/
def beN (l : List UInt8) : Nat := l.foldl (fun a c => a * 256 + c.toNat) 0
theorem beN_snoc (l : List UInt8) (c : UInt8) : beN (l ++ [c]) = beN l * 256 + c.toNat := by simp [beN]
/-- .. as the program has it: in 64 bits. -/
def valI (l : List UInt8) : Int := wrap64 (beN l : Int)
theorem valI_nil : valI [] = 0 := by simp [valI, beN, wrap64]
theorem or_byte (m : Int) (c : Nat) (hc : c < 256) : bits .or .i64 (wrap64 (m * 256)) (wrap64 (c : Int)) = wrap64 (m * 256 + c) := by
  have hc' : wrap64 (c : Int) = c := by unfold wrap64; omega
  rw [hc']
  show IntKind.i64.wrap ((BitVec.ofInt 64 (wrap64 (m * 256)) ||| BitVec.ofInt 64 (c : Int)).toNat : Int) = _
  obtain ⟨q, hq⟩ : ∃ q : Nat, (BitVec.ofInt 64 (wrap64 (m * 256))).toNat = 256 * q := by
    rw [BitVec.toNat_ofInt]
    refine ⟨((wrap64 (m * 256)) % 2 ^ 64).toNat / 256, ?_⟩
    unfold wrap64
    omega
  have h2 : (BitVec.ofInt 64 (c : Int)).toNat = c := by
    rw [BitVec.toNat_ofInt]; omega
  have h3 : 256 * q ||| c = 256 * q + c := (Nat.two_pow_add_eq_or_of_lt (i := 8) (by omega) q).symm
  rw [BitVec.toNat_or, hq, h2, h3, IntKind.wrap_i64]
  rw [BitVec.toNat_ofInt] at hq
  unfold wrap64 at hq ⊢
  omega
theorem valI_snoc (l : List UInt8) (c : UInt8) : bits .or .i64 (wrap64 (valI l * 256)) (wrap64 (c.toNat : Int)) = valI (l ++ [c]) := by
  rw [or_byte _ _ c.toNat_lt]
  unfold valI
  rw [beN_snoc]
  unfold wrap64
  omega
end Go.Proofs.YtpnkglgbmgiogaaDoor.Vw

namespace Go.Proofs.YtpnkglgbmgiogaaDoor
open Go.RowKit Wd Mm Vw

/-- Memory as it was, below. -/
theorem HL.below {w0 w : World} {v : Value} {l : List Wr} (h : HL w0 0 v l) (hb : Below w0.heap.size w0 w) : HL w 0 v l := h.keep hb.size (fun g _ hg => hb.block g hg)

/-- What a wire that may be is like. -/
theorem all_fit {room : Int} {l : List Wr} (h : allFit room l = true) : ∀ x ∈ l, x.fit room = true := by
  induction l with
  | nil => intro x hx; cases hx
  | cons y r ih =>
    rw [allFit_cons, Bool.and_eq_true] at h
    intro x hx
    rcases List.mem_cons.1 hx with rfl | hx
    · exact h.1
    · exact ih h.2 x hx
theorem enc_list (k n : Int) (s : ByteArray) (l : List Wr) (h1 : k ≠ 1) (h2 : k ≠ 2) : (Wr.mk k n s l).enc.length = 5 + (encs l).length := by
  rw [enc_mk, if_neg h1, if_neg h2]; simp [highs_len]; omega
theorem fit_kinds {k n : Int} {s : ByteArray} {l : List Wr} {room : Int} (h : (Wr.mk k n s l).fit room = true) :
    (k = 1 ∨ k = 2 ∧ l = [] ∨ k = 3 ∧ s = ⟨#[]⟩) ∧ (k = 1 → l = []) ∧ (k = 3 → ∀ x ∈ l, x.fit (room - 1) = true) ∧ s.size ≤ 1048576 ∧ l.length ≤ 65536 := by
  rw [fit_mk] at h
  by_cases h1 : k = 1
  · subst h1
    simp only [if_true, Bool.and_eq_true, beq_iff_eq] at h
    have := List.length_eq_zero_iff.1 h.2
    refine ⟨.inl rfl, fun _ => this, fun h => absurd h (by decide), by omega, by omega⟩
  rw [if_neg h1] at h
  by_cases h2 : k = 2
  · subst h2
    simp only [if_true, Bool.and_eq_true, beq_iff_eq, decide_eq_true_eq] at h
    have := List.length_eq_zero_iff.1 h.2
    refine ⟨.inr (.inl ⟨rfl, this⟩), fun h => absurd h (by decide), fun h => absurd h (by decide), h.1.2, by omega⟩
  rw [if_neg h2] at h
  by_cases h3 : k = 3
  · subst h3
    simp only [if_true, Bool.and_eq_true, beq_iff_eq, decide_eq_true_eq] at h
    obtain ⟨⟨⟨_, hs⟩, _⟩, hl, ha⟩ := h
    refine ⟨.inr (.inr ⟨rfl, size_zero hs⟩), fun h => absurd h (by decide), fun _ => all_fit ha, by omega, hl⟩
  · rw [if_neg h3] at h; cases h

theorem byte_of (k : Int) (h1 : 0 ≤ k) (h2 : k ≤ 255) : ((UInt8.ofNat (k % 256).toNat).toNat : Int) = k := by
  rw [UInt8.toNat_ofNat']
  omega
/-- One that is not what a builder holds stays so. -/
theorem far_step {b i : Nat} {g g' : Option Nat} {w w' : World} (h : BT b g g' w w') (hi : i < w.heap.size) (hg : some i ≠ g) : some i ≠ g' := by
  rcases h.2.2.2.2.2 with rfl | ⟨n, rfl, hn⟩
  · exact hg
  · intro e; cases e; omega
end Go.Proofs.YtpnkglgbmgiogaaDoor

namespace Go.Proofs.YtpnkglgbmgiogaaDoor
open Go.RowKit Wd Mm Vw

theorem below_alloc {w0 w : World} (hb : Below w0.heap.size w0 w) (o : Obj) : Below w0.heap.size w0 (w.alloc o) := hb.alloc hb.size o

end Go.Proofs.YtpnkglgbmgiogaaDoor

namespace Go.Proofs.YtpnkglgbmgiogaaDoor
open Go.RowKit Wd Mm Vw

end Go.Proofs.YtpnkglgbmgiogaaDoor

namespace Go.Proofs.YtpnkglgbmgiogaaDoor
open Go.RowKit Wd Mm Vw Go.Shelf

end Go.Proofs.YtpnkglgbmgiogaaDoor

namespace Go.Proofs.YtpnkglgbmgiogaaDoor
open Go.RowKit Wd Mm Vw Go.Extern.Stop Go.Stop Go.Extern

def inner : Value → Option Value
  | .iface _ (.agg cs) => cs[1]?
  | _ => none
def deepE : Nat → Value → Nat
  | 0, _ => 0
  | f + 1, v => match inner v with
    | some e => deepE f e + 1
    | none => 0
theorem one_method (z : Sem Value) (f : TypeId → Addr → Nat → Nat → Sem Value) (v : Value) :
    ReflectliteValue.method z f #[v] = (do match ← ReflectliteValue.parts v with | none => z | some (t, a, fl) => f t a fl (fl % 32)) := rfl
theorem set_of (v x : Value) : ReflectliteValue.set #[v, x] = (do
    let (some (dst, a, fl), some (src, b, _)) := (← ReflectliteValue.parts v, ← ReflectliteValue.parts x)
      | unsupported (.noEntry "extern/(internal/reflectlite.Value).Set.zeroValue")
    if fl / ReflectliteValue.flagAddr % 2 == 0 then unsupported (.noEntry "extern/(internal/reflectlite.Value).Set.unaddressable")
    let val ← loadVar src b
    if ← Rtype.directlyAssignable dst src then storeVar dst a val
    else if ← Rtype.implements dst src then
      if (← Rtype.kind src) == 20 then
        match val with
        | .nilIface => unsupported (.noEntry "extern/reflectlite: a nil value of one interface type handed on as a value of another")
        | _ => storeVar dst a val
      else storeVar dst a (.iface src val)
    else panicString ("reflectlite.Set: value of type " ++ (← Rtype.spelt src) ++ " is not assignable to type " ++ (← Rtype.spelt dst))
    pure (.tuple #[])) := rfl
/-- As found: the target's cell holds the fault. -/
def Found (tb : Nat) (k : Int) (w : World) (e : Ending) (w' : World) : Prop := e = .returned (.bool true) ∧ w.grownBy w' (some tb) ∧ w'.cell? ⟨tb, 0, none⟩ = some (.int .i64 k)
end Go.Proofs.YtpnkglgbmgiogaaDoor

namespace Go.Proofs.YtpnkglgbmgiogaaDoor.Vw
open Go Go.RowKit Go.Proofs.YtpnkglgbmgiogaaDoor.Mm Go.Proofs.YtpnkglgbmgiogaaDoor.Wd

/-- So many wires, one behind the other. -/
def rds (f : List UInt8 → Option (Wr × List UInt8)) : Nat → List UInt8 → Option (List Wr × List UInt8)
  | 0, s => some ([], s)
  | n + 1, s => match f s with
    | none => none
    | some (x, r) => match rds f n r with
      | none => none
      | some (l, t) => some (x :: l, t)
/-- A list, behind its kind. -/
def rdL (f : List UInt8 → Option (Wr × List UInt8)) (t : List UInt8) : Option (Wr × List UInt8) :=
  if t.length < 4 then none else if 65536 < beN (t.take 4) then none else (rds f (beN (t.take 4)) (t.drop 4)).map fun p => (.mk 3 0 ⟨#[]⟩ p.1, p.2)
def rdT (t : List UInt8) : Option (Wr × List UInt8) :=
  if t.length < 4 then none else if 1048576 < beN (t.take 4) then none else if (t.drop 4).length < beN (t.take 4) then none
    else some (.mk 2 0 ⟨((t.drop 4).take (beN (t.take 4))).toArray⟩ [], (t.drop 4).drop (beN (t.take 4)))
def rdN (t : List UInt8) : Option (Wr × List UInt8) := if t.length < 8 then none else some (.mk 1 (valI (t.take 8)) ⟨#[]⟩ [], t.drop 8)
/-- A wire at the beginning of bytes; 'sub': one within a list. -/
def rdB (sub : Option (List UInt8 → Option (Wr × List UInt8))) : List UInt8 → Option (Wr × List UInt8)
  | [] => none
  | k :: t => if k = 1 then rdN t else if k = 2 then rdT t else if k = 3 then sub.bind fun f => rdL f t else none
def rd : Nat → List UInt8 → Option (Wr × List UInt8)
  | 0 => rdB none
  | r + 1 => rdB (some (rd r))
def subOf : Nat → Option (List UInt8 → Option (Wr × List UInt8))
  | 0 => none
  | r + 1 => some (rd r)
theorem rd_eq (r : Nat) : rd r = rdB (subOf r) := by cases r <;> rfl

theorem rds_len {f : List UInt8 → Option (Wr × List UInt8)} (hf : ∀ s x t, f s = some (x, t) → t.length + 5 ≤ s.length) : ∀ n s l t, rds f n s = some (l, t) → t.length + 5 * n ≤ s.length ∧ l.length = n := by
  intro n
  induction n with
  | zero => intro s l t h; simp only [rds, Option.some.injEq, Prod.mk.injEq] at h; obtain ⟨rfl, rfl⟩ := h; simp
  | succ n ih =>
    intro s l t h
    rw [rds] at h
    cases hs : f s with
    | none => rw [hs] at h; cases h
    | some p =>
      obtain ⟨x, r⟩ := p
      rw [hs] at h
      simp only at h
      cases hr : rds f n r with
      | none => rw [hr] at h; cases h
      | some q =>
        obtain ⟨l', t'⟩ := q
        rw [hr] at h
        simp only [Option.some.injEq, Prod.mk.injEq] at h
        obtain ⟨rfl, rfl⟩ := h
        have h1 := hf s x r hs
        have h2 := ih r l' t' hr
        simp only [List.length_cons]
        omega
theorem rdN_some {t r : List UInt8} {x : Wr} (h : rdN t = some (x, r)) : 8 ≤ t.length ∧ x = .mk 1 (valI (t.take 8)) ⟨#[]⟩ [] ∧ r = t.drop 8 := by
  unfold rdN at h
  by_cases hl : t.length < 8
  · rw [if_pos hl] at h; cases h
  · rw [if_neg hl] at h
    simp only [Option.some.injEq, Prod.mk.injEq] at h
    exact ⟨by omega, h.1.symm, h.2.symm⟩
theorem rdT_some {t r : List UInt8} {x : Wr} (h : rdT t = some (x, r)) : 4 ≤ t.length ∧ beN (t.take 4) ≤ 1048576 ∧ beN (t.take 4) ≤ (t.drop 4).length ∧ x = .mk 2 0 ⟨((t.drop 4).take (beN (t.take 4))).toArray⟩ [] ∧ r = (t.drop 4).drop (beN (t.take 4)) := by
  unfold rdT at h
  by_cases hl : t.length < 4
  · rw [if_pos hl] at h; cases h
  rw [if_neg hl] at h
  by_cases hm : 1048576 < beN (t.take 4)
  · rw [if_pos hm] at h; cases h
  rw [if_neg hm] at h
  by_cases ho : (t.drop 4).length < beN (t.take 4)
  · rw [if_pos ho] at h; cases h
  rw [if_neg ho] at h
  simp only [Option.some.injEq, Prod.mk.injEq] at h
  exact ⟨by omega, by omega, by omega, h.1.symm, h.2.symm⟩
theorem rdL_some {f : List UInt8 → Option (Wr × List UInt8)} {t r : List UInt8} {x : Wr} (h : rdL f t = some (x, r)) : 4 ≤ t.length ∧ beN (t.take 4) ≤ 65536 ∧ ∃ l, rds f (beN (t.take 4)) (t.drop 4) = some (l, r) ∧ x = .mk 3 0 ⟨#[]⟩ l := by
  unfold rdL at h
  by_cases hl : t.length < 4
  · rw [if_pos hl] at h; cases h
  rw [if_neg hl] at h
  by_cases hm : 65536 < beN (t.take 4)
  · rw [if_pos hm] at h; cases h
  rw [if_neg hm] at h
  obtain ⟨⟨l, r'⟩, h1, h2⟩ := Option.map_eq_some_iff.1 h
  simp only [Prod.mk.injEq] at h2
  obtain ⟨rfl, rfl⟩ := h2
  exact ⟨by omega, by omega, l, h1, rfl⟩
theorem rdB_len {sub : Option (List UInt8 → Option (Wr × List UInt8))} (hsub : ∀ f, sub = some f → ∀ s x t, f s = some (x, t) → t.length + 5 ≤ s.length) : ∀ s x t, rdB sub s = some (x, t) → t.length + 5 ≤ s.length := by
  intro s x t h
  cases s with
  | nil => cases h
  | cons k r =>
    rw [rdB] at h
    simp only [List.length_cons]
    by_cases h1 : k = 1
    · rw [if_pos h1] at h
      obtain ⟨a, _, rfl⟩ := rdN_some h
      rw [List.length_drop]; omega
    rw [if_neg h1] at h
    by_cases h2 : k = 2
    · rw [if_pos h2] at h
      obtain ⟨a, _, _, _, rfl⟩ := rdT_some h
      rw [List.length_drop, List.length_drop]; omega
    rw [if_neg h2] at h
    by_cases h3 : k = 3
    · rw [if_pos h3] at h
      obtain ⟨f, hs, h⟩ := Option.bind_eq_some_iff.1 h
      obtain ⟨a, _, l, hr, _⟩ := rdL_some h
      have := (rds_len (hsub f hs) _ _ _ _ hr).1
      rw [List.length_drop] at this
      omega
    · rw [if_neg h3] at h; cases h
theorem rd_len : ∀ r s x t, rd r s = some (x, t) → t.length + 5 ≤ s.length := by
  intro r
  induction r with
  | zero => exact rdB_len (fun f hf => by cases hf)
  | succ r ih => exact rdB_len (fun f hf => by cases hf; exact ih)
/-- Gone through from the front. -/
theorem rds_some {f : List UInt8 → Option (Wr × List UInt8)} {n : Nat} {s r : List UInt8} {x : Wr} (h : f s = some (x, r)) : rds f (n + 1) s = (rds f n r).map fun p => (x :: p.1, p.2) := by
  rw [rds, h]
  cases hr : rds f n r <;> simp [hr]
theorem rds_none {f : List UInt8 → Option (Wr × List UInt8)} {n : Nat} {s : List UInt8} (h : f s = none) : rds f (n + 1) s = none := by rw [rds, h]
theorem beN_four (l : List UInt8) (h : l.length ≤ 4) : beN l < 4294967296 := by
  have H : ∀ (l : List UInt8) (n : Nat), l.length = n → beN l < 256 ^ n := by
    intro l n
    induction n generalizing l with
    | zero => intro hl; rw [List.length_eq_zero_iff.1 hl]; decide
    | succ n ih =>
      intro hl
      obtain ⟨l', c, rfl⟩ : ∃ l' c, l = l' ++ [c] := by
        rcases List.eq_nil_or_concat l with rfl | ⟨l', c, rfl⟩
        · cases hl
        · exact ⟨l', c, by simp⟩
      rw [beN_snoc]
      have h1 := ih l' (by simpa using hl)
      have h2 := c.toNat_lt
      rw [Nat.pow_succ]
      omega
  have h1 := H l l.length rfl
  have h2 : 256 ^ l.length ≤ 256 ^ 4 := Nat.pow_le_pow_right (by decide) h
  have h3 : (256 : Nat) ^ 4 = 4294967296 := by decide
  omega
theorem valI_four (l : List UInt8) (h : l.length ≤ 4) : valI l = (beN l : Int) := by
  have := beN_four l h
  unfold valI wrap64
  omega
theorem valI_one (k : UInt8) : valI [k] = (k.toNat : Int) := by
  have := k.toNat_lt
  have h : beN [k] = k.toNat := by simp [beN]
  unfold valI wrap64
  rw [h]
  omega
end Go.Proofs.YtpnkglgbmgiogaaDoor.Vw

namespace Go.Proofs.YtpnkglgbmgiogaaDoor
open Go.RowKit Wd Mm Vw

theorem four_nat (t : List UInt8) : valI (t.take 4) = (beN (t.take 4) : Int) := valI_four _ (by simp; omega)

end Go.Proofs.YtpnkglgbmgiogaaDoor

namespace Go.Proofs.YtpnkglgbmgiogaaDoor
open Go.RowKit Wd Mm Vw

/-! ### wire -/
/-- The reader's block beside those that wire itself makes. -/
theorem gb_some {a w w' : World} {r g : Nat} {i : Nat} {v : Value} (h : a.grownBy w (some r)) (hg : a.heap.size ≤ g) (hw : w' = w.setCell ⟨g, i, none⟩ v) : a.grownBy w' (some r) := by
  subst hw
  exact gb_step h (gb_set1 _ _ _ _) (fun j e => .inr (by cases e; exact hg))
theorem gb_some4 {a w : World} {r g : Nat} {i0 i1 i2 i3 : Nat} {v0 v1 v2 v3 : Value} (h : a.grownBy w (some r)) (hg : a.heap.size ≤ g) : a.grownBy ((((w.setCell ⟨g, i0, none⟩ v0).setCell ⟨g, i1, none⟩ v1).setCell ⟨g, i2, none⟩ v2).setCell ⟨g, i3, none⟩ v3) (some r) :=
  gb_some (gb_some (gb_some (gb_some h hg rfl) hg rfl) hg rfl) hg rfl
/-- A fresh wire's block. -/
def zeroW : Array Value := #[.int .i64 0, .int .i64 0, .string ⟨#[]⟩, .slice none 0 0]
/-- A block that is not the reader's. -/
theorem box_read {w w2 : World} {r g : Nat} {cs : Array Value} {T : TypeId} (h : w.heap[g]? = some (.cells cs T (0, 0))) (hg : w.grownBy w2 (some r)) (hne : g ≠ r) : w2.heap[g]? = some (.cells cs T (0, 0)) :=
  (hg.block g (Array.getElem?_eq_some_iff.1 h).1 (fun e => hne (Option.some.inj e))).trans h
theorem set4_row {w : World} {g : Nat} {x0 x1 x2 x3 : Value} {T : TypeId} (h : w.heap[g]? = some (.cells #[x0, x1, x2, x3] T (0, 0))) (v0 v1 v2 v3 : Value) :
    ((((w.setCell ⟨g, 0, none⟩ v0).setCell ⟨g, 1, none⟩ v1).setCell ⟨g, 2, none⟩ v2).setCell ⟨g, 3, none⟩ v3).heap[g]? = some (.cells #[v0, v1, v2, v3] T (0, 0)) :=
  heap_setCell_same _ g 3 _ _ _ (heap_setCell_same _ g 2 _ _ _ (heap_setCell_same _ g 1 _ _ _ (heap_setCell_same w g 0 _ _ _ h)))
section
variable {w w3 : World} {b4 b8 i r : Nat} {v a0 a1 a2 a3 x0 x1 x2 x3 : Value} {T : TypeId}
theorem fill_row (h : w3.heap[b4]? = some (.cells #[x0, x1, x2, x3] T (0, 0))) (hne : b4 ≠ b8) (v a0 a1 a2 a3 : Value) (i : Nat) : (((((w3.setCell ⟨b8, i, none⟩ v).setCell ⟨b4, 0, none⟩ a0).setCell ⟨b4, 1, none⟩ a1).setCell ⟨b4, 2, none⟩ a2).setCell ⟨b4, 3, none⟩ a3).heap[b4]? = some (.cells #[a0, a1, a2, a3] T (0, 0)) :=
  set4_row ((heap_setCell_other w3 _ _ _ hne).trans h) a0 a1 a2 a3
theorem fill_gb (hg : w.grownBy w3 (some r)) (h8 : w.heap.size ≤ b8) : w.grownBy (((((w3.setCell ⟨b8, i, none⟩ v).setCell ⟨w.heap.size, 0, none⟩ a0).setCell ⟨w.heap.size, 1, none⟩ a1).setCell ⟨w.heap.size, 2, none⟩ a2).setCell ⟨w.heap.size, 3, none⟩ a3) (some r) :=
  gb_some4 (gb_some hg h8 rfl) (Nat.le_refl _)
theorem fill_hl {B : Nat} {sl : Value} {l : List Wr} (h : HL w3 B sl l) (h8 : b8 < B) (h4 : b4 < B) : HL (((((w3.setCell ⟨b8, i, none⟩ v).setCell ⟨b4, 0, none⟩ a0).setCell ⟨b4, 1, none⟩ a1).setCell ⟨b4, 2, none⟩ a2).setCell ⟨b4, 3, none⟩ a3) B sl l := by
  refine h.keep (by simp [World.setCell]) (fun g hB _ => ?_)
  rw [heap_setCell_other _ _ _ _ (by simp only [ne_eq]; omega), heap_setCell_other _ _ _ _ (by simp only [ne_eq]; omega), heap_setCell_other _ _ _ _ (by simp only [ne_eq]; omega), heap_setCell_other _ _ _ _ (by simp only [ne_eq]; omega), heap_setCell_other _ _ _ _ (by simp only [ne_eq]; omega)]
end
end Go.Proofs.YtpnkglgbmgiogaaDoor

namespace Go.Proofs.YtpnkglgbmgiogaaDoor
open Go.RowKit Wd Mm Vw

/-- What all of the bytes say. -/
def get (s : List UInt8) : Option Wr := match rd 6 s with
  | some (x, []) => some x
  | _ => none
/-- whole: a wire; or an error. -/
def WholeGot (x : Wr) (w : World) (e : Ending) (w' : World) : Prop := ∃ A c, e = .returned (.tuple #[.agg #[.int .i64 x.k, .int .i64 x.n, .string x.s, .slice A x.l.length c], .nilIface]) ∧ HL w' w.heap.size (.slice A x.l.length c) x.l ∧ w.grownBy w' none
/-- Get: a wire; or none. -/
def GetGot (x : Wr) (w : World) (e : Ending) (w' : World) : Prop := ∃ A c, e = .returned (.tuple #[.agg #[.int .i64 x.k, .int .i64 x.n, .string x.s, .slice A x.l.length c], .bool true]) ∧ HL w' w.heap.size (.slice A x.l.length c) x.l ∧ w.grownBy w' none
def GetNone (w : World) (e : Ending) (w' : World) : Prop := e = .returned (.tuple #[.agg #[.int .i64 0, .int .i64 0, .string ⟨#[]⟩, .slice none 0 0], .bool false]) ∧ w.grownBy w' none
end Go.Proofs.YtpnkglgbmgiogaaDoor

namespace Go.Proofs.YtpnkglgbmgiogaaDoor.Vw
open Go Go.RowKit Go.Proofs.YtpnkglgbmgiogaaDoor.Mm Go.Proofs.YtpnkglgbmgiogaaDoor.Wd

mutual
/-- All its numbers go into 64 bits. -/
def Wr.in64 : Wr → Bool
  | .mk _ n _ l => decide (-9223372036854775808 ≤ n) && decide (n ≤ 9223372036854775807) && allIn l
def allIn : List Wr → Bool
  | [] => true
  | x :: r => x.in64 && allIn r
end
theorem in64_mk (k n : Int) (s : ByteArray) (l : List Wr) : (Wr.mk k n s l).in64 = (decide (-9223372036854775808 ≤ n) && decide (n ≤ 9223372036854775807) && allIn l) := by rw [Wr.in64]
theorem allIn_cons (x : Wr) (r : List Wr) : allIn (x :: r) = (x.in64 && allIn r) := by rw [allIn]
theorem allIn_nil : allIn [] = true := by rw [allIn]
theorem beN_list (l : List UInt8) (a : UInt8) : beN (a :: l) = a.toNat * 256 ^ l.length + beN l := by
  have H : ∀ (l : List UInt8) (z : Nat), l.foldl (fun a c => a * 256 + c.toNat) z = z * 256 ^ l.length + beN l := by
    intro l
    induction l with
    | nil => intro z; simp [beN]
    | cons c r ih =>
      intro z
      unfold beN at *
      simp only [List.foldl_cons, List.length_cons]
      rw [ih, ih (0 * 256 + c.toNat), Nat.pow_succ, Nat.add_mul, Nat.zero_mul, Nat.zero_add, Nat.mul_assoc, Nat.mul_comm 256 (256 ^ r.length), Nat.add_assoc]
  show (a :: l).foldl _ 0 = _
  rw [List.foldl_cons, H]
  simp
theorem highs4 (n : Int) : highs n 4 = [hiB n 3, hiB n 2, hiB n 1, hiB n 0] := rfl
theorem highs8 (n : Int) : highs n 8 = [hiB n 7, hiB n 6, hiB n 5, hiB n 4, hiB n 3, hiB n 2, hiB n 1, hiB n 0] := rfl
theorem beN4 (a b c d : UInt8) : beN [a, b, c, d] = ((a.toNat * 256 + b.toNat) * 256 + c.toNat) * 256 + d.toNat := by simp [beN]
theorem beN8 (a b c d e f g h : UInt8) : beN [a, b, c, d, e, f, g, h] = ((((((a.toNat * 256 + b.toNat) * 256 + c.toNat) * 256 + d.toNat) * 256 + e.toNat) * 256 + f.toNat) * 256 + g.toNat) * 256 + h.toNat := by simp [beN]
theorem beN_highs4 (n : Nat) (h : n < 4294967296) : beN (highs n 4) = n := by
  rw [highs4, beN4]
  have h0 := hiB_nat n 0
  have h1 := hiB_nat n 1
  have h2 := hiB_nat n 2
  have h3 := hiB_nat n 3
  simp only [Nat.mul_zero, Nat.mul_one, Nat.reduceMul, Int.reducePow] at h0 h1 h2 h3
  omega
theorem valI_highs8 (n : Int) (h1 : -9223372036854775808 ≤ n) (h2 : n ≤ 9223372036854775807) : valI (highs n 8) = n := by
  unfold valI
  rw [highs8, beN8]
  have g0 := hiB_nat n 0
  have g1 := hiB_nat n 1
  have g2 := hiB_nat n 2
  have g3 := hiB_nat n 3
  have g4 := hiB_nat n 4
  have g5 := hiB_nat n 5
  have g6 := hiB_nat n 6
  have g7 := hiB_nat n 7
  simp only [Nat.mul_zero, Nat.mul_one, Nat.reduceMul, Int.reducePow] at g0 g1 g2 g3 g4 g5 g6 g7
  unfold wrap64
  omega
theorem byte_eq {a b : UInt8} (h : (a.toNat : Int) = b.toNat) : a = b := UInt8.toNat_inj.1 (by omega)
theorem highs_beN4 (a b c d : UInt8) : highs (beN [a, b, c, d]) 4 = [a, b, c, d] := by
  have ha := a.toNat_lt
  have hb := b.toNat_lt
  have hc := c.toNat_lt
  have hd := d.toNat_lt
  rw [highs4, beN4]
  have e0 : hiB ((((a.toNat * 256 + b.toNat) * 256 + c.toNat) * 256 + d.toNat : Nat) : Int) 0 = d := byte_eq (by rw [hiB_nat]; simp only [Nat.mul_zero, Int.reducePow]; omega)
  have e1 : hiB ((((a.toNat * 256 + b.toNat) * 256 + c.toNat) * 256 + d.toNat : Nat) : Int) 1 = c := byte_eq (by rw [hiB_nat]; simp only [Nat.mul_one, Int.reducePow]; omega)
  have e2 : hiB ((((a.toNat * 256 + b.toNat) * 256 + c.toNat) * 256 + d.toNat : Nat) : Int) 2 = b := byte_eq (by rw [hiB_nat]; simp only [Nat.reduceMul, Int.reducePow]; omega)
  have e3 : hiB ((((a.toNat * 256 + b.toNat) * 256 + c.toNat) * 256 + d.toNat : Nat) : Int) 3 = a := byte_eq (by rw [hiB_nat]; simp only [Nat.reduceMul, Int.reducePow]; omega)
  rw [e0, e1, e2, e3]
theorem four_list (l : List UInt8) (h : l.length = 4) : ∃ a b c d, l = [a, b, c, d] := by
  match l, h with
  | [a, b, c, d], _ => exact ⟨a, b, c, d, rfl⟩
theorem eight_list (l : List UInt8) (h : l.length = 8) : ∃ a b c d e f g i, l = [a, b, c, d, e, f, g, i] := by
  match l, h with
  | [a, b, c, d, e, f, g, i], _ => exact ⟨a, b, c, d, e, f, g, i, rfl⟩
theorem highs_four (l : List UInt8) (h : l.length = 4) : highs (beN l) 4 = l := by
  obtain ⟨a, b, c, d, rfl⟩ := four_list l h
  exact highs_beN4 a b c d
set_option maxHeartbeats 1000000 in
theorem highs_eight (l : List UInt8) (h : l.length = 8) : highs (valI l) 8 = l ∧ -9223372036854775808 ≤ valI l ∧ valI l ≤ 9223372036854775807 := by
  obtain ⟨a, b, c, d, e, f, g, i, rfl⟩ := eight_list l h
  have ha := a.toNat_lt
  have hb := b.toNat_lt
  have hc := c.toNat_lt
  have hd := d.toNat_lt
  have he := e.toNat_lt
  have hf := f.toNat_lt
  have hg := g.toNat_lt
  have hi := i.toNat_lt
  obtain ⟨V, hV⟩ : ∃ V : Int, V = valI [a, b, c, d, e, f, g, i] := ⟨_, rfl⟩
  rw [← hV]
  unfold valI at hV
  rw [beN8] at hV
  unfold wrap64 at hV
  refine ⟨?_, by omega, by omega⟩
  rw [highs8]
  have e0 : hiB V 0 = i := byte_eq (by rw [hiB_nat]; simp only [Nat.mul_zero, Int.reducePow]; omega)
  have e1 : hiB V 1 = g := byte_eq (by rw [hiB_nat]; simp only [Nat.mul_one, Int.reducePow]; omega)
  have e2 : hiB V 2 = f := byte_eq (by rw [hiB_nat]; simp only [Nat.reduceMul, Int.reducePow]; omega)
  have e3 : hiB V 3 = e := byte_eq (by rw [hiB_nat]; simp only [Nat.reduceMul, Int.reducePow]; omega)
  have e4 : hiB V 4 = d := byte_eq (by rw [hiB_nat]; simp only [Nat.reduceMul, Int.reducePow]; omega)
  have e5 : hiB V 5 = c := byte_eq (by rw [hiB_nat]; simp only [Nat.reduceMul, Int.reducePow]; omega)
  have e6 : hiB V 6 = b := byte_eq (by rw [hiB_nat]; simp only [Nat.reduceMul, Int.reducePow]; omega)
  have e7 : hiB V 7 = a := byte_eq (by rw [hiB_nat]; simp only [Nat.reduceMul, Int.reducePow]; omega)
  rw [e0, e1, e2, e3, e4, e5, e6, e7]
theorem zero_text {s : ByteArray} (h : s.size = 0) : s = ⟨#[]⟩ := by
  obtain ⟨⟨l⟩⟩ := s
  cases l with
  | nil => rfl
  | cons a r => simp [ByteArray.size] at h
theorem take_app {a t : List UInt8} {n : Nat} (h : a.length = n) : (a ++ t).take n = a ∧ (a ++ t).drop n = t := by
  subst h; simp

/-- What a list of wires that may be is told as. -/
theorem rds_encs (f : List UInt8 → Option (Wr × List UInt8)) : ∀ (l : List Wr) (t : List UInt8), (∀ x ∈ l, ∀ t, f (x.enc ++ t) = some (x, t)) → rds f l.length (encs l ++ t) = some (l, t) := by
  intro l
  induction l with
  | nil => intro t _; rw [encs_nil]; rfl
  | cons x r ih =>
    intro t h
    rw [encs_cons, List.append_assoc, List.length_cons, rds, h x List.mem_cons_self (encs r ++ t)]
    simp only
    rw [ih t (fun y hy => h y (List.mem_cons_of_mem _ hy))]
theorem rdB_enc {R : Nat} {sub : Option (List UInt8 → Option (Wr × List UInt8))} (k n : Int) (s : ByteArray) (l : List Wr) (hf : (Wr.mk k n s l).fit R = true) (hi : (Wr.mk k n s l).in64 = true)
    (hsub : 0 < R → ∃ f, sub = some f ∧ ∀ x ∈ l, ∀ t, f (x.enc ++ t) = some (x, t)) (t : List UInt8) : rdB sub ((Wr.mk k n s l).enc ++ t) = some (.mk k n s l, t) := by
  rw [fit_mk] at hf
  rw [in64_mk] at hi
  simp only [Bool.and_eq_true, decide_eq_true_eq] at hi
  rw [enc_mk]
  by_cases h1 : k = 1
  · subst h1
    simp only [if_true, Bool.and_eq_true, beq_iff_eq] at hf
    obtain rfl := zero_text hf.1
    obtain rfl := List.length_eq_zero_iff.1 hf.2
    rw [if_pos rfl, List.cons_append, rdB, if_pos (by decide), rdN, if_neg (by rw [List.length_append, highs_len]; omega)]
    rw [(take_app (highs_len n 8)).1, (take_app (highs_len n 8)).2, valI_highs8 n hi.1.1 hi.1.2]
  rw [if_neg h1] at hf ⊢
  by_cases h2 : k = 2
  · subst h2
    simp only [if_true, Bool.and_eq_true, beq_iff_eq, decide_eq_true_eq] at hf
    obtain ⟨⟨rfl, hs⟩, hl⟩ := hf
    obtain rfl := List.length_eq_zero_iff.1 hl
    rw [if_pos rfl, List.cons_append, rdB, if_neg (by decide), if_pos (by decide), rdT, List.append_assoc]
    have hb : beN (highs s.size 4) = s.size := beN_highs4 s.size (by omega)
    have hd : s.data.toList.length = s.size := by simp
    rw [(take_app (highs_len s.size 4)).1, (take_app (highs_len s.size 4)).2, hb, if_neg (by rw [List.length_append, highs_len]; omega), if_neg (by omega), if_neg (by rw [List.length_append]; omega)]
    rw [(take_app hd).1, (take_app hd).2]
  rw [if_neg h2] at hf ⊢
  by_cases h3 : k = 3
  · subst h3
    simp only [if_true, Bool.and_eq_true, beq_iff_eq, decide_eq_true_eq] at hf
    obtain ⟨⟨⟨rfl, hs⟩, hR⟩, hl, ha⟩ := hf
    obtain rfl := zero_text hs
    obtain ⟨f, rfl, hx⟩ := hsub (by omega)
    rw [List.cons_append, rdB, if_neg (by decide), if_neg (by decide), if_pos (by decide), Option.bind_some, rdL, List.append_assoc]
    have hb : beN (highs l.length 4) = l.length := beN_highs4 l.length (by omega)
    rw [(take_app (highs_len l.length 4)).1, (take_app (highs_len l.length 4)).2, hb, if_neg (by rw [List.length_append, highs_len]; omega), if_neg (by omega), rds_encs f l t hx]
    rfl
  · rw [if_neg h3] at hf; cases hf
theorem mem_fit {room : Int} {l : List Wr} (h : allFit room l = true) : ∀ x ∈ l, x.fit room = true := by
  induction l with
  | nil => intro x hx; cases hx
  | cons y r ih =>
    rw [allFit_cons, Bool.and_eq_true] at h
    intro x hx
    rcases List.mem_cons.1 hx with rfl | hx
    · exact h.1
    · exact ih h.2 x hx
theorem mem_in {l : List Wr} (h : allIn l = true) : ∀ x ∈ l, x.in64 = true := by
  induction l with
  | nil => intro x hx; cases hx
  | cons y r ih =>
    rw [allIn_cons, Bool.and_eq_true] at h
    intro x hx
    rcases List.mem_cons.1 hx with rfl | hx
    · exact h.1
    · exact ih h.2 x hx
/-- Get of Put is the same. -/
theorem rd_enc : ∀ (R : Nat) (x : Wr), x.fit R = true → x.in64 = true → ∀ t, rd R (x.enc ++ t) = some (x, t) := by
  intro R
  induction R with
  | zero =>
    intro x hf hi t
    obtain ⟨k, n, s, l⟩ := x
    exact rdB_enc k n s l hf hi (fun h => absurd h (by omega)) t
  | succ R ih =>
    intro x hf hi t
    obtain ⟨k, n, s, l⟩ := x
    refine rdB_enc k n s l hf hi (fun _ => ⟨rd R, rfl, fun y hy t => ?_⟩) t
    have hi' := hi
    rw [in64_mk] at hi'
    simp only [Bool.and_eq_true, decide_eq_true_eq] at hi'
    refine ih y ?_ (mem_in hi'.2 y hy) t
    have hf' := hf
    rw [fit_mk] at hf'
    by_cases h1 : k = 1
    · subst h1
      simp only [if_true, Bool.and_eq_true, beq_iff_eq] at hf'
      rw [List.length_eq_zero_iff.1 hf'.2] at hy; cases hy
    rw [if_neg h1] at hf'
    by_cases h2 : k = 2
    · subst h2
      simp only [if_true, Bool.and_eq_true, beq_iff_eq, decide_eq_true_eq] at hf'
      rw [List.length_eq_zero_iff.1 hf'.2] at hy; cases hy
    rw [if_neg h2] at hf'
    by_cases h3 : k = 3
    · subst h3
      simp only [if_true, Bool.and_eq_true, beq_iff_eq, decide_eq_true_eq] at hf'
      have := mem_fit hf'.2.2 y hy
      rwa [show ((R + 1 : Nat) : Int) - 1 = (R : Int) by omega] at this
    · rw [if_neg h3] at hf'; cases hf'

/-- What is told has just these bytes, and may be. -/
theorem rds_back (R : Nat) (f : List UInt8 → Option (Wr × List UInt8)) (hf : ∀ s x t, f s = some (x, t) → s = x.enc ++ t ∧ x.fit R = true ∧ x.in64 = true) : ∀ n s l t, rds f n s = some (l, t) → s = encs l ++ t ∧ allFit R l = true ∧ allIn l = true ∧ l.length = n := by
  intro n
  induction n with
  | zero => intro s l t h; simp only [rds, Option.some.injEq, Prod.mk.injEq] at h; obtain ⟨rfl, rfl⟩ := h; exact ⟨by rw [encs_nil]; rfl, allFit_nil _, allIn_nil, rfl⟩
  | succ n ih =>
    intro s l t h
    rw [rds] at h
    cases hs : f s with
    | none => rw [hs] at h; cases h
    | some p =>
      obtain ⟨x, r⟩ := p
      rw [hs] at h
      simp only at h
      cases hr : rds f n r with
      | none => rw [hr] at h; cases h
      | some q =>
        obtain ⟨l', t'⟩ := q
        rw [hr] at h
        simp only [Option.some.injEq, Prod.mk.injEq] at h
        obtain ⟨rfl, rfl⟩ := h
        obtain ⟨rfl, h2, h3⟩ := hf s x r hs
        obtain ⟨rfl, h5, h6, h7⟩ := ih r l' t' hr
        refine ⟨by rw [encs_cons, List.append_assoc], by rw [allFit_cons, h2, h5]; rfl, by rw [allIn_cons, h3, h6]; rfl, by rw [List.length_cons, h7]⟩
theorem rdB_back (R : Nat) {sub : Option (List UInt8 → Option (Wr × List UInt8))} (hsub : ∀ f, sub = some f → 0 < R ∧ ∀ s x t, f s = some (x, t) → s = x.enc ++ t ∧ x.fit ((R : Int) - 1) = true ∧ x.in64 = true) :
    ∀ s x t, rdB sub s = some (x, t) → s = x.enc ++ t ∧ x.fit R = true ∧ x.in64 = true := by
  intro s x t h
  cases s with
  | nil => cases h
  | cons k r =>
    rw [rdB] at h
    by_cases h1 : k = 1
    · subst h1
      rw [if_pos rfl] at h
      obtain ⟨h8, rfl, rfl⟩ := rdN_some h
      obtain ⟨g1, g2, g3⟩ := highs_eight (r.take 8) (by rw [List.length_take]; omega)
      refine ⟨?_, by rw [fit_mk, if_pos rfl]; rfl, ?_⟩
      · rw [enc_mk, if_pos rfl, g1, List.cons_append, List.take_append_drop]; rfl
      · rw [in64_mk, allIn_nil, decide_eq_true g2, decide_eq_true g3]; rfl
    rw [if_neg h1] at h
    by_cases h2 : k = 2
    · subst h2
      rw [if_pos rfl] at h
      obtain ⟨h4, hm, ho, rfl, rfl⟩ := rdT_some h
      have hsz : (⟨((r.drop 4).take (beN (r.take 4))).toArray⟩ : ByteArray).size = beN (r.take 4) := by
        show ((r.drop 4).take (beN (r.take 4))).toArray.size = _
        rw [List.size_toArray, List.length_take]; omega
      refine ⟨?_, ?_, by rw [in64_mk, allIn_nil]; rfl⟩
      · rw [enc_mk, if_neg (by decide), if_pos rfl, hsz, highs_four _ (by rw [List.length_take]; omega), List.cons_append, List.append_assoc]
        simp only [List.take_append_drop]
        rfl
      · rw [fit_mk, if_neg (by decide), if_pos rfl, hsz, decide_eq_true hm]; rfl
    rw [if_neg h2] at h
    by_cases h3 : k = 3
    · subst h3
      rw [if_pos rfl] at h
      obtain ⟨f, hs, hq⟩ := Option.bind_eq_some_iff.1 h
      obtain ⟨h4, hm, l, hr, rfl⟩ := rdL_some hq
      obtain ⟨hR, hff⟩ := hsub f hs
      have hR1 : ((R - 1 : Nat) : Int) = (R : Int) - 1 := by omega
      obtain ⟨g1, g2, g3, g4⟩ := rds_back (R - 1) f (by rw [hR1]; exact hff) _ _ _ _ hr
      rw [hR1] at g2
      refine ⟨?_, ?_, ?_⟩
      · rw [enc_mk, if_neg (by decide), if_neg (by decide), g4, highs_four _ (by rw [List.length_take]; omega), List.cons_append, List.append_assoc, ← g1, List.take_append_drop]; rfl
      · rw [fit_mk, if_neg (by decide), if_neg (by decide), if_pos rfl, g2, g4, decide_eq_true hm, decide_eq_true (show (0 : Int) < R by omega)]; rfl
      · rw [in64_mk, g3]; rfl
    · rw [if_neg h3] at h; cases h
theorem rd_back : ∀ (R : Nat) s x t, rd R s = some (x, t) → s = x.enc ++ t ∧ x.fit R = true ∧ x.in64 = true := by
  intro R
  induction R with
  | zero => exact rdB_back 0 (fun f hf => by cases hf)
  | succ R ih =>
    refine rdB_back (R + 1) (fun f hf => ?_)
    cases hf
    refine ⟨by omega, ?_⟩
    rw [show ((R + 1 : Nat) : Int) - 1 = (R : Int) by omega]
    exact ih
end Go.Proofs.YtpnkglgbmgiogaaDoor.Vw

namespace Go.Proofs.YtpnkglgbmgiogaaDoor.Vw
open Go Go.RowKit Go.Proofs.YtpnkglgbmgiogaaDoor.Mm

/-! ### Two that are one -/
mutual
def Wr.same : Wr → Wr → Bool
  | .mk k n s l, .mk k' n' s' l' => k == k' && n == n' && s.toList == s'.toList && l.length == l'.length && sameAll l l'
def sameAll : List Wr → List Wr → Bool
  | [], _ => true
  | _ :: _, [] => true
  | x :: r, y :: q => x.same y && sameAll r q
end
theorem same_mk (k n : Int) (s : ByteArray) (l : List Wr) (k' n' : Int) (s' : ByteArray) (l' : List Wr) : (Wr.mk k n s l).same (.mk k' n' s' l') = (k == k' && n == n' && s.toList == s'.toList && l.length == l'.length && sameAll l l') := by rw [Wr.same]
theorem sameAll_nil (q : List Wr) : sameAll [] q = true := by rw [sameAll]
theorem sameAll_cons (x y : Wr) (r q : List Wr) : sameAll (x :: r) (y :: q) = (x.same y && sameAll r q) := by rw [sameAll]
theorem sameAll_drop (l q : List Wr) (i : Nat) (x y : Wr) (h : l[i]? = some x) (h' : q[i]? = some y) : sameAll (l.drop i) (q.drop i) = (x.same y && sameAll (l.drop (i + 1)) (q.drop (i + 1))) := by
  obtain ⟨hi, rfl⟩ := List.getElem?_eq_some_iff.1 h
  obtain ⟨hj, rfl⟩ := List.getElem?_eq_some_iff.1 h'
  rw [List.drop_eq_getElem_cons hi, List.drop_eq_getElem_cons hj, sameAll_cons]
theorem text_ext {a b : ByteArray} (h : a.toList = b.toList) : a = b := by
  rw [ByteArray.toList_eq, ByteArray.toList_eq] at h
  cases a; cases b
  simp only at h
  congr 1
  exact Array.ext' h
mutual
theorem same_self : ∀ x : Wr, x.same x = true
  | .mk k n s l => by
    rw [same_mk, all_self l]
    simp
theorem all_self : ∀ l : List Wr, sameAll l l = true
  | [] => sameAll_nil _
  | x :: r => by rw [sameAll_cons, same_self x, all_self r]; rfl
end
mutual
theorem same_eq : ∀ x y : Wr, x.same y = true → x = y
  | .mk k n s l, .mk k' n' s' l', h => by
    rw [same_mk] at h
    simp only [Bool.and_eq_true, beq_iff_eq] at h
    obtain ⟨⟨⟨⟨rfl, rfl⟩, hs⟩, hl⟩, ha⟩ := h
    rw [text_ext hs, all_eq l l' hl ha]
theorem all_eq : ∀ l q : List Wr, l.length = q.length → sameAll l q = true → l = q
  | [], [], _, _ => rfl
  | [], _ :: _, h, _ => by simp at h
  | _ :: _, [], h, _ => by simp at h
  | x :: r, y :: q, h, ha => by
    rw [sameAll_cons, Bool.and_eq_true] at ha
    rw [same_eq x y ha.1, all_eq r q (by simpa using h) ha.2]
end
end Go.Proofs.YtpnkglgbmgiogaaDoor.Vw

namespace Go.Proofs.YtpnkglgbmgiogaaDoor
open Go.RowKit Mm Vw

end Go.Proofs.YtpnkglgbmgiogaaDoor

namespace Go.Proofs.YtpnkglgbmgiogaaDoor
open Go.RowKit Wd Mm Vw

def num (n : Int) : Wr := .mk 1 n ⟨#[]⟩ []
def txt (s : ByteArray) : Wr := .mk 2 0 s []
def lst (l : List Wr) : Wr := .mk 3 0 ⟨#[]⟩ l
/-- Get of Put is the same. -/
theorem get_enc (x : Wr) (h : x.may = true) (hi : x.in64 = true) : get x.enc = some x := by
  have := rd_enc 6 x h hi []
  rw [List.append_nil] at this
  unfold get
  rw [this]
theorem get_bytes (x : Wr) (h : x.may = true) (hi : x.in64 = true) : get x.bytes.data.toList = some x := by
  unfold Wr.bytes
  rw [if_pos h]
  exact get_enc x h hi
/-- What is told has just these bytes, and may be. -/
theorem get_back {s : List UInt8} {x : Wr} (h : get s = some x) : s = x.enc ∧ x.may = true ∧ x.in64 = true := by
  unfold get at h
  cases hr : rd 6 s with
  | none => rw [hr] at h; cases h
  | some p =>
    obtain ⟨y, t⟩ := p
    rw [hr] at h
    cases t with
    | cons a t => cases h
    | nil =>
      cases h
      have := rd_back 6 s x [] hr
      rw [List.append_nil] at this
      exact this
theorem bytes_len (x : Wr) (h : x.may = true) : x.bytes.data.toList = x.enc := by
  unfold Wr.bytes; rw [if_pos h]
/-- A row that was just laid, of wires without lists. -/
theorem HL.laid {w : World} {g : Nat} {T : TypeId} {cs : Array Value} {B : Nat} (l : List Wr) (h : w.heap[g]? = some (.cells cs T (0, 0))) (hB : B ≤ g) (hn : l.length ≤ 1099511627776) (c : Nat)
    (hc : ∀ i x, l[i]? = some x → cs[i * 4]? = some (.int .i64 x.k) ∧ cs[i * 4 + 1]? = some (.int .i64 x.n) ∧ cs[i * 4 + 2]? = some (.string x.s) ∧ ∃ A m d, cs[i * 4 + 3]? = some (.slice A m d) ∧ HL w B (.slice A m d) x.l) : HL w B (.slice (some ⟨g, 0, none⟩) l.length c) l := by
  have hrow : Row w g T cs := h
  refine .row g 0 c l (fun i => match cs[i * 4 + 3]? with | some v => v | none => .nilIface) hB hrow.lt hn ?_ ?_ ?_ ?_ ?_
  · intro i x hx; rw [Nat.zero_add, hrow.get]; exact (hc i x hx).1
  · intro i x hx; rw [Nat.zero_add, hrow.get]; exact (hc i x hx).2.1
  · intro i x hx; rw [Nat.zero_add, hrow.get]; exact (hc i x hx).2.2.1
  · intro i x hx
    obtain ⟨A, m, d, h3, _⟩ := (hc i x hx).2.2.2
    simp only [Nat.zero_add, hrow.get, h3]
  · intro i x hx
    obtain ⟨A, m, d, h3, h4⟩ := (hc i x hx).2.2.2
    simp only [h3]
    exact h4
def exW : Wr := lst [txt ⟨#[97]⟩, num (-2)]
theorem exW_may : exW.may = true := by decide
theorem exW_in : exW.in64 = true := by decide
theorem exW_len : exW.enc.length = 20 := by decide
theorem one_may : (num 1).may = true := by decide
theorem one_bytes : (num 1).bytes = ⟨#[1, 0, 0, 0, 0, 0, 0, 0, 1]⟩ := by decide
theorem num_HL (w : World) (B : Nat) (A : Option Addr) (c : Nat) (n : Int) : HL w B (.slice A 0 c) (num n).l := .nil A c
theorem txt_HL (w : World) (B : Nat) (A : Option Addr) (c : Nat) (s : ByteArray) : HL w B (.slice A 0 c) (txt s).l := .nil A c
def exCells : Array Value := #[.int .i64 2, .int .i64 0, .string ⟨#[97]⟩, .slice none 0 0, .int .i64 1, .int .i64 (-2), .string ⟨#[]⟩, .slice none 0 0]
end Go.Proofs.YtpnkglgbmgiogaaDoor

namespace Go.Proofs.YtpnkglgbmgiogaaDoor
open Go.RowKit Wd Mm Vw

theorem below_of {w w' : World} (h : w.grownBy w' none) : Below w.heap.size w w' := gb_below h (Nat.le_refl _)
theorem row_bytes {w : World} {g : Nat} {t : TypeId} {l : List UInt8} (h : Row w g t (l.map w8).toArray) : ∀ j (hj : j < l.length), w.cell? ((⟨g, 0, none⟩ : Addr).add j) = some (.int .u8 (l[j].toNat : Int)) := fun j hj => by
  have hadd : (⟨g, 0, none⟩ : Addr).add j = ⟨g, j, none⟩ := by unfold Addr.add; split <;> simp_all
  rw [hadd]
  exact h.at_ (by simp [hj, w8])
theorem u8_of {a : Int} (h : (Lit.int .u8 a).wf = true) : 0 ≤ a ∧ a ≤ 255 := by
  have h1 : IntKind.u8.min = 0 := by decide
  have h2 : IntKind.u8.max = 255 := by decide
  simp only [Lit.wf, h1, h2, Bool.and_eq_true, decide_eq_true_eq] at h
  exact h
theorem i64_of {a : Int} (h : (Lit.int .i64 a).wf = true) : -9223372036854775808 ≤ a ∧ a ≤ 9223372036854775807 := by
  have h1 : IntKind.i64.min = -9223372036854775808 := by decide
  have h2 : IntKind.i64.max = 9223372036854775807 := by decide
  simp only [Lit.wf, h1, h2, Bool.and_eq_true, decide_eq_true_eq] at h
  exact h
/-- A slice of texts that came in. -/
def IsStrs (w : World) (a : Option Addr) (len cap : Nat) (zs : List ByteArray) : Prop :=
  (a = none ∧ len = 0 ∧ cap = 0 ∧ zs = []) ∨
  ∃ x, a = some x ∧ len ≤ cap ∧ cap ≤ maxLen ∧ zs.length = cap ∧ (∀ i, i < zs.length → w.cell? (x.add i) = some (.string (zs.getD i ByteArray.empty))) ∧ ∀ s ∈ zs, s.size ≤ maxLen
/-- A slice of bytes that came in: its first byte's place, each byte. -/
def Held8 (w : World) (a : Option Addr) (len : Nat) : Prop := 0 < len → ∃ g o, a = some ⟨g, o, none⟩ ∧ g < w.heap.size ∧ ∀ i, i < len → ∃ b : Nat, b ≤ 255 ∧ w.cell? ⟨g, o + i, none⟩ = some (.int .u8 (b : Int))
theorem Held8.keep {w w' : World} {a : Option Addr} {n : Nat} (h : Held8 w a n) (hg : w.grownBy w' none) : Held8 w' a n := fun hn => by
  obtain ⟨g, o, e, hl, hc⟩ := h hn
  exact ⟨g, o, e, Nat.lt_of_lt_of_le hl hg.size, fun i hi => by
    have := hg.block g hl (by simp)
    rw [World.cell?_of_block (w := w) (a := ⟨g, o + i, none⟩) this]
    exact hc i hi⟩
theorem held8_of {w : World} {a : Option Addr} {len cap : Nat} {zs : List Int}
    (h : (a = none ∧ len = 0 ∧ cap = 0 ∧ zs = []) ∨ ∃ x, a = some x ∧ len ≤ cap ∧ cap ≤ maxLen ∧ zs.length = cap ∧ (∀ i, i < zs.length → w.cell? (x.add i) = some (.int .u8 (zs.getD i 0))) ∧ ∀ n ∈ zs, (Lit.int .u8 n).wf = true) :
    Held8 w a len := by
  rcases h with ⟨rfl, rfl, rfl, rfl⟩ | ⟨x, rfl, hl, hc, hz, hcell, hwf⟩
  · exact fun h => absurd h (by omega)
  · intro h0
    obtain ⟨b, o, sp⟩ := x
    have c0 := hcell 0 (by omega)
    cases sp with
    | some sp =>
      exfalso
      simp only [Addr.add, World.cell?] at c0
      split at c0 <;> simp at c0
    | none =>
      refine ⟨b, o, rfl, ?_, fun i hi => ?_⟩
      · have := block_lt_of_cell c0
        simpa [Addr.add] using this
      · have ci := hcell i (by omega)
        have hadd : (⟨b, o, none⟩ : Addr).add i = ⟨b, o + i, none⟩ := by unfold Addr.add; split <;> simp_all
        rw [hadd] at ci
        have hin : i < zs.length := by omega
        have hv := hwf (zs.getD i 0) (by rw [List.getD_eq_getElem?_getD, List.getElem?_eq_getElem hin]; exact List.getElem_mem hin)
        have hb : 0 ≤ zs.getD i 0 ∧ zs.getD i 0 ≤ 255 := by
          have h1 : IntKind.u8.min = 0 := by decide
          have h2 : IntKind.u8.max = 255 := by decide
          simp only [Lit.wf, h1, h2, Bool.and_eq_true, decide_eq_true_eq] at hv
          exact hv
        refine ⟨(zs.getD i 0).toNat, by omega, ?_⟩
        rw [ci, show (((zs.getD i 0).toNat : Nat) : Int) = zs.getD i 0 by omega]
/-- What is cut says nothing; what is longer says nothing. -/
theorem get_longer (x : Wr) (h : x.may = true) (hi : x.in64 = true) (t : List UInt8) (ht : t ≠ []) : get (x.enc ++ t) = none := by
  unfold get
  rw [rd_enc 6 x h hi t]
  cases t with
  | nil => exact absurd rfl ht
  | cons a r => rfl
theorem get_cut (x : Wr) (h : x.may = true) (hi : x.in64 = true) (q : Nat) (hq : q < x.enc.length) : get (x.enc.take q) = none := by
  cases hg : get (x.enc.take q) with
  | none => rfl
  | some y =>
    exfalso
    obtain ⟨h1, h2, h3⟩ := get_back hg
    have e : x.enc = y.enc ++ x.enc.drop q := by rw [← h1, List.take_append_drop]
    have a := rd_enc 6 x h hi []
    have b := rd_enc 6 y h2 h3 (x.enc.drop q)
    rw [List.append_nil, e] at a
    rw [← e] at a b
    rw [a] at b
    simp only [Option.some.injEq, Prod.mk.injEq] at b
    have := congrArg List.length b.2
    rw [List.length_drop] at this
    simp at this
    omega
theorem num_may (n : Int) : (num n).may = true := by
  unfold num Wr.may; rw [fit_mk]; rfl
theorem num_in (n : Int) (h : -9223372036854775808 ≤ n ∧ n ≤ 9223372036854775807) : (num n).in64 = true := by
  unfold num; rw [in64_mk, allIn_nil, decide_eq_true h.1, decide_eq_true h.2]; rfl
theorem num_len (n : Int) : (num n).enc.length = 9 := by
  unfold num; rw [enc_mk, if_pos rfl, List.length_cons, highs_len]
theorem txt_may (s : ByteArray) (h : s.size ≤ 1048576) : (txt s).may = true := by
  unfold txt Wr.may; rw [fit_mk, if_neg (by decide), if_pos rfl, decide_eq_true h]; rfl
theorem txt_in (s : ByteArray) : (txt s).in64 = true := by
  unfold txt; rw [in64_mk, allIn_nil]; rfl
theorem txt_len (s : ByteArray) : (txt s).enc.length = s.size + 5 := by
  unfold txt; rw [enc_mk, if_neg (by decide), if_pos rfl, List.length_cons, List.length_append, highs_len]; simp; omega
theorem size_of_bytes {x : Wr} (h : x.may = true) : x.bytes.size = x.enc.length := by
  rw [← bytes_len x h]; simp
/-- A block that was there, behind whatever is made. -/
theorem row_kept {w w' : World} {g : Nat} {o : Obj} (h : w.heap[g]? = some o) (hg : w.grownBy w' none) : w'.heap[g]? = some o := (hg.block g (Array.getElem?_eq_some_iff.1 h).1 (by simp)).trans h
end Go.Proofs.YtpnkglgbmgiogaaDoor

namespace Go.Proofs.YtpnkglgbmgiogaaDoor
open Go.RowKit Wd Mm Vw

/-- The cells of wires, each with its list's slice. -/
def flat (ps : List (Wr × Value)) : List Value := ps.flatMap fun p => [.int .i64 p.1.k, .int .i64 p.1.n, .string p.1.s, p.2]
theorem flat_cons (p : Wr × Value) (ps : List (Wr × Value)) : flat (p :: ps) = [.int .i64 p.1.k, .int .i64 p.1.n, .string p.1.s, p.2] ++ flat ps := rfl
theorem flat_len (ps : List (Wr × Value)) : (flat ps).length = ps.length * 4 := by
  induction ps with
  | nil => rfl
  | cons p ps ih => rw [flat_cons, List.length_append, ih, List.length_cons]; simp; omega
theorem flat_snoc (ps : List (Wr × Value)) (p : Wr × Value) : flat (ps ++ [p]) = flat ps ++ [.int .i64 p.1.k, .int .i64 p.1.n, .string p.1.s, p.2] := by
  unfold flat; rw [List.flatMap_append]; rfl
theorem flat_get (ps : List (Wr × Value)) (i : Nat) (p : Wr × Value) (h : ps[i]? = some p) :
    (flat ps)[i * 4]? = some (.int .i64 p.1.k) ∧ (flat ps)[i * 4 + 1]? = some (.int .i64 p.1.n) ∧ (flat ps)[i * 4 + 2]? = some (.string p.1.s) ∧ (flat ps)[i * 4 + 3]? = some p.2 := by
  induction ps generalizing i with
  | nil => simp at h
  | cons q ps ih =>
    cases i with
    | zero =>
      obtain rfl : q = p := by simpa using h
      exact ⟨rfl, rfl, rfl, rfl⟩
    | succ i =>
      obtain ⟨h0, h1, h2, h3⟩ := ih i (by simpa using h)
      rw [flat_cons]
      refine ⟨?_, ?_, ?_, ?_⟩
      · rw [List.getElem?_append_right (by simp; omega), show (i + 1) * 4 - [Value.int .i64 q.1.k, .int .i64 q.1.n, .string q.1.s, q.2].length = i * 4 by simp; omega]; exact h0
      · rw [List.getElem?_append_right (by simp; omega), show (i + 1) * 4 + 1 - [Value.int .i64 q.1.k, .int .i64 q.1.n, .string q.1.s, q.2].length = i * 4 + 1 by simp; omega]; exact h1
      · rw [List.getElem?_append_right (by simp; omega), show (i + 1) * 4 + 2 - [Value.int .i64 q.1.k, .int .i64 q.1.n, .string q.1.s, q.2].length = i * 4 + 2 by simp; omega]; exact h2
      · rw [List.getElem?_append_right (by simp; omega), show (i + 1) * 4 + 3 - [Value.int .i64 q.1.k, .int .i64 q.1.n, .string q.1.s, q.2].length = i * 4 + 3 by simp; omega]; exact h3
theorem one4 (k n : Int) (s : ByteArray) (A : Option Addr) (m c : Nat) : ∀ u ∈ [Value.int .i64 k, .int .i64 n, .string s, .slice A m c], u.oneCell' = true := by
  intro u hu
  simp only [List.mem_cons, List.not_mem_nil, or_false] at hu
  rcases hu with rfl | rfl | rfl | rfl <;> rfl
theorem own_slice4 {w : World} {B : Nat} {e : TypeId} {v : Value} {n : Nat} {xs : List Value} (h : w.ownsRow B e 4 v n xs) : ∃ A m c, v = .slice A m c := by
  rcases h.2 with ⟨rfl, _⟩ | ⟨g, cap, cur, rfl, _⟩
  · exact ⟨_, _, _, rfl⟩
  · exact ⟨_, _, _, rfl⟩

/-- Texts that came in. -/
def HeldT (w : World) (a : Option Addr) (len : Nat) (zs : List ByteArray) : Prop := 0 < len → ∃ g o, a = some ⟨g, o, none⟩ ∧ g < w.heap.size ∧ ∀ i, i < len → w.cell? ⟨g, o + i, none⟩ = some (.string (zs.getD i ByteArray.empty))
theorem HeldT.keep {w w' : World} {a : Option Addr} {n : Nat} {zs : List ByteArray} (h : HeldT w a n zs) (hg : w.grownBy w' none) : HeldT w' a n zs := fun hn => by
  obtain ⟨g, o, e, hl, hc⟩ := h hn
  refine ⟨g, o, e, Nat.lt_of_lt_of_le hl hg.size, fun i hi => ?_⟩
  have := hg.block g hl (by simp)
  rw [World.cell?_of_block (w := w) (a := ⟨g, o + i, none⟩) this]
  exact hc i hi
theorem heldT_of {w : World} {a : Option Addr} {len cap : Nat} {zs : List ByteArray} (h : IsStrs w a len cap zs) : HeldT w a len zs ∧ len ≤ 9223372036854775807 ∧ ∀ i, i < len → (zs.getD i ByteArray.empty).size ≤ 9223372036854775807 := by
  rcases h with ⟨rfl, rfl, rfl, rfl⟩ | ⟨x, rfl, hl, hc, hz, hcell, hwf⟩
  · exact ⟨fun h => absurd h (by omega), by omega, fun i hi => absurd hi (by omega)⟩
  · unfold maxLen at hc hwf
    refine ⟨fun h0 => ?_, by omega, fun i hi => ?_⟩
    · obtain ⟨b, o, sp⟩ := x
      have c0 := hcell 0 (by omega)
      cases sp with
      | some sp =>
        exfalso
        simp only [Addr.add, World.cell?] at c0
        split at c0 <;> simp at c0
      | none =>
        refine ⟨b, o, rfl, ?_, fun i hi => ?_⟩
        · have := block_lt_of_cell c0
          simpa [Addr.add] using this
        · have ci := hcell i (by omega)
          have hadd : (⟨b, o, none⟩ : Addr).add i = ⟨b, o + i, none⟩ := by unfold Addr.add; split <;> simp_all
          rwa [hadd] at ci
    · have := hwf (zs.getD i ByteArray.empty) (by rw [List.getD_eq_getElem?_getD, List.getElem?_eq_getElem (by omega)]; exact List.getElem_mem _)
      omega
end Go.Proofs.YtpnkglgbmgiogaaDoor

namespace Go.Proofs.YtpnkglgbmgiogaaDoor
open Go.RowKit Mm Vw

end Go.Proofs.YtpnkglgbmgiogaaDoor

namespace Go.Proofs.YtpnkglgbmgiogaaDoor
open Go.RowKit Mm Vw

end Go.Proofs.YtpnkglgbmgiogaaDoor

namespace Go.Proofs.YtpnkglgbmgiogaaDoor
open Go.RowKit Wd Mm Vw

theorem bytes_one (l : List UInt8) : ∀ u ∈ l.map w8, u.oneCell' = true := by
  intro u hu
  simp only [List.mem_map] at hu
  obtain ⟨x, _, rfl⟩ := hu
  rfl
theorem cell_new {w : World} {t : TypeId} (u : Value) : ∀ j v, ([u] : List Value)[j]? = some v → (w.alloc (.cells #[u] t)).cell? ((⟨w.heap.size, 0, none⟩ : Addr).add j) = some v := fun j v hv => by
  have hj : j = 0 := by
    rcases j with _ | j
    · rfl
    · simp at hv
  subst hj
  have hadd : (⟨w.heap.size, 0, none⟩ : Addr).add 0 = ⟨w.heap.size, 0, none⟩ := by unfold Addr.add; split <;> simp_all
  rw [hadd, ← hv]
  exact cell_of_row _ _ 0 #[u] t (0, 0) (heap_alloc_new _ _)
/-- An owned row of bytes, as a string. -/
theorem own_string {w : World} {base : Nat} {v : Value} {n : Nat} {l : List UInt8} (h : w.ownsRow base 5 1 v n (l.map w8)) (h0 : 0 < n) : (convert 37 9 v).run Tryd.prog w = .ok (.string ⟨l.toArray⟩) w := by
  have hl : l.length = n := by have := h.1; simpa using this
  rcases h.2 with ⟨_, hz⟩ | ⟨g, cap, cur, rfl, _⟩
  · omega
  · have r := run_convert_bytes_back (P := Tryd.prog) w 37 9 5 ⟨g, 0, none⟩ cap l Tryd.underlying37 Tryd.underlying5 Tryd.underlying9 (fun j hj => h.cells (g := g) rfl j _ (by simp [hj, w8]))
    rw [hl] at r
    exact r
theorem one_int {k : IntKind} (z : Int) : ∀ u ∈ ([.int k z] : List Value), u.oneCell' = true := by
  intro u hu
  rw [List.mem_singleton.1 hu]; rfl
theorem highs_succ (n : Int) : ∀ (m k : Nat), k < m → (highs n m).take (k + 1) = (highs n m).take k ++ [hiB n (m - 1 - k)]
  | 0, k, h => by omega
  | m + 1, 0, _ => by simp [highs]
  | m + 1, k + 1, h => by
    rw [highs, List.take_succ_cons, List.take_succ_cons, highs_succ n m k (by omega), List.cons_append, show m + 1 - 1 - (k + 1) = m - 1 - k by omega]
theorem high_byte (n : Int) (k q : Nat) (hk : k < 8) (hq : q = 8 * (7 - k)) : Value.int .u8 (n % 18446744073709551616 / 2 ^ q % 256) = w8 (hiB n (8 - 1 - k)) := by
  unfold w8
  rw [hiB_nat, show 8 * (8 - 1 - k) = q by omega]
  have : k = 0 ∨ k = 1 ∨ k = 2 ∨ k = 3 ∨ k = 4 ∨ k = 5 ∨ k = 6 ∨ k = 7 := by omega
  congr 1
  subst hq
  rcases this with rfl | rfl | rfl | rfl | rfl | rfl | rfl | rfl <;> simp only [Nat.reduceSub, Nat.reduceMul, Int.reducePow] <;> omega

set_option maxHeartbeats 1000000 in
theorem eight_any (n : Int) (w : World) :
    Calls Tryd.prog 21 #[.int .i64 n] w fun e w' => e = .returned (.string ⟨(highs n 8).toArray⟩) ∧ w.grownBy w' none := by
  obtain ⟨N, hN⟩ : ∃ N : Int, N = n % 18446744073709551616 := ⟨_, rfl⟩
  have hN0 : 0 ≤ N := by omega
  have hN1 : N < 18446744073709551616 := by omega
  have hc1 : IntKind.u64.wrap n = N := by rw [IntKind.wrap_u64]; omega
  have hc2 : n % 18446744073709551616 = N := hN.symm
  have HN := Lib.hid hN
  clear hN
  obtain ⟨i0, hi0, hz0, hz1, hz2⟩ := info_parts byte_inf
  have Hi0 := Lib.hid hi0
  have Hz0 := Lib.hid hz0
  have Hz1 := Lib.hid hz1
  have Hz2 := Lib.hid hz2
  clear hi0 hz0 hz1 hz2
  go_enter Tryd.func21, Tryd.ntmps21
  go_wp2_with fail
  go_loopw [5, 4] (fun i v wr => ∃ k : Nat, k ≤ 8 ∧ i = .int .i64 k ∧ wr.ownsRow w.heap.size 5 1 v k (((highs n 8).take k).map w8) ∧ w.grownBy wr none) (fun i _ _ => 8 - (intOf i).toNat)
  case atStart => exact ⟨0, Nat.zero_le _, rfl, World.ownsRow_nil _ _ _ _, gb_refl _ _⟩
  case round =>
    obtain ⟨k, hk, rfl, hown, hg⟩ := hrel
    by_cases hlt : k < 8
    · have hdec : decide ((k : Int) < 8) = true := decide_eq_true (by omega)
      obtain ⟨m, Hm⟩ : ∃ m : Nat, Hid (m = 8 * k) := ⟨_, rfl⟩
      have hm : 8 * (k : Int) = (m : Int) := by have := Hm.out; omega
      obtain ⟨q, Hq⟩ : ∃ q : Nat, Hid (q + m = 56) := ⟨56 - m, by show _ = _; have := Hm.out; omega⟩
      have hq : 56 - (m : Int) = (q : Int) := by have := Hq.out; omega
      have hq2 : (q : Int) ≤ 56 := by omega
      go_wp2_with (at_builtin; refine wpList_append_own _ rfl (.tmp 12) (.tmp 20) 37 rfl w.heap.size 5 i0 (.int .u8 0) 1 1 Tryd.underlying37 Hi0.out Hz0.out Hz1.out Hz2.out rfl (by decide) _ k _ rfl (hown.alloc _) ⟨wr.heap.size, 0, none⟩ 1 1 [.int .u8 (N / 2 ^ q % 256)] rfl rfl (cell_new _) (one_int _) (by simp only [maxLen]; omega) (by omega) (by have := hg.size; simp; omega) ?_; intro v' w' own' grow' _)
      go_roundw
      case rel =>
        refine ⟨k + 1, by omega, by go_num, ?_, gb_step (gb_alloc hg _) grow' (fun i e => .inr (hown.lt i e).1)⟩
        rw [highs_succ n 8 k hlt, List.map_append]
        have e : Value.int .u8 (N / 2 ^ q % 256) = w8 (hiB n (8 - 1 - k)) := by rw [HN.out]; exact high_byte n k q hlt (by have := Hq.out; have := Hm.out; omega)
        rw [e] at own'
        exact own'
      case measure => simp [intOf]; omega
    · have hk8 : k = 8 := by omega
      subst hk8
      have hdec : decide (((8 : Nat) : Int) < 8) = false := by decide
      rw [List.take_of_length_le (by rw [highs_len]; exact Nat.le_refl _)] at hown
      have hconv := own_string hown (by decide)
      clear hlt hk hown
      go_wp2_with fail
      go_ret
      exact ⟨rfl, hg⟩
theorem highs_drop (n : Int) : (highs n 8).drop 4 = highs n 4 := rfl
theorem four_part (n : Int) : (⟨(highs n 8).toArray⟩ : ByteArray).extract 4 8 = ⟨(highs n 4).toArray⟩ := by
  apply ByteArray.ext
  apply Array.ext'
  simp [highs]
end Go.Proofs.YtpnkglgbmgiogaaDoor

namespace Go.Proofs.YtpnkglgbmgiogaaDoor
open Go.RowKit Wd Mm Vw

/-- A row of bytes of the call's own, and what making it longer turned. -/
def Ap (B : Nat) (w : World) (v v' : Value) (w' : World) (l : List UInt8) : Prop :=
  w'.ownsRow B 5 1 v' l.length (l.map w8) ∧ w.grownBy w' v.ownBlock ∧ (v'.ownBlock = v.ownBlock ∨ ∃ g, v'.ownBlock = some g ∧ w.heap.size ≤ g)
theorem Ap.slice {B : Nat} {w w' : World} {v v' : Value} {l : List UInt8} (h : Ap B w v v' w' l) : ∃ A m c, v' = .slice A m c := own_slice h.1
theorem Ap.trans {B : Nat} {w w1 w2 : World} {v v1 v2 : Value} {l1 l2 : List UInt8} (h : Ap B w v v1 w1 l1) (k : Ap B w1 v1 v2 w2 l2) : Ap B w v v2 w2 l2 := by
  refine ⟨k.1, gb_step h.2.1 k.2.1 (fun i e => ?_), ?_⟩
  · rcases h.2.2 with h2 | ⟨g, h2, hg⟩
    · exact .inl (h2.symm.trans e)
    · exact .inr (by rw [h2] at e; cases e; exact hg)
  · have hs := h.2.1.size
    rcases k.2.2 with k2 | ⟨g, k2, hg⟩
    · rw [k2]; exact h.2.2
    · exact .inr ⟨g, k2, by omega⟩
theorem Ap.start {B : Nat} {w : World} {v : Value} {l : List UInt8} (h : w.ownsRow B 5 1 v l.length (l.map w8)) : Ap B w v v w l := ⟨h, gb_refl _ _, .inl rfl⟩
theorem row_stays {B : Nat} {w w' : World} {v : Value} {l : List UInt8} (h : w.ownsRow B 5 1 v l.length (l.map w8)) (k : w.grownBy w' none) : w'.ownsRow B 5 1 v l.length (l.map w8) := by
  refine h.kept k ?_
  by_cases hv : v.ownBlock = none
  · exact .inl hv
  · exact .inr hv
theorem Ap.more {B : Nat} {w w1 w2 : World} {v v1 : Value} {l : List UInt8} (h : Ap B w v v1 w1 l) (k : w1.grownBy w2 none) : Ap B w v v1 w2 l :=
  ⟨row_stays h.1 k, gb_none h.2.1 k, h.2.2⟩
theorem Ap.ahead {B : Nat} {w w1 w2 : World} {v v2 : Value} {l : List UInt8} (k : w.grownBy w1 none) (h : Ap B w1 v v2 w2 l) : Ap B w v v2 w2 l :=
  ⟨h.1, gb_step (gb_none' k) h.2.1 (fun _ e => .inl e), h.2.2.imp id (fun ⟨g, e, hg⟩ => ⟨g, e, Nat.le_trans k.size hg⟩)⟩
/-- A block of the call's own, none of the row's, stays. -/
theorem Ap.block {B : Nat} {w0 w w' : World} {v v' : Value} {l0 l : List UInt8} (h0 : w0.ownsRow B 5 1 v l0.length (l0.map w8)) (hs : w0.heap.size < w.heap.size) (h : Ap B w v v' w' l) : w'.heap[w0.heap.size]? = w.heap[w0.heap.size]? :=
  h.2.1.block _ hs (fun e => by have := (h0.lt _ e.symm).2; omega)
/-- All that was there before the row was begun. -/
theorem Ap.old {w0 w w' : World} {v v' : Value} {l0 l : List UInt8} (h0 : w.ownsRow w0.heap.size 5 1 v l0.length (l0.map w8)) (hg : w0.grownBy w none) (h : Ap w0.heap.size w v v' w' l) : w0.grownBy w' none :=
  gb_step hg h.2.1 (fun i e => .inr (h0.lt i e).1)
/-- Appending a text. -/
theorem ap_text {B : Nat} {w : World} {v : Value} {l : List UInt8} (h : w.ownsRow B 5 1 v l.length (l.map w8)) (s : ByteArray) (hlen : l.length + s.size ≤ 140737488355328) (hB : B ≤ w.heap.size) :
    ∃ v' w', (Builtin.append_ #[37, 9] 37 #[v, .string s]).run Tryd.prog w = .ok v' w' ∧ Ap B w v v' w' (l ++ s.data.toList) := by
  obtain ⟨i, hi, hz, hs1, hs2⟩ := byte_parts
  obtain ⟨v', w', hrun, hown', hgrow, hnn⟩ := Lib.run_append_own_string (P := Tryd.prog) w B 37 9 37 5 i Tryd.underlying37 Tryd.underlying9 hi hz hs1 hs2 v _ _ h s (by simp only [maxLen]; omega) hlen hB
  have hloc := text_loc h hlen hrun hnn
  refine ⟨v', w', hrun, ?_, hgrow, hloc.imp id fun h => ⟨_, h, Nat.le_refl _⟩⟩
  have e1 : (l ++ s.data.toList).map w8 = l.map w8 ++ Lib.strCells s := by rw [List.map_append, text_cells]
  have e2 : (l ++ s.data.toList).length = l.length + s.size := by simp
  rw [e1, e2]
  exact hown'
/-- Appending a byte. -/
theorem ap_byte {B : Nat} {w w' : World} {v v' : Value} {l : List UInt8} {y : UInt8} {n : Int} (hn : n = (y.toNat : Int)) (own' : w'.ownsRow B 5 1 v' (l.length + 1) (l.map w8 ++ [.int .u8 n])) (grow' : w.grownBy w' v.ownBlock) (hloc : v'.ownBlock = v.ownBlock ∨ v'.ownBlock = some w.heap.size) : Ap B w v v' w' (l ++ [y]) := by
  refine ⟨?_, grow', hloc.imp id fun h => ⟨_, h, Nat.le_refl _⟩⟩
  have e1 : (l ++ [y]).map w8 = l.map w8 ++ [.int .u8 n] := by rw [List.map_append, hn]; rfl
  rw [e1, List.length_append]
  exact own'
/-- What put gives. -/
def Putted (B : Nat) (w : World) (v : Value) (l : List UInt8) (e : Ending) (w' : World) : Prop := ∃ v', e = .returned v' ∧ Ap B w v v' w' l
theorem first_byte {B : Nat} {w w1 : World} {v v1 : Value} {l : List UInt8} {y : UInt8} {n : Int} {o1 o2 : Obj} (hn : n = (y.toNat : Int)) (own' : w1.ownsRow B 5 1 v1 (l.length + 1) (l.map w8 ++ [.int .u8 n])) (grow' : ((w.alloc o1).alloc o2).grownBy w1 v.ownBlock) (hloc : v1.ownBlock = v.ownBlock ∨ v1.ownBlock = some ((w.alloc o1).alloc o2).heap.size) : Ap B w v v1 w1 (l ++ [y]) :=
  Ap.ahead (gb_alloc (gb_alloc (gb_refl w none) o1) o2) (ap_byte hn own' grow' hloc)

theorem Ap.off {B b : Nat} {w w' : World} {v v' : Value} {l : List UInt8} (h : Ap B w v v' w' l) (hv : v.ownBlock ≠ some b) (hb : b < w.heap.size) : v'.ownBlock ≠ some b := by
  rcases h.2.2 with h2 | ⟨g, h2, hg⟩
  · rw [h2]; exact hv
  · rw [h2]; intro e; cases e; omega
theorem Ap.keeps {B b : Nat} {w w' : World} {v v' : Value} {l : List UInt8} (h : Ap B w v v' w' l) (hv : v.ownBlock ≠ some b) (hb : b < w.heap.size) : w'.heap[b]? = w.heap[b]? :=
  h.2.1.block b hb (fun e => hv e.symm)
theorem first_off {B : Nat} {w : World} {v v1 : Value} {l : List UInt8} {o1 o2 : Obj} (h : w.ownsRow B 5 1 v l.length (l.map w8)) (hloc : v1.ownBlock = v.ownBlock ∨ v1.ownBlock = some ((w.alloc o1).alloc o2).heap.size) : v1.ownBlock ≠ some w.heap.size := by
  rcases hloc with h2 | h2
  · rw [h2]; intro e; have := (h.lt _ e).2; omega
  · rw [h2]; intro e; have := Option.some.inj e; simp at this; omega

end Go.Proofs.YtpnkglgbmgiogaaDoor

namespace Go.Proofs.YtpnkglgbmgiogaaDoor
open Go.RowKit Wd Mm Vw

theorem enc_some (x : Wr) : 0 < x.enc.length := by
  obtain ⟨k, n, s, l⟩ := x
  rw [enc_mk]; simp
end Go.Proofs.YtpnkglgbmgiogaaDoor

namespace Go.Proofs.YtpnkglgbmgiogaaDoor
open Go.RowKit Wd Mm Vw

theorem lst_len (xs : List Wr) : (lst xs).enc.length = 5 + (encs xs).length := by
  unfold lst; rw [enc_mk, if_neg (by decide), if_neg (by decide), List.length_cons, List.length_append, highs_len]; omega
theorem encs_snoc (xs : List Wr) (x : Wr) : (encs (xs ++ [x])).length = (encs xs).length + x.enc.length := by
  induction xs with
  | nil => simp [encs_cons, encs_nil]
  | cons y r ih => simp only [List.cons_append, encs_cons, List.length_append, ih]; omega
theorem allIn_of : ∀ xs : List Wr, (∀ x ∈ xs, x.in64 = true) → allIn xs = true
  | [], _ => allIn_nil
  | x :: r, h => by
    rw [allIn_cons, h x List.mem_cons_self, allIn_of r (fun y hy => h y (List.mem_cons_of_mem _ hy))]; rfl
theorem lst_in (xs : List Wr) (h : ∀ x ∈ xs, x.in64 = true) : (lst xs).in64 = true := by
  unfold lst; rw [in64_mk, allIn_of xs h]; rfl
theorem wrap_range (n : Int) : -9223372036854775808 ≤ wrap64 n ∧ wrap64 n ≤ 9223372036854775807 := by unfold wrap64; omega
/-- As HL, all blocks being such ones. -/
inductive HP (w : World) (P : Nat → Prop) : Value → List Wr → Prop
  | nil (A : Option Addr) (c : Nat) : HP w P (.slice A 0 c) []
  | row (g o c : Nat) (l : List Wr) (L : Nat → Value) (hB : P g) (hg : g < w.heap.size) (hn : l.length ≤ 1099511627776)
      (hk : ∀ i x, l[i]? = some x → w.cell? ⟨g, o + i * 4, none⟩ = some (.int .i64 x.k))
      (hv : ∀ i x, l[i]? = some x → w.cell? ⟨g, o + i * 4 + 1, none⟩ = some (.int .i64 x.n))
      (hs : ∀ i x, l[i]? = some x → w.cell? ⟨g, o + i * 4 + 2, none⟩ = some (.string x.s))
      (hL : ∀ i x, l[i]? = some x → w.cell? ⟨g, o + i * 4 + 3, none⟩ = some (L i))
      (hl : ∀ i x, l[i]? = some x → HP w P (L i) x.l) : HP w P (.slice (some ⟨g, o, none⟩) l.length c) l
theorem HP.keep {w w' : World} {P Q : Nat → Prop} {v : Value} {l : List Wr} (h : HP w P v l) (hsz : w.heap.size ≤ w'.heap.size) (hb : ∀ g, P g → g < w.heap.size → w'.heap[g]? = w.heap[g]? ∧ Q g) : HP w' Q v l := by
  induction h with
  | nil A c => exact .nil A c
  | row g o c l L hB hg hn hk hv hs hL hl ih =>
    obtain ⟨he, hq⟩ := hb g hB hg
    refine .row g o c l L hq (Nat.lt_of_lt_of_le hg hsz) hn ?_ ?_ ?_ ?_ ih
    · intro i x hx; rw [cell_of_heap he]; exact hk i x hx
    · intro i x hx; rw [cell_of_heap he]; exact hv i x hx
    · intro i x hx; rw [cell_of_heap he]; exact hs i x hx
    · intro i x hx; rw [cell_of_heap he]; exact hL i x hx
theorem HP.list {w : World} {P : Nat → Prop} {v : Value} {l : List Wr} (h : HP w P v l) : HL w 0 v l := by
  induction h with
  | nil A c => exact .nil A c
  | row g o c l L hB hg hn hk hv hs hL hl ih => exact .row g o c l L (Nat.zero_le _) hg hn hk hv hs hL ih
theorem HP.of {w : World} {B : Nat} {v : Value} {l : List Wr} (h : HL w B v l) : HP w (fun g => B ≤ g) v l := by
  induction h with
  | nil A c => exact .nil A c
  | row g o c l L hB hg hn hk hv hs hL hl ih => exact .row g o c l L hB hg hn hk hv hs hL ih
/-- The block of a row's value is not among the list's. -/
abbrev Off (v : Value) (g : Nat) : Prop := some g ≠ v.ownBlock
theorem HP.kept {w w' : World} {P : Nat → Prop} {v : Value} {l : List Wr} (h : HP w P v l) (hg : w.grownBy w' none) : HP w' P v l := h.keep hg.size (fun g hP hl => ⟨hg.block g hl (by simp), hP⟩)
theorem HP.after {w w' : World} {u u' v : Value} {l : List Wr} (h : HP w (Off u) v l) (hg : w.grownBy w' u.ownBlock) (ha : u'.ownBlock = u.ownBlock ∨ u'.ownBlock = some w.heap.size) : HP w' (Off u') v l := by
  refine h.keep hg.size (fun g hP hl => ⟨hg.block g hl hP, ?_⟩)
  show some g ≠ u'.ownBlock
  rcases ha with e | e
  · rw [e]; exact hP
  · rw [e]; intro e2; have := Option.some.inj e2; omega
/-- Some wire, in memory. -/
def Made (w : World) (N : Nat) (e : Ending) (w' : World) : Prop := ∃ (x : Wr) (A : Option Addr) (c : Nat), e = .returned (.agg #[.int .i64 x.k, .int .i64 x.n, .string x.s, .slice A x.l.length c]) ∧ HL w' w.heap.size (.slice A x.l.length c) x.l ∧ x.in64 = true ∧ x.enc.length ≤ N ∧ w.grownBy w' none
/-- Bytes that came in, from a place on. -/
theorem Held8.part {w : World} {g o len : Nat} (h : Held8 w (some ⟨g, o, none⟩) len) (h0 : 0 < len) (i m : Nat) (hi : i + m ≤ len) : Held8 w (some ⟨g, o + i, none⟩) m := fun hm => by
  obtain ⟨g', o', e, hl, hc⟩ := h h0
  cases e
  refine ⟨g, o + i, rfl, hl, fun j hj => ?_⟩
  obtain ⟨b, hb, hc'⟩ := hc (i + j) (by omega)
  exact ⟨b, hb, by rw [Nat.add_assoc]; exact hc'⟩
/-- How many bytes there may be of a wire by so many numbers. -/
def bnd (m : Nat) : Nat := 100 * 5 ^ (min m 6)
theorem bnd_le {a b : Nat} (h : a ≤ b) : bnd a ≤ bnd b := Nat.mul_le_mul_left _ (Nat.pow_le_pow_right (by decide) (by omega))
theorem bnd_pos (m : Nat) : 100 ≤ bnd m := by
  have : 0 < 5 ^ (min m 6) := Nat.pow_pos (by decide)
  unfold bnd; omega
theorem bnd_step (m : Nat) (hm : 0 < m) : 5 + 4 * bnd (min (m - 1) 5) ≤ bnd m := by
  have h1 := bnd_pos (min (m - 1) 5)
  have e : bnd m = 5 * bnd (min (m - 1) 5) := by
    unfold bnd
    rw [show min m 6 = min (min (m - 1) 5) 6 + 1 by omega, Nat.pow_succ]
    omega
  omega
theorem Made.more {w w' : World} {N N' : Nat} {e : Ending} (h : Made w N e w') (hN : N ≤ N') : Made w N' e w' := by
  obtain ⟨x, A, c, h1, h2, h3, h4, h5⟩ := h
  exact ⟨x, A, c, h1, h2, h3, by omega, h5⟩
end Go.Proofs.YtpnkglgbmgiogaaDoor
