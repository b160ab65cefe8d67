/- Words of 32 bits and bytes as UInt32 and UInt8: plain lemmas, no program. Blocks of memory that are known whole, and which block a call may have turned: plain lemmas, no program. A block that bears a mark behind its cells: plain laws, no program. Many cells of one block written: what the block then is; copy of a string. Plain lemmas, no numbers of the program. A slice of the call's own whose block may bear a mark behind its cells (what a string turned into bytes leaves): append to it. Plain laws, no program. A string turned into bytes: a slice of the call's own, whose block may bear a mark; what becomes of it. No numbers of the program but types by name. A region that reads, and then does one thing behind the other: its reads by the cheap step. Plain laws, no program. -/
import Derived.WalkKit
import Derived.Laws.BitsAllLaws
import Derived.Laws.Rows
import Derived.Laws.Tables
import Derived.Deep.Draws
import Derived.Lib.SliceRun
import Derived.Lib.LazyBuf
import Derived.Laws.IdiomCopy
import Derived.Laws.AppendOwn
import Derived.Laws.CopyRow
import Derived.Lib.AppendStr
import Derived.Laws.IdiomStrings
import Derived.Test.YtpcjbjpofcdjeaaGreatDoorProg
import Derived.KernelRfl
import Derived.StillTail
import Derived.BigQuiet
namespace Go.Proofs.YtpcjbjpofcdjeaaGreatDoor
theorem nmd {α : Sort _} (a : α) : ∃ b, a = b := ⟨a, rfl⟩
theorem dcT {p : Prop} [Decidable p] (h : p := by omega) : decide p = true := decide_eq_true h
theorem dcF {p : Prop} [Decidable p] (h : ¬ p := by omega) : decide p = false := decide_eq_false h
end Go.Proofs.YtpcjbjpofcdjeaaGreatDoor
namespace Go.Proofs.YtpcjbjpofcdjeaaGreatDoor.Wd
open Go
def w32 (x : UInt32) : Value := .int .u32 (x.toNat : Int)
def w8 (x : UInt8) : Value := .int .u8 (x.toNat : Int)
theorem lt32 (x : UInt32) : x.toNat < 4294967296 := x.toNat_lt
theorem lt8 (x : UInt8) : x.toNat < 256 := x.toNat_lt
theorem add32 (a b : UInt32) : IntKind.u32.wrap ((a.toNat : Int) + (b.toNat : Int)) = ((a + b).toNat : Int) := by
 rw [IntKind.wrap_u32', UInt32.toNat_add]; omega
theorem add32' (a b : UInt32) : ((a.toNat : Int) + (b.toNat : Int)) % 4294967296 = ((a + b).toNat : Int) := by
 rw [UInt32.toNat_add]; omega
theorem xor32 (a b : UInt32) : bits .xor .u32 (a.toNat : Int) (b.toNat : Int) = ((a ^^^ b).toNat : Int) := by
 rw [u32_xor_nat _ _ (lt32 a) (lt32 b), UInt32.toNat_xor]
theorem or32 (a b : UInt32) : bits .or .u32 (a.toNat : Int) (b.toNat : Int) = ((a ||| b).toNat : Int) := by
 rw [u32_or_nat _ _ (lt32 a) (lt32 b), UInt32.toNat_or]
theorem and32 (a b : UInt32) : bits .and .u32 (a.toNat : Int) (b.toNat : Int) = ((a &&& b).toNat : Int) := by
 rw [u32_and_nat _ _ (lt32 a) (lt32 b), UInt32.toNat_and]
theorem xor8 (a b : UInt8) : bits .xor .u8 (a.toNat : Int) (b.toNat : Int) = ((a ^^^ b).toNat : Int) := by
 rw [u8_xor_nat _ _ (lt8 a) (lt8 b), UInt8.toNat_xor]
theorem shl32 (a : UInt32) (k : Nat) (hk : k < 32) : (a.toNat : Int) * ((2 ^ k : Nat) : Int) % 4294967296 = ((a <<< (UInt32.ofNat k)).toNat : Int) := by
 rw [UInt32.toNat_shiftLeft, UInt32.toNat_ofNat', Nat.shiftLeft_eq, Nat.mod_eq_of_lt (a := k) (by omega), Nat.mod_eq_of_lt (a := k) (by omega)]
 omega
theorem shr32 (a : UInt32) (k : Nat) (hk : k < 32) : (a.toNat : Int) / ((2 ^ k : Nat) : Int) = ((a >>> (UInt32.ofNat k)).toNat : Int) := by
 rw [UInt32.toNat_shiftRight, UInt32.toNat_ofNat', Nat.shiftRight_eq_div_pow, Nat.mod_eq_of_lt (a := k) (by omega), Nat.mod_eq_of_lt (a := k) (by omega)]
 omega
def pl (a b : UInt32) : UInt32 := a + b
def xo (a b : UInt32) : UInt32 := a ^^^ b
theorem pl_walk (a b : UInt32) : ((a.toNat : Int) + (b.toNat : Int)) % 4294967296 = ((pl a b).toNat : Int) := add32' a b
theorem xo_walk (a b : UInt32) : bits .xor .u32 (a.toNat : Int) (b.toNat : Int) = ((xo a b).toNat : Int) := xor32 a b
def rotl (a : UInt32) (k : Nat) : UInt32 := a <<< (UInt32.ofNat k) ||| a >>> (UInt32.ofNat (32 - k))
theorem rotl_walk (a : UInt32) (k : Nat) (h0 : 0 < k) (hk : k < 32) :
  bits .or .u32 ((a.toNat : Int) * ((2 ^ k : Nat) : Int) % 4294967296) ((a.toNat : Int) / ((2 ^ (32 - k) : Nat) : Int)) = ((rotl a k).toNat : Int) := by
 rw [shl32 a k hk, shr32 a (32 - k) (by omega), or32]; rfl
theorem rotl_16 (a : UInt32) : bits .or .u32 ((a.toNat : Int) * 65536 % 4294967296) ((a.toNat : Int) / 65536) = ((rotl a 16).toNat : Int) := rotl_walk a 16 (by decide) (by decide)
theorem rotl_12 (a : UInt32) : bits .or .u32 ((a.toNat : Int) * 4096 % 4294967296) ((a.toNat : Int) / 1048576) = ((rotl a 12).toNat : Int) := rotl_walk a 12 (by decide) (by decide)
theorem rotl_8 (a : UInt32) : bits .or .u32 ((a.toNat : Int) * 256 % 4294967296) ((a.toNat : Int) / 16777216) = ((rotl a 8).toNat : Int) := rotl_walk a 8 (by decide) (by decide)
theorem rotl_7 (a : UInt32) : bits .or .u32 ((a.toNat : Int) * 128 % 4294967296) ((a.toNat : Int) / 33554432) = ((rotl a 7).toNat : Int) := rotl_walk a 7 (by decide) (by decide)
def qA1 (a b : UInt32) : UInt32 := pl a b
def qD1 (a b d : UInt32) : UInt32 := rotl (xo d (qA1 a b)) 16
def qC1 (a b c d : UInt32) : UInt32 := pl c (qD1 a b d)
def qB1 (a b c d : UInt32) : UInt32 := rotl (xo b (qC1 a b c d)) 12
def qA (a b c d : UInt32) : UInt32 := pl (qA1 a b) (qB1 a b c d)
def qD (a b c d : UInt32) : UInt32 := rotl (xo (qD1 a b d) (qA a b c d)) 8
def qC (a b c d : UInt32) : UInt32 := pl (qC1 a b c d) (qD a b c d)
def qB (a b c d : UInt32) : UInt32 := rotl (xo (qB1 a b c d) (qC a b c d)) 7
def le32 (a b c d : UInt8) : UInt32 := a.toUInt32 ||| b.toUInt32 <<< 8 ||| c.toUInt32 <<< 16 ||| d.toUInt32 <<< 24
def leAt (l : List UInt8) (i : Nat) : UInt32 := le32 (l.getD i 0) (l.getD (i + 1) 0) (l.getD (i + 2) 0) (l.getD (i + 3) 0)
theorem up32 (a : UInt8) : (a.toNat : Int) % 4294967296 = (a.toUInt32.toNat : Int) := by
 rw [UInt8.toNat_toUInt32]; have := lt8 a; omega
theorem le32_walk (a b c d : UInt8) : bits .or .u32 (bits .or .u32 (bits .or .u32 ((a.toNat : Int) % 4294967296) ((b.toNat : Int) % 4294967296 * 256 % 4294967296)) ((c.toNat : Int) % 4294967296 * 65536 % 4294967296)) ((d.toNat : Int) % 4294967296 * 16777216 % 4294967296) = ((le32 a b c d).toNat : Int) := by
 have h8 : (b.toUInt32.toNat : Int) * 256 % 4294967296 = _ := shl32 b.toUInt32 8 (by decide)
 have h16 : (c.toUInt32.toNat : Int) * 65536 % 4294967296 = _ := shl32 c.toUInt32 16 (by decide)
 have h24 : (d.toUInt32.toNat : Int) * 16777216 % 4294967296 = _ := shl32 d.toUInt32 24 (by decide)
 rw [up32, up32, up32, up32, h8, h16, h24, or32, or32, or32]; rfl
theorem get_data (s : ByteArray) (i : Nat) (h : i < s.size) : s[i] = s.data.toList.getD i 0 := by
 have h' : i < s.data.toList.length := by simpa using h
 rw [List.getD_eq_getElem?_getD, List.getElem?_eq_getElem h']
 simp [ByteArray.getElem_eq_getElem_data]
theorem ofInt32 (c : Int) : c % 4294967296 = ((UInt32.ofInt c).toNat : Int) := by
 unfold UInt32.ofInt; rw [UInt32.toNat_ofNat']; omega
def opening : List UInt8 := [101, 120, 112, 97, 110, 100, 32, 51, 50, 45, 98, 121, 116, 101, 32, 107]
def initW (key nonce : List UInt8) (c : UInt32) : List UInt32 :=
 [leAt opening 0, leAt opening 4, leAt opening 8, leAt opening 12, leAt key 0, leAt key 4, leAt key 8, leAt key 12, leAt key 16, leAt key 20, leAt key 24, leAt key 28, c, leAt nonce 0, leAt nonce 4, leAt nonce 8]
def qrAt (l : List UInt32) (a b c d : Nat) : List UInt32 :=
 let A := l.getD a 0; let B := l.getD b 0; let C := l.getD c 0; let D := l.getD d 0
 (((l.set a (qA A B C D)).set b (qB A B C D)).set c (qC A B C D)).set d (qD A B C D)
def dbl (l : List UInt32) : List UInt32 :=
 qrAt (qrAt (qrAt (qrAt (qrAt (qrAt (qrAt (qrAt l 0 4 8 12) 1 5 9 13) 2 6 10 14) 3 7 11 15) 0 5 10 15) 1 6 11 12) 2 7 8 13) 3 4 9 14
def dbls (l : List UInt32) : Nat → List UInt32
 | 0 => l
 | k + 1 => dbl (dbls l k)
theorem qrAt_len (l : List UInt32) (a b c d : Nat) : (qrAt l a b c d).length = l.length := by simp [qrAt]
theorem dbl_len (l : List UInt32) : (dbl l).length = l.length := by simp [dbl, qrAt_len]
theorem dbls_len (l : List UInt32) (k : Nat) : (dbls l k).length = l.length := by
 induction k with
 | zero => rfl
 | succ k ih => rw [dbls, dbl_len, ih]
theorem qr0 (v0 v1 v2 v3 v4 v5 v6 v7 v8 v9 v10 v11 v12 v13 v14 v15 : UInt32) : qrAt [v0, v1, v2, v3, v4, v5, v6, v7, v8, v9, v10, v11, v12, v13, v14, v15] 0 4 8 12 = [qA v0 v4 v8 v12, v1, v2, v3, qB v0 v4 v8 v12, v5, v6, v7, qC v0 v4 v8 v12, v9, v10, v11, qD v0 v4 v8 v12, v13, v14, v15] := rfl
theorem qr1 (v0 v1 v2 v3 v4 v5 v6 v7 v8 v9 v10 v11 v12 v13 v14 v15 : UInt32) : qrAt [v0, v1, v2, v3, v4, v5, v6, v7, v8, v9, v10, v11, v12, v13, v14, v15] 1 5 9 13 = [v0, qA v1 v5 v9 v13, v2, v3, v4, qB v1 v5 v9 v13, v6, v7, v8, qC v1 v5 v9 v13, v10, v11, v12, qD v1 v5 v9 v13, v14, v15] := rfl
theorem qr2 (v0 v1 v2 v3 v4 v5 v6 v7 v8 v9 v10 v11 v12 v13 v14 v15 : UInt32) : qrAt [v0, v1, v2, v3, v4, v5, v6, v7, v8, v9, v10, v11, v12, v13, v14, v15] 2 6 10 14 = [v0, v1, qA v2 v6 v10 v14, v3, v4, v5, qB v2 v6 v10 v14, v7, v8, v9, qC v2 v6 v10 v14, v11, v12, v13, qD v2 v6 v10 v14, v15] := rfl
theorem qr3 (v0 v1 v2 v3 v4 v5 v6 v7 v8 v9 v10 v11 v12 v13 v14 v15 : UInt32) : qrAt [v0, v1, v2, v3, v4, v5, v6, v7, v8, v9, v10, v11, v12, v13, v14, v15] 3 7 11 15 = [v0, v1, v2, qA v3 v7 v11 v15, v4, v5, v6, qB v3 v7 v11 v15, v8, v9, v10, qC v3 v7 v11 v15, v12, v13, v14, qD v3 v7 v11 v15] := rfl
theorem qr4 (v0 v1 v2 v3 v4 v5 v6 v7 v8 v9 v10 v11 v12 v13 v14 v15 : UInt32) : qrAt [v0, v1, v2, v3, v4, v5, v6, v7, v8, v9, v10, v11, v12, v13, v14, v15] 0 5 10 15 = [qA v0 v5 v10 v15, v1, v2, v3, v4, qB v0 v5 v10 v15, v6, v7, v8, v9, qC v0 v5 v10 v15, v11, v12, v13, v14, qD v0 v5 v10 v15] := rfl
theorem qr5 (v0 v1 v2 v3 v4 v5 v6 v7 v8 v9 v10 v11 v12 v13 v14 v15 : UInt32) : qrAt [v0, v1, v2, v3, v4, v5, v6, v7, v8, v9, v10, v11, v12, v13, v14, v15] 1 6 11 12 = [v0, qA v1 v6 v11 v12, v2, v3, v4, v5, qB v1 v6 v11 v12, v7, v8, v9, v10, qC v1 v6 v11 v12, qD v1 v6 v11 v12, v13, v14, v15] := rfl
theorem qr6 (v0 v1 v2 v3 v4 v5 v6 v7 v8 v9 v10 v11 v12 v13 v14 v15 : UInt32) : qrAt [v0, v1, v2, v3, v4, v5, v6, v7, v8, v9, v10, v11, v12, v13, v14, v15] 2 7 8 13 = [v0, v1, qA v2 v7 v8 v13, v3, v4, v5, v6, qB v2 v7 v8 v13, qC v2 v7 v8 v13, v9, v10, v11, v12, qD v2 v7 v8 v13, v14, v15] := rfl
theorem qr7 (v0 v1 v2 v3 v4 v5 v6 v7 v8 v9 v10 v11 v12 v13 v14 v15 : UInt32) : qrAt [v0, v1, v2, v3, v4, v5, v6, v7, v8, v9, v10, v11, v12, v13, v14, v15] 3 4 9 14 = [v0, v1, v2, qA v3 v4 v9 v14, qB v3 v4 v9 v14, v5, v6, v7, v8, qC v3 v4 v9 v14, v10, v11, v12, v13, qD v3 v4 v9 v14, v15] := rfl
def stir (l : List UInt32) : List UInt32 := List.zipWith pl (dbls l 10) l
theorem stir_len (l : List UInt32) : (stir l).length = l.length := by simp [stir, dbls_len]
theorem stir_get (l : List UInt32) (i : Nat) (h : i < l.length) : ((stir l).map w32).toArray[i]? = some (w32 (pl ((dbls l 10).getD i 0) (l.getD i 0))) := by
 have h1 : i < (dbls l 10).length := by rw [dbls_len]; exact h
 simp [stir, List.getElem?_zipWith, h, h1]
theorem words_get (l : List UInt32) (i : Nat) (h : i < l.length) : (l.map w32).toArray[i]? = some (.int .u32 ((l.getD i 0).toNat : Int)) := by
 simp [h, w32]
theorem sixteen (l : List UInt32) (h : l.length = 16) : ∃ x0 x1 x2 x3 x4 x5 x6 x7 x8 x9 x10 x11 x12 x13 x14 x15 : UInt32, l = [x0, x1, x2, x3, x4, x5, x6, x7, x8, x9, x10, x11, x12, x13, x14, x15] := by
 match l, h with
 | [x0, x1, x2, x3, x4, x5, x6, x7, x8, x9, x10, x11, x12, x13, x14, x15], _ => exact ⟨x0, x1, x2, x3, x4, x5, x6, x7, x8, x9, x10, x11, x12, x13, x14, x15, rfl⟩
theorem byte0 (a : UInt32) : (a.toNat : Int) % 256 = (a.toUInt8.toNat : Int) := by
 rw [UInt32.toNat_toUInt8]; omega
end Go.Proofs.YtpcjbjpofcdjeaaGreatDoor.Wd
namespace Go.Proofs.YtpcjbjpofcdjeaaGreatDoor.Mm
open Go Go.RowKit
def Row (w : World) (g : Nat) (t : TypeId) (cs : Array Value) : Prop := w.heap[g]? = some (.cells cs t (0, 0))
section
variable {w w' : World} {g g' : Nat} {t t' : TypeId} {cs cs' : Array Value}
theorem Row.get (h : Row w g t cs) (i : Nat) : w.cell? ⟨g, i, none⟩ = cs[i]? := cell_of_row w g i cs t (0, 0) h
theorem Row.at_ (h : Row w g t cs) {i : Nat} {v : Value} (hv : cs[i]? = some v) : w.cell? ⟨g, i, none⟩ = some v := by rw [h.get, hv]
theorem Row.free (h : Row w g t cs) (i : Nat) : w.frozen? ⟨g, i, none⟩ = false := frozen_of_row w g i cs t h
theorem Row.lt (h : Row w g t cs) : g < w.heap.size := (Array.getElem?_eq_some_iff.1 h).1
theorem Row.new (w : World) (t : TypeId) (cs : Array Value) : Row (w.alloc (.cells cs t)) w.heap.size t cs := heap_alloc_new w _
theorem Row.alloc (h : Row w g t cs) (o : Obj) : Row (w.alloc o) g t cs := (Below.heap_alloc w o g h.lt).trans h
theorem Row.drew (h : Row w g t cs) : Row w.drew g t cs := h
theorem Row.drewN (h : Row w g t cs) (n : Nat) : Row (w.drewN n) g t cs := h
theorem Row.set_ (h : Row w g t cs) (i : Nat) (v : Value) : Row (w.setCell ⟨g, i, none⟩ v) g t (cs.setIfInBounds i v) := heap_setCell_same w g i cs t v h
theorem Row.far (h : Row w g t cs) {a : Addr} (ha : g ≠ a.block) (v : Value) : Row (w.setCell a v) g t cs := (heap_setCell_other w a g v ha).trans h
theorem Row.setRow_ (h : Row w g t cs) (ds : Array Value) : Row (w.setRow g ds) g t ds := setRow_heap w g cs ds t _ h
theorem Row.setRow_far (h : Row w g t cs) (hn : g ≠ g') (ds : Array Value) : Row (w.setRow g' ds) g t cs := (setRow_other w g' g ds hn).trans h
theorem Row.kept {r : Option Nat} (h : Row w g t cs) (hg : w.grownBy w' r) (hn : some g ≠ r) : Row w' g t cs := (hg.block g h.lt hn).trans h
theorem Row.same (h : Row w g t cs) (h' : Row w g t' cs') : cs = cs' := by
 unfold Row at h h'; rw [h] at h'; injection h' with h'; injection h'
end
section
variable {a w w' : World} {r : Option Nat}
theorem gb_refl (w : World) (r : Option Nat) : w.grownBy w r := ⟨rfl, rfl, rfl, Nat.le_refl _, fun _ _ _ => rfl⟩
theorem gb_drew (h : a.grownBy w r) : a.grownBy w.drew r := ⟨h.os, h.tape, h.output, h.size, h.block⟩
theorem gb_drewN (h : a.grownBy w r) (n : Nat) : a.grownBy (w.drewN n) r := ⟨h.os, h.tape, h.output, h.size, h.block⟩
theorem gb_step (h : a.grownBy w r) {r' : Option Nat} (k : w.grownBy w' r') (hr : ∀ i, r' = some i → r = some i ∨ a.heap.size ≤ i) : a.grownBy w' r :=
 ⟨k.os.trans h.os, k.tape.trans h.tape, k.output.trans h.output, Nat.le_trans h.size k.size, fun i hi hn =>
  (k.block i (Nat.lt_of_lt_of_le hi h.size) (fun e => by
   rcases hr i e.symm with e' | e'
   ·exact hn e'.symm
   ·omega)).trans (h.block i hi hn)⟩
theorem gb_then (h : a.grownBy w r) (k : w.grownBy w' r) : a.grownBy w' r := gb_step h k fun _ e => .inl e
theorem gb_none (h : a.grownBy w r) (k : w.grownBy w' none) : a.grownBy w' r := gb_step h k fun _ e => by cases e
theorem gb_new (h : a.grownBy w r) {g : Nat} (k : w.grownBy w' (some g)) (hg : a.heap.size ≤ g) : a.grownBy w' r := gb_step h k fun i e => .inr (by cases e; exact hg)
theorem gb_alloc (h : a.grownBy w r) (o : Obj) : a.grownBy (w.alloc o) r :=
 gb_none h ⟨rfl, rfl, rfl, by simp, fun k hk _ => Below.heap_alloc w o k hk⟩
theorem gb_set1 (w : World) (g i : Nat) (v : Value) : w.grownBy (w.setCell ⟨g, i, none⟩ v) (some g) :=
 ⟨rfl, rfl, rfl, by simp [World.setCell], fun k _ hn => heap_setCell_other w _ k v (fun e => hn (by rw [e]))⟩
theorem gb_setRow1 (w : World) (g : Nat) (cs : Array Value) : w.grownBy (w.setRow g cs) (some g) :=
 ⟨rfl, rfl, rfl, by simp, fun k _ hn => setRow_other w g k cs (fun e => hn (by rw [e]))⟩
theorem gb_below {B : Nat} (h : a.grownBy w none) (hB : B ≤ a.heap.size) : Below B a w := ⟨h.os, h.tape, h.output, h.size, fun k hk => h.block k (by omega) (by simp)⟩
theorem gb_of_below (h : Below a.heap.size a w) (r : Option Nat) : a.grownBy w r := ⟨h.os, h.tape, h.output, h.size, fun k hk _ => h.block k hk⟩
end
def put (cs : Array Value) (o : Nat) (f : Nat → Value) : Nat → Array Value
 | 0 => cs
 | k + 1 => (put cs o f k).setIfInBounds (o + k) (f k)
theorem put_size (cs : Array Value) (o : Nat) (f : Nat → Value) (k : Nat) : (put cs o f k).size = cs.size := by
 induction k with
 | zero => rfl
 | succ k ih => simp [put, ih]
theorem put_get (cs : Array Value) (o : Nat) (f : Nat → Value) (k i : Nat) : (put cs o f k)[i]? = if o ≤ i ∧ i < o + k ∧ i < cs.size then some (f (i - o)) else cs[i]? := by
 induction k with
 | zero => rw [if_neg (by omega)]; rfl
 | succ k ih =>
  simp only [put, Array.getElem?_setIfInBounds, put_size, ih]
  by_cases h : o + k = i
  ·subst h
   by_cases hs : o + k < cs.size
   ·simp [hs]
   ·simp [hs]
  ·rw [if_neg h]
   by_cases hc : o ≤ i ∧ i < o + k ∧ i < cs.size
   ·rw [if_pos hc, if_pos (by omega)]
   ·rw [if_neg hc, if_neg (by omega)]
theorem put_0_4 (a0 a1 a2 a3 a4 a5 a6 a7 a8 a9 a10 a11 a12 a13 a14 a15 : Value) (f : Nat → Value) : put #[a0, a1, a2, a3, a4, a5, a6, a7, a8, a9, a10, a11, a12, a13, a14, a15] 0 f 4 = #[f 0, f 1, f 2, f 3, a4, a5, a6, a7, a8, a9, a10, a11, a12, a13, a14, a15] := by
 simp [put]
theorem put_4_8 (a0 a1 a2 a3 a4 a5 a6 a7 a8 a9 a10 a11 a12 a13 a14 a15 : Value) (f : Nat → Value) : put #[a0, a1, a2, a3, a4, a5, a6, a7, a8, a9, a10, a11, a12, a13, a14, a15] 4 f 8 = #[a0, a1, a2, a3, f 0, f 1, f 2, f 3, f 4, f 5, f 6, f 7, a12, a13, a14, a15] := by
 simp [put]
theorem put_13_3 (a0 a1 a2 a3 a4 a5 a6 a7 a8 a9 a10 a11 a12 a13 a14 a15 : Value) (f : Nat → Value) : put #[a0, a1, a2, a3, a4, a5, a6, a7, a8, a9, a10, a11, a12, a13, a14, a15] 13 f 3 = #[a0, a1, a2, a3, a4, a5, a6, a7, a8, a9, a10, a11, a12, f 0, f 1, f 2] := by
 simp [put]
theorem put_all (cs : Array Value) (f : Nat → Value) (n : Nat) (ds : Array Value) (hc : cs.size = n) (hd : ds.size = n) (h : ∀ i, i < n → ds[i]? = some (f i)) : put cs 0 f n = ds := by
 apply Array.ext_getElem?
 intro i
 rw [put_get]
 by_cases hi : i < n
 ·rw [if_pos (by omega), h i hi]; simp
 ·rw [if_neg (by omega), Array.getElem?_eq_none (by omega), Array.getElem?_eq_none (by omega)]
end Go.Proofs.YtpcjbjpofcdjeaaGreatDoor.Mm
namespace Go.Proofs.YtpcjbjpofcdjeaaGreatDoor
open Go Go.RowKit Mm
def RowF (w : World) (g : Nat) (t : TypeId) (cs : Array Value) : Prop := ∃ f, cs.size ≤ f ∧ w.heap[g]? = some (.cells cs t (f, f + 1))
section
variable {w w' : World} {g : Nat} {t : TypeId} {cs : Array Value}
theorem RowF.at_ (h : RowF w g t cs) {i : Nat} {v : Value} (hv : cs[i]? = some v) : w.cell? ⟨g, i, none⟩ = some v := by
 obtain ⟨f, _, h⟩ := h
 rw [cell_of_row w g i cs t _ h, hv]
theorem RowF.free (h : RowF w g t cs) {i : Nat} (hi : i < cs.size) : w.frozen? ⟨g, i, none⟩ = false := by
 obtain ⟨f, hf, h⟩ := h
 simp [World.frozen?, h]; omega
theorem RowF.kept {r : Option Nat} (h : RowF w g t cs) (hg : w.grownBy w' r) (hn : some g ≠ r) : RowF w' g t cs := by
 obtain ⟨f, hf, h⟩ := h
 exact ⟨f, hf, (hg.block g (Array.getElem?_eq_some_iff.1 h).1 hn).trans h⟩
theorem RowF.set_ (h : RowF w g t cs) (i : Nat) (v : Value) : RowF (w.setCell ⟨g, i, none⟩ v) g t (cs.setIfInBounds i v) := by
 obtain ⟨f, hf, h⟩ := h
 refine ⟨f, by simpa using hf, ?_⟩
 simp [World.setCell, Array.getElem?_modify, h]
theorem RowF.drew (h : RowF w g t cs) : RowF w.drew g t cs := h
end
end Go.Proofs.YtpcjbjpofcdjeaaGreatDoor
namespace Go.Proofs.YtpcjbjpofcdjeaaGreatDoor
open Go.RowKit Wd Mm
theorem row_setCells {g : Nat} {t : TypeId} (L : List Value) : ∀ (o : Nat) (cs : Array Value) (w : World), Row w g t cs → Row (w.setCells g o L) g t (put cs o (fun i => L.getD i undef) L.length) := by
 induction L with
 | nil => intro o cs w h; exact h
 | cons v L ih =>
  intro o cs w h
  have := ih (o + 1) _ _ (h.set_ o v)
  have e : put cs o (fun i => (v :: L).getD i undef) (v :: L).length = put (cs.setIfInBounds o v) (o + 1) (fun i => L.getD i undef) L.length := by
   apply Array.ext_getElem?
   intro i
   rw [put_get, put_get, Array.getElem?_setIfInBounds, Array.size_setIfInBounds, List.length_cons]
   by_cases h1 : o = i
   ·subst h1
    by_cases hs : o < cs.size
    ·rw [if_pos (by omega), if_neg (by omega), if_pos rfl, if_pos hs]; simp
    ·rw [if_neg (by omega), if_neg (by omega), if_pos rfl, if_neg hs, Array.getElem?_eq_none (by omega)]
   ·by_cases h2 : o ≤ i ∧ i < o + (L.length + 1) ∧ i < cs.size
    ·rw [if_pos h2, if_pos (by omega)]
     obtain ⟨j, hj⟩ : ∃ j, i - o = j + 1 := ⟨i - o - 1, by omega⟩
     rw [hj, show i - (o + 1) = j by omega]; simp
    ·rw [if_neg h2, if_neg (by omega), if_neg h1]
  rw [e]
  exact this
theorem gb_setCells (g : Nat) (L : List Value) : ∀ (o : Nat) (w : World), w.grownBy (w.setCells g o L) (some g) := by
 induction L with
 | nil => intro o w; exact gb_refl _ _
 | cons v L ih => intro o w; exact gb_then (gb_set1 w g o v) (ih (o + 1) _)
theorem run_copy_min {P : Program} (w : World) (dT sT ty elem : TypeId) (b o dLen dCap n : Nat) (t : ByteArray)
  (hu : P.underlying dT = some (.slice elem)) (hz : ∀ w, (Go.sizeOf elem).run P w = .ok 1 w) (hn : Nat.min t.size dLen = n)
  (hc : ∀ j, j < n → (w.cell? ⟨b, o + j, none⟩).isSome = true) (hf : ∀ j, j < n → w.frozen? ⟨b, o + j, none⟩ = false) :
  (Builtin.copy_ #[dT, sT] ty #[.slice (some ⟨b, o, none⟩) dLen dCap, .string t]).run P w = .ok (goInt n) (w.setCells b o ((t.data.toList.map w8).take n)) := by
 have hle : n ≤ t.size := by rw [← hn]; exact Nat.min_le_left _ _
 have hl : ((t.data.toList.map w8).take n).length = n := by
  rw [List.length_take, List.length_map, ← Lib.size_eq]; omega
 have hst := run_storeCells_cells (P := P) b o ((t.data.toList.map w8).take n) 0 w (by rw [hl]; simpa using hc) (by rw [hl]; simpa using hf) (by
  intro v hv
  obtain ⟨x, _, rfl⟩ := List.mem_map.1 (List.mem_of_mem_take hv)
  rfl)
 simp only [Nat.add_zero] at hst
 simp [Builtin.copy_, run_underlying hu, Builtin.lenOf, Builtin.firstCells, hz, hn]
 have e : List.take n (List.map (fun x : UInt8 => Value.int IntKind.u8 (x.toNat : Int)) t.data.toList) = (t.data.toList.map w8).take n := rfl
 rw [e, hst]
 rfl
end Go.Proofs.YtpcjbjpofcdjeaaGreatDoor
namespace Go.Proofs.YtpcjbjpofcdjeaaGreatDoor.Mm
open Go Go.RowKit
def Unfroze (cur : Array Value) (fz : Nat × Nat) : Prop := fz = (0, 0) ∨ cur.size ≤ fz.1
def OwnsM (w : World) (base : Nat) (e : TypeId) (v : Value) (n : Nat) (xs : List Value) : Prop :=
 xs.length = n ∧ ((v = .slice none 0 0 ∧ n = 0) ∨
  ∃ g cap cur fz, v = .slice (some ⟨g, 0, none⟩) n cap ∧ base ≤ g ∧ w.heap[g]? = some (.cells cur e fz) ∧ Unfroze cur fz ∧ n ≤ cap ∧ cap ≤ maxLen ∧ cur.size = cap ∧ cur.toList.take n = xs)
section
variable {w w' : World} {base n : Nat} {e : TypeId} {v : Value} {xs : List Value}
theorem OwnsM.of (h : w.ownsRow base e 1 v n xs) : OwnsM w base e v n xs := by
 refine ⟨by simpa using h.1, ?_⟩
 rcases h.2 with h | ⟨g, cap, cur, hv, hb, hh, h1, h2, h3, h4⟩
 ·exact .inl h
 ·exact .inr ⟨g, cap, cur, (0, 0), hv, hb, hh, .inl rfl, h1, h2, by simpa using h3, by simpa using h4⟩
theorem OwnsM.nil (w : World) (base : Nat) (e : TypeId) : OwnsM w base e (.slice none 0 0) 0 [] := ⟨rfl, .inl ⟨rfl, rfl⟩⟩
theorem OwnsM.lt (h : OwnsM w base e v n xs) : ∀ k, v.ownBlock = some k → base ≤ k ∧ k < w.heap.size := by
 intro k hk
 rcases h.2 with ⟨rfl, _⟩ | ⟨g, cap, cur, fz, rfl, hb, hh, _⟩
 ·simp [Value.ownBlock] at hk
 ·simp only [Value.ownBlock, Option.some.injEq] at hk
  subst hk
  exact ⟨hb, (Array.getElem?_eq_some_iff.1 hh).1⟩
theorem OwnsM.kept {row : Option Nat} (h : OwnsM w base e v n xs) (hg : w.grownBy w' row) (hne : v.ownBlock = none ∨ v.ownBlock ≠ row) : OwnsM w' base e v n xs := by
 refine ⟨h.1, ?_⟩
 rcases h.2 with h0 | ⟨g, cap, cur, fz, rfl, hb, hh, h1, h2⟩
 ·exact .inl h0
 ·refine .inr ⟨g, cap, cur, fz, rfl, hb, ?_, h1, h2⟩
  have hn : some g ≠ row := by
   rcases hne with h | h
   ·simp [Value.ownBlock] at h
   ·exact h
  rw [hg.block g (Array.getElem?_eq_some_iff.1 hh).1 hn]
  exact hh
theorem OwnsM.alloc (h : OwnsM w base e v n xs) (o : Obj) : OwnsM (w.alloc o) base e v n xs := by
 refine ⟨h.1, ?_⟩
 rcases h.2 with h0 | ⟨g, cap, cur, fz, rfl, hb, hh, h1⟩
 ·exact .inl h0
 ·exact .inr ⟨g, cap, cur, fz, rfl, hb, (Below.heap_alloc w o g (Array.getElem?_eq_some_iff.1 hh).1).trans hh, h1⟩
theorem OwnsM.drew (h : OwnsM w base e v n xs) : OwnsM w.drew base e v n xs := h
theorem OwnsM.cell (h : OwnsM w base e v n xs) {g cap : Nat} (hv : v = .slice (some ⟨g, 0, none⟩) n cap) : ∀ j u, xs[j]? = some u → w.cell? ⟨g, j, none⟩ = some u := by
 intro j u hu
 rcases h.2 with ⟨rfl, _⟩ | ⟨g', cap', cur, fz, rfl, hb, hh, _, _, _, _, ht⟩
 ·cases hv
 ·injection hv with h1 h2 h3
  injection h1 with h1
  injection h1 with h1
  subst h1
  rw [← ht, List.getElem?_take] at hu
  split at hu
  ·simp only [World.cell?, hh]
   simpa using hu
  ·cases hu
end
theorem run_storeCells_atM (P : Program) (g o : Nat) (t : TypeId) (fz : Nat × Nat) : ∀ (vs : List Value) (i : Nat) (cur : Array Value) (w : World), w.heap[g]? = some (.cells cur t fz) → Unfroze cur fz → o + i + vs.length ≤ cur.size → (∀ v ∈ vs, v.oneCell' = true) →
  (storeCells ⟨g, o, none⟩ vs i).run P w = .ok () (w.setRow g (cur.toList.take (o + i) ++ vs ++ cur.toList.drop (o + i + vs.length)).toArray)
 | [], i, cur, w, hg, _, _, _ => by
  simp only [storeCells, List.append_nil, List.length_nil, Nat.add_zero, List.take_append_drop, Array.toArray_toList]
  rw [setRow_self w g cur t fz hg]
  rfl
 | v :: rest, i, cur, w, hg, hfz, hl, h1 => by
  have hi : o + i < cur.size := by simp at hl; omega
  have hadd : (⟨g, o, none⟩ : Addr).add i = ⟨g, o + i, none⟩ := by unfold Addr.add; split <;> simp_all
  have hcell : w.cell? ⟨g, o + i, none⟩ = some cur[o + i] := by simp [World.cell?, hg, hi]
  have hfro : w.frozen? ⟨g, o + i, none⟩ = false := by
   obtain ⟨lo, hi'⟩ := fz
   simp only [World.frozen?, hg, Bool.and_eq_false_iff, decide_eq_false_iff_not]
   rcases hfz with h | h
   ·cases h; right; omega
   ·left; simp only at h; omega
  have hst : (store ((⟨g, o, none⟩ : Addr).add i) v).run P w = .ok () (w.setRow g (cur.setIfInBounds (o + i) v)) := by
   rw [hadd, run_store P w _ v _ (h1 v (by simp)), hcell]
   simp [hfro, setCell_eq_setRow w g (o + i) cur t fz v hg]
  have ih := run_storeCells_atM P g o t fz rest (i + 1) (cur.setIfInBounds (o + i) v) (w.setRow g (cur.setIfInBounds (o + i) v)) (setRow_heap w g cur _ t _ hg) (by
   rcases hfz with h | h
   ·exact .inl h
   ·exact .inr (by simpa using h)) (by simp at hl ⊢; omega) (fun x hx => h1 x (by simp [hx]))
  simp only [storeCells, Sem.run_bind, hst, Result.andThen_ok, ih, setRow_setRow]
  congr 3
  have e := list_seg_step cur.toList (o + i) v rest (by simp at hl ⊢; omega)
  simpa [Array.toList_setIfInBounds, Nat.add_assoc] using e
section
variable {P : Program} (w : World)
theorem run_append_roomM (t ty e : TypeId) (i : TypeInfo) (ht : P.underlying t = some (.slice e)) (hi : P.info? e = some i) (hs1 : i.size = 1)
  (g sLen sCap : Nat) (cur : Array Value) (fz : Nat × Nat) (hg : w.heap[g]? = some (.cells cur e fz)) (hfz : Unfroze cur fz)
  (a : Addr) (m c : Nat) (news : List Value) (hl : news.length = m) (hnews : ∀ j u, news[j]? = some u → w.cell? (a.add j) = some u) (h1 : ∀ u ∈ news, u.oneCell' = true)
  (hroom : sLen + m ≤ sCap) (hfit : sLen + news.length ≤ cur.size) :
  (Builtin.append_ #[t, t] ty #[.slice (some ⟨g, 0, none⟩) sLen sCap, .slice (some a) m c]).run P w =
   .ok (.slice (some ⟨g, 0, none⟩) (sLen + m) sCap) (w.setRow g (cur.toList.take sLen ++ news ++ cur.toList.drop (sLen + news.length)).toArray) := by
 have hf := run_firstCells_some (P := P) w i.size m a m c news (by rw [hs1, Nat.mul_one]; exact hl) hnews
 have hst := run_storeCells_atM P g sLen e fz news 0 cur w hg hfz (by simpa using hfit) h1
 simp only [Nat.add_zero] at hst
 rw [hs1] at hf
 simp [Builtin.append_, run_underlying ht, sizeOf, typeInfo, hi, hs1, Builtin.lenOf, hroom, hf, Addr.add_lit, hst]
theorem run_append_ownM (base : Nat) (t ty e : TypeId) (i : TypeInfo) (z : Value) (bytes : Nat) (ht : P.underlying t = some (.slice e)) (hi : P.info? e = some i) (hz : i.zero = some z)
  (hsize : i.size = 1) (hby : i.bytes = bytes) (hzs : z.cells.size = 1)
  (v : Value) (n : Nat) (xs : List Value) (hown : OwnsM w base e v n xs)
  (a : Addr) (m c : Nat) (news : List Value) (hl : news.length = m) (hnews : ∀ j u, news[j]? = some u → w.cell? (a.add j) = some u) (h1 : ∀ u ∈ news, u.oneCell' = true)
  (h63 : n + m ≤ maxLen) (hbytes : (n + m) * bytes ≤ 140737488355328) (hbase : base ≤ w.heap.size) :
  ∃ v' w', (Builtin.append_ #[t, t] ty #[v, .slice (some a) m c]).run P w = .ok v' w' ∧ OwnsM w' base e v' (n + m) (xs ++ news) ∧ w.grownBy w' v.ownBlock := by
 by_cases hplain : w.ownsRow base e 1 v n xs
 ·obtain ⟨v', w', hr, h2, h3, _⟩ := run_append_own (P := P) w base t ty e i z 1 bytes ht hi hz hsize hby hzs (by decide) v n xs hplain a m c news (by rw [Nat.mul_one]; exact hl) hnews h1 h63 hbytes hbase
  exact ⟨v', w', hr, OwnsM.of h2, h3⟩
 ·have hsmall : n + m ≤ 9223372036854775807 := by simp only [maxLen] at h63; omega
  have hlen : (xs ++ news).length = n + m := by rw [List.length_append, hown.1, hl]
  rcases hown.2 with ⟨rfl, rfl⟩ | ⟨g, cap, cur, fz, rfl, hbg, hg, hfz, hnc, hcm, hcs, htake⟩
  ·exact absurd ⟨by simpa using hown.1, .inl ⟨rfl, rfl⟩⟩ hplain
  ·by_cases hroom : n + m ≤ cap
   ·have hr := run_append_roomM (P := P) w t ty e i ht hi hsize g n cap cur fz hg hfz a m c news hl hnews h1 hroom (by omega)
    refine ⟨_, _, hr, ⟨hlen, .inr ⟨g, cap, _, fz, rfl, hbg, setRow_heap w g cur _ e _ hg, ?_, hroom, hcm, ?_, ?_⟩⟩, ⟨rfl, rfl, rfl, by simp, fun k _ hk => setRow_other w g k _ (fun e => hk (by simp [Value.ownBlock, e]))⟩⟩
    ·rcases hfz with h | h
     ·exact .inl h
     ·refine .inr ?_
      simp only [List.size_toArray, List.length_append, List.length_take, List.length_drop, Array.length_toList]
      omega
    ·simp only [List.size_toArray, List.length_append, List.length_take, List.length_drop, Array.length_toList]
     omega
    ·rw [htake, ← hlen]
     exact List.take_left
   ·have holds : ∀ j u, xs[j]? = some u → w.cell? ((⟨g, 0, none⟩ : Addr).add j) = some u := fun j u hu => by
     have hadd : (⟨g, 0, none⟩ : Addr).add j = ⟨g, j, none⟩ := by unfold Addr.add; split <;> simp_all
     rw [hadd]
     exact hown.cell rfl j u hu
    have hr := run_append_grow (P := P) w t ty e i z ht hi hz ⟨g, 0, none⟩ n cap xs (by rw [hsize, Nat.mul_one]; exact hown.1) holds a m c news (by rw [hsize, Nat.mul_one]; exact hl) hnews (by omega) (by omega) (by rw [hby]; exact growslice_fits (by omega) hbytes)
    refine ⟨_, _, hr, ?_, ⟨rfl, rfl, rfl, by simp, fun k hk _ => Below.heap_alloc w.drew _ k hk⟩⟩
    have hge := grownCap_ge w (n + m) cap e
    refine ⟨hlen, .inr ⟨w.heap.size, _, _, (0, 0), rfl, hbase, heap_alloc_new w.drew _, .inl rfl, hge, grownCap_le_maxLen w (n + m) cap e h63, ?_, ?_⟩⟩
    ·simp only [Array.size_append, List.size_toArray, size_zeroCells, hzs, hown.1, hl]
     omega
    ·simp only [Array.toList_append, List.append_assoc]
     rw [← List.append_assoc, ← hlen]
     exact List.take_left
theorem wpList_append_ownM {ops : Array Oper} {rest : List Oper} {o : Oper} {a : Act} {Q : Exit → Act → World → Prop} (hgd : o.guard = none) (s x : Operand) (t : TypeId)
  (ho : o.op = .call { callee := .builtin .append, args := #[s, x], argTypes := #[t, t] })
  (base : Nat) (e : TypeId) (i : TypeInfo) (z : Value) (bytes : Nat) (ht : P.underlying t = some (.slice e)) (hi : P.info? e = some i) (hz : i.zero = some z)
  (hsize : i.size = 1) (hby : i.bytes = bytes) (hzs : z.cells.size = 1)
  (v : Value) (n : Nat) (xs : List Value) (hs : a.eval s = v) (hown : OwnsM w base e v n xs)
  (ad : Addr) (m c : Nat) (news : List Value) (hx : a.eval x = .slice (some ad) m c) (hl : news.length = m) (hnews : ∀ j u, news[j]? = some u → w.cell? (ad.add j) = some u) (h1 : ∀ u ∈ news, u.oneCell' = true)
  (h63 : n + m ≤ maxLen) (hbytes : (n + m) * bytes ≤ 140737488355328) (hbase : base ≤ w.heap.size)
  (h : ∀ v' w', OwnsM w' base e v' (n + m) (xs ++ news) → w.grownBy w' v.ownBlock → wpList P ops Q rest (a.put o.dst v') w') : wpList P ops Q (o :: rest) a w := by
 refine wpList_plain hgd fun K hK => ?_
 obtain ⟨v', w', hr, h2, h3⟩ := run_append_ownM (P := P) w base t o.type e i z bytes ht hi hz hsize hby hzs v n xs hown ad m c news hl hnews h1 h63 hbytes hbase
 unfold Oper.wp execOp
 simp only [ho, resolve, invoke, builtin, Sem.run_bind, Sem.run_pure, Result.andThen_ok, List.map_toArray, List.map_cons, List.map_nil, hs, hx, hr]
 exact hK _ _ (h v' w' h2 h3)
theorem run_append_own_stringM (base : Nat) (t u ty e : TypeId) (i : TypeInfo) (ht : P.underlying t = some (.slice e)) (hu : P.underlying u = some .string) (hi : P.info? e = some i) (hz : i.zero = some (.int .u8 0))
  (hsize : i.size = 1) (hby : i.bytes = 1)
  (v : Value) (n : Nat) (xs : List Value) (hown : OwnsM w base e v n xs) (s : ByteArray)
  (h63 : n + s.size ≤ maxLen) (hbytes : n + s.size ≤ 140737488355328) (hbase : base ≤ w.heap.size) :
  ∃ v' w', (Builtin.append_ #[t, u] ty #[v, .string s]).run P w = .ok v' w' ∧ OwnsM w' base e v' (n + s.size) (xs ++ Lib.strCells s) ∧ w.grownBy w' v.ownBlock := by
 by_cases hplain : w.ownsRow base e 1 v n xs
 ·obtain ⟨v', w', h1, h2, h3, _⟩ := Lib.run_append_own_string (P := P) w base t u ty e i ht hu hi hz hsize hby v n xs hplain s h63 hbytes hbase
  exact ⟨v', w', h1, OwnsM.of h2, h3⟩
 ·rcases hown.2 with ⟨rfl, rfl⟩ | ⟨g, cap, cur, fz, rfl, hbg, hg, hfz, hnc, hcm, hcs, htake⟩
  ·exact absurd ⟨by simpa using hown.1, .inl ⟨rfl, rfl⟩⟩ hplain
  ·have hsmall : n + s.size ≤ 9223372036854775807 := by simp only [maxLen] at h63; omega
   have hxl := hown.1
   have hlen : (xs ++ Lib.strCells s).length = n + s.size := by rw [List.length_append, hxl, Lib.strCells_length]
   by_cases hroom : n + s.size ≤ cap
   ·have hr : (Builtin.append_ #[t, u] ty #[.slice (some ⟨g, 0, none⟩) n cap, .string s]).run P w =
      .ok (.slice (some ⟨g, 0, none⟩) (n + s.size) cap) (w.setRow g (cur.toList.take n ++ Lib.strCells s ++ cur.toList.drop (n + s.size)).toArray) := by
     have hf := Lib.run_firstCells_string (P := P) w 1 s
     have hst := run_storeCells_atM P g n e fz (Lib.strCells s) 0 cur w hg hfz (by rw [Lib.strCells_length]; omega) (Lib.strCells_oneCell s)
     simp only [Nat.add_zero, Lib.strCells_length] at hst
     simp [Builtin.append_, run_underlying ht, run_underlying hu, sizeOf, typeInfo, hi, hsize, Builtin.lenOf, hroom, hf, Addr.add_lit, hst]
    refine ⟨_, _, hr, ⟨hlen, .inr ⟨g, cap, _, fz, rfl, hbg, setRow_heap w g cur _ e _ hg, ?_, hroom, hcm, ?_, ?_⟩⟩, ⟨rfl, rfl, rfl, by simp, fun k _ hk => setRow_other w g k _ (fun e => hk (by simp [Value.ownBlock, e]))⟩⟩
    ·rcases hfz with h | h
     ·exact .inl h
     ·refine .inr ?_
      simp only [List.size_toArray, List.length_append, List.length_take, List.length_drop, Array.length_toList, Lib.strCells_length]
      omega
    ·simp only [List.size_toArray, List.length_append, List.length_take, List.length_drop, Array.length_toList, Lib.strCells_length]
     omega
    ·rw [htake, ← hlen]
     exact List.take_left
   ·have holds : ∀ j u, xs[j]? = some u → w.cell? ((⟨g, 0, none⟩ : Addr).add j) = some u := fun j u hu => by
     have hadd : (⟨g, 0, none⟩ : Addr).add j = ⟨g, j, none⟩ := by unfold Addr.add; split <;> simp_all
     rw [hadd]
     exact hown.cell rfl j u hu
    have hr := Lib.run_append_grow_string (P := P) w t u ty e i (.int .u8 0) ht hu hi hz ⟨g, 0, none⟩ n cap xs (by rw [hsize, Nat.mul_one]; exact hxl) holds s (by omega) (by omega) (by rw [hby]; exact growslice_fits (by omega) (by omega))
    have hge := grownCap_ge w (n + s.size) cap e
    refine ⟨_, _, hr, ⟨hlen, .inr ⟨w.heap.size, _, _, (0, 0), rfl, hbase, heap_alloc_new w.drew _, .inl rfl, hge, grownCap_le_maxLen w (n + s.size) cap e h63, ?_, ?_⟩⟩, ⟨rfl, rfl, rfl, by simp, fun k hk _ => Below.heap_alloc w.drew _ k hk⟩⟩
    ·have hz1 : (Value.int IntKind.u8 0).cells.size = 1 := rfl
     simp only [Array.size_append, List.size_toArray, size_zeroCells, hz1, hxl, Lib.strCells_length]
     omega
    ·simp only [Array.toList_append, List.append_assoc]
     rw [← List.append_assoc, ← hlen]
     exact List.take_left
theorem wpList_append_own_stringM {ops : Array Oper} {rest : List Oper} {o : Oper} {a : Act} {Q : Exit → Act → World → Prop} (hgd : o.guard = none) (sl x : Operand) (t u : TypeId)
  (ho : o.op = .call { callee := .builtin .append, args := #[sl, x], argTypes := #[t, u] })
  (base : Nat) (e : TypeId) (i : TypeInfo) (ht : P.underlying t = some (.slice e)) (hu : P.underlying u = some .string) (hi : P.info? e = some i) (hz : i.zero = some (.int .u8 0))
  (hsize : i.size = 1) (hby : i.bytes = 1)
  (v : Value) (n : Nat) (xs : List Value) (hs : a.eval sl = v) (hown : OwnsM w base e v n xs) (s : ByteArray) (hx : a.eval x = .string s)
  (h63 : n + s.size ≤ maxLen) (hbytes : n + s.size ≤ 140737488355328) (hbase : base ≤ w.heap.size)
  (h : ∀ v' w', OwnsM w' base e v' (n + s.size) (xs ++ Lib.strCells s) → w.grownBy w' v.ownBlock → wpList P ops Q rest (a.put o.dst v') w') : wpList P ops Q (o :: rest) a w := by
 refine wpList_plain hgd fun K hK => ?_
 obtain ⟨v', w', hr, h2, h3⟩ := run_append_own_stringM (P := P) w base t u o.type e i ht hu hi hz hsize hby v n xs hown s h63 hbytes hbase
 unfold Oper.wp execOp
 simp only [ho, resolve, invoke, builtin, Sem.run_bind, Sem.run_pure, Result.andThen_ok, List.map_toArray, List.map_cons, List.map_nil, hs, hx, hr]
 exact hK _ _ (h v' w' h2 h3)
end
end Go.Proofs.YtpcjbjpofcdjeaaGreatDoor.Mm
namespace Go.Proofs.YtpcjbjpofcdjeaaGreatDoor
open Go.RowKit Wd Mm
theorem bytesRow_size (s : ByteArray) (c : Nat) (h : s.size ≤ c) : (bytesRow s c).size = c := by
 simp [bytesRow]; omega
theorem convert_ownsM (w : World) (base : Nat) (s : ByteArray) (hb : base ≤ w.heap.size) (hs : s.size ≤ maxLen) :
  OwnsM (w.drew.alloc (.cells (bytesRow s (grownCap w s.size 0 5)) 5 ((bytesRow s (grownCap w s.size 0 5)).size, (bytesRow s (grownCap w s.size 0 5)).size + 1))) base 5
   (.slice (some ⟨w.heap.size, 0, none⟩) s.size (grownCap w s.size 0 5)) s.size (s.data.toList.map w8) := by
 have hge := grownCap_ge w s.size 0 5
 have hsz := bytesRow_size s _ hge
 refine ⟨by simp, .inr ⟨w.heap.size, _, _, _, rfl, hb, heap_alloc_new w.drew _, .inr (Nat.le_refl _), hge, grownCap_le_maxLen w _ _ _ hs, hsz, ?_⟩⟩
 apply List.ext_getElem?
 intro i
 rw [List.getElem?_take]
 by_cases hi : i < s.size
 ·rw [if_pos hi, Array.getElem?_toList, bytesRow_at s _ i hi]
  simp [hi, w8]
 ·rw [if_neg hi, List.getElem?_eq_none (by simp; omega)]
def lenV : Value → Nat
 | .slice _ l _ => l
 | _ => 0
theorem owns_len {w : World} {base n : Nat} {e : TypeId} {v : Value} {xs : List Value} (h : OwnsM w base e v n xs) : lenV v = n := by
 rcases h.2 with ⟨rfl, rfl⟩ | ⟨g, cap, cur, fz, rfl, _⟩ <;> rfl
theorem owns_slice {w : World} {base n : Nat} {e : TypeId} {v : Value} {xs : List Value} (h : OwnsM w base e v n xs) (h0 : 0 < n) : ∃ g cap, v = .slice (some ⟨g, 0, none⟩) n cap := by
 rcases h.2 with ⟨_, hz⟩ | ⟨g, cap, cur, fz, rfl, _⟩
 ·omega
 ·exact ⟨g, cap, rfl⟩
theorem convert_any (w : World) (s : ByteArray) (hs : s.size ≤ maxLen) :
  ∃ v0 w0, (convert 9 54 (.string s)).run Tryz.prog w = .ok v0 w0 ∧ OwnsM w0 w.heap.size 5 v0 s.size (s.data.toList.map w8) ∧ w.grownBy w0 none :=
 ⟨_, _, run_bytes_of_string (P := Tryz.prog) w 9 54 5 s Tryz.underlying9 Tryz.underlying54 Tryz.underlying5, convert_ownsM w _ s (Nat.le_refl _) hs, gb_alloc (gb_drew (gb_refl _ _)) _⟩
theorem owns_cap {w : World} {base n g cap : Nat} {e : TypeId} {xs : List Value} (h : OwnsM w base e (.slice (some ⟨g, 0, none⟩) n cap) n xs) : n ≤ cap ∧ cap ≤ maxLen := by
 rcases h.2 with ⟨h', _⟩ | ⟨g', cap', cur, fz, h', _, _, _, h1, h2, _⟩
 ·cases h'
 ·injection h' with _ _ h3
  subst h3
  exact ⟨h1, h2⟩
end Go.Proofs.YtpcjbjpofcdjeaaGreatDoor
namespace Go.Proofs.YtpcjbjpofcdjeaaGreatDoor
open Go
section
variable {P : Program} {ops : Array Oper} {W : World}
theorem still_of_quiet {o : Oper} {a : Act} {K K' : Act → Prop} (hk : ∀ a, K a → K' a) (h : o.quiet P a (fun w' => w' = W) K) : o.still P a W K' := by
 obtain ⟨v, h1, h2⟩ := h
 have h3 := h1 W rfl
 unfold Oper.quietAt at h3
 unfold Oper.still
 generalize (execOp a.eval o).run P W = r at *
 cases r with
 | ok n w' =>
  cases n <;> simp only [Oper.quietUpon, Oper.stillUpon] at h3 ⊢
  case value u => obtain ⟨rfl, rfl⟩ := h3; exact ⟨rfl, hk _ h2⟩
  case skip => obtain ⟨rfl, rfl⟩ := h3; exact ⟨rfl, hk _ h2⟩
  case enter f args => obtain ⟨rfl, h4⟩ := h3; exact ⟨rfl, v, h4, hk _ h2⟩
 | halt x w' => simp only [Oper.quietUpon] at h3
theorem wpStill_of_quiet {Q : Act → Prop} : ∀ (l : List Oper) (a : Act), wpQuiet P ops (fun w' => w' = W) Q l a → wpStill P ops W Q l a
 | [], _, h => h
 | o :: rest, a, h => by
  unfold wpQuiet at h
  unfold wpStill
  split
  ·rename_i hw
   rw [if_pos hw] at h
   exact still_of_quiet (wpStill_of_quiet rest) h
  ·rename_i hw
   rw [if_neg hw] at h
   exact wpStill_of_quiet rest _ h
end
theorem wp_region_quiet_tail {P : Program} {id : Nat} {Q : Exit → Act → World → Prop} {a : Act} {w : World} {l : List Oper} (n : Nat) (hm : P.follows .mixedOrders = true) (hB : Region.lexTailB .any l.toArray n = true)
  (h : wpQuiet P l.toArray (fun w' => w' = w.drew) (fun a' => wpList P l.toArray Q (l.drop n) a' w.drew) (l.take n) a) : (Code.region id l.toArray true).wp P Q a w :=
 wp_region_still_tail n hm hB (wpStill_of_quiet _ _ h)
end Go.Proofs.YtpcjbjpofcdjeaaGreatDoor
namespace Go.Proofs.YtpcjbjpofcdjeaaGreatDoor
open Go Go.RowKit
theorem qj {p : Prop} (h : p) : Hid p := h
abbrev Gn (a b : World) : Prop := a.grownBy b none
end Go.Proofs.YtpcjbjpofcdjeaaGreatDoor
