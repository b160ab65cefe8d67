/- Words of 32 bits and bytes as UInt32 and UInt8: plain lemmas, no program. -/
import Derived.WalkKit
import Derived.Laws.BitsAllLaws
namespace Go.Proofs.YtlpanplebagmbaaDoor.Wd
open Go

/-- A word, a byte as the model's value. -/
def w32 (x : UInt32) : Value := .int .u32 (x.toNat : Int)
def w8 (x : UInt8) : Value := .int .u8 (x.toNat : Int)

theorem lt32 (x : UInt32) : x.toNat < 4294967296 := x.toNat_lt
theorem lt8 (x : UInt8) : x.toNat < 256 := x.toNat_lt

theorem add32 (a b : UInt32) : IntKind.u32.wrap ((a.toNat : Int) + (b.toNat : Int)) = ((a + b).toNat : Int) := by
  rw [IntKind.wrap_u32', UInt32.toNat_add]; omega
theorem add32' (a b : UInt32) : ((a.toNat : Int) + (b.toNat : Int)) % 4294967296 = ((a + b).toNat : Int) := by
  rw [UInt32.toNat_add]; omega
theorem xor32 (a b : UInt32) : bits .xor .u32 (a.toNat : Int) (b.toNat : Int) = ((a ^^^ b).toNat : Int) := by
  rw [u32_xor_nat _ _ (lt32 a) (lt32 b), UInt32.toNat_xor]
theorem or32 (a b : UInt32) : bits .or .u32 (a.toNat : Int) (b.toNat : Int) = ((a ||| b).toNat : Int) := by
  rw [u32_or_nat _ _ (lt32 a) (lt32 b), UInt32.toNat_or]
theorem and32 (a b : UInt32) : bits .and .u32 (a.toNat : Int) (b.toNat : Int) = ((a &&& b).toNat : Int) := by
  rw [u32_and_nat _ _ (lt32 a) (lt32 b), UInt32.toNat_and]
theorem xor8 (a b : UInt8) : bits .xor .u8 (a.toNat : Int) (b.toNat : Int) = ((a ^^^ b).toNat : Int) := by
  rw [u8_xor_nat _ _ (lt8 a) (lt8 b), UInt8.toNat_xor]

/-- To the left, to the right by k bits. -/
theorem shl32 (a : UInt32) (k : Nat) (hk : k < 32) : (a.toNat : Int) * ((2 ^ k : Nat) : Int) % 4294967296 = ((a <<< (UInt32.ofNat k)).toNat : Int) := by
  rw [UInt32.toNat_shiftLeft, UInt32.toNat_ofNat', Nat.shiftLeft_eq, Nat.mod_eq_of_lt (a := k) (by omega), Nat.mod_eq_of_lt (a := k) (by omega)]
  omega
theorem shr32 (a : UInt32) (k : Nat) (hk : k < 32) : (a.toNat : Int) / ((2 ^ k : Nat) : Int) = ((a >>> (UInt32.ofNat k)).toNat : Int) := by
  rw [UInt32.toNat_shiftRight, UInt32.toNat_ofNat', Nat.shiftRight_eq_div_pow, Nat.mod_eq_of_lt (a := k) (by omega), Nat.mod_eq_of_lt (a := k) (by omega)]
  omega

/-- Sum and xor under names that simp does not open. -/
def pl (a b : UInt32) : UInt32 := a + b
def xo (a b : UInt32) : UInt32 := a ^^^ b
theorem pl_walk (a b : UInt32) : ((a.toNat : Int) + (b.toNat : Int)) % 4294967296 = ((pl a b).toNat : Int) := add32' a b
theorem xo_walk (a b : UInt32) : bits .xor .u32 (a.toNat : Int) (b.toNat : Int) = ((xo a b).toNat : Int) := xor32 a b

/-- Turned to the left by k bits. -/
def rotl (a : UInt32) (k : Nat) : UInt32 := a <<< (UInt32.ofNat k) ||| a >>> (UInt32.ofNat (32 - k))
theorem rotl_walk (a : UInt32) (k : Nat) (h0 : 0 < k) (hk : k < 32) :
    bits .or .u32 ((a.toNat : Int) * ((2 ^ k : Nat) : Int) % 4294967296) ((a.toNat : Int) / ((2 ^ (32 - k) : Nat) : Int)) = ((rotl a k).toNat : Int) := by
  rw [shl32 a k hk, shr32 a (32 - k) (by omega), or32]; rfl
theorem rotl_16 (a : UInt32) : bits .or .u32 ((a.toNat : Int) * 65536 % 4294967296) ((a.toNat : Int) / 65536) = ((rotl a 16).toNat : Int) := rotl_walk a 16 (by decide) (by decide)
theorem rotl_12 (a : UInt32) : bits .or .u32 ((a.toNat : Int) * 4096 % 4294967296) ((a.toNat : Int) / 1048576) = ((rotl a 12).toNat : Int) := rotl_walk a 12 (by decide) (by decide)
theorem rotl_8 (a : UInt32) : bits .or .u32 ((a.toNat : Int) * 256 % 4294967296) ((a.toNat : Int) / 16777216) = ((rotl a 8).toNat : Int) := rotl_walk a 8 (by decide) (by decide)
theorem rotl_7 (a : UInt32) : bits .or .u32 ((a.toNat : Int) * 128 % 4294967296) ((a.toNat : Int) / 33554432) = ((rotl a 7).toNat : Int) := rotl_walk a 7 (by decide) (by decide)

/-- The quarter round: what each of the four is behind it. -/
def qA1 (a b : UInt32) : UInt32 := pl a b
def qD1 (a b d : UInt32) : UInt32 := rotl (xo d (qA1 a b)) 16
def qC1 (a b c d : UInt32) : UInt32 := pl c (qD1 a b d)
def qB1 (a b c d : UInt32) : UInt32 := rotl (xo b (qC1 a b c d)) 12
def qA (a b c d : UInt32) : UInt32 := pl (qA1 a b) (qB1 a b c d)
def qD (a b c d : UInt32) : UInt32 := rotl (xo (qD1 a b d) (qA a b c d)) 8
def qC (a b c d : UInt32) : UInt32 := pl (qC1 a b c d) (qD a b c d)
def qB (a b c d : UInt32) : UInt32 := rotl (xo (qB1 a b c d) (qC a b c d)) 7

/-- A word out of four bytes, the lowest first; the one that begins at place i. -/
def le32 (a b c d : UInt8) : UInt32 := a.toUInt32 ||| b.toUInt32 <<< 8 ||| c.toUInt32 <<< 16 ||| d.toUInt32 <<< 24
def leAt (l : List UInt8) (i : Nat) : UInt32 := le32 (l.getD i 0) (l.getD (i + 1) 0) (l.getD (i + 2) 0) (l.getD (i + 3) 0)

theorem up32 (a : UInt8) : (a.toNat : Int) % 4294967296 = (a.toUInt32.toNat : Int) := by
  rw [UInt8.toNat_toUInt32]; have := lt8 a; omega
theorem le32_walk (a b c d : UInt8) : bits .or .u32 (bits .or .u32 (bits .or .u32 ((a.toNat : Int) % 4294967296) ((b.toNat : Int) % 4294967296 * 256 % 4294967296)) ((c.toNat : Int) % 4294967296 * 65536 % 4294967296)) ((d.toNat : Int) % 4294967296 * 16777216 % 4294967296) = ((le32 a b c d).toNat : Int) := by
  have h8 : (b.toUInt32.toNat : Int) * 256 % 4294967296 = _ := shl32 b.toUInt32 8 (by decide)
  have h16 : (c.toUInt32.toNat : Int) * 65536 % 4294967296 = _ := shl32 c.toUInt32 16 (by decide)
  have h24 : (d.toUInt32.toNat : Int) * 16777216 % 4294967296 = _ := shl32 d.toUInt32 24 (by decide)
  rw [up32, up32, up32, up32, h8, h16, h24, or32, or32, or32]; rfl
theorem get_data (s : ByteArray) (i : Nat) (h : i < s.size) : s[i] = s.data.toList.getD i 0 := by
  have h' : i < s.data.toList.length := by simpa using h
  rw [List.getD_eq_getElem?_getD, List.getElem?_eq_getElem h']
  simp [ByteArray.getElem_eq_getElem_data]

theorem ofInt32 (c : Int) : c % 4294967296 = ((UInt32.ofInt c).toNat : Int) := by
  unfold UInt32.ofInt; rw [UInt32.toNat_ofNat']; omega

/-- The sixteen words ahead of the rounds. -/
def opening : List UInt8 := [101, 120, 112, 97, 110, 100, 32, 51, 50, 45, 98, 121, 116, 101, 32, 107]
def initW (key nonce : List UInt8) (c : UInt32) : List UInt32 :=
  [leAt opening 0, leAt opening 4, leAt opening 8, leAt opening 12, leAt key 0, leAt key 4, leAt key 8, leAt key 12, leAt key 16, leAt key 20, leAt key 24, leAt key 28, c, leAt nonce 0, leAt nonce 4, leAt nonce 8]

/-- A quarter round at four places; the eight of a double round; so many double rounds. -/
def qrAt (l : List UInt32) (a b c d : Nat) : List UInt32 :=
  let A := l.getD a 0; let B := l.getD b 0; let C := l.getD c 0; let D := l.getD d 0
  (((l.set a (qA A B C D)).set b (qB A B C D)).set c (qC A B C D)).set d (qD A B C D)
def dbl (l : List UInt32) : List UInt32 :=
  qrAt (qrAt (qrAt (qrAt (qrAt (qrAt (qrAt (qrAt l 0 4 8 12) 1 5 9 13) 2 6 10 14) 3 7 11 15) 0 5 10 15) 1 6 11 12) 2 7 8 13) 3 4 9 14
def dbls (l : List UInt32) : Nat → List UInt32
  | 0 => l
  | k + 1 => dbl (dbls l k)
theorem qrAt_len (l : List UInt32) (a b c d : Nat) : (qrAt l a b c d).length = l.length := by simp [qrAt]
theorem dbl_len (l : List UInt32) : (dbl l).length = l.length := by simp [dbl, qrAt_len]
theorem dbls_len (l : List UInt32) (k : Nat) : (dbls l k).length = l.length := by
  induction k with
  | zero => rfl
  | succ k ih => rw [dbls, dbl_len, ih]
theorem qr0 (v0 v1 v2 v3 v4 v5 v6 v7 v8 v9 v10 v11 v12 v13 v14 v15 : UInt32) : qrAt [v0, v1, v2, v3, v4, v5, v6, v7, v8, v9, v10, v11, v12, v13, v14, v15] 0 4 8 12 = [qA v0 v4 v8 v12, v1, v2, v3, qB v0 v4 v8 v12, v5, v6, v7, qC v0 v4 v8 v12, v9, v10, v11, qD v0 v4 v8 v12, v13, v14, v15] := rfl
theorem qr1 (v0 v1 v2 v3 v4 v5 v6 v7 v8 v9 v10 v11 v12 v13 v14 v15 : UInt32) : qrAt [v0, v1, v2, v3, v4, v5, v6, v7, v8, v9, v10, v11, v12, v13, v14, v15] 1 5 9 13 = [v0, qA v1 v5 v9 v13, v2, v3, v4, qB v1 v5 v9 v13, v6, v7, v8, qC v1 v5 v9 v13, v10, v11, v12, qD v1 v5 v9 v13, v14, v15] := rfl
theorem qr2 (v0 v1 v2 v3 v4 v5 v6 v7 v8 v9 v10 v11 v12 v13 v14 v15 : UInt32) : qrAt [v0, v1, v2, v3, v4, v5, v6, v7, v8, v9, v10, v11, v12, v13, v14, v15] 2 6 10 14 = [v0, v1, qA v2 v6 v10 v14, v3, v4, v5, qB v2 v6 v10 v14, v7, v8, v9, qC v2 v6 v10 v14, v11, v12, v13, qD v2 v6 v10 v14, v15] := rfl
theorem qr3 (v0 v1 v2 v3 v4 v5 v6 v7 v8 v9 v10 v11 v12 v13 v14 v15 : UInt32) : qrAt [v0, v1, v2, v3, v4, v5, v6, v7, v8, v9, v10, v11, v12, v13, v14, v15] 3 7 11 15 = [v0, v1, v2, qA v3 v7 v11 v15, v4, v5, v6, qB v3 v7 v11 v15, v8, v9, v10, qC v3 v7 v11 v15, v12, v13, v14, qD v3 v7 v11 v15] := rfl
theorem qr4 (v0 v1 v2 v3 v4 v5 v6 v7 v8 v9 v10 v11 v12 v13 v14 v15 : UInt32) : qrAt [v0, v1, v2, v3, v4, v5, v6, v7, v8, v9, v10, v11, v12, v13, v14, v15] 0 5 10 15 = [qA v0 v5 v10 v15, v1, v2, v3, v4, qB v0 v5 v10 v15, v6, v7, v8, v9, qC v0 v5 v10 v15, v11, v12, v13, v14, qD v0 v5 v10 v15] := rfl
theorem qr5 (v0 v1 v2 v3 v4 v5 v6 v7 v8 v9 v10 v11 v12 v13 v14 v15 : UInt32) : qrAt [v0, v1, v2, v3, v4, v5, v6, v7, v8, v9, v10, v11, v12, v13, v14, v15] 1 6 11 12 = [v0, qA v1 v6 v11 v12, v2, v3, v4, v5, qB v1 v6 v11 v12, v7, v8, v9, v10, qC v1 v6 v11 v12, qD v1 v6 v11 v12, v13, v14, v15] := rfl
theorem qr6 (v0 v1 v2 v3 v4 v5 v6 v7 v8 v9 v10 v11 v12 v13 v14 v15 : UInt32) : qrAt [v0, v1, v2, v3, v4, v5, v6, v7, v8, v9, v10, v11, v12, v13, v14, v15] 2 7 8 13 = [v0, v1, qA v2 v7 v8 v13, v3, v4, v5, v6, qB v2 v7 v8 v13, qC v2 v7 v8 v13, v9, v10, v11, v12, qD v2 v7 v8 v13, v14, v15] := rfl
theorem qr7 (v0 v1 v2 v3 v4 v5 v6 v7 v8 v9 v10 v11 v12 v13 v14 v15 : UInt32) : qrAt [v0, v1, v2, v3, v4, v5, v6, v7, v8, v9, v10, v11, v12, v13, v14, v15] 3 4 9 14 = [v0, v1, v2, qA v3 v4 v9 v14, qB v3 v4 v9 v14, v5, v6, v7, v8, qC v3 v4 v9 v14, v10, v11, v12, v13, qD v3 v4 v9 v14, v15] := rfl
/-- The words behind all rounds, with what each was at first added. -/
def stir (l : List UInt32) : List UInt32 := List.zipWith pl (dbls l 10) l

theorem stir_len (l : List UInt32) : (stir l).length = l.length := by simp [stir, dbls_len]
theorem stir_get (l : List UInt32) (i : Nat) (h : i < l.length) : ((stir l).map w32).toArray[i]? = some (w32 (pl ((dbls l 10).getD i 0) (l.getD i 0))) := by
  have h1 : i < (dbls l 10).length := by rw [dbls_len]; exact h
  simp [stir, List.getElem?_zipWith, h, h1]
theorem words_get (l : List UInt32) (i : Nat) (h : i < l.length) : (l.map w32).toArray[i]? = some (.int .u32 ((l.getD i 0).toNat : Int)) := by
  simp [h, w32]

theorem sixteen (l : List UInt32) (h : l.length = 16) : ∃ x0 x1 x2 x3 x4 x5 x6 x7 x8 x9 x10 x11 x12 x13 x14 x15 : UInt32, l = [x0, x1, x2, x3, x4, x5, x6, x7, x8, x9, x10, x11, x12, x13, x14, x15] := by
  match l, h with
  | [x0, x1, x2, x3, x4, x5, x6, x7, x8, x9, x10, x11, x12, x13, x14, x15], _ => exact ⟨x0, x1, x2, x3, x4, x5, x6, x7, x8, x9, x10, x11, x12, x13, x14, x15, rfl⟩

/-- A byte of a word. -/
theorem byte0 (a : UInt32) : (a.toNat : Int) % 256 = (a.toUInt8.toNat : Int) := by
  rw [UInt32.toNat_toUInt8]; omega
theorem byteWrap (a : UInt32) : IntKind.u8.wrap (a.toNat : Int) = (a.toUInt8.toNat : Int) := by
  rw [IntKind.wrap_u8', byte0]

end Go.Proofs.YtlpanplebagmbaaDoor.Wd
