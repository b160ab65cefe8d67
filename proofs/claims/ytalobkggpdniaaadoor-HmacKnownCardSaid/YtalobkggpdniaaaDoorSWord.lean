/- The sum of 32 bytes as plain lists of words and bytes: no program. -/
import Derived.Test.YtalobkggpdniaaaDoorWord
import Derived.Test.YtalobkggpdniaaaDoorMem
import Derived.Lib.Hide
namespace Go.Proofs.YtalobkggpdniaaaDoor.Wd
open Go Mm

def an (a b : UInt32) : UInt32 := a &&& b
def nt (a : UInt32) : UInt32 := 4294967295 ^^^ a
def shr (a : UInt32) (k : Nat) : UInt32 := a >>> (UInt32.ofNat k)
theorem pl_wrap (a b : UInt32) : IntKind.u32.wrap ((a.toNat : Int) + (b.toNat : Int)) = ((pl a b).toNat : Int) := add32 a b
theorem an_walk (a b : UInt32) : bits .and .u32 (a.toNat : Int) (b.toNat : Int) = ((an a b).toNat : Int) := and32 a b
theorem shr3_walk (a : UInt32) : (a.toNat : Int) / 8 = ((shr a 3).toNat : Int) := shr32 a 3 (by decide)
theorem shr10_walk (a : UInt32) : (a.toNat : Int) / 1024 = ((shr a 10).toNat : Int) := shr32 a 10 (by decide)
theorem nt_walk (a : UInt32) : bits .xor .u32 (if IntKind.u32.signed = true then -1 else IntKind.u32.max) (a.toNat : Int) = ((nt a).toNat : Int) := by
  have e : (if IntKind.u32.signed = true then (-1 : Int) else IntKind.u32.max) = ((4294967295 : UInt32).toNat : Int) := by decide
  rw [e, xor32]; rfl

def far (x : UInt32) : UInt32 := xo (xo (rotl x 25) (rotl x 14)) (shr x 3)
def near (x : UInt32) : UInt32 := xo (xo (rotl x 15) (rotl x 13)) (shr x 10)
def low (x : UInt32) : UInt32 := xo (xo (rotl x 26) (rotl x 21)) (rotl x 7)
def high (x : UInt32) : UInt32 := xo (xo (rotl x 30) (rotl x 19)) (rotl x 10)
def pick (e f g : UInt32) : UInt32 := xo (an e f) (an (nt e) g)
def most (a b c : UInt32) : UInt32 := xo (xo (an a b) (an a c)) (an b c)

/-- A word out of four bytes, the highest first. -/
def be32 (a b c d : UInt8) : UInt32 := a.toUInt32 <<< 24 ||| b.toUInt32 <<< 16 ||| c.toUInt32 <<< 8 ||| d.toUInt32
def beAt (l : List UInt8) (i : Nat) : UInt32 := be32 (l.getD i 0) (l.getD (i + 1) 0) (l.getD (i + 2) 0) (l.getD (i + 3) 0)
theorem be32_walk (a b c d : UInt8) : bits .or .u32 (bits .or .u32 (bits .or .u32 ((a.toNat : Int) % 4294967296 * 16777216 % 4294967296) ((b.toNat : Int) % 4294967296 * 65536 % 4294967296)) ((c.toNat : Int) % 4294967296 * 256 % 4294967296)) ((d.toNat : Int) % 4294967296) = ((be32 a b c d).toNat : Int) := by
  have h8 : (c.toUInt32.toNat : Int) * 256 % 4294967296 = _ := shl32 c.toUInt32 8 (by decide)
  have h16 : (b.toUInt32.toNat : Int) * 65536 % 4294967296 = _ := shl32 b.toUInt32 16 (by decide)
  have h24 : (a.toUInt32.toNat : Int) * 16777216 % 4294967296 = _ := shl32 a.toUInt32 24 (by decide)
  rw [up32, up32, up32, up32, h8, h16, h24, or32, or32, or32]; rfl

/-- The sixty-four words of a block. -/
def nextW (l : List UInt32) (i : Nat) : UInt32 := pl (pl (pl (l.getD (i - 16) 0) (l.getD (i - 7) 0)) (far (l.getD (i - 15) 0))) (near (l.getD (i - 2) 0))
def sched (b : List UInt8) : Nat → List UInt32
  | 0 => (List.range 16).map fun i => beAt b (4 * i)
  | k + 1 => sched b k ++ [nextW (sched b k) (16 + k)]
def wS (b : List UInt8) : List UInt32 := sched b 48
theorem sched_len (b : List UInt8) (k : Nat) : (sched b k).length = 16 + k := by
  induction k with
  | zero => simp [sched]
  | succ k ih => simp [sched, ih]; omega
theorem wS_len (b : List UInt8) : (wS b).length = 64 := sched_len b 48
theorem sched_more (b : List UInt8) (k m i : Nat) (hi : i < 16 + k) : (sched b (k + m)).getD i 0 = (sched b k).getD i 0 := by
  induction m with
  | zero => rfl
  | succ m ih =>
    rw [← ih, show k + (m + 1) = k + m + 1 by omega, sched]
    simp only [List.getD_eq_getElem?_getD]
    rw [List.getElem?_append_left (by rw [sched_len]; omega)]
theorem wS_low (b : List UInt8) (i : Nat) (hi : i < 16) : (wS b).getD i 0 = beAt b (4 * i) := by
  have := sched_more b 0 48 i (by omega)
  rw [show wS b = sched b (0 + 48) from rfl, this]
  simp [sched, hi]
theorem sched_high (b : List UInt8) (N i : Nat) (h1 : 16 ≤ i) (h2 : i < 16 + N) : (sched b N).getD i 0 = nextW (sched b N) i := by
  obtain ⟨k, rfl⟩ : ∃ k, i = 16 + k := ⟨i - 16, by omega⟩
  obtain ⟨m, rfl⟩ : ∃ m, N = k + 1 + m := ⟨N - (k + 1), by omega⟩
  have h := sched_more b (k + 1) m (16 + k) (by omega)
  have hx : (sched b (k + 1)).getD (16 + k) 0 = nextW (sched b k) (16 + k) := by
    rw [sched]
    simp only [List.getD_eq_getElem?_getD]
    rw [List.getElem?_append_right (by rw [sched_len]; omega), sched_len]
    simp
  rw [h, hx]
  have e : k + 1 + m = k + (1 + m) := by omega
  unfold nextW
  rw [e, sched_more b k (1 + m) (16 + k - 16) (by omega), sched_more b k (1 + m) (16 + k - 7) (by omega), sched_more b k (1 + m) (16 + k - 15) (by omega), sched_more b k (1 + m) (16 + k - 2) (by omega)]
theorem wS_high (b : List UInt8) (i : Nat) (h1 : 16 ≤ i) (h2 : i < 64) : (wS b).getD i 0 = nextW (wS b) i := sched_high b 48 i h1 h2

/-- The eight words within the rounds. -/
structure St where
  (a b c d e f g h : UInt32)
def St.of (l : List UInt32) : St := ⟨l.getD 0 0, l.getD 1 0, l.getD 2 0, l.getD 3 0, l.getD 4 0, l.getD 5 0, l.getD 6 0, l.getD 7 0⟩
def St.list (s : St) : List UInt32 := [s.a, s.b, s.c, s.d, s.e, s.f, s.g, s.h]
def tOf (s : St) (k w : UInt32) : UInt32 := pl (pl (pl (pl s.h (low s.e)) (pick s.e s.f s.g)) k) w
def uOf (s : St) : UInt32 := pl (high s.a) (most s.a s.b s.c)
def rnd (s : St) (k w : UInt32) : St := ⟨pl (tOf s k w) (uOf s), s.a, s.b, s.c, pl s.d (tOf s k w), s.e, s.f, s.g⟩
def konst : List UInt32 := [
  0x428a2f98, 0x71374491, 0xb5c0fbcf, 0xe9b5dba5, 0x3956c25b, 0x59f111f1, 0x923f82a4, 0xab1c5ed5, 0xd807aa98, 0x12835b01, 0x243185be, 0x550c7dc3, 0x72be5d74, 0x80deb1fe, 0x9bdc06a7, 0xc19bf174,
  0xe49b69c1, 0xefbe4786, 0x0fc19dc6, 0x240ca1cc, 0x2de92c6f, 0x4a7484aa, 0x5cb0a9dc, 0x76f988da, 0x983e5152, 0xa831c66d, 0xb00327c8, 0xbf597fc7, 0xc6e00bf3, 0xd5a79147, 0x06ca6351, 0x14292967,
  0x27b70a85, 0x2e1b2138, 0x4d2c6dfc, 0x53380d13, 0x650a7354, 0x766a0abb, 0x81c2c92e, 0x92722c85, 0xa2bfe8a1, 0xa81a664b, 0xc24b8b70, 0xc76c51a3, 0xd192e819, 0xd6990624, 0xf40e3585, 0x106aa070,
  0x19a4c116, 0x1e376c08, 0x2748774c, 0x34b0bcb5, 0x391c0cb3, 0x4ed8aa4a, 0x5b9cca4f, 0x682e6ff3, 0x748f82ee, 0x78a5636f, 0x84c87814, 0x8cc70208, 0x90befffa, 0xa4506ceb, 0xbef9a3f7, 0xc67178f2]
def rnds (s : St) (ws : List UInt32) : Nat → St
  | 0 => s
  | i + 1 => rnd (rnds s ws i) (konst.getD i 0) (ws.getD i 0)
/-- The eight words behind a block. -/
def comp (l : List UInt32) (b : List UInt8) : List UInt32 := List.zipWith pl l (rnds (St.of l) (wS b) 64).list
theorem comp_len (l : List UInt32) (b : List UInt8) (h : l.length = 8) : (comp l b).length = 8 := by simp [comp, St.list, h]

def firstH : List UInt32 := [0x6a09e667, 0xbb67ae85, 0x3c6ef372, 0xa54ff53a, 0x510e527f, 0x9b05688c, 0x1f83d9ab, 0x5be0cd19]
/-- The words behind the first so many blocks of p. -/
def runB (p : List UInt8) : Nat → List UInt32
  | 0 => firstH
  | j + 1 => comp (runB p j) ((p.drop (64 * j)).take 64)
theorem runB_len (p : List UInt8) (j : Nat) : (runB p j).length = 8 := by
  induction j with
  | zero => rfl
  | succ j ih => exact comp_len _ _ ih
theorem runB_app (p x : List UInt8) (j : Nat) (h : 64 * j ≤ p.length) : runB (p ++ x) j = runB p j := by
  induction j with
  | zero => rfl
  | succ j ih =>
    rw [runB, runB, ih (by omega)]
    congr 1
    rw [List.drop_append_of_le_length (by omega), List.take_append_of_le_length (by rw [List.length_drop]; omega)]

/-- A number's bytes, the highest first. -/
def highB (n : Nat) (m i : Nat) : UInt8 := UInt8.ofNat (n / 256 ^ (m - 1 - i))
def beBytes (n m : Nat) : List UInt8 := (List.range m).map (highB n m)
theorem beBytes_len (n m : Nat) : (beBytes n m).length = m := by simp [beBytes]
theorem beBytes_getD (n m i : Nat) (h : i < m) : (beBytes n m).getD i 0 = highB n m i := by simp [beBytes, h]

/-- What stands behind the bytes. -/
def tailB (n : Nat) : List UInt8 := 128 :: (List.replicate ((119 - n % 64) % 64) 0 ++ beBytes (8 * n % 18446744073709551616) 8)
def padB (m : List UInt8) : List UInt8 := m ++ tailB m.length
theorem tailB_len (n : Nat) : (n + (tailB n).length) % 64 = 0 := by
  simp only [tailB, List.length_cons, List.length_append, List.length_replicate, beBytes_len]
  omega
/-- The sum. -/
def tellF (l : List UInt32) (i : Nat) : UInt8 := highB (l.getD (i / 4) 0).toNat 4 (i % 4)
def tellB (l : List UInt32) : List UInt8 := (List.range 32).map (tellF l)
theorem tellB_len (l : List UInt32) : (tellB l).length = 32 := by simp [tellB]
def shaS (m : List UInt8) : List UInt8 := tellB (runB (padB m) ((padB m).length / 64))
end Go.Proofs.YtalobkggpdniaaaDoor.Wd
