/- The sum of 32 bytes as plain lists of words and bytes: no program. Small functions of sha and of the document's sum: what each call answers. sha.putHigh: a number's bytes, the highest first. sha.spread: the sixty-four words of a block. The cells of a running sum; the two tables. sha.take: the words behind a block. sha.told: the words' bytes. Bytes written into a running sum's block: plain laws, and two of the builtins. sha.end: the mark, the noughts, the count. sha.add: bytes taken behind those that were taken. What the words are behind the end is what the sum asks: plain lists. sha.Sum: the sum of all parts. What sha's texts share. What a statement's arguments hold (texts, bytes): plain laws. -/
import Derived.Lib.Hide
import Derived.Test.YtpcjbjpofcdjeaaGreatDoorRows
import Derived.WalkSpells
import Derived.WalkLawsBesides
import Derived.BigRegion
import Derived.StillTailTactics
import Derived.IntWalk
import Derived.Test.YtpcjbjpofcdjeaaGreatDoorTdAq
import Derived.Laws.CopyOwn
import Derived.Deep.OwnRows
import Derived.Deep.RegionWith
import Derived.Outline
import Derived.Deep.QuietTactic
import Derived.Deep.MidRow
import Derived.SliceStrings
set_option maxHeartbeats 4000000
set_option maxRecDepth 100000
namespace Go.Proofs.YtpcjbjpofcdjeaaGreatDoor.Wd
open Go Mm
def an (a b : UInt32) : UInt32 := a &&& b
def nt (a : UInt32) : UInt32 := 4294967295 ^^^ a
def shr (a : UInt32) (k : Nat) : UInt32 := a >>> (UInt32.ofNat k)
theorem pl_wrap (a b : UInt32) : IntKind.u32.wrap ((a.toNat : Int) + (b.toNat : Int)) = ((pl a b).toNat : Int) := add32 a b
theorem an_walk (a b : UInt32) : bits .and .u32 (a.toNat : Int) (b.toNat : Int) = ((an a b).toNat : Int) := and32 a b
theorem shr3_walk (a : UInt32) : (a.toNat : Int) / 8 = ((shr a 3).toNat : Int) := shr32 a 3 (by decide)
theorem shr10_walk (a : UInt32) : (a.toNat : Int) / 1024 = ((shr a 10).toNat : Int) := shr32 a 10 (by decide)
theorem nt_walk (a : UInt32) : bits .xor .u32 (if IntKind.u32.signed = true then -1 else IntKind.u32.max) (a.toNat : Int) = ((nt a).toNat : Int) := by
 have e : (if IntKind.u32.signed = true then (-1 : Int) else IntKind.u32.max) = ((4294967295 : UInt32).toNat : Int) := by decide
 rw [e, xor32]; rfl
def far (x : UInt32) : UInt32 := xo (xo (rotl x 25) (rotl x 14)) (shr x 3)
def near (x : UInt32) : UInt32 := xo (xo (rotl x 15) (rotl x 13)) (shr x 10)
def low (x : UInt32) : UInt32 := xo (xo (rotl x 26) (rotl x 21)) (rotl x 7)
def high (x : UInt32) : UInt32 := xo (xo (rotl x 30) (rotl x 19)) (rotl x 10)
def pick (e f g : UInt32) : UInt32 := xo (an e f) (an (nt e) g)
def most (a b c : UInt32) : UInt32 := xo (xo (an a b) (an a c)) (an b c)
def be32 (a b c d : UInt8) : UInt32 := a.toUInt32 <<< 24 ||| b.toUInt32 <<< 16 ||| c.toUInt32 <<< 8 ||| d.toUInt32
def beAt (l : List UInt8) (i : Nat) : UInt32 := be32 (l.getD i 0) (l.getD (i + 1) 0) (l.getD (i + 2) 0) (l.getD (i + 3) 0)
theorem be32_walk (a b c d : UInt8) : bits .or .u32 (bits .or .u32 (bits .or .u32 ((a.toNat : Int) % 4294967296 * 16777216 % 4294967296) ((b.toNat : Int) % 4294967296 * 65536 % 4294967296)) ((c.toNat : Int) % 4294967296 * 256 % 4294967296)) ((d.toNat : Int) % 4294967296) = ((be32 a b c d).toNat : Int) := by
 have h8 : (c.toUInt32.toNat : Int) * 256 % 4294967296 = _ := shl32 c.toUInt32 8 (by decide)
 have h16 : (b.toUInt32.toNat : Int) * 65536 % 4294967296 = _ := shl32 b.toUInt32 16 (by decide)
 have h24 : (a.toUInt32.toNat : Int) * 16777216 % 4294967296 = _ := shl32 a.toUInt32 24 (by decide)
 rw [up32, up32, up32, up32, h8, h16, h24, or32, or32, or32]; rfl
def nextW (l : List UInt32) (i : Nat) : UInt32 := pl (pl (pl (l.getD (i - 16) 0) (l.getD (i - 7) 0)) (far (l.getD (i - 15) 0))) (near (l.getD (i - 2) 0))
def sched (b : List UInt8) : Nat → List UInt32
 | 0 => (List.range 16).map fun i => beAt b (4 * i)
 | k + 1 => sched b k ++ [nextW (sched b k) (16 + k)]
def wS (b : List UInt8) : List UInt32 := sched b 48
theorem sched_len (b : List UInt8) (k : Nat) : (sched b k).length = 16 + k := by
 induction k with
 | zero => simp [sched]
 | succ k ih => simp [sched, ih]; omega
theorem wS_len (b : List UInt8) : (wS b).length = 64 := sched_len b 48
theorem sched_more (b : List UInt8) (k m i : Nat) (hi : i < 16 + k) : (sched b (k + m)).getD i 0 = (sched b k).getD i 0 := by
 induction m with
 | zero => rfl
 | succ m ih =>
  rw [← ih, show k + (m + 1) = k + m + 1 by omega, sched]
  simp only [List.getD_eq_getElem?_getD]
  rw [List.getElem?_append_left (by rw [sched_len]; omega)]
theorem wS_low (b : List UInt8) (i : Nat) (hi : i < 16) : (wS b).getD i 0 = beAt b (4 * i) := by
 have := sched_more b 0 48 i (by omega)
 rw [show wS b = sched b (0 + 48) from rfl, this]
 simp [sched, hi]
theorem sched_high (b : List UInt8) (N i : Nat) (h1 : 16 ≤ i) (h2 : i < 16 + N) : (sched b N).getD i 0 = nextW (sched b N) i := by
 obtain ⟨k, rfl⟩ : ∃ k, i = 16 + k := ⟨i - 16, by omega⟩
 obtain ⟨m, rfl⟩ : ∃ m, N = k + 1 + m := ⟨N - (k + 1), by omega⟩
 have h := sched_more b (k + 1) m (16 + k) (by omega)
 have hx : (sched b (k + 1)).getD (16 + k) 0 = nextW (sched b k) (16 + k) := by
  rw [sched]
  simp only [List.getD_eq_getElem?_getD]
  rw [List.getElem?_append_right (by rw [sched_len]; omega), sched_len]
  simp
 rw [h, hx]
 have e : k + 1 + m = k + (1 + m) := by omega
 unfold nextW
 rw [e, sched_more b k (1 + m) (16 + k - 16) (by omega), sched_more b k (1 + m) (16 + k - 7) (by omega), sched_more b k (1 + m) (16 + k - 15) (by omega), sched_more b k (1 + m) (16 + k - 2) (by omega)]
theorem wS_high (b : List UInt8) (i : Nat) (h1 : 16 ≤ i) (h2 : i < 64) : (wS b).getD i 0 = nextW (wS b) i := sched_high b 48 i h1 h2
structure St where
 (a b c d e f g h : UInt32)
def St.of (l : List UInt32) : St := ⟨l.getD 0 0, l.getD 1 0, l.getD 2 0, l.getD 3 0, l.getD 4 0, l.getD 5 0, l.getD 6 0, l.getD 7 0⟩
def St.list (s : St) : List UInt32 := [s.a, s.b, s.c, s.d, s.e, s.f, s.g, s.h]
def tOf (s : St) (k w : UInt32) : UInt32 := pl (pl (pl (pl s.h (low s.e)) (pick s.e s.f s.g)) k) w
def uOf (s : St) : UInt32 := pl (high s.a) (most s.a s.b s.c)
def rnd (s : St) (k w : UInt32) : St := ⟨pl (tOf s k w) (uOf s), s.a, s.b, s.c, pl s.d (tOf s k w), s.e, s.f, s.g⟩
def konst : List UInt32 := [
 0x428a2f98, 0x71374491, 0xb5c0fbcf, 0xe9b5dba5, 0x3956c25b, 0x59f111f1, 0x923f82a4, 0xab1c5ed5, 0xd807aa98, 0x12835b01, 0x243185be, 0x550c7dc3, 0x72be5d74, 0x80deb1fe, 0x9bdc06a7, 0xc19bf174,
 0xe49b69c1, 0xefbe4786, 0x0fc19dc6, 0x240ca1cc, 0x2de92c6f, 0x4a7484aa, 0x5cb0a9dc, 0x76f988da, 0x983e5152, 0xa831c66d, 0xb00327c8, 0xbf597fc7, 0xc6e00bf3, 0xd5a79147, 0x06ca6351, 0x14292967,
 0x27b70a85, 0x2e1b2138, 0x4d2c6dfc, 0x53380d13, 0x650a7354, 0x766a0abb, 0x81c2c92e, 0x92722c85, 0xa2bfe8a1, 0xa81a664b, 0xc24b8b70, 0xc76c51a3, 0xd192e819, 0xd6990624, 0xf40e3585, 0x106aa070,
 0x19a4c116, 0x1e376c08, 0x2748774c, 0x34b0bcb5, 0x391c0cb3, 0x4ed8aa4a, 0x5b9cca4f, 0x682e6ff3, 0x748f82ee, 0x78a5636f, 0x84c87814, 0x8cc70208, 0x90befffa, 0xa4506ceb, 0xbef9a3f7, 0xc67178f2]
def rnds (s : St) (ws : List UInt32) : Nat → St
 | 0 => s
 | i + 1 => rnd (rnds s ws i) (konst.getD i 0) (ws.getD i 0)
def comp (l : List UInt32) (b : List UInt8) : List UInt32 := List.zipWith pl l (rnds (St.of l) (wS b) 64).list
theorem comp_len (l : List UInt32) (b : List UInt8) (h : l.length = 8) : (comp l b).length = 8 := by simp [comp, St.list, h]
def firstH : List UInt32 := [0x6a09e667, 0xbb67ae85, 0x3c6ef372, 0xa54ff53a, 0x510e527f, 0x9b05688c, 0x1f83d9ab, 0x5be0cd19]
def runB (p : List UInt8) : Nat → List UInt32
 | 0 => firstH
 | j + 1 => comp (runB p j) ((p.drop (64 * j)).take 64)
theorem runB_len (p : List UInt8) (j : Nat) : (runB p j).length = 8 := by
 induction j with
 | zero => rfl
 | succ j ih => exact comp_len _ _ ih
theorem runB_app (p x : List UInt8) (j : Nat) (h : 64 * j ≤ p.length) : runB (p ++ x) j = runB p j := by
 induction j with
 | zero => rfl
 | succ j ih =>
  rw [runB, runB, ih (by omega)]
  congr 1
  rw [List.drop_append_of_le_length (by omega), List.take_append_of_le_length (by rw [List.length_drop]; omega)]
def highB (n : Nat) (m i : Nat) : UInt8 := UInt8.ofNat (n / 256 ^ (m - 1 - i))
def beBytes (n m : Nat) : List UInt8 := (List.range m).map (highB n m)
theorem beBytes_len (n m : Nat) : (beBytes n m).length = m := by simp [beBytes]
theorem beBytes_getD (n m i : Nat) (h : i < m) : (beBytes n m).getD i 0 = highB n m i := by simp [beBytes, h]
def tailB (n : Nat) : List UInt8 := 128 :: (List.replicate ((119 - n % 64) % 64) 0 ++ beBytes (8 * n % 18446744073709551616) 8)
def padB (m : List UInt8) : List UInt8 := m ++ tailB m.length
theorem tailB_len (n : Nat) : (n + (tailB n).length) % 64 = 0 := by
 simp only [tailB, List.length_cons, List.length_append, List.length_replicate, beBytes_len]
 omega
def tellF (l : List UInt32) (i : Nat) : UInt8 := highB (l.getD (i / 4) 0).toNat 4 (i % 4)
def tellB (l : List UInt32) : List UInt8 := (List.range 32).map (tellF l)
theorem tellB_len (l : List UInt32) : (tellB l).length = 32 := by simp [tellB]
def shaS (m : List UInt8) : List UInt8 := tellB (runB (padB m) ((padB m).length / 64))
end Go.Proofs.YtpcjbjpofcdjeaaGreatDoor.Wd
namespace Go.Proofs.YtpcjbjpofcdjeaaGreatDoor.Hh
open Go.RowKit Wd
theorem ret_u32 {a b : Int} (h : a = b) : Ending.returned (.int .u32 a) = .returned (.int .u32 b) := by rw [h]
theorem rotl_30 (a : UInt32) : bits .or .u32 ((a.toNat : Int) * 1073741824 % 4294967296) ((a.toNat : Int) / 4) = ((rotl a 30).toNat : Int) := rotl_walk a 30 (by decide) (by decide)
theorem rot_2 (a : UInt32) (w : World) :
  Calls Tryz.prog 186 #[.int .u32 a.toNat, .int .i64 (-2)] w fun e w' => e = .returned (.int .u32 (rotl a 30).toNat) ∧ w = w' := by
 have h : bits BinOp.and IntKind.u64 (IntKind.u64.wrap (-2)) 31 = 30 := by decide
 go_enter Tryz.func186, Tryz.ntmps186
 go_wp2
 go_ret
 exact ⟨ret_u32 (rotl_30 a), rfl⟩
theorem turned_2 (a : UInt32) (w : World) :
  Calls Tryz.prog 185 #[.int .u32 a.toNat, .int .i64 2] w fun e w' => e = .returned (.int .u32 (rotl a 30).toNat) ∧ w = w' := by
 go_enter Tryz.func185, Tryz.ntmps185
 go_wp2_with fail
 refine (rot_2 _ _).mono ?_; rintro e w' ⟨rfl, rfl⟩
 go_wp2_with fail
 go_ret
 exact ⟨rfl, rfl⟩
theorem left_30 (a : UInt32) (w : World) :
  Calls Tryz.prog 99 #[.int .u32 a.toNat, .int .u64 30] w fun e w' => e = .returned (.int .u32 (rotl a 30).toNat) ∧ w = w' := by
 go_enter Tryz.func99, Tryz.ntmps99
 go_wp2
 go_ret
 exact ⟨ret_u32 (rotl_30 a), rfl⟩
theorem rotl_26 (a : UInt32) : bits .or .u32 ((a.toNat : Int) * 67108864 % 4294967296) ((a.toNat : Int) / 64) = ((rotl a 26).toNat : Int) := rotl_walk a 26 (by decide) (by decide)
theorem rot_6 (a : UInt32) (w : World) :
  Calls Tryz.prog 186 #[.int .u32 a.toNat, .int .i64 (-6)] w fun e w' => e = .returned (.int .u32 (rotl a 26).toNat) ∧ w = w' := by
 have h : bits BinOp.and IntKind.u64 (IntKind.u64.wrap (-6)) 31 = 26 := by decide
 go_enter Tryz.func186, Tryz.ntmps186
 go_wp2
 go_ret
 exact ⟨ret_u32 (rotl_26 a), rfl⟩
theorem turned_6 (a : UInt32) (w : World) :
  Calls Tryz.prog 185 #[.int .u32 a.toNat, .int .i64 6] w fun e w' => e = .returned (.int .u32 (rotl a 26).toNat) ∧ w = w' := by
 go_enter Tryz.func185, Tryz.ntmps185
 go_wp2_with fail
 refine (rot_6 _ _).mono ?_; rintro e w' ⟨rfl, rfl⟩
 go_wp2_with fail
 go_ret
 exact ⟨rfl, rfl⟩
theorem left_26 (a : UInt32) (w : World) :
  Calls Tryz.prog 99 #[.int .u32 a.toNat, .int .u64 26] w fun e w' => e = .returned (.int .u32 (rotl a 26).toNat) ∧ w = w' := by
 go_enter Tryz.func99, Tryz.ntmps99
 go_wp2
 go_ret
 exact ⟨ret_u32 (rotl_26 a), rfl⟩
theorem rotl_25 (a : UInt32) : bits .or .u32 ((a.toNat : Int) * 33554432 % 4294967296) ((a.toNat : Int) / 128) = ((rotl a 25).toNat : Int) := rotl_walk a 25 (by decide) (by decide)
theorem rot_7 (a : UInt32) (w : World) :
  Calls Tryz.prog 186 #[.int .u32 a.toNat, .int .i64 (-7)] w fun e w' => e = .returned (.int .u32 (rotl a 25).toNat) ∧ w = w' := by
 have h : bits BinOp.and IntKind.u64 (IntKind.u64.wrap (-7)) 31 = 25 := by decide
 go_enter Tryz.func186, Tryz.ntmps186
 go_wp2
 go_ret
 exact ⟨ret_u32 (rotl_25 a), rfl⟩
theorem turned_7 (a : UInt32) (w : World) :
  Calls Tryz.prog 185 #[.int .u32 a.toNat, .int .i64 7] w fun e w' => e = .returned (.int .u32 (rotl a 25).toNat) ∧ w = w' := by
 go_enter Tryz.func185, Tryz.ntmps185
 go_wp2_with fail
 refine (rot_7 _ _).mono ?_; rintro e w' ⟨rfl, rfl⟩
 go_wp2_with fail
 go_ret
 exact ⟨rfl, rfl⟩
theorem left_25 (a : UInt32) (w : World) :
  Calls Tryz.prog 99 #[.int .u32 a.toNat, .int .u64 25] w fun e w' => e = .returned (.int .u32 (rotl a 25).toNat) ∧ w = w' := by
 go_enter Tryz.func99, Tryz.ntmps99
 go_wp2
 go_ret
 exact ⟨ret_u32 (rotl_25 a), rfl⟩
theorem rotl_21 (a : UInt32) : bits .or .u32 ((a.toNat : Int) * 2097152 % 4294967296) ((a.toNat : Int) / 2048) = ((rotl a 21).toNat : Int) := rotl_walk a 21 (by decide) (by decide)
theorem rot_11 (a : UInt32) (w : World) :
  Calls Tryz.prog 186 #[.int .u32 a.toNat, .int .i64 (-11)] w fun e w' => e = .returned (.int .u32 (rotl a 21).toNat) ∧ w = w' := by
 have h : bits BinOp.and IntKind.u64 (IntKind.u64.wrap (-11)) 31 = 21 := by decide
 go_enter Tryz.func186, Tryz.ntmps186
 go_wp2
 go_ret
 exact ⟨ret_u32 (rotl_21 a), rfl⟩
theorem turned_11 (a : UInt32) (w : World) :
  Calls Tryz.prog 185 #[.int .u32 a.toNat, .int .i64 11] w fun e w' => e = .returned (.int .u32 (rotl a 21).toNat) ∧ w = w' := by
 go_enter Tryz.func185, Tryz.ntmps185
 go_wp2_with fail
 refine (rot_11 _ _).mono ?_; rintro e w' ⟨rfl, rfl⟩
 go_wp2_with fail
 go_ret
 exact ⟨rfl, rfl⟩
theorem left_21 (a : UInt32) (w : World) :
  Calls Tryz.prog 99 #[.int .u32 a.toNat, .int .u64 21] w fun e w' => e = .returned (.int .u32 (rotl a 21).toNat) ∧ w = w' := by
 go_enter Tryz.func99, Tryz.ntmps99
 go_wp2
 go_ret
 exact ⟨ret_u32 (rotl_21 a), rfl⟩
theorem rotl_19 (a : UInt32) : bits .or .u32 ((a.toNat : Int) * 524288 % 4294967296) ((a.toNat : Int) / 8192) = ((rotl a 19).toNat : Int) := rotl_walk a 19 (by decide) (by decide)
theorem rot_13 (a : UInt32) (w : World) :
  Calls Tryz.prog 186 #[.int .u32 a.toNat, .int .i64 (-13)] w fun e w' => e = .returned (.int .u32 (rotl a 19).toNat) ∧ w = w' := by
 have h : bits BinOp.and IntKind.u64 (IntKind.u64.wrap (-13)) 31 = 19 := by decide
 go_enter Tryz.func186, Tryz.ntmps186
 go_wp2
 go_ret
 exact ⟨ret_u32 (rotl_19 a), rfl⟩
theorem turned_13 (a : UInt32) (w : World) :
  Calls Tryz.prog 185 #[.int .u32 a.toNat, .int .i64 13] w fun e w' => e = .returned (.int .u32 (rotl a 19).toNat) ∧ w = w' := by
 go_enter Tryz.func185, Tryz.ntmps185
 go_wp2_with fail
 refine (rot_13 _ _).mono ?_; rintro e w' ⟨rfl, rfl⟩
 go_wp2_with fail
 go_ret
 exact ⟨rfl, rfl⟩
theorem left_19 (a : UInt32) (w : World) :
  Calls Tryz.prog 99 #[.int .u32 a.toNat, .int .u64 19] w fun e w' => e = .returned (.int .u32 (rotl a 19).toNat) ∧ w = w' := by
 go_enter Tryz.func99, Tryz.ntmps99
 go_wp2
 go_ret
 exact ⟨ret_u32 (rotl_19 a), rfl⟩
theorem rotl_15 (a : UInt32) : bits .or .u32 ((a.toNat : Int) * 32768 % 4294967296) ((a.toNat : Int) / 131072) = ((rotl a 15).toNat : Int) := rotl_walk a 15 (by decide) (by decide)
theorem rot_17 (a : UInt32) (w : World) :
  Calls Tryz.prog 186 #[.int .u32 a.toNat, .int .i64 (-17)] w fun e w' => e = .returned (.int .u32 (rotl a 15).toNat) ∧ w = w' := by
 have h : bits BinOp.and IntKind.u64 (IntKind.u64.wrap (-17)) 31 = 15 := by decide
 go_enter Tryz.func186, Tryz.ntmps186
 go_wp2
 go_ret
 exact ⟨ret_u32 (rotl_15 a), rfl⟩
theorem turned_17 (a : UInt32) (w : World) :
  Calls Tryz.prog 185 #[.int .u32 a.toNat, .int .i64 17] w fun e w' => e = .returned (.int .u32 (rotl a 15).toNat) ∧ w = w' := by
 go_enter Tryz.func185, Tryz.ntmps185
 go_wp2_with fail
 refine (rot_17 _ _).mono ?_; rintro e w' ⟨rfl, rfl⟩
 go_wp2_with fail
 go_ret
 exact ⟨rfl, rfl⟩
theorem left_15 (a : UInt32) (w : World) :
  Calls Tryz.prog 99 #[.int .u32 a.toNat, .int .u64 15] w fun e w' => e = .returned (.int .u32 (rotl a 15).toNat) ∧ w = w' := by
 go_enter Tryz.func99, Tryz.ntmps99
 go_wp2
 go_ret
 exact ⟨ret_u32 (rotl_15 a), rfl⟩
theorem rotl_14 (a : UInt32) : bits .or .u32 ((a.toNat : Int) * 16384 % 4294967296) ((a.toNat : Int) / 262144) = ((rotl a 14).toNat : Int) := rotl_walk a 14 (by decide) (by decide)
theorem rot_18 (a : UInt32) (w : World) :
  Calls Tryz.prog 186 #[.int .u32 a.toNat, .int .i64 (-18)] w fun e w' => e = .returned (.int .u32 (rotl a 14).toNat) ∧ w = w' := by
 have h : bits BinOp.and IntKind.u64 (IntKind.u64.wrap (-18)) 31 = 14 := by decide
 go_enter Tryz.func186, Tryz.ntmps186
 go_wp2
 go_ret
 exact ⟨ret_u32 (rotl_14 a), rfl⟩
theorem turned_18 (a : UInt32) (w : World) :
  Calls Tryz.prog 185 #[.int .u32 a.toNat, .int .i64 18] w fun e w' => e = .returned (.int .u32 (rotl a 14).toNat) ∧ w = w' := by
 go_enter Tryz.func185, Tryz.ntmps185
 go_wp2_with fail
 refine (rot_18 _ _).mono ?_; rintro e w' ⟨rfl, rfl⟩
 go_wp2_with fail
 go_ret
 exact ⟨rfl, rfl⟩
theorem left_14 (a : UInt32) (w : World) :
  Calls Tryz.prog 99 #[.int .u32 a.toNat, .int .u64 14] w fun e w' => e = .returned (.int .u32 (rotl a 14).toNat) ∧ w = w' := by
 go_enter Tryz.func99, Tryz.ntmps99
 go_wp2
 go_ret
 exact ⟨ret_u32 (rotl_14 a), rfl⟩
theorem rotl_13 (a : UInt32) : bits .or .u32 ((a.toNat : Int) * 8192 % 4294967296) ((a.toNat : Int) / 524288) = ((rotl a 13).toNat : Int) := rotl_walk a 13 (by decide) (by decide)
theorem rot_19 (a : UInt32) (w : World) :
  Calls Tryz.prog 186 #[.int .u32 a.toNat, .int .i64 (-19)] w fun e w' => e = .returned (.int .u32 (rotl a 13).toNat) ∧ w = w' := by
 have h : bits BinOp.and IntKind.u64 (IntKind.u64.wrap (-19)) 31 = 13 := by decide
 go_enter Tryz.func186, Tryz.ntmps186
 go_wp2
 go_ret
 exact ⟨ret_u32 (rotl_13 a), rfl⟩
theorem turned_19 (a : UInt32) (w : World) :
  Calls Tryz.prog 185 #[.int .u32 a.toNat, .int .i64 19] w fun e w' => e = .returned (.int .u32 (rotl a 13).toNat) ∧ w = w' := by
 go_enter Tryz.func185, Tryz.ntmps185
 go_wp2_with fail
 refine (rot_19 _ _).mono ?_; rintro e w' ⟨rfl, rfl⟩
 go_wp2_with fail
 go_ret
 exact ⟨rfl, rfl⟩
theorem left_13 (a : UInt32) (w : World) :
  Calls Tryz.prog 99 #[.int .u32 a.toNat, .int .u64 13] w fun e w' => e = .returned (.int .u32 (rotl a 13).toNat) ∧ w = w' := by
 go_enter Tryz.func99, Tryz.ntmps99
 go_wp2
 go_ret
 exact ⟨ret_u32 (rotl_13 a), rfl⟩
theorem rotl_10 (a : UInt32) : bits .or .u32 ((a.toNat : Int) * 1024 % 4294967296) ((a.toNat : Int) / 4194304) = ((rotl a 10).toNat : Int) := rotl_walk a 10 (by decide) (by decide)
theorem rot_22 (a : UInt32) (w : World) :
  Calls Tryz.prog 186 #[.int .u32 a.toNat, .int .i64 (-22)] w fun e w' => e = .returned (.int .u32 (rotl a 10).toNat) ∧ w = w' := by
 have h : bits BinOp.and IntKind.u64 (IntKind.u64.wrap (-22)) 31 = 10 := by decide
 go_enter Tryz.func186, Tryz.ntmps186
 go_wp2
 go_ret
 exact ⟨ret_u32 (rotl_10 a), rfl⟩
theorem turned_22 (a : UInt32) (w : World) :
  Calls Tryz.prog 185 #[.int .u32 a.toNat, .int .i64 22] w fun e w' => e = .returned (.int .u32 (rotl a 10).toNat) ∧ w = w' := by
 go_enter Tryz.func185, Tryz.ntmps185
 go_wp2_with fail
 refine (rot_22 _ _).mono ?_; rintro e w' ⟨rfl, rfl⟩
 go_wp2_with fail
 go_ret
 exact ⟨rfl, rfl⟩
theorem left_10 (a : UInt32) (w : World) :
  Calls Tryz.prog 99 #[.int .u32 a.toNat, .int .u64 10] w fun e w' => e = .returned (.int .u32 (rotl a 10).toNat) ∧ w = w' := by
 go_enter Tryz.func99, Tryz.ntmps99
 go_wp2
 go_ret
 exact ⟨ret_u32 (rotl_10 a), rfl⟩
theorem rotl_7 (a : UInt32) : bits .or .u32 ((a.toNat : Int) * 128 % 4294967296) ((a.toNat : Int) / 33554432) = ((rotl a 7).toNat : Int) := rotl_walk a 7 (by decide) (by decide)
theorem rot_25 (a : UInt32) (w : World) :
  Calls Tryz.prog 186 #[.int .u32 a.toNat, .int .i64 (-25)] w fun e w' => e = .returned (.int .u32 (rotl a 7).toNat) ∧ w = w' := by
 have h : bits BinOp.and IntKind.u64 (IntKind.u64.wrap (-25)) 31 = 7 := by decide
 go_enter Tryz.func186, Tryz.ntmps186
 go_wp2
 go_ret
 exact ⟨ret_u32 (rotl_7 a), rfl⟩
theorem turned_25 (a : UInt32) (w : World) :
  Calls Tryz.prog 185 #[.int .u32 a.toNat, .int .i64 25] w fun e w' => e = .returned (.int .u32 (rotl a 7).toNat) ∧ w = w' := by
 go_enter Tryz.func185, Tryz.ntmps185
 go_wp2_with fail
 refine (rot_25 _ _).mono ?_; rintro e w' ⟨rfl, rfl⟩
 go_wp2_with fail
 go_ret
 exact ⟨rfl, rfl⟩
theorem left_7 (a : UInt32) (w : World) :
  Calls Tryz.prog 99 #[.int .u32 a.toNat, .int .u64 7] w fun e w' => e = .returned (.int .u32 (rotl a 7).toNat) ∧ w = w' := by
 go_enter Tryz.func99, Tryz.ntmps99
 go_wp2
 go_ret
 exact ⟨ret_u32 (rotl_7 a), rfl⟩
attribute [local go_sem] xo_walk shr3_walk shr10_walk
theorem mixFar_any (a : UInt32) (w : World) :
  Calls Tryz.prog 183 #[.int .u32 a.toNat] w fun e w' => e = .returned (.int .u32 (far a).toNat) ∧ w = w' := by
 go_enter Tryz.func183, Tryz.ntmps183
 go_wp2_with fail
 refine (turned_7 _ _).mono ?_; rintro e w' ⟨rfl, rfl⟩
 go_wp2_with fail
 refine (turned_18 _ _).mono ?_; rintro e w' ⟨rfl, rfl⟩
 go_wp2_with fail
 go_ret
 exact ⟨rfl, rfl⟩
theorem mixNear_any (a : UInt32) (w : World) :
  Calls Tryz.prog 184 #[.int .u32 a.toNat] w fun e w' => e = .returned (.int .u32 (near a).toNat) ∧ w = w' := by
 go_enter Tryz.func184, Tryz.ntmps184
 go_wp2_with fail
 refine (turned_17 _ _).mono ?_; rintro e w' ⟨rfl, rfl⟩
 go_wp2_with fail
 refine (turned_19 _ _).mono ?_; rintro e w' ⟨rfl, rfl⟩
 go_wp2_with fail
 go_ret
 exact ⟨rfl, rfl⟩
theorem mixHigh_any (a : UInt32) (w : World) :
  Calls Tryz.prog 173 #[.int .u32 a.toNat] w fun e w' => e = .returned (.int .u32 (high a).toNat) ∧ w = w' := by
 go_enter Tryz.func173, Tryz.ntmps173
 go_wp2_with fail
 refine (turned_2 _ _).mono ?_; rintro e w' ⟨rfl, rfl⟩
 go_wp2_with fail
 refine (turned_13 _ _).mono ?_; rintro e w' ⟨rfl, rfl⟩
 go_wp2_with fail
 refine (turned_22 _ _).mono ?_; rintro e w' ⟨rfl, rfl⟩
 go_wp2_with fail
 go_ret
 exact ⟨rfl, rfl⟩
theorem mixLow_any (a : UInt32) (w : World) :
  Calls Tryz.prog 172 #[.int .u32 a.toNat] w fun e w' => e = .returned (.int .u32 (low a).toNat) ∧ w = w' := by
 go_enter Tryz.func172, Tryz.ntmps172
 go_wp2_with fail
 refine (turned_6 _ _).mono ?_; rintro e w' ⟨rfl, rfl⟩
 go_wp2_with fail
 refine (turned_11 _ _).mono ?_; rintro e w' ⟨rfl, rfl⟩
 go_wp2_with fail
 refine (turned_25 _ _).mono ?_; rintro e w' ⟨rfl, rfl⟩
 go_wp2_with fail
 go_ret
 exact ⟨rfl, rfl⟩
theorem turnsLow_any (a : UInt32) (w : World) :
  Calls Tryz.prog 100 #[.int .u32 a.toNat, .int .u64 6, .int .u64 11, .int .u64 25] w fun e w' => e = .returned (.int .u32 (low a).toNat) ∧ w = w' := by
 go_enter Tryz.func100, Tryz.ntmps100
 go_wp2_with fail
 refine (left_26 _ _).mono ?_; rintro e w' ⟨rfl, rfl⟩
 go_wp2_with fail
 refine (left_21 _ _).mono ?_; rintro e w' ⟨rfl, rfl⟩
 go_wp2_with fail
 refine (left_7 _ _).mono ?_; rintro e w' ⟨rfl, rfl⟩
 go_wp2_with fail
 go_ret
 exact ⟨rfl, rfl⟩
theorem turnsHigh_any (a : UInt32) (w : World) :
  Calls Tryz.prog 100 #[.int .u32 a.toNat, .int .u64 2, .int .u64 13, .int .u64 22] w fun e w' => e = .returned (.int .u32 (high a).toNat) ∧ w = w' := by
 go_enter Tryz.func100, Tryz.ntmps100
 go_wp2_with fail
 refine (left_30 _ _).mono ?_; rintro e w' ⟨rfl, rfl⟩
 go_wp2_with fail
 refine (left_19 _ _).mono ?_; rintro e w' ⟨rfl, rfl⟩
 go_wp2_with fail
 refine (left_10 _ _).mono ?_; rintro e w' ⟨rfl, rfl⟩
 go_wp2_with fail
 go_ret
 exact ⟨rfl, rfl⟩
end Go.Proofs.YtpcjbjpofcdjeaaGreatDoor.Hh
namespace Go.Proofs.YtpcjbjpofcdjeaaGreatDoor.Hh
open Go.RowKit Wd Mm
theorem put_front (cs : Array Value) (p : Nat) (f : Nat → Value) (k : Nat) : put cs p f (k + 1) = (put cs (p + 1) (fun j => f (j + 1)) k).setIfInBounds p (f 0) := by
 apply Array.ext_getElem?
 intro i
 rw [put_get, Array.getElem?_setIfInBounds, put_get, put_size]
 by_cases hp : p = i
 ·subst hp
  by_cases hs : p < cs.size
  ·simp [hs]
  ·rw [if_neg (by omega), if_pos rfl, if_neg hs, Array.getElem?_eq_none (by omega)]
 ·rw [if_neg hp]
  by_cases hc : p ≤ i ∧ i < p + (k + 1) ∧ i < cs.size
  ·rw [if_pos hc, if_pos (by omega)]
   congr 2; omega
  ·rw [if_neg hc, if_neg (by omega)]
theorem put_congr (cs : Array Value) (p : Nat) (f f' : Nat → Value) (k : Nat) (h : ∀ j, j < k → f j = f' j) : put cs p f k = put cs p f' k := by
 induction k with
 | zero => rfl
 | succ k ih => rw [put, put, ih (fun j hj => h j (by omega)), h k (by omega)]
theorem highB_walk (N n j q : Nat) (hq : q = N / 256 ^ (n - 1 - j)) : (q : Int) % 256 = ((highB N n j).toNat : Int) := by
 rw [highB, ← hq, UInt8.toNat_ofNat']
 omega
theorem putHigh_any (g o n c : Nat) (N : Nat) (cs : Array Value) (t : TypeId) (w : World) (hN : N ≤ 18446744073709551615) (hn : n ≤ 8) (hfit : o + n ≤ cs.size) (hrow : Row w g t cs) :
  Calls Tryz.prog 155 #[.slice (some ⟨g, o, none⟩) n c, .int .u64 (N : Int)] w
   fun e w' => e = .returned (.tuple #[]) ∧ Row w' g t (put cs o (fun j => w8 (highB N n j)) n) ∧ w.grownBy w' (some g) := by
 go_enter Tryz.func155, Tryz.ntmps155
 go_wp2
 go_loopw [4, 1] (fun i v wr => ∃ k q : Nat, k ≤ n ∧ i = .int .i64 ((n : Int) - 1 - (k : Int)) ∧ v = .int .u64 (q : Int) ∧ q ≤ 18446744073709551615 ∧ q = N / 256 ^ k ∧ Row wr g t (put cs (o + (n - k)) (fun j => w8 (highB N n (n - k + j))) k) ∧ w.grownBy wr (some g)) (fun i _ _ => (intOf i + 1).toNat)
 case atStart => exact ⟨0, N, Nat.zero_le _, by simp, rfl, hN, by simp, hrow, gb_refl _ _⟩
 case round =>
  obtain ⟨k, q, hk, rfl, rfl, hq0, hq, hr, hg⟩ := hrel
  have Hq := qj hq
  clear hq
  by_cases hlt : k < n
  ·obtain ⟨j, hj⟩ : ∃ j : Nat, (n : Int) - 1 - (k : Int) = (j : Int) := ⟨n - 1 - k, by omega⟩
   have Hj := qj hj
   rw [hj]
   clear hj
   have hjn : j < n := by have := Hj.out; omega
   obtain ⟨v0, hv0⟩ : ∃ v, (put cs (o + (n - k)) (fun j => w8 (highB N n (n - k + j))) k)[o + j]? = some v := ⟨_, Array.getElem?_eq_getElem (by rw [put_size]; omega)⟩
   have hc := hr.at_ hv0
   have hf : wr.frozen? ⟨g, o + j, none⟩ = false := hr.free _
   have hd : decide (0 ≤ (j : Int)) = true := by simp
   clear hv0
   go_wp2
   go_roundw
   case rel =>
    rw [highB_walk N n j q (by rw [Hq.out]; congr 2; have := Hj.out; omega)]
    refine ⟨k + 1, q / 256, by omega, ?_, by simp, by omega, ?_, ?_, gb_then hg (gb_set1 _ _ _ _)⟩
    ·have := Hj.out; exact congrArg _ (by omega)
    ·rw [Hq.out, Nat.div_div_eq_div_mul, Nat.pow_succ]
    ·have h := hr.set_ (o + j) (w8 (highB N n j))
     have ej : j = n - (k + 1) := by have := Hj.out; omega
     have e : put cs (o + (n - (k + 1))) (fun j => w8 (highB N n (n - (k + 1) + j))) (k + 1) = (put cs (o + (n - k)) (fun j => w8 (highB N n (n - k + j))) k).setIfInBounds (o + j) (w8 (highB N n j)) := by
      rw [put_front]
      rw [show o + (n - (k + 1)) + 1 = o + (n - k) by omega, show o + (n - (k + 1)) = o + j by omega, show n - (k + 1) + 0 = j by omega]
      refine congrArg (fun C => Array.setIfInBounds C (o + j) (w8 (highB N n j))) ?_
      refine put_congr _ _ _ _ _ fun i _ => ?_
      show w8 (highB N n (n - (k + 1) + (i + 1))) = _
      rw [show n - (k + 1) + (i + 1) = n - k + i by omega]
     rw [e]
     exact h
   case measure => simp [intOf]
  ·have hkn : k = n := by omega
   have Hkn := qj hkn
   have hd : decide (0 ≤ (n : Int) - 1 - (k : Int)) = false := by simp; omega
   clear hkn
   go_wp2
   go_end0
   have e := Hkn.out
   subst e
   rw [Nat.sub_self, Nat.add_zero] at hr
   refine ⟨rfl, ?_, hg⟩
   have e : put cs o (fun j => w8 (highB N k (0 + j))) k = put cs o (fun j => w8 (highB N k j)) k := put_congr _ _ _ _ _ fun j _ => by rw [Nat.zero_add]
   rw [← e]
   exact hr
end Go.Proofs.YtpcjbjpofcdjeaaGreatDoor.Hh
namespace Go.Proofs.YtpcjbjpofcdjeaaGreatDoor.Hh
open Go.RowKit Wd Mm
theorem size64 : (Tryz.prog.info? 228).map (·.size) = some 64 := by kernel_rfl
theorem words_one (l : List UInt32) : ((l.map w32).toArray).all (·.oneCell') = true := by
 rw [Array.all_eq_true_iff_forall_mem]
 intro v hv
 simp only [List.mem_toArray, List.mem_map] at hv
 obtain ⟨x, _, rfl⟩ := hv
 rfl
def Bytes (w : World) (g o : Nat) (b : List UInt8) : Prop := ∀ i, i < b.length → w.cell? ⟨g, o + i, none⟩ = some (w8 (b.getD i 0))
def wF (b : List UInt8) (i : Nat) : Value := w32 ((wS b).getD i 0)
theorem wF_all (b : List UInt8) (cs : Array Value) (h : cs.size = 64) : put cs 0 (wF b) 64 = ((wS b).map w32).toArray := by
 refine put_all _ _ 64 _ h (by simp [wS_len]) (fun i hi => ?_)
 exact words_get _ _ (by rw [wS_len]; exact hi)
attribute [local go_sem] pl_walk pl_wrap xo_walk
theorem spread_any (g : Nat) (b : List UInt8) (w : World) (hl : b.length = 64) (hb : Bytes w g 8 b) (hg : g < w.heap.size) :
  Calls Tryz.prog 171 #[.pointer (some ⟨g, 0, none⟩)] w
   fun e w' => e = .returned (.agg ((wS b).map w32).toArray) ∧ Gn w w' := by
 have Hl := qj hl
 have Hb : Hid (∀ W, Gn w W → Bytes W g 8 b) := fun W hW i hi => by
  rw [World.cell?_of_block (w := w) (a := ⟨g, 8 + i, none⟩) (hW.block g hg (by simp))]
  exact hb i hi
 clear hb hl
 go_enter Tryz.func171, Tryz.ntmps171
 go_wp2_with fail
 go_loopw [7] (fun i wr => ∃ k : Nat, k ≤ 16 ∧ i = .int .i64 k ∧ (∃ Z, Row wr (w.heap.size + 1) 228 (put Z 0 (wF b) k) ∧ Hid (Z.size = 64)) ∧ (∃ z, Row wr w.heap.size 228 z ∧ Hid (z.size = 64)) ∧ Gn w wr) (fun i _ => 16 - (intOf i).toNat)
 case atStart => exact ⟨0, Nat.zero_le _, rfl, ⟨_, heap_alloc2_new _ _ _, rfl⟩, ⟨_, heap_alloc2_old _ _ _, rfl⟩, gb_alloc (gb_alloc (gb_refl _ _) _) _⟩
 case round =>
  obtain ⟨k, hk, rfl, ⟨Z, hr, HZ⟩, ⟨z, hz, Hz⟩, hgr⟩ := hrel
  by_cases hlt : k < 16
  ·have hdec : decide ((k : Int) < 16) = true := by simp; omega
   obtain ⟨m, Hm⟩ : ∃ m : Nat, Hid (m = 4 * k) := ⟨_, rfl⟩
   have hm : 4 * (k : Int) = (m : Int) := by have := Hm.out; omega
   have hm60 : m ≤ 60 := by have := Hm.out; omega
   have hA : Tryz.prog.arrayLen 159 = 64 := by kernel_rfl
   have h64 : (m : Int) + 4 ≤ 64 := by omega
   have hle : (m : Int) ≤ (m : Int) + 4 := by omega
   have hB := Hb.out wr hgr
   have c0 := hB m (by rw [Hl.out]; omega)
   have c1 := hB (m + 1) (by rw [Hl.out]; omega)
   rw [← Nat.add_assoc] at c1
   have c2 := hB (m + 2) (by rw [Hl.out]; omega)
   rw [← Nat.add_assoc] at c2
   have c3 := hB (m + 3) (by rw [Hl.out]; omega)
   rw [← Nat.add_assoc] at c3
   obtain ⟨x0, h0⟩ : ∃ x, b.getD m 0 = x := ⟨_, rfl⟩
   obtain ⟨x1, h1⟩ : ∃ x, b.getD (m + 1) 0 = x := ⟨_, rfl⟩
   obtain ⟨x2, h2⟩ : ∃ x, b.getD (m + 2) 0 = x := ⟨_, rfl⟩
   obtain ⟨x3, h3⟩ : ∃ x, b.getD (m + 3) 0 = x := ⟨_, rfl⟩
   rw [h0] at c0; rw [h1] at c1; rw [h2] at c2; rw [h3] at c3
   have H0 := qj h0
   have H1 := qj h1
   have H2 := qj h2
   have H3 := qj h3
   unfold w8 at c0 c1 c2 c3
   obtain ⟨v0, hv0⟩ : ∃ v, (put Z 0 (wF b) k)[k]? = some v := ⟨_, Array.getElem?_eq_getElem (by rw [put_size, HZ.out]; omega)⟩
   have hc := hr.at_ hv0
   have hf : wr.frozen? ⟨w.heap.size + 1, k, none⟩ = false := hr.free _
   clear hv0 hB h0 h1 h2 h3
   go_wp2
   go_region
   go_wp2
   go_roundw
   case rel =>
    rw [be32_walk x0 x1 x2 x3]
    refine ⟨k + 1, by omega, by go_num, ⟨Z, ?_, HZ⟩, ⟨z, (hz.far (by simp) _).drew, Hz⟩, gb_drew (gb_new hgr (gb_set1 _ _ _ _) (by omega))⟩
    have e : wF b k = .int .u32 ((be32 x0 x1 x2 x3).toNat : Int) := by
     unfold wF
     rw [wS_low b k hlt, beAt, ← Hm.out, H0.out, H1.out, H2.out, H3.out]; rfl
    have h := (hr.set_ k (wF b k)).drew
    rw [e] at h
    simp only [put, Nat.zero_add]
    rw [e]
    exact h
   case measure => simp [intOf]; omega
  ·have hk16 : k = 16 := by omega
   subst hk16
   clear hlt hk
   rw [show ((16 : Nat) : Int) = 16 from rfl]
   obtain ⟨wo, rfl⟩ : ∃ wo : World, wo = wr := ⟨_, rfl⟩
   go_wp2
   go_loopw [6] (fun i wr2 => ∃ k : Nat, 16 ≤ k ∧ k ≤ 64 ∧ i = .int .i64 k ∧ Row wr2 (w.heap.size + 1) 228 (put Z 0 (wF b) k) ∧ Row wr2 w.heap.size 228 z ∧ Gn w wr2) (fun i _ => 64 - (intOf i).toNat)
   case atStart => exact ⟨16, by omega, by omega, rfl, hr, hz, hgr⟩
   case round =>
    clear hr hz hgr
    obtain ⟨k, hk0, hk, rfl, hr2, hz2, hg2⟩ := hrel
    by_cases hlt : k < 64
    ·have hdec : decide ((k : Int) < 64) = true := by simp; omega
     obtain ⟨y0, hy0⟩ : ∃ x, (wS b).getD (k - 16) 0 = x := ⟨_, rfl⟩
     obtain ⟨y1, hy1⟩ : ∃ x, (wS b).getD (k - 7) 0 = x := ⟨_, rfl⟩
     obtain ⟨y2, hy2⟩ : ∃ x, (wS b).getD (k - 15) 0 = x := ⟨_, rfl⟩
     obtain ⟨y3, hy3⟩ : ∃ x, (wS b).getD (k - 2) 0 = x := ⟨_, rfl⟩
     have cell : ∀ j, j < k → wr.cell? ⟨w.heap.size + 1, j, none⟩ = some (.int .u32 (((wS b).getD j 0).toNat : Int)) := fun j hj => by
      refine hr2.at_ ?_
      rw [put_get, if_pos ⟨Nat.zero_le _, by omega, by rw [HZ.out]; omega⟩, Nat.sub_zero]; rfl
     obtain ⟨j0, hj0⟩ : ∃ j : Nat, (k : Int) - 16 = (j : Int) := ⟨k - 16, by omega⟩
     obtain ⟨j1, hj1⟩ : ∃ j : Nat, (k : Int) - 7 = (j : Int) := ⟨k - 7, by omega⟩
     obtain ⟨j2, hj2⟩ : ∃ j : Nat, (k : Int) - 15 = (j : Int) := ⟨k - 15, by omega⟩
     obtain ⟨j3, hj3⟩ : ∃ j : Nat, (k : Int) - 2 = (j : Int) := ⟨k - 2, by omega⟩
     have c0 := cell j0 (by omega)
     have c1 := cell j1 (by omega)
     have c2 := cell j2 (by omega)
     have c3 := cell j3 (by omega)
     rw [show j0 = k - 16 by omega, hy0, show k - 16 = j0 by omega] at c0
     rw [show j1 = k - 7 by omega, hy1, show k - 7 = j1 by omega] at c1
     rw [show j2 = k - 15 by omega, hy2, show k - 15 = j2 by omega] at c2
     rw [show j3 = k - 2 by omega, hy3, show k - 2 = j3 by omega] at c3
     have bk : (k : Int) < 64 := by omega
     have b0 : (j0 : Int) < 64 := by omega
     have b1 : (j1 : Int) < 64 := by omega
     have b2 : (j2 : Int) < 64 := by omega
     have b3 : (j3 : Int) < 64 := by omega
     obtain ⟨v0, hv0⟩ : ∃ v, (put Z 0 (wF b) k)[k]? = some v := ⟨_, Array.getElem?_eq_getElem (by rw [put_size, HZ.out]; omega)⟩
     have hc := hr2.at_ hv0
     have hf : wr.frozen? ⟨w.heap.size + 1, k, none⟩ = false := hr2.free _
     have Hy0 := qj hy0
     have Hy1 := qj hy1
     have Hy2 := qj hy2
     have Hy3 := qj hy3
     clear hv0 cell hy0 hy1 hy2 hy3
     go_wp2_with fail
     have q := IntWalk.i64_in (k : Int) (by omega)
     have q0 := IntWalk.i64_in (j0 : Int) (by omega)
     have q1 := IntWalk.i64_in (j1 : Int) (by omega)
     have q2 := IntWalk.i64_in (j2 : Int) (by omega)
     have q3 := IntWalk.i64_in (j3 : Int) (by omega)
     refine wp_region_still_tail 23 (by kernel_rfl) (by kernel_rfl) ?_
     simp only [List.take_succ_cons, List.take_zero, List.drop_succ_cons, List.drop_zero]
     iterate 14 still_step
     still_call ((mixFar_any _ _).mono fun _ _ ⟨h1, h2⟩ => ⟨h1, h2.symm⟩)
     iterate 5 still_step
     still_call ((mixNear_any _ _).mono fun _ _ ⟨h1, h2⟩ => ⟨h1, h2.symm⟩)
     iterate 2 still_step
     refine wpStill_nil ?_
     clear q q0 q1 q2 q3
     change wpList _ _ _ _ _ wr.drew
     go_wp2_with fail
     go_roundw
     case rel =>
      refine ⟨k + 1, by omega, by omega, by go_num, ?_, (hz2.far (by simp) _).drew, gb_drew (gb_new hg2 (gb_set1 _ _ _ _) (by omega))⟩
      have e : wF b k = .int .u32 ((pl (pl (pl y0 y1) (far y2)) (near y3)).toNat : Int) := by
       unfold wF
       rw [wS_high b k hk0 hlt, nextW, Hy0.out, Hy1.out, Hy2.out, Hy3.out]; rfl
      have h := (hr2.set_ k (wF b k)).drew
      rw [e] at h
      simp only [put, Nat.zero_add]
      rw [e]
      exact h
     case measure => simp [intOf]; omega
    ·have hk64 : k = 64 := by omega
     subst hk64
     rw [wF_all b Z HZ.out] at hr2
     have hsz2 : (Tryz.prog.info? 228).map (·.size) = some ((wS b).map w32).toArray.size := by rw [size64]; simp [wS_len]
     have hzz : z.size = ((wS b).map w32).toArray.size := by rw [Hz.out]; simp [wS_len]
     have hone2 := words_one (wS b)
     clear hlt hk hk0
     generalize hcs : ((wS b).map w32).toArray = cs at *
     have Hcs := qj hcs
     have Hsz2 := qj hsz2
     have Hzz := qj hzz
     have Hone2 := qj hone2
     clear hcs hsz2 hzz hone2
     go_wp2_with (first
      | (refine wpList_load_row rfl 228 (.tmp 3) rfl (w.heap.size + 1) rfl 228 cs (0, 0) _ hr2 Tryz.underlying228 rfl Hsz2.out ?_)
      | (refine wpList_store_row rfl 228 (.tmp 2) (.tmp 71) rfl w.heap.size cs rfl rfl 228 _ hz2 Hsz2.out Hzz.out Hone2.out ?_))
     refine bodyPost_ret (results_cell_row rfl _ _ w.heap.size 228 cs (0, 0) _ rfl (hz2.setRow_ cs) Tryz.underlying228 rfl Hsz2.out) rfl ?_
     exact ⟨by rw [Hcs.out], gb_new hg2 (gb_setRow1 _ _ _) (Nat.le_refl _)⟩
end Go.Proofs.YtpcjbjpofcdjeaaGreatDoor.Hh
namespace Go.Proofs.YtpcjbjpofcdjeaaGreatDoor.Hh
open Go.RowKit Wd Mm
def Tabs (w : World) : Prop := 17 < w.heap.size ∧ (∀ i, i < 8 → w.cell? ⟨1, i, none⟩ = some (w32 (firstH.getD i 0))) ∧ ∀ i, i < 64 → w.cell? ⟨17, i, none⟩ = some (w32 (konst.getD i 0))
theorem Tabs.keep {w w' : World} {r : Option Nat} (h : Tabs w) (hg : w.grownBy w' r) (hr : ∀ i, r = some i → 17 < i) : Tabs w' := by
 obtain ⟨h0, h1, h2⟩ := h
 refine ⟨Nat.lt_of_lt_of_le h0 hg.size, fun i hi => ?_, fun i hi => ?_⟩
 ·rw [World.cell?_of_block (w := w) (a := ⟨1, i, none⟩) (hg.block _ (by show (1 : Nat) < w.heap.size; omega) (fun e => by have := hr _ e.symm; simp at this))]
  exact h1 i hi
 ·rw [World.cell?_of_block (w := w) (a := ⟨17, i, none⟩) (hg.block _ (by show (17 : Nat) < w.heap.size; omega) (fun e => by have := hr _ e.symm; simp at this))]
  exact h2 i hi
def stC (l : List UInt32) (B : List UInt8) (held tot : Nat) : Array Value := (l.map w32 ++ (B.map w8 ++ [Value.int .i64 (held : Int), Value.int .u64 (tot : Int)])).toArray
theorem stC_size {l : List UInt32} {B : List UInt8} {h t : Nat} (hl : l.length = 8) (hB : B.length = 64) : (stC l B h t).size = 74 := by simp [stC, hl, hB]
theorem stC_word {l : List UInt32} {B : List UInt8} {h t i : Nat} (hl : l.length = 8) (hi : i < 8) : (stC l B h t)[i]? = some (.int .u32 ((l.getD i 0).toNat : Int)) := by
 simp [stC, hl, hi, w32, List.getElem?_append]
theorem stC_byte {l : List UInt32} {B : List UInt8} {h t i : Nat} (hl : l.length = 8) (hB : B.length = 64) (hi : i < 64) : (stC l B h t)[8 + i]? = some (w8 (B.getD i 0)) := by
 simp only [stC, List.getElem?_toArray]
 rw [List.getElem?_append_right (by simp [hl]), List.getElem?_append_left (by simp [hl, hB, hi])]
 simp [hl, hB, hi]
theorem stC_held {l : List UInt32} {B : List UInt8} {h t : Nat} (hl : l.length = 8) (hB : B.length = 64) : (stC l B h t)[72]? = some (.int .i64 (h : Int)) := by
 simp only [stC, List.getElem?_toArray]
 rw [List.getElem?_append_right (by simp [hl]), List.getElem?_append_right (by simp [hl, hB])]
 simp [hl, hB]
theorem stC_tot {l : List UInt32} {B : List UInt8} {h t : Nat} (hl : l.length = 8) (hB : B.length = 64) : (stC l B h t)[73]? = some (.int .u64 (t : Int)) := by
 simp only [stC, List.getElem?_toArray]
 rw [List.getElem?_append_right (by simp [hl]), List.getElem?_append_right (by simp [hl, hB])]
 simp [hl, hB]
theorem tail_same (X Y Z : List Value) (i : Nat) (hX : X.length = 8) (hY : Y.length = 8) (hi : 8 ≤ i) : (X ++ Z)[i]? = (Y ++ Z)[i]? := by
 rw [List.getElem?_append_right (by omega), List.getElem?_append_right (by omega), hX, hY]
theorem stC_words (l m : List UInt32) (B : List UInt8) (h t : Nat) (hl : l.length = 8) (hm : m.length = 8) : put (stC l B h t) 0 (fun i => w32 (m.getD i 0)) 8 = stC m B h t := by
 apply Array.ext_getElem?
 intro i
 rw [put_get]
 by_cases hi : i < 8
 ·by_cases hs : i < (stC l B h t).size
  ·rw [if_pos ⟨Nat.zero_le _, by omega, hs⟩, stC_word hm hi]; rfl
  ·simp [stC, hl] at hs; omega
 ·rw [if_neg (by omega)]
  unfold stC
  rw [List.getElem?_toArray, List.getElem?_toArray]
  exact tail_same _ _ _ _ (by simp [hl]) (by simp [hm]) (by omega)
theorem idx8 (a b c d e f g h : UInt32) (k : Nat) (hk : k < 8) (W : World) : (Instr.index 158 (.agg #[.int .u32 (a.toNat : Int), .int .u32 (b.toNat : Int), .int .u32 (c.toNat : Int), .int .u32 (d.toNat : Int), .int .u32 (e.toNat : Int), .int .u32 (f.toNat : Int), .int .u32 (g.toNat : Int), .int .u32 (h.toNat : Int)]) (.int .i64 (k : Int))).run Tryz.prog W = .ok (.int .u32 (([a, b, c, d, e, f, g, h].getD k 0).toNat : Int)) W := by
 have e : k = 0 ∨ k = 1 ∨ k = 2 ∨ k = 3 ∨ k = 4 ∨ k = 5 ∨ k = 6 ∨ k = 7 := by omega
 rcases e with rfl | rfl | rfl | rfl | rfl | rfl | rfl | rfl <;> (show _ = _; kernel_rfl)
theorem comp_getD (l : List UInt32) (b : List UInt8) (k : Nat) (hl : l.length = 8) (hk : k < 8) : (comp l b).getD k 0 = pl (l.getD k 0) ((rnds (St.of l) (wS b) 64).list.getD k 0) := by
 have h2 : k < (rnds (St.of l) (wS b) 64).list.length := by simp [St.list, hk]
 unfold comp
 simp only [List.getD_eq_getElem?_getD, List.getElem?_zipWith, List.getElem?_eq_getElem (show k < l.length by omega), List.getElem?_eq_getElem h2]
 rfl
theorem ws_size (b : List UInt8) : (Tryz.prog.info? 228).map (·.size) = some ((wS b).map w32).toArray.size := by rw [size64]; simp [wS_len]
end Go.Proofs.YtpcjbjpofcdjeaaGreatDoor.Hh
namespace Go.Proofs.YtpcjbjpofcdjeaaGreatDoor.Hh
open Go.RowKit Wd Mm
attribute [local go_sem] pl_walk pl_wrap xo_walk an_walk nt_walk
theorem take_any (g : Nat) (l : List UInt32) (B : List UInt8) (h t : Nat) (w : World) (hl : l.length = 8) (hB : B.length = 64) (hT : Tabs w) (hr : Row w g 161 (stC l B h t)) :
  Calls Tryz.prog 154 #[.pointer (some ⟨g, 0, none⟩)] w
   fun e w' => e = .returned (.tuple #[]) ∧ Row w' g 161 (stC (comp l B) B h t) ∧ w.grownBy w' (some g) := by
 have hlt := hr.lt
 have hby : Bytes w g 8 B := fun i hi => hr.at_ (stC_byte hl hB (by omega))
 have Hl := qj hl
 have HB := qj hB
 have Hby := qj hby
 clear hl hB hby
 go_enter Tryz.func154, Tryz.ntmps154
 go_wp2_with fail
 refine (spread_any g B _ HB.out Hby.out hlt).mono ?_
 rintro e w1 ⟨rfl, g1⟩
 have Hsz := qj (ws_size B)
 have Hone := qj (words_one (wS B))
 go_wp2_with (refine wpList_store_row rfl 228 (.tmp 2) (.tmp 17) rfl w1.heap.size _ rfl rfl 228 _ (heap_alloc_new _ _) Hsz.out ?hz Hone.out ?_)
 case hz => simp [wS_len]
 refine Td.named (fun W => Row W g 161 (stC l B h t) ∧ Row W w1.heap.size 228 ((wS B).map w32).toArray ∧ Gn w W)
  ⟨((hr.kept g1 (by simp)).alloc _).setRow_far (Nat.ne_of_lt (hr.kept g1 (by simp)).lt) _, Row.setRow_ (heap_alloc_new _ _) _, gb_new (gb_alloc g1 _) (gb_setRow1 _ _ _) g1.size⟩ ?_
 have hq : g < w1.heap.size := (hr.kept g1 (by simp)).lt
 have hb1 : w.heap.size ≤ w1.heap.size := g1.size
 generalize w1.heap.size = q at *
 clear g1 hr
 rintro w2 ⟨hr, hs, hg⟩
 obtain ⟨x0, x1, x2, x3, x4, x5, x6, x7, hx⟩ : ∃ x0 x1 x2 x3 x4 x5 x6 x7, l = [x0, x1, x2, x3, x4, x5, x6, x7] := by
  match l, Hl.out with
  | [x0, x1, x2, x3, x4, x5, x6, x7], _ => exact ⟨x0, x1, x2, x3, x4, x5, x6, x7, rfl⟩
 have c0 : w2.cell? ⟨g, 0, none⟩ = some (.int .u32 (x0.toNat : Int)) := by rw [hx] at hr; exact hr.at_ rfl
 have c1 : w2.cell? ⟨g, 1, none⟩ = some (.int .u32 (x1.toNat : Int)) := by rw [hx] at hr; exact hr.at_ rfl
 have c2 : w2.cell? ⟨g, 2, none⟩ = some (.int .u32 (x2.toNat : Int)) := by rw [hx] at hr; exact hr.at_ rfl
 have c3 : w2.cell? ⟨g, 3, none⟩ = some (.int .u32 (x3.toNat : Int)) := by rw [hx] at hr; exact hr.at_ rfl
 have c4 : w2.cell? ⟨g, 4, none⟩ = some (.int .u32 (x4.toNat : Int)) := by rw [hx] at hr; exact hr.at_ rfl
 have c5 : w2.cell? ⟨g, 5, none⟩ = some (.int .u32 (x5.toNat : Int)) := by rw [hx] at hr; exact hr.at_ rfl
 have c6 : w2.cell? ⟨g, 6, none⟩ = some (.int .u32 (x6.toNat : Int)) := by rw [hx] at hr; exact hr.at_ rfl
 have c7 : w2.cell? ⟨g, 7, none⟩ = some (.int .u32 (x7.toNat : Int)) := by rw [hx] at hr; exact hr.at_ rfl
 have Hx := qj hx
 clear hx
 change Code.wp _ _ _ (Act.mk _ _) _
 go_region
 go_wp2
 go_region
 obtain ⟨w3, rfl⟩ : ∃ W, W = w2.drew.drew := ⟨_, rfl⟩
 go_wp2
 go_loopw [58, 3, 4, 5, 6, 7, 8, 9, 10] (fun i va vb vc vd ve vf vg vh wr => ∃ (k : Nat) (s : St), k ≤ 64 ∧ i = .int .i64 k ∧ Hid (s = rnds (St.of l) (wS B) k) ∧ va = .int .u32 (s.a.toNat : Int) ∧ vb = .int .u32 (s.b.toNat : Int) ∧ vc = .int .u32 (s.c.toNat : Int) ∧ vd = .int .u32 (s.d.toNat : Int) ∧ ve = .int .u32 (s.e.toNat : Int) ∧ vf = .int .u32 (s.f.toNat : Int) ∧ vg = .int .u32 (s.g.toNat : Int) ∧ vh = .int .u32 (s.h.toNat : Int) ∧
   Row wr g 161 (stC l B h t) ∧ Row wr q 228 ((wS B).map w32).toArray ∧ Gn w wr) (fun i _ _ _ _ _ _ _ _ _ => 64 - (intOf i).toNat)
 case atStart =>
  refine ⟨0, ⟨x0, x1, x2, x3, x4, x5, x6, x7⟩, Nat.zero_le _, rfl, ?_, rfl, rfl, rfl, rfl, rfl, rfl, rfl, rfl, hr, hs, ?_⟩
  ·show _ = _; rw [Hx.out]; rfl
  ·exact gb_drew (gb_drew hg)
 case round =>
  clear hr hs hg c0 c1 c2 c3 c4 c5 c6 c7
  obtain ⟨k, ⟨a, b, c, d, e, f, gg, hh⟩, hk, rfl, HS, rfl, rfl, rfl, rfl, rfl, rfl, rfl, rfl, hr, hs, hg⟩ := hrel
  simp only []
  by_cases hlt : k < 64
  ·have hdec : decide ((k : Int) < 64) = true := by simp; omega
   have bk : (k : Int) < 64 := by omega
   obtain ⟨kk, hkk⟩ : ∃ x, konst.getD k 0 = x := ⟨_, rfl⟩
   obtain ⟨ww, hww⟩ : ∃ x, (wS B).getD k 0 = x := ⟨_, rfl⟩
   have ck : wr.cell? ⟨17, k, none⟩ = some (.int .u32 (kk.toNat : Int)) := by
    have := (hT.keep hg (by simp)).2.2 k hlt
    rw [hkk] at this; exact this
   have cw : wr.cell? ⟨q, k, none⟩ = some (.int .u32 (ww.toNat : Int)) := by
    refine hs.at_ ?_
    rw [words_get _ _ (by rw [wS_len]; exact hlt), hww]
   have Hkk := qj hkk
   have Hww := qj hww
   clear hkk hww
   go_wp2_with fail
   go_quiet ((exact Calls.quiet_of_same ((mixLow_any _ _).mono fun _ _ ⟨h1, h2⟩ => ⟨h1, h2.symm⟩)))
   go_wp2_with fail
   refine (mixHigh_any _ _).mono ?_
   rintro e' w' ⟨rfl, rfl⟩
   go_wp2_with fail
   go_roundw
   case rel =>
    refine ⟨k + 1, rnd ⟨a, b, c, d, e, f, gg, hh⟩ kk ww, by omega, by go_num, ?_, rfl, rfl, rfl, rfl, rfl, rfl, rfl, rfl, hr.drewN _, hs.drewN _, gb_drewN hg _⟩
    show _ = _
    rw [rnds, ← HS.out, Hkk.out, Hww.out]
   case measure => simp [intOf]; omega
  ·have hk64 : k = 64 := by omega
   have HS2 : Hid (([a, b, c, d, e, f, gg, hh] : List UInt32) = (rnds (St.of l) (wS B) 64).list) := by show _ = _; rw [← hk64, ← HS.out]; rfl
   subst hk64
   rw [show ((64 : Nat) : Int) = 64 from rfl]
   clear hlt hk HS hs
   have hix := fun (j : Nat) (hj : j < 8) (W : World) => idx8 a b c d e f gg hh j hj W
   have Hix := qj hix
   clear hix
   obtain ⟨wo, rfl⟩ : ∃ wo : World, wo = wr := ⟨_, rfl⟩
   go_wp2
   go_loopw [118] (fun i wr => ∃ k : Nat, k ≤ 8 ∧ i = .int .i64 k ∧ Row wr g 161 (put (stC l B h t) 0 (fun i => w32 ((comp l B).getD i 0)) k) ∧ w.grownBy wr (some g)) (fun i _ => 8 - (intOf i).toNat)
   case atStart => exact ⟨0, Nat.zero_le _, rfl, hr, gb_then ⟨hg.os, hg.tape, hg.output, hg.size, fun k hk _ => hg.block k hk (by simp)⟩ (gb_refl _ _)⟩
   case round =>
    clear hr hg
    obtain ⟨k, hk, rfl, hr, hg⟩ := hrel
    by_cases hlt : k < 8
    ·have hdec : decide ((k : Int) < 8) = true := by simp; omega
     have bk : (k : Int) < 8 := by omega
     have hi := Hix.out k hlt
     obtain ⟨y, hy⟩ := nmd (([a, b, c, d, e, f, gg, hh] : List UInt32).getD k 0)
     obtain ⟨x, hx⟩ := nmd (l.getD k 0)
     rw [hy] at hi
     have cx : wr.cell? ⟨g, k, none⟩ = some (.int .u32 (x.toNat : Int)) := by
      refine hr.at_ ?_
      rw [put_get, if_neg (by omega), stC_word Hl.out hlt, hx]
     have hf : wr.frozen? ⟨g, k, none⟩ = false := hr.free _
     have Hy := qj hy
     have Hx := qj hx
     clear hy hx
     go_wp2_with fail
     have q0 := IntWalk.i64_in (k : Int) (by omega)
     refine wp_region_still_tail 11 (by kernel_rfl) (by kernel_rfl) ?_
     simp only [List.take_succ_cons, List.take_zero, List.drop_succ_cons, List.drop_zero]
     iterate 11 still_step
     refine wpStill_nil ?_
     clear q0
     change wpList _ _ _ _ _ wr.drew
     go_wp2_with fail
     go_roundw
     case rel =>
      refine ⟨k + 1, by omega, by go_num, ?_, gb_drew (gb_then hg (gb_set1 _ _ _ _))⟩
      have e : w32 ((comp l B).getD k 0) = .int .u32 ((pl x y).toNat : Int) := by
       rw [comp_getD l B k Hl.out hlt, ← HS2.out, Hx.out, Hy.out]; rfl
      have h := (hr.set_ k (w32 ((comp l B).getD k 0))).drew
      rw [e] at h
      simp only [put, Nat.zero_add]
      rw [e]
      exact h
     case measure => simp [intOf]; omega
    ·have hk8 : k = 8 := by omega
     subst hk8
     rw [stC_words l (comp l B) B h t Hl.out (comp_len _ _ Hl.out)] at hr
     rw [show ((8 : Nat) : Int) = 8 from rfl]
     clear hlt hk
     go_wp2
     go_end0
     exact ⟨rfl, hr, hg⟩
end Go.Proofs.YtpcjbjpofcdjeaaGreatDoor.Hh
namespace Go.Proofs.YtpcjbjpofcdjeaaGreatDoor.Hh
open Go.RowKit Wd Mm
theorem put_more (cs : Array Value) (F f : Nat → Value) (a m : Nat) (h : ∀ i, i < m → f i = F (a + i)) : put (put cs 0 F a) a f m = put cs 0 F (a + m) := by
 induction m with
 | zero => rfl
 | succ m ih =>
  rw [put, ih (fun i hi => h i (by omega)), h m (by omega), ← Nat.add_assoc, put, Nat.zero_add]
def tF (l : List UInt32) (i : Nat) : Value := w8 (tellF l i)
theorem tell_cells {w : World} {g : Nat} {t : TypeId} {Z : Array Value} (l : List UInt32) (hZ : Z.size = 32) (h : Row w g t (put Z 0 (tF l) 32)) :
  ∀ j (hj : j < (tellB l).length), w.cell? ((⟨g, 0, none⟩ : Addr).add j) = some (.int .u8 ((tellB l)[j].toNat : Int)) := by
 intro j hj
 have hadd : (⟨g, 0, none⟩ : Addr).add j = ⟨g, j, none⟩ := by unfold Addr.add; split <;> simp_all
 have hj' : j < 32 := by rw [tellB_len] at hj; exact hj
 rw [hadd, h.get, put_get, if_pos ⟨Nat.zero_le _, by omega, by omega⟩]
 simp [tF, tellB, w8]
theorem told_any (g : Nat) (l : List UInt32) (B : List UInt8) (h t : Nat) (w : World) (hl : l.length = 8) (hr : Row w g 161 (stC l B h t)) :
  Calls Tryz.prog 128 #[.pointer (some ⟨g, 0, none⟩)] w
   fun e w' => e = .returned (.string ⟨(tellB l).toArray⟩) ∧ Gn w w' := by
 have hlt := hr.lt
 obtain ⟨x0, x1, x2, x3, x4, x5, x6, x7, rfl⟩ : ∃ x0 x1 x2 x3 x4 x5 x6 x7, l = [x0, x1, x2, x3, x4, x5, x6, x7] := by
  match l, hl with
  | [x0, x1, x2, x3, x4, x5, x6, x7], _ => exact ⟨x0, x1, x2, x3, x4, x5, x6, x7, rfl⟩
 have c0 : ∀ o, (w.alloc o).cell? ⟨g, 0, none⟩ = some (.int .u32 (x0.toNat : Int)) := fun o => (hr.alloc o).at_ rfl
 have c1 : ∀ o, (w.alloc o).cell? ⟨g, 1, none⟩ = some (.int .u32 (x1.toNat : Int)) := fun o => (hr.alloc o).at_ rfl
 have c2 : ∀ o, (w.alloc o).cell? ⟨g, 2, none⟩ = some (.int .u32 (x2.toNat : Int)) := fun o => (hr.alloc o).at_ rfl
 have c3 : ∀ o, (w.alloc o).cell? ⟨g, 3, none⟩ = some (.int .u32 (x3.toNat : Int)) := fun o => (hr.alloc o).at_ rfl
 have c4 : ∀ o, (w.alloc o).cell? ⟨g, 4, none⟩ = some (.int .u32 (x4.toNat : Int)) := fun o => (hr.alloc o).at_ rfl
 have c5 : ∀ o, (w.alloc o).cell? ⟨g, 5, none⟩ = some (.int .u32 (x5.toNat : Int)) := fun o => (hr.alloc o).at_ rfl
 have c6 : ∀ o, (w.alloc o).cell? ⟨g, 6, none⟩ = some (.int .u32 (x6.toNat : Int)) := fun o => (hr.alloc o).at_ rfl
 have c7 : ∀ o, (w.alloc o).cell? ⟨g, 7, none⟩ = some (.int .u32 (x7.toNat : Int)) := fun o => (hr.alloc o).at_ rfl
 have Hix := qj (fun (j : Nat) (hj : j < 8) (W : World) => idx8 x0 x1 x2 x3 x4 x5 x6 x7 j hj W)
 clear hr
 generalize hL : ([x0, x1, x2, x3, x4, x5, x6, x7] : List UInt32) = l at *
 clear hL
 go_enter Tryz.func128, Tryz.ntmps128
 go_wp2
 clear c0 c1 c2 c3 c4 c5 c6 c7
 go_loopw [10] (fun i wr => ∃ k : Nat, k ≤ 8 ∧ i = .int .i64 k ∧ (∃ Z, Row wr w.heap.size 209 (put Z 0 (tF l) (4 * k)) ∧ Hid (Z.size = 32)) ∧ Gn w wr) (fun i _ => 8 - (intOf i).toNat)
 case atStart => exact ⟨0, Nat.zero_le _, rfl, ⟨_, heap_alloc_new _ _, rfl⟩, gb_alloc (gb_refl _ _) _⟩
 case round =>
  obtain ⟨k, hk, rfl, ⟨Z, hr, HZ⟩, hgr⟩ := hrel
  by_cases hlt : k < 8
  ·have hdec : decide ((k : Int) < 8) = true := by simp; omega
   have bk : (k : Int) < 8 := by omega
   have hi := Hix.out k hlt
   obtain ⟨x, hx⟩ : ∃ y, l.getD k 0 = y := ⟨_, rfl⟩
   rw [hx] at hi
   have Hx := qj hx
   obtain ⟨m, Hm⟩ : ∃ m : Nat, Hid (m = 4 * k) := ⟨_, rfl⟩
   have hm : 4 * (k : Int) = (m : Int) := by have := Hm.out; omega
   have hm28 : m ≤ 28 := by have := Hm.out; omega
   have hA : Tryz.prog.arrayLen 209 = 32 := by kernel_rfl
   have h32 : (m : Int) + 4 ≤ 32 := by omega
   have hle : (m : Int) ≤ (m : Int) + 4 := by omega
   have hx1 := lt32 x
   have hx2 : (x.toNat : Int) < 4294967296 := by omega
   clear hx
   go_wp2_with fail
   rw [← Hm.out] at hr
   refine (putHigh_any w.heap.size m 4 _ x.toNat _ 209 _ (by omega) (by decide) (by rw [put_size, HZ.out]; omega) hr).mono ?_
   rintro e w1 ⟨rfl, r1, g1⟩
   have e1 : put (put Z 0 (tF l) m) m (fun j => w8 (highB x.toNat 4 j)) 4 = put Z 0 (tF l) (m + 4) := by
    refine put_more _ _ _ _ _ fun i hi => ?_
    unfold tF tellF
    rw [show (m + i) / 4 = k by have := Hm.out; omega, show (m + i) % 4 = i by have := Hm.out; omega, Hx.out]
   rw [e1, show m + 4 = 4 * (k + 1) by have := Hm.out; omega] at r1
   clear e1
   go_wp2_with fail
   go_roundw
   case rel => exact ⟨k + 1, by omega, by go_num, ⟨Z, r1, HZ⟩, gb_new hgr g1 (Nat.le_refl _)⟩
   case measure => simp [intOf]; omega
  ·have hk8 : k = 8 := by omega
   subst hk8
   rw [show ((8 : Nat) : Int) = 8 from rfl]
   have hconv := run_convert_bytes_back (P := Tryz.prog) wr 54 9 5 ⟨w.heap.size, 0, none⟩ 32 (tellB l) Tryz.underlying54 Tryz.underlying5 Tryz.underlying9 (tell_cells l HZ.out hr)
   rw [tellB_len] at hconv
   have hA : Tryz.prog.arrayLen 209 = 32 := by kernel_rfl
   clear hlt hk hr
   go_wp2
   go_ret
   exact ⟨rfl, hgr⟩
end Go.Proofs.YtpcjbjpofcdjeaaGreatDoor.Hh
namespace Go.Proofs.YtpcjbjpofcdjeaaGreatDoor.Hh
open Go.RowKit Wd Mm
theorem namedL {P : Program} {ops : Array Oper} {Q : Exit → Act → World → Prop} {l : List Oper} {a : Act} {W0 : World} (R : World → Prop) (h0 : R W0) (h : ∀ W, R W → wpList P ops Q l a W) : wpList P ops Q l a W0 := h W0 h0
def patch (B : List UInt8) (o : Nat) (X : List UInt8) : List UInt8 := B.take o ++ (X ++ B.drop (o + X.length))
theorem patch_len {B X : List UInt8} {o : Nat} (h : o + X.length ≤ B.length) : (patch B o X).length = B.length := by
 simp [patch]; omega
theorem patch_getD {B X : List UInt8} {o : Nat} (h : o + X.length ≤ B.length) (i : Nat) : (patch B o X).getD i 0 = if o ≤ i ∧ i < o + X.length then X.getD (i - o) 0 else B.getD i 0 := by
 unfold patch
 simp only [List.getD_eq_getElem?_getD]
 by_cases h1 : i < o
 ·rw [List.getElem?_append_left (by simp; omega), if_neg (by omega), List.getElem?_take_of_lt h1]
 ·have hl : (B.take o).length = o := by simp; omega
  rw [List.getElem?_append_right (by omega), hl]
  by_cases h2 : i < o + X.length
  ·rw [List.getElem?_append_left (by omega), if_pos ⟨by omega, h2⟩]
  ·rw [List.getElem?_append_right (by omega), if_neg (by omega), List.getElem?_drop]
   congr 2; omega
theorem stC_get {l : List UInt32} {B : List UInt8} {h t : Nat} (hl : l.length = 8) (hB : B.length = 64) (i : Nat) :
  (stC l B h t)[i]? = if i < 8 then some (w32 (l.getD i 0)) else if i < 72 then some (w8 (B.getD (i - 8) 0)) else if i = 72 then some (Value.int .i64 (h : Int)) else if i = 73 then some (Value.int .u64 (t : Int)) else none := by
 by_cases h1 : i < 8
 ·rw [if_pos h1, stC_word hl h1]; rfl
 ·rw [if_neg h1]
  by_cases h2 : i < 72
  ·rw [if_pos h2]
   have := stC_byte (h := h) (t := t) hl hB (i := i - 8) (by omega)
   rw [show 8 + (i - 8) = i by omega] at this
   exact this
  ·rw [if_neg h2]
   by_cases h3 : i = 72
   ·rw [if_pos h3, h3, stC_held hl hB]
   ·rw [if_neg h3]
    by_cases h4 : i = 73
    ·rw [if_pos h4, h4, stC_tot hl hB]
    ·rw [if_neg h4, Array.getElem?_eq_none (by rw [stC_size hl hB]; omega)]
theorem stC_patch {l : List UInt32} {B X : List UInt8} {h t o : Nat} (hl : l.length = 8) (hB : B.length = 64) (hX : o + X.length ≤ 64) :
  put (stC l B h t) (8 + o) (fun i => w8 (X.getD i 0)) X.length = stC l (patch B o X) h t := by
 have hp : (patch B o X).length = 64 := by rw [patch_len (by omega), hB]
 apply Array.ext_getElem?
 intro i
 rw [put_get, stC_get hl hB, stC_get hl hp, stC_size hl hB]
 by_cases hc : 8 + o ≤ i ∧ i < 8 + o + X.length ∧ i < 74
 ·rw [if_pos hc, if_neg (by omega), if_pos (by omega), patch_getD (by omega), if_pos (by omega)]
  rw [show i - (8 + o) = i - 8 - o by omega]
 ·rw [if_neg hc]
  by_cases h1 : i < 8
  ·rw [if_pos h1, if_pos h1]
  ·rw [if_neg h1, if_neg h1]
   by_cases h2 : i < 72
   ·rw [if_pos h2, if_pos h2, patch_getD (by omega), if_neg (by omega)]
   ·rw [if_neg h2, if_neg h2]
theorem stC_setHeld {l : List UInt32} {B : List UInt8} {h t : Nat} (hl : l.length = 8) (hB : B.length = 64) (h' : Nat) : (stC l B h t).setIfInBounds 72 (.int .i64 (h' : Int)) = stC l B h' t := by
 apply Array.ext_getElem?
 intro i
 rw [Array.getElem?_setIfInBounds, stC_get hl hB, stC_get hl hB, stC_size hl hB]
 by_cases e : 72 = i
 ·subst e; simp
 ·rw [if_neg e]
  by_cases e2 : i = 72
  ·omega
  ·simp [e2]
theorem stC_setTot {l : List UInt32} {B : List UInt8} {h t : Nat} (hl : l.length = 8) (hB : B.length = 64) (t' : Nat) : (stC l B h t).setIfInBounds 73 (.int .u64 (t' : Int)) = stC l B h t' := by
 apply Array.ext_getElem?
 intro i
 rw [Array.getElem?_setIfInBounds, stC_get hl hB, stC_get hl hB, stC_size hl hB]
 by_cases e : 73 = i
 ·subst e; simp
 ·rw [if_neg e]
  by_cases e2 : i = 73
  ·omega
  ·simp [e2]
end Go.Proofs.YtpcjbjpofcdjeaaGreatDoor.Hh
namespace Go.Proofs.YtpcjbjpofcdjeaaGreatDoor.Hh
open Go.RowKit Wd Mm
theorem zero_byte (w : World) : (zeroValue 5).run Tryz.prog w = .ok (.int .u8 0) w := by kernel_rfl
theorem run_clear_block (w : World) (g o n c : Nat) (ty : TypeId) (hn : 0 < n) {t : TypeId} {cs : Array Value} (hr : Row w g t cs) (hfit : o + n ≤ cs.size) :
  (Builtin.clear_ #[54] ty #[.slice (some ⟨g, o, none⟩) n c]).run Tryz.prog w = .ok (.tuple #[]) (w.setCells g o (List.replicate n (.int .u8 0))) :=
 Lib.run_clear_slice w 54 5 ty (.int .u8 0) Tryz.underlying54 zero_byte rfl rfl g o n c hn
  (fun j hj => by rw [hr.get, Array.getElem?_eq_getElem (by omega)]; rfl) (fun _ _ => hr.free _)
theorem stC_clear {w : World} {g : Nat} {l : List UInt32} {B : List UInt8} {h t o n : Nat} (hl : l.length = 8) (hB : B.length = 64) (ho : o + n ≤ 64) (hr : Row w g 161 (stC l B h t)) :
  Row (w.setCells g (8 + o) (List.replicate n (.int .u8 0))) g 161 (stC l (patch B o (List.replicate n 0)) h t) := by
 have h1 := row_setCells (List.replicate n (Value.int .u8 0)) (8 + o) _ _ hr
 have h2 := stC_patch (l := l) (B := B) (X := List.replicate n 0) (h := h) (t := t) (o := o) hl hB (by simp; omega)
 rw [List.length_replicate] at h1 h2
 rw [← h2]
 have e : put (stC l B h t) (8 + o) (fun i => (List.replicate n (Value.int .u8 0)).getD i undef) n = put (stC l B h t) (8 + o) (fun i => w8 ((List.replicate n (0 : UInt8)).getD i 0)) n := by
  apply Array.ext_getElem?
  intro i
  rw [put_get, put_get]
  by_cases hc : 8 + o ≤ i ∧ i < 8 + o + n ∧ i < (stC l B h t).size
  ·rw [if_pos hc, if_pos hc]
   have : i - (8 + o) < n := by omega
   simp [this, w8]
  ·rw [if_neg hc, if_neg hc]
 rw [← e]
 exact h1
def zs64 : List Value := List.replicate 64 (.int .u8 0)
def markB (B : List UInt8) (h : Nat) : List UInt8 := patch (patch B h [128]) (h + 1) (List.replicate (63 - h) 0)
def countB (B : List UInt8) (N : Nat) : List UInt8 := patch B 56 (beBytes N 8)
theorem markB_len {B : List UInt8} {h : Nat} (hB : B.length = 64) (hh : h < 64) : (markB B h).length = 64 := by
 have h1 : (patch B h [128]).length = 64 := by rw [patch_len (by simp; omega), hB]
 unfold markB
 rw [patch_len (by simp; omega), h1]
theorem countB_len {B : List UInt8} {N : Nat} (hB : B.length = 64) : (countB B N).length = 64 := by
 unfold countB
 rw [patch_len (by rw [beBytes_len]; omega), hB]
def endW (l : List UInt32) (B : List UInt8) (h t : Nat) : List UInt32 :=
 if h < 56 then comp l (countB (markB B h) (8 * t % 18446744073709551616)) else comp (comp l (markB B h)) (countB (patch (markB B h) 0 (List.replicate 64 0)) (8 * t % 18446744073709551616))
theorem end_any (g : Nat) (l : List UInt32) (B : List UInt8) (h t : Nat) (w : World) (hl : l.length = 8) (hB : B.length = 64) (hh : h < 64) (hT : Tabs w) (hg1 : 17 < g) (hr : Row w g 161 (stC l B h t)) :
  Calls Tryz.prog 127 #[.pointer (some ⟨g, 0, none⟩)] w
   fun e w' => e = .returned (.tuple #[]) ∧ (∃ B', B'.length = 64 ∧ Row w' g 161 (stC (endW l B h t) B' h t)) ∧ w.grownBy w' (some g) := by
 have hA : Tryz.prog.arrayLen 159 = 64 := by kernel_rfl
 obtain ⟨N, HN⟩ : ∃ N : Nat, Hid (N = 8 * t % 18446744073709551616) := ⟨_, rfl⟩
 have hN : IntKind.u64.wrap (8 * (t : Int)) = (N : Int) := by rw [HN.out, IntKind.wrap_u64]; omega
 have hN1 : N ≤ 18446744073709551615 := by have := HN.out; omega
 have Hl := qj hl
 have HB := qj hB
 have hcell : w.cell? ⟨g, 72, none⟩ = some (.int .i64 (h : Int)) := hr.at_ (stC_held hl hB)
 have hcb : w.cell? ⟨g, 8 + h, none⟩ = some (w8 (B.getD h 0)) := hr.at_ (stC_byte hl hB hh)
 have hf := hr.free (8 + h)
 have hh64 : (h : Int) < 64 := by omega
 clear hl hB
 go_enter Tryz.func127, Tryz.ntmps127
 go_wp2
 go_region
 go_wp2
 change Code.wp _ _ _ (Act.mk _ _) _
 refine Td.named (fun W => Row W g 161 (stC l (patch B h [128]) h t) ∧ w.grownBy W (some g)) ⟨?r0, gb_drew (gb_set1 _ _ _ _)⟩ ?_
 case r0 =>
  have h1 := (hr.set_ (8 + h) (.int .u8 128)).drew
  have h2 := stC_patch (l := l) (B := B) (X := [128]) (h := h) (t := t) (o := h) Hl.out HB.out (by simp; omega)
  rw [← h2]
  exact h1
 clear hcell hcb hf
 have hB1 : (patch B h [128]).length = 64 := by rw [patch_len (by rw [HB.out]; simp; omega), HB.out]
 have HBm := qj (markB_len (h := h) HB.out hh)
 generalize hp : patch B h [128] = B1 at *
 have Hp := qj hp
 have HB1 := qj hB1
 clear hp hB1
 rintro w1 ⟨r1, g1⟩
 obtain ⟨k1, Hk1⟩ : ∃ k1 : Nat, Hid (k1 = h + 1) := ⟨_, rfl⟩
 have hk1 : (h : Int) + 1 = (k1 : Int) := by have := Hk1.out; omega
 have hk2 : (k1 : Int) ≤ 64 := by omega
 have hk3 : k1 ≤ 64 := by omega
 have c72 : w1.cell? ⟨g, 72, none⟩ = some (.int .i64 (h : Int)) := r1.at_ (stC_held Hl.out HB1.out)
 have hcl : k1 < 64 → ∀ ty, (Builtin.clear_ #[54] ty #[.slice (some ⟨g, 8 + k1, none⟩) (64 - k1) (64 - k1)]).run Tryz.prog w1.drew = .ok (.tuple #[]) (w1.drew.setCells g (8 + k1) (List.replicate (64 - k1) (.int .u8 0))) := fun hlt ty =>
  run_clear_block w1.drew g (8 + k1) (64 - k1) (64 - k1) ty (by omega) r1.drew (by rw [stC_size Hl.out HB1.out]; omega)
 have q0 := IntWalk.i64_in (h : Int) (by omega)
 have q1 := IntWalk.i64_in (k1 : Int) (by omega)
 have r2 : Row (w1.drew.setCells g (8 + k1) (List.replicate (64 - k1) (.int .u8 0))) g 161 (stC l (markB B h) h t) := by
  have h1 := stC_clear (o := k1) (n := 64 - k1) Hl.out HB1.out (by omega) r1.drew
  unfold markB
  rw [Hp.out]
  rw [Hk1.out] at h1 ⊢
  rw [show 63 - h = 64 - (h + 1) by omega]
  exact h1
 have Hg1 := qj (gb_then g1 (gb_refl _ _))
 clear g1
 by_cases hlast : k1 = 64
 ·subst hlast
  have hb : ¬ h < 56 := by have := Hk1.out; omega
  have r2' : Row w1.drew g 161 (stC l (markB B h) h t) := by
   have h0 := r2
   rw [Nat.sub_self, List.replicate_zero] at h0
   exact h0
  have q64 : IntKind.i64.wrap 64 = 64 := by decide
  have hcl0 : ∀ (ty : TypeId) (a : Addr) (c : Nat) (W : World), (Builtin.clear_ #[54] ty #[.slice (some a) 0 c]).run Tryz.prog W = .ok (.tuple #[]) W := fun ty a c W => by
   simp [Builtin.clear_, run_underlying Tryz.underlying54]
  clear r2 hcl
  have r2 := r2'
  clear r2'
  have g2 := gb_then Hg1.out (gb_drew (gb_refl w1 _))
  refine wp_region_still_tail 9 (by kernel_rfl) (by kernel_rfl) ?_
  simp only [List.take_succ_cons, List.take_zero, List.drop_succ_cons, List.drop_zero]
  iterate 9 still_step
  refine wpStill_nil ?_
  clear q0 q1
  change wpList _ _ _ _ _ w1.drew
  have c72b : w1.drew.cell? ⟨g, 72, none⟩ = some (.int .i64 (h : Int)) := r2.at_ (stC_held Hl.out HBm.out)
  have hd : decide (56 ≤ (h : Int)) = true := by simp; omega
  have hd2 : 56 ≤ (h : Int) := by omega
  go_wp2_with fail
  clear c72b hd hd2
  refine (take_any g l (markB B h) h t _ Hl.out HBm.out (hT.keep g2 (fun i e => by cases e; exact hg1)) r2).mono ?_
  rintro e w2 ⟨rfl, r3, g3⟩
  have g4 := gb_then g2 g3
  have Hl3 := qj (comp_len l (markB B h) Hl.out)
  have hz64 : (patch (markB B h) 0 (List.replicate 64 0)).length = 64 := by rw [patch_len (by rw [HBm.out]; simp), HBm.out]
  have r5 : Row (w2.setCells g 8 zs64) g 161 (stC (comp l (markB B h)) (patch (markB B h) 0 (List.replicate 64 0)) h t) := stC_clear (o := 0) (n := 64) Hl3.out HBm.out (by decide) r3
  have hcl2 : ∀ ty, (Builtin.clear_ #[54] ty #[.slice (some ⟨g, 8, none⟩) 64 64]).run Tryz.prog w2 = .ok (.tuple #[]) (w2.setCells g 8 zs64) := fun ty =>
   run_clear_block w2 g 8 64 64 ty (by decide) r3 (by rw [stC_size Hl3.out HBm.out]; decide)
  have Hz64 := qj hz64
  have g5 := gb_then g4 (gb_setCells g zs64 8 w2)
  clear hz64 r2 g2 r3 g3 g4
  go_wp2_with fail
  clear hcl2
  change Code.wp _ _ _ (Act.mk _ _) _
  refine Td.named (fun W => Row W g 161 (stC (comp l (markB B h)) (patch (markB B h) 0 (List.replicate 64 0)) h t) ∧ w.grownBy W (some g)) ⟨r5, g5⟩ ?_
  clear r5 g5
  rintro w5' ⟨r5, g5⟩
  have c73 := r5.drew.at_ (stC_tot Hl3.out Hz64.out)
  have q8 : IntKind.u64.wrap (8 * (t : Int)) = (N : Int) := hN
  have hw8 : 8 * (t : Int) % 18446744073709551616 = (N : Int) := by rw [← hN, IntKind.wrap_u64]
  refine wp_region_still_tail 9 (by kernel_rfl) (by kernel_rfl) ?_
  simp only [List.take_succ_cons, List.take_zero, List.drop_succ_cons, List.drop_zero]
  iterate 9 still_step
  refine wpStill_nil ?_
  clear c73 q8 hw8
  refine namedL (fun W => Row W g 161 (stC (comp l (markB B h)) (patch (markB B h) 0 (List.replicate 64 0)) h t) ∧ w.grownBy W (some g)) ⟨r5.drew, gb_drew g5⟩ ?_
  rintro w6 ⟨r6, g6⟩
  go_wp2_with fail
  refine (putHigh_any g 64 8 8 N _ 161 _ (by omega) (by decide) (by rw [stC_size Hl3.out Hz64.out]; decide) r6).mono ?_
  rintro e w7 ⟨rfl, r7, g7⟩
  have e7 : put (stC (comp l (markB B h)) (patch (markB B h) 0 (List.replicate 64 0)) h t) 64 (fun j => w8 (highB N 8 j)) 8 = stC (comp l (markB B h)) (countB (patch (markB B h) 0 (List.replicate 64 0)) N) h t := by
   have h1 := stC_patch (l := (comp l (markB B h))) (B := (patch (markB B h) 0 (List.replicate 64 0))) (X := beBytes N 8) (h := h) (t := t) (o := 56) Hl3.out Hz64.out (by rw [beBytes_len]; decide)
   rw [beBytes_len] at h1
   unfold countB
   rw [← h1]
   exact put_congr _ _ _ _ _ fun j hj => by rw [beBytes_getD _ _ _ hj]
  rw [e7] at r7
  have g8 := gb_then g6 g7
  clear e7 g6 g7 r6
  go_wp2_with fail
  refine (take_any g (comp l (markB B h)) (countB (patch (markB B h) 0 (List.replicate 64 0)) N) h t _ Hl3.out (countB_len Hz64.out) (hT.keep g8 (fun i e => by cases e; exact hg1)) r7).mono ?_
  rintro e w8' ⟨rfl, r9, g9⟩
  have g10 := gb_then g8 g9
  clear r7 g8 g9
  go_wp2_with fail
  go_end0
  refine ⟨rfl, ⟨countB (patch (markB B h) 0 (List.replicate 64 0)) N, countB_len Hz64.out, ?_⟩, g10⟩
  have e9 : endW l B h t = comp (comp l (markB B h)) (countB (patch (markB B h) 0 (List.replicate 64 0)) N) := by unfold endW; rw [if_neg hb, HN.out]
  rw [e9]
  exact r9
 ·have hcl' := hcl (by omega)
  have hne : ¬ (64 = k1) := by omega
  clear hcl
  have g2 := gb_then Hg1.out (by exact gb_then (gb_drew (gb_refl _ _)) (gb_setCells g (List.replicate (64 - k1) (Value.int .u8 0)) (8 + k1) w1.drew))
  refine wp_region_still_tail 9 (by kernel_rfl) (by kernel_rfl) ?_
  simp only [List.take_succ_cons, List.take_zero, List.drop_succ_cons, List.drop_zero]
  iterate 9 still_step
  refine wpStill_nil ?_
  clear q0 q1
  change wpList _ _ _ _ _ w1.drew
  have c72b : (w1.drew.setCells g (8 + k1) (List.replicate (64 - k1) (.int .u8 0))).cell? ⟨g, 72, none⟩ = some (.int .i64 (h : Int)) := r2.at_ (stC_held Hl.out HBm.out)
  by_cases hb : h < 56
  ·have hd : decide (56 ≤ (h : Int)) = false := by simp; omega
   have hd2 : ¬ 56 ≤ (h : Int) := by omega
   go_wp2_with fail
   clear c72b hd hd2
   have c73 := r2.drew.at_ (stC_tot Hl.out HBm.out)
   have q8 : IntKind.u64.wrap (8 * (t : Int)) = (N : Int) := hN
   have hw8 : 8 * (t : Int) % 18446744073709551616 = (N : Int) := by rw [← hN, IntKind.wrap_u64]
   refine wp_region_still_tail 9 (by kernel_rfl) (by kernel_rfl) ?_
   simp only [List.take_succ_cons, List.take_zero, List.drop_succ_cons, List.drop_zero]
   iterate 9 still_step
   refine wpStill_nil ?_
   clear c73 q8 hw8
   refine namedL (fun W => Row W g 161 (stC l (markB B h) h t) ∧ w.grownBy W (some g)) ⟨r2.drew, gb_drew g2⟩ ?_
   rintro w6 ⟨r6, g6⟩
   go_wp2_with fail
   refine (putHigh_any g 64 8 8 N _ 161 _ (by omega) (by decide) (by rw [stC_size Hl.out HBm.out]; decide) r6).mono ?_
   rintro e w7 ⟨rfl, r7, g7⟩
   have e7 : put (stC l (markB B h) h t) 64 (fun j => w8 (highB N 8 j)) 8 = stC l (countB (markB B h) N) h t := by
    have h1 := stC_patch (l := l) (B := (markB B h)) (X := beBytes N 8) (h := h) (t := t) (o := 56) Hl.out HBm.out (by rw [beBytes_len]; decide)
    rw [beBytes_len] at h1
    unfold countB
    rw [← h1]
    exact put_congr _ _ _ _ _ fun j hj => by rw [beBytes_getD _ _ _ hj]
   rw [e7] at r7
   have g8 := gb_then g6 g7
   clear e7 g6 g7 r6
   go_wp2_with fail
   refine (take_any g l (countB (markB B h) N) h t _ Hl.out (countB_len HBm.out) (hT.keep g8 (fun i e => by cases e; exact hg1)) r7).mono ?_
   rintro e w8' ⟨rfl, r9, g9⟩
   have g10 := gb_then g8 g9
   clear r7 g8 g9
   go_wp2_with fail
   go_end0
   refine ⟨rfl, ⟨countB (markB B h) N, countB_len HBm.out, ?_⟩, g10⟩
   have e9 : endW l B h t = comp l (countB (markB B h) N) := by unfold endW; rw [if_pos hb, HN.out]
   rw [e9]
   exact r9
  ·have hd : decide (56 ≤ (h : Int)) = true := by simp; omega
   have hd2 : 56 ≤ (h : Int) := by omega
   go_wp2_with fail
   clear c72b hd hd2
   refine (take_any g l (markB B h) h t _ Hl.out HBm.out (hT.keep g2 (fun i e => by cases e; exact hg1)) r2).mono ?_
   rintro e w2 ⟨rfl, r3, g3⟩
   have g4 := gb_then g2 g3
   have Hl3 := qj (comp_len l (markB B h) Hl.out)
   have hz64 : (patch (markB B h) 0 (List.replicate 64 0)).length = 64 := by rw [patch_len (by rw [HBm.out]; simp), HBm.out]
   have r5 : Row (w2.setCells g 8 zs64) g 161 (stC (comp l (markB B h)) (patch (markB B h) 0 (List.replicate 64 0)) h t) := stC_clear (o := 0) (n := 64) Hl3.out HBm.out (by decide) r3
   have hcl2 : ∀ ty, (Builtin.clear_ #[54] ty #[.slice (some ⟨g, 8, none⟩) 64 64]).run Tryz.prog w2 = .ok (.tuple #[]) (w2.setCells g 8 zs64) := fun ty =>
    run_clear_block w2 g 8 64 64 ty (by decide) r3 (by rw [stC_size Hl3.out HBm.out]; decide)
   have Hz64 := qj hz64
   have g5 := gb_then g4 (gb_setCells g zs64 8 w2)
   clear hz64 r2 g2 r3 g3 g4
   go_wp2_with fail
   clear hcl2
   change Code.wp _ _ _ (Act.mk _ _) _
   refine Td.named (fun W => Row W g 161 (stC (comp l (markB B h)) (patch (markB B h) 0 (List.replicate 64 0)) h t) ∧ w.grownBy W (some g)) ⟨r5, g5⟩ ?_
   clear r5 g5
   rintro w5' ⟨r5, g5⟩
   have c73 := r5.drew.at_ (stC_tot Hl3.out Hz64.out)
   have q8 : IntKind.u64.wrap (8 * (t : Int)) = (N : Int) := hN
   have hw8 : 8 * (t : Int) % 18446744073709551616 = (N : Int) := by rw [← hN, IntKind.wrap_u64]
   refine wp_region_still_tail 9 (by kernel_rfl) (by kernel_rfl) ?_
   simp only [List.take_succ_cons, List.take_zero, List.drop_succ_cons, List.drop_zero]
   iterate 9 still_step
   refine wpStill_nil ?_
   clear c73 q8 hw8
   refine namedL (fun W => Row W g 161 (stC (comp l (markB B h)) (patch (markB B h) 0 (List.replicate 64 0)) h t) ∧ w.grownBy W (some g)) ⟨r5.drew, gb_drew g5⟩ ?_
   rintro w6 ⟨r6, g6⟩
   go_wp2_with fail
   refine (putHigh_any g 64 8 8 N _ 161 _ (by omega) (by decide) (by rw [stC_size Hl3.out Hz64.out]; decide) r6).mono ?_
   rintro e w7 ⟨rfl, r7, g7⟩
   have e7 : put (stC (comp l (markB B h)) (patch (markB B h) 0 (List.replicate 64 0)) h t) 64 (fun j => w8 (highB N 8 j)) 8 = stC (comp l (markB B h)) (countB (patch (markB B h) 0 (List.replicate 64 0)) N) h t := by
    have h1 := stC_patch (l := (comp l (markB B h))) (B := (patch (markB B h) 0 (List.replicate 64 0))) (X := beBytes N 8) (h := h) (t := t) (o := 56) Hl3.out Hz64.out (by rw [beBytes_len]; decide)
    rw [beBytes_len] at h1
    unfold countB
    rw [← h1]
    exact put_congr _ _ _ _ _ fun j hj => by rw [beBytes_getD _ _ _ hj]
   rw [e7] at r7
   have g8 := gb_then g6 g7
   clear e7 g6 g7 r6
   go_wp2_with fail
   refine (take_any g (comp l (markB B h)) (countB (patch (markB B h) 0 (List.replicate 64 0)) N) h t _ Hl3.out (countB_len Hz64.out) (hT.keep g8 (fun i e => by cases e; exact hg1)) r7).mono ?_
   rintro e w8' ⟨rfl, r9, g9⟩
   have g10 := gb_then g8 g9
   clear r7 g8 g9
   go_wp2_with fail
   go_end0
   refine ⟨rfl, ⟨countB (patch (markB B h) 0 (List.replicate 64 0)) N, countB_len Hz64.out, ?_⟩, g10⟩
   have e9 : endW l B h t = comp (comp l (markB B h)) (countB (patch (markB B h) 0 (List.replicate 64 0)) N) := by unfold endW; rw [if_neg hb, HN.out]
   rw [e9]
   exact r9
end Go.Proofs.YtpcjbjpofcdjeaaGreatDoor.Hh
namespace Go.Proofs.YtpcjbjpofcdjeaaGreatDoor.Hh
open Go.RowKit Wd Mm
def Run (w : World) (g : Nat) (M : List UInt8) (t : Nat) : Prop :=
 ∃ B, B.length = 64 ∧ B.take (M.length % 64) = M.drop (64 * (M.length / 64)) ∧ Row w g 161 (stC (runB M (M.length / 64)) B (M.length % 64) t)
theorem strLen_ext (s : ByteArray) (n : Nat) : (s.extract n s.size).data.toList = s.data.toList.drop n := by
 rw [ByteArray.data_extract, Array.toList_extract]
 simp only [List.extract_eq_take_drop]
 exact List.take_of_length_le (by simp)
def strLen : Value → Nat | .string s => s.size | _ => 0
theorem piece (M : List UInt8) (B : List UInt8) (X : List UInt8) (hB : B.length = 64) (ht : B.take (M.length % 64) = M.drop (64 * (M.length / 64))) (hX : M.length % 64 + X.length < 64) :
  (patch B (M.length % 64) X).take ((M ++ X).length % 64) = (M ++ X).drop (64 * ((M ++ X).length / 64)) ∧ (M ++ X).length / 64 = M.length / 64 ∧ (M ++ X).length % 64 = M.length % 64 + X.length ∧ runB (M ++ X) (M.length / 64) = runB M (M.length / 64) := by
 have e1 : (M ++ X).length / 64 = M.length / 64 := by rw [List.length_append]; omega
 have e2 : (M ++ X).length % 64 = M.length % 64 + X.length := by rw [List.length_append]; omega
 refine ⟨?_, e1, e2, runB_app M X _ (by omega)⟩
 rw [e1, e2, List.drop_append_of_le_length (by omega), ← ht]
 unfold patch
 rw [List.take_append, List.take_of_length_le (by simp; omega)]
 congr 1
 have hl : (B.take (M.length % 64)).length = M.length % 64 := by simp; omega
 rw [hl, List.take_append_of_le_length (by omega), List.take_of_length_le (by omega)]
theorem piece_full (M : List UInt8) (B : List UInt8) (X : List UInt8) (hB : B.length = 64) (ht : B.take (M.length % 64) = M.drop (64 * (M.length / 64))) (hX : M.length % 64 + X.length = 64) :
  (M ++ X).length / 64 = M.length / 64 + 1 ∧ (M ++ X).length % 64 = 0 ∧ runB (M ++ X) (M.length / 64 + 1) = comp (runB M (M.length / 64)) (patch B (M.length % 64) X) := by
 have e1 : (M ++ X).length / 64 = M.length / 64 + 1 := by rw [List.length_append]; omega
 have e2 : (M ++ X).length % 64 = 0 := by rw [List.length_append]; omega
 refine ⟨e1, e2, ?_⟩
 rw [runB, runB_app M X _ (by omega)]
 congr 1
 rw [List.drop_append_of_le_length (by omega), ← ht]
 unfold patch
 rw [hX, List.drop_of_length_le (by omega), List.append_nil]
 exact List.take_of_length_le (by simp; omega)
theorem byte_one_size (w : World) : (Go.sizeOf 5).run Tryz.prog w = .ok 1 w := by kernel_rfl
theorem cells_bytes (X : List UInt8) (n : Nat) : (X.map w8).take n = (X.take n).map w8 := by rw [List.map_take]
theorem add_any (g : Nat) (M : List UInt8) (t : Nat) (part : ByteArray) (w : World) (hsz : part.size ≤ 9223372036854775807) (hT : Tabs w) (hg1 : 17 < g) (hr : Run w g M t) :
  Calls Tryz.prog 126 #[.pointer (some ⟨g, 0, none⟩), .string part] w
   fun e w' => e = .returned (.tuple #[]) ∧ Run w' g (M ++ part.data.toList) ((t + part.size) % 18446744073709551616) ∧ w.grownBy w' (some g) := by
 obtain ⟨T, HT⟩ : ∃ T : Nat, Hid (T = (t + part.size) % 18446744073709551616) := ⟨_, rfl⟩
 rw [← HT.out]
 obtain ⟨B, hB, htk, hrow⟩ := hr
 have hA : Tryz.prog.arrayLen 159 = 64 := by kernel_rfl
 have hw1 : IntKind.u64.wrap ((t : Int) + (part.size : Int)) = (T : Int) := by rw [HT.out, IntKind.wrap_u64]; omega
 have hw2 : ((t : Int) + (part.size : Int)) % 18446744073709551616 = (T : Int) := by rw [HT.out]; omega
 have hlen := runB_len M (M.length / 64)
 have c73 : w.cell? ⟨g, 73, none⟩ = some (.int .u64 (t : Int)) := hrow.at_ (stC_tot hlen hB)
 have f73 := hrow.free 73
 have Hpart := qj hsz
 go_enter Tryz.func126, Tryz.ntmps126
 go_wp2
 change Code.wp _ _ _ (Act.mk _ _) _
 refine Td.named (fun W => Run W g M T ∧ w.grownBy W (some g)) ⟨⟨B, hB, htk, ?r0⟩, gb_set1 _ _ _ _⟩ ?_
 case r0 =>
  have h := hrow.set_ 73 (.int .u64 (T : Int))
  rw [stC_setTot hlen hB] at h
  exact h
 clear hw1 hw2 c73 f73 hB htk hrow hlen
 rintro w1 ⟨r1, g1⟩
 go_loopw [1] (fun v wr => ∃ (s : ByteArray) (c : Nat), v = .string s ∧ c ≤ part.size ∧ Hid (s.data.toList = part.data.toList.drop c) ∧ s.size = part.size - c ∧ Run wr g (M ++ part.data.toList.take c) T ∧ w.grownBy wr (some g)) (fun v _ => strLen v)
 case atStart => exact ⟨part, 0, rfl, Nat.zero_le _, rfl, by omega, by rw [List.take_zero, List.append_nil]; exact r1, g1⟩
 case round =>
  clear r1 g1
  obtain ⟨s, c, rfl, hc, Hs, hss, hr, hg⟩ := hrel
  have Hss := qj hss
  clear hss
  by_cases hlt : 0 < s.size
  ·generalize hX : M ++ part.data.toList.take c = X at *
   have HX := qj hX
   clear hX
   obtain ⟨B, hB, htk, hrow⟩ := hr
   obtain ⟨h, Hh⟩ : ∃ h : Nat, Hid (h = X.length % 64) := ⟨_, rfl⟩
   have hh : h < 64 := by rw [Hh.out]; omega
   obtain ⟨l, HL⟩ : ∃ l, Hid (l = runB X (X.length / 64)) := ⟨_, rfl⟩
   rw [← Hh.out] at htk hrow
   rw [← HL.out] at hrow
   have hl : l.length = 8 := by rw [HL.out]; exact runB_len _ _
   obtain ⟨n, Hn⟩ : ∃ n : Nat, Hid (n = Nat.min s.size (64 - h)) := ⟨_, rfl⟩
   have hn1 : n ≤ s.size := by rw [Hn.out]; exact Nat.min_le_left _ _
   have hn2 : n ≤ 64 - h := by rw [Hn.out]; exact Nat.min_le_right _ _
   have hn0 : 0 < n := by rw [Hn.out]; exact Nat.lt_min.2 ⟨hlt, by omega⟩
   have hS : s.data.toList.length = s.size := by simp
   have hXn : (s.data.toList.take n).length = n := by rw [List.length_take, hS]; omega
   have c72 : wr.cell? ⟨g, 72, none⟩ = some (.int .i64 (h : Int)) := hrow.at_ (stC_held hl hB)
   have hcp : ∀ ty, (Builtin.copy_ #[54, 9] ty #[.slice (some ⟨g, 8 + h, none⟩) (64 - h) (64 - h), .string s]).run Tryz.prog wr.drew = .ok (.int .i64 (n : Int)) (wr.drew.setCells g (8 + h) ((s.data.toList.map w8).take n)) := fun ty =>
    run_copy_min wr.drew 54 9 ty 5 g (8 + h) (64 - h) (64 - h) n s Tryz.underlying54 byte_one_size Hn.out.symm
     (fun j hj => by rw [hrow.drew.get, Array.getElem?_eq_getElem (by rw [stC_size hl hB]; omega)]; rfl) (fun j _ => hrow.drew.free _)
   have r2 : Row (wr.drew.setCells g (8 + h) ((s.data.toList.map w8).take n)) g 161 (stC l (patch B h (s.data.toList.take n)) h T) := by
    have h1 := row_setCells ((s.data.toList.map w8).take n) (8 + h) _ _ hrow.drew
    have h2 := stC_patch (l := l) (B := B) (X := s.data.toList.take n) (h := h) (t := T) (o := h) hl hB (by rw [hXn]; omega)
    rw [hXn] at h2
    rw [cells_bytes, List.length_map, hXn] at h1
    rw [cells_bytes, ← h2]
    have e : put (stC l B h T) (8 + h) (fun i => ((s.data.toList.take n).map w8).getD i undef) n = put (stC l B h T) (8 + h) (fun i => w8 ((s.data.toList.take n).getD i 0)) n := by
     refine put_congr _ _ _ _ _ fun j hj => ?_
     have hj' : j < (s.data.toList.take n).length := by omega
     simp only [List.getD_eq_getElem?_getD, List.getElem?_map, List.getElem?_eq_getElem hj', Option.map_some, Option.getD_some]
    rw [← e]
    exact h1
   have g2 := gb_then (gb_drew hg) (gb_setCells g ((s.data.toList.map w8).take n) (8 + h) wr.drew)
   have hB2 : (patch B h (s.data.toList.take n)).length = 64 := by rw [patch_len (by omega), hB]
   have Hl := qj hl
   have HB := qj hB
   have HB2 := qj hB2
   have HXn := qj hXn
   have Htk := qj htk
   have q0 := IntWalk.i64_in (h : Int) (by omega)
   have hh64 : (h : Int) ≤ 64 := by omega
   have hne : ¬ (64 = h) := by omega
   have hd0 : decide (0 < (s.size : Int)) = true := dcT
   clear hl hB hB2 hXn hrow htk hS hg
   go_wp2_with fail
   refine wp_region_still_tail 9 (by kernel_rfl) (by kernel_rfl) ?_
   simp only [List.take_succ_cons, List.take_zero, List.drop_succ_cons, List.drop_zero]
   iterate 9 still_step
   refine wpStill_nil ?_
   clear q0
   change wpList _ _ _ _ _ wr.drew
   have c72b := r2.at_ (stC_held Hl.out HB2.out)
   have f72b := r2.free 72
   obtain ⟨k2, Hk2⟩ : ∃ k2 : Nat, Hid (k2 = h + n) := ⟨_, rfl⟩
   have hk2 : (h : Int) + (n : Int) = (k2 : Int) := by have := Hk2.out; omega
   have hk64 : k2 ≤ 64 := by have := Hk2.out; omega
   have hi1 : (n : Int) ≤ (s.size : Int) := by omega
   have r3 := r2.set_ 72 (.int .i64 (k2 : Int))
   rw [stC_setHeld Hl.out HB2.out] at r3
   have g3 := gb_then g2 (gb_set1 (wr.drew.setCells g (8 + h) ((s.data.toList.map w8).take n)) g 72 (.int .i64 (k2 : Int)))
   have c72c := r3.at_ (stC_held Hl.out HB2.out)
   have HnE : Hid (∀ c', c' = c + n → (s.extract n s.size).data.toList = part.data.toList.drop c' ∧ (s.extract n s.size).size = part.size - c' ∧ M ++ part.data.toList.take c' = X ++ s.data.toList.take n ∧ c' ≤ part.size) := by
    intro c' hc'
    subst hc'
    have hs1 := Hss.out
    refine ⟨?_, ?_, ?_, by omega⟩
    ·rw [strLen_ext, Hs.out, List.drop_drop]
    ·rw [ByteArray.size_extract]; omega
    ·rw [HX.out.symm, Hs.out, List.append_assoc, List.take_add]
   have HsE : Hid ((s.extract n s.size).size < s.size) := by
    show _ < _
    rw [ByteArray.size_extract]; omega
   clear r2 g2 c72
   by_cases hfull : k2 = 64
   ·subst hfull
    rw [show ((64 : Nat) : Int) = 64 from rfl] at c72c hk2
    have ht64 : ((64 : Int) == 64) = true := rfl
    go_wp2_with fail
    have hT3 := hT.keep g3 (fun i e => by cases e; exact hg1)
    refine (take_any g l (patch B h (s.data.toList.take n)) 64 T _ Hl.out HB2.out (by exact hT3) (by exact r3)).mono ?_
    rintro e w4 ⟨rfl, r4, g4⟩
    have g5 := gb_then g3 g4
    have Hlc := qj (comp_len l (patch B h (s.data.toList.take n)) Hl.out)
    have c72d := r4.at_ (stC_held Hlc.out HB2.out)
    have f72d := r4.free 72
    have r5 := r4.set_ 72 (.int .i64 ((0 : Nat) : Int))
    rw [stC_setHeld Hlc.out HB2.out] at r5
    clear r3 g3 g4 r4 c72b f72b c72c hT3 hcp
    go_wp2_with fail
    go_roundw
    case rel =>
     obtain ⟨e1, e2, e3, e4⟩ := HnE.out (c + n) rfl
     refine ⟨_, c + n, rfl, e4, e1, e2, ?_, gb_then g5 (gb_set1 _ _ _ _)⟩
     rw [e3]
     have hp := piece_full X B (s.data.toList.take n) HB.out (by rw [← Hh.out]; exact Htk.out) (by rw [HXn.out, ← Hh.out]; have := Hk2.out; omega)
     refine ⟨patch B h (s.data.toList.take n), HB2.out, ?_, ?_⟩
     ·rw [hp.1, hp.2.1, List.take_zero]
      refine (List.drop_of_length_le ?_).symm
      have := hp.1
      have := hp.2.1
      omega
     ·rw [hp.1, hp.2.1, hp.2.2, ← HL.out, ← Hh.out]; exact r5
    case measure => exact HsE.out
   ·have ht64 : ((k2 : Int) == 64) = false := by rw [beq_eq_false_iff_ne]; omega
    go_wp2_with fail
    go_roundw
    case rel =>
     obtain ⟨e1, e2, e3, e4⟩ := HnE.out (c + n) rfl
     refine ⟨_, c + n, rfl, e4, e1, e2, ?_, g3⟩
     rw [e3]
     have hp := piece X B (s.data.toList.take n) HB.out (by rw [← Hh.out]; exact Htk.out) (by rw [HXn.out, ← Hh.out]; have := Hk2.out; omega)
     refine ⟨patch B h (s.data.toList.take n), HB2.out, ?_, ?_⟩
     ·rw [Hh.out]; exact hp.1
     ·rw [hp.2.1, hp.2.2.1, hp.2.2.2, HXn.out, ← Hh.out, ← HL.out, ← Hk2.out]; exact r3
    case measure => exact HsE.out
  ·have hc2 : c = part.size := by have := Hss.out; omega
   have hd0 : decide (0 < (s.size : Int)) = false := dcF
   have hd1 : ¬ 0 < (s.size : Int) := by omega
   have hall : part.data.toList.take c = part.data.toList := List.take_of_length_le (by rw [hc2]; simp)
   rw [hall] at hr
   clear hall hc2
   go_wp2
   go_end0
   exact ⟨rfl, hr, hg⟩
end Go.Proofs.YtpcjbjpofcdjeaaGreatDoor.Hh
namespace Go.Proofs.YtpcjbjpofcdjeaaGreatDoor.Hh
open Go.RowKit Wd Mm
theorem mark_eq (B : List UInt8) (h : Nat) (hB : B.length = 64) (hh : h < 64) : markB B h = B.take h ++ (128 :: List.replicate (63 - h) 0) := by
 unfold markB patch
 have hl : (B.take h).length = h := by simp; omega
 have e1 : (B.take h ++ ([128] ++ B.drop (h + ([128] : List UInt8).length))).take (h + 1) = B.take h ++ [128] := by
  rw [List.take_append, List.take_of_length_le (by omega), hl, show h + 1 - h = 1 by omega]; rfl
 have e2 : (B.take h ++ ([128] ++ B.drop (h + ([128] : List UInt8).length))).drop (h + 1 + (List.replicate (63 - h) (0 : UInt8)).length) = [] := by
  refine List.drop_of_length_le ?_
  simp; omega
 rw [e1, e2, List.append_nil, List.append_assoc]; rfl
theorem count_eq (X : List UInt8) (N : Nat) (hX : X.length = 64) : countB X N = X.take 56 ++ beBytes N 8 := by
 unfold countB patch
 rw [beBytes_len, List.drop_of_length_le (by omega), List.append_nil]
theorem tail_low (n : Nat) (h : n % 64 < 56) : tailB n = 128 :: (List.replicate (55 - n % 64) 0 ++ beBytes (8 * n % 18446744073709551616) 8) := by
 unfold tailB
 rw [show (119 - n % 64) % 64 = 55 - n % 64 by omega]
theorem tail_high (n : Nat) (h : 56 ≤ n % 64) : tailB n = 128 :: (List.replicate (63 - n % 64) 0 ++ (List.replicate 56 0 ++ beBytes (8 * n % 18446744073709551616) 8)) := by
 unfold tailB
 rw [show (119 - n % 64) % 64 = (63 - n % 64) + 56 by omega, ← List.replicate_append_replicate, List.append_assoc]
theorem end_sha (M B : List UInt8) (h t : Nat) (hB : B.length = 64) (hh : h = M.length % 64) (ht : t = M.length % 18446744073709551616) (htk : B.take h = M.drop (64 * (M.length / 64))) :
  endW (runB M (M.length / 64)) B h t = runB (padB M) ((padB M).length / 64) := by
 have h64 : h < 64 := by omega
 have hN : 8 * t % 18446744073709551616 = 8 * M.length % 18446744073709551616 := by omega
 have hl : (B.take h).length = h := by simp; omega
 have hpl : ∀ T : List UInt8, ((M ++ T).drop (64 * (M.length / 64))) = B.take h ++ T := fun T => by
  rw [List.drop_append_of_le_length (by omega), htk]
 unfold endW
 rw [hN]
 by_cases hb : h < 56
 ·rw [if_pos hb]
  have hT := tail_low M.length (by omega)
  rw [← hh] at hT
  have hlen : (padB M).length / 64 = M.length / 64 + 1 := by
   unfold padB
   rw [hT]
   simp only [List.length_append, List.length_cons, List.length_replicate, beBytes_len]
   omega
  rw [hlen, runB]
  have e0 : runB (padB M) (M.length / 64) = runB M (M.length / 64) := runB_app _ _ _ (by omega)
  rw [e0]
  refine congrArg (comp _) ?_
  unfold padB
  rw [hpl, hT, mark_eq B h hB h64, count_eq _ _ (by simp; omega)]
  rw [List.take_append, List.take_of_length_le (l := B.take h) (i := 56) (by omega), hl, show 56 - h = (55 - h) + 1 by omega, List.take_succ_cons, List.take_replicate, show min (55 - h) (63 - h) = 55 - h by omega]
  rw [List.take_of_length_le (l := B.take h ++ _) (i := 64) (by simp only [List.length_append, List.length_cons, List.length_replicate, beBytes_len]; omega)]
  simp
 ·rw [if_neg hb]
  have hT := tail_high M.length (by omega)
  rw [← hh] at hT
  have hlen : (padB M).length / 64 = M.length / 64 + 1 + 1 := by
   unfold padB
   rw [hT]
   simp only [List.length_append, List.length_cons, List.length_replicate, beBytes_len]
   omega
  rw [hlen, runB, runB]
  have e0 : runB (padB M) (M.length / 64) = runB M (M.length / 64) := runB_app _ _ _ (by omega)
  rw [e0]
  have hm : (markB B h).length = 64 := markB_len hB h64
  have hd1 : ((padB M).drop (64 * (M.length / 64))).take 64 = markB B h := by
   unfold padB
   rw [hpl, hT, mark_eq B h hB h64, ← List.cons_append, ← List.append_assoc, List.take_append_of_le_length (by simp only [List.length_append, List.length_cons, List.length_replicate]; omega)]
   exact List.take_of_length_le (by simp only [List.length_append, List.length_cons, List.length_replicate]; omega)
  have hd2 : ((padB M).drop (64 * (M.length / 64 + 1))).take 64 = countB (patch (markB B h) 0 (List.replicate 64 0)) (8 * M.length % 18446744073709551616) := by
   rw [show 64 * (M.length / 64 + 1) = 64 * (M.length / 64) + 64 by omega, ← List.drop_drop]
   unfold padB
   rw [hpl, hT, count_eq _ _ (by rw [patch_len (by rw [hm]; simp), hm])]
   rw [← List.cons_append, ← List.append_assoc, List.drop_append_of_le_length (by simp only [List.length_append, List.length_cons, List.length_replicate]; omega)]
   rw [List.drop_of_length_le (by simp only [List.length_append, List.length_cons, List.length_replicate]; omega), List.nil_append]
   rw [List.take_of_length_le (by simp only [List.length_append, List.length_replicate, beBytes_len]; omega)]
   unfold patch
   rw [List.take_zero, List.nil_append, List.take_append_of_le_length (by simp), List.take_replicate]; rfl
  rw [hd1, hd2]
end Go.Proofs.YtpcjbjpofcdjeaaGreatDoor.Hh
namespace Go.Proofs.YtpcjbjpofcdjeaaGreatDoor.Hh
open Go.RowKit Wd Mm
def Strs (w : World) (A : Option Addr) (n : Nat) (ss : List ByteArray) : Prop :=
 ss.length = n ∧ (0 < n → ∃ g o, A = some ⟨g, o, none⟩ ∧ g < w.heap.size ∧ ∀ i, i < n → w.cell? ⟨g, o + i, none⟩ = some (.string (ss.getD i ByteArray.empty)))
theorem Strs.keep {w w' : World} {A : Option Addr} {n : Nat} {ss : List ByteArray} (h : Strs w A n ss) (hg : Gn w w') : Strs w' A n ss := by
 refine ⟨h.1, fun hn => ?_⟩
 obtain ⟨g, o, e, hl, hc⟩ := h.2 hn
 exact ⟨g, o, e, Nat.lt_of_lt_of_le hl hg.size, fun i hi => by
  have := hg.block g hl (by simp)
  rw [World.cell?_of_block (w := w) (a := ⟨g, o + i, none⟩) this]
  exact hc i hi⟩
def catB (ss : List ByteArray) : List UInt8 := ss.flatMap fun s => s.data.toList
theorem catB_take (ss : List ByteArray) (k : Nat) (hk : k < ss.length) : catB (ss.take (k + 1)) = catB (ss.take k) ++ (ss.getD k ByteArray.empty).data.toList := by
 unfold catB
 rw [List.take_succ_eq_append_getElem hk, List.flatMap_append]
 simp [hk]
def zeroB : List UInt8 := List.replicate 64 0
theorem zeroB_len : zeroB.length = 64 := by simp [zeroB]
def zC : Array Value := stC (List.replicate 8 0) zeroB 0 0
def sC : Array Value := stC firstH zeroB 0 0
theorem zC_run (W : World) : (zeroValue 161).run Tryz.prog W = .ok (.agg zC) W := by kernel_rfl
theorem zC_size : zC.size = 74 := stC_size (by decide) zeroB_len
theorem sC_size : sC.size = 74 := stC_size (by decide) zeroB_len
theorem zC_set : (((((((zC.setIfInBounds 0 (Value.int IntKind.u32 1779033703)).setIfInBounds 1 (Value.int IntKind.u32 3144134277)).setIfInBounds 2 (Value.int IntKind.u32 1013904242)).setIfInBounds 3 (Value.int IntKind.u32 2773480762)).setIfInBounds 4 (Value.int IntKind.u32 1359893119)).setIfInBounds 5 (Value.int IntKind.u32 2600822924)).setIfInBounds 6 (Value.int IntKind.u32 528734635)).setIfInBounds 7 (Value.int IntKind.u32 1541459225) = sC := by
 have h := stC_words (List.replicate 8 0) firstH zeroB 0 0 (by decide) (by decide)
 exact h
theorem sC_one : sC.all (·.oneCell') = true := by
 rw [Array.all_eq_true_iff_forall_mem]
 intro v hv
 simp only [sC, stC, List.mem_toArray, List.mem_append, List.mem_map, List.mem_cons, List.not_mem_nil, or_false] at hv
 rcases hv with ⟨x, _, rfl⟩ | ⟨x, _, rfl⟩ | rfl | rfl <;> rfl
theorem size37 : (Tryz.prog.info? 161).map (·.size) = some sC.size := by rw [sC_size]; kernel_rfl
theorem sum_any (A : Option Addr) (n c : Nat) (ss : List ByteArray) (w : World) (hn : n ≤ 9223372036854775807) (hsz : ∀ i, i < n → (ss.getD i ByteArray.empty).size ≤ 9223372036854775807) (hs : Strs w A n ss) (hT : Tabs w) :
  Calls Tryz.prog 92 #[.slice A n c] w
   fun e w' => e = .returned (.string ⟨(shaS (catB ss)).toArray⟩) ∧ Gn w w' := by
 have c0 : w.cell? ⟨1, 0, none⟩ = some (.int .u32 1779033703) := hT.2.1 0 (by decide)
 have c1 : w.cell? ⟨1, 1, none⟩ = some (.int .u32 3144134277) := hT.2.1 1 (by decide)
 have c2 : w.cell? ⟨1, 2, none⟩ = some (.int .u32 1013904242) := hT.2.1 2 (by decide)
 have c3 : w.cell? ⟨1, 3, none⟩ = some (.int .u32 2773480762) := hT.2.1 3 (by decide)
 have c4 : w.cell? ⟨1, 4, none⟩ = some (.int .u32 1359893119) := hT.2.1 4 (by decide)
 have c5 : w.cell? ⟨1, 5, none⟩ = some (.int .u32 2600822924) := hT.2.1 5 (by decide)
 have c6 : w.cell? ⟨1, 6, none⟩ = some (.int .u32 528734635) := hT.2.1 6 (by decide)
 have c7 : w.cell? ⟨1, 7, none⟩ = some (.int .u32 1541459225) := hT.2.1 7 (by decide)
 have Hsz := qj hsz
 have Hs := qj hs
 clear hsz hs
 go_enter Tryz.func92, Tryz.ntmps92
 have hz := zC_run
 have hz2 := zC_size
 have hz3 := zC_set
 go_wp2_with (refine wpList_store_row rfl 161 (.tmp 3) (.tmp 7) rfl w.heap.size _ rfl rfl 161 _ (heap_alloc_new _ _) size37 ?hz sC_one ?_)
 case hz => rw [zC_size, sC_size]
 have rr : Row ((w.alloc (.cells zC 161)).setRow w.heap.size sC) w.heap.size 161 sC := Row.setRow_ (heap_alloc_new _ _) _
 have gg : w.grownBy ((w.alloc (.cells zC 161)).setRow w.heap.size sC) none := gb_new (gb_alloc (gb_refl _ _) _) (gb_setRow1 _ _ _) (Nat.le_refl _)
 have h1w : 17 < w.heap.size := hT.1
 clear hz hz2 hz3 c0 c1 c2 c3 c4 c5 c6 c7
 go_loopw [10] (fun i wr => ∃ k : Nat, k ≤ n ∧ i = .int .i64 k ∧ Run wr w.heap.size (catB (ss.take k)) ((catB (ss.take k)).length % 18446744073709551616) ∧ Gn w wr) (fun i _ => n - (intOf i).toNat)
 case atStart =>
  refine ⟨0, Nat.zero_le _, rfl, ?_, gg⟩
  have e0 : catB (ss.take 0) = [] := by simp [catB]
  rw [e0]
  exact ⟨zeroB, zeroB_len, by simp, rr⟩
 case round =>
  clear rr gg
  obtain ⟨k, hk, rfl, hr, hg⟩ := hrel
  have hTr := hT.keep hg (by simp)
  by_cases hlt : k < n
  ·have hdec : decide (k < n) = true := decide_eq_true hlt
   have hdec2 : decide ((k : Int) < (n : Int)) = true := dcT
   obtain ⟨g, o, rfl, hgl, hc⟩ := (Hs.out.keep hg).2 (by omega)
   have hck := hc k hlt
   have hszk := Hsz.out k hlt
   have hsl : k < ss.length := by rw [Hs.out.1]; exact hlt
   have Hcat := qj (catB_take ss k hsl)
   generalize hp : ss.getD k ByteArray.empty = p at *
   clear hp hc hsl
   go_wp2_with fail
   refine (add_any w.heap.size _ _ p _ hszk (by exact hTr) h1w (by exact hr)).mono ?_
   rintro e w2 ⟨rfl, r2, g2⟩
   go_wp2_with fail
   go_roundw
   case rel =>
    refine ⟨k + 1, by omega, by go_num, ?_, gb_new hg g2 (Nat.le_refl _)⟩
    rw [Hcat.out]
    have e : ((catB (ss.take k)).length % 18446744073709551616 + p.size) % 18446744073709551616 = (catB (ss.take k) ++ p.data.toList).length % 18446744073709551616 := by
     rw [List.length_append]
     have : p.data.toList.length = p.size := by simp
     omega
    rw [← e]; exact r2
   case measure => simp [intOf]; omega
  ·have hkn : k = n := by omega
   have hdec : decide (k < n) = false := decide_eq_false hlt
   have hdec2 : decide ((k : Int) < (n : Int)) = false := dcF
   have hall : ss.take k = ss := List.take_of_length_le (by rw [Hs.out.1]; omega)
   rw [hall] at hr
   obtain ⟨B, hB, htk, hrow⟩ := hr
   generalize hM : catB ss = M at *
   have hl := runB_len M (M.length / 64)
   have Hend := qj (end_sha M B _ _ hB rfl rfl htk)
   have HB := qj hB
   have Hl := qj hl
   have hh : M.length % 64 < 64 := Nat.mod_lt _ (by decide)
   have HM := qj hM
   clear hkn hall hM hB hl htk
   go_wp2_with fail
   refine (end_any w.heap.size _ B _ _ _ Hl.out HB.out hh (by exact hTr) h1w (by exact hrow)).mono ?_
   rintro e w2 ⟨rfl, ⟨B', hB', r2⟩, g2⟩
   rw [Hend.out] at r2
   have g3 := gb_new hg g2 (Nat.le_refl _)
   clear hrow hg g2
   go_wp2_with fail
   refine (told_any w.heap.size _ B' _ _ _ (runB_len _ _) (by exact r2)).mono ?_
   rintro e w3 ⟨rfl, g4⟩
   go_wp2_with fail
   go_ret
   have hM' := HM.out
   subst hM'
   exact ⟨rfl, gb_none g3 g4⟩
end Go.Proofs.YtpcjbjpofcdjeaaGreatDoor.Hh
namespace Go.Proofs.YtpcjbjpofcdjeaaGreatDoor.Hh
open Go.RowKit Wd Mm
theorem shaS_len (m : List UInt8) : (shaS m).length = 32 := tellB_len _
theorem len_data (s : ByteArray) : s.data.toList.length = s.size := by simp
theorem ba (l : List UInt8) : (⟨l.toArray⟩ : ByteArray).data.toList = l := by simp
theorem row_bytes {w : World} {g : Nat} {t : TypeId} {l : List UInt8} (h : Row w g t (l.map w8).toArray) : ∀ j (hj : j < l.length), w.cell? ((⟨g, 0, none⟩ : Addr).add j) = some (.int .u8 (l[j].toNat : Int)) := fun j hj => by
 have hadd : (⟨g, 0, none⟩ : Addr).add j = ⟨g, j, none⟩ := by unfold Addr.add; split <;> simp_all
 rw [hadd]
 exact h.at_ (by simp [hj, w8])
theorem below_of {w w' : World} (h : Gn w w') : Below w.heap.size w w' := gb_below h (Nat.le_refl _)
theorem ret_bool {a b : Bool} (h : a = b) : Ending.returned (.bool a) = .returned (.bool b) := by rw [h]
end Go.Proofs.YtpcjbjpofcdjeaaGreatDoor.Hh
namespace Go.Proofs.YtpcjbjpofcdjeaaGreatDoor.Hh
open Go.RowKit Wd Mm
def Held8 (w : World) (a : Option Addr) (len : Nat) : Prop := 0 < len → ∃ g o, a = some ⟨g, o, none⟩ ∧ g < w.heap.size ∧ ∀ i, i < len → ∃ b : Nat, b ≤ 255 ∧ w.cell? ⟨g, o + i, none⟩ = some (.int .u8 (b : Int))
theorem Held8.keep {w w' : World} {a : Option Addr} {n : Nat} (h : Held8 w a n) (hg : Gn w w') : Held8 w' a n := fun hn => by
 obtain ⟨g, o, e, hl, hc⟩ := h hn
 exact ⟨g, o, e, Nat.lt_of_lt_of_le hl hg.size, fun i hi => by
  have := hg.block g hl (by simp)
  rw [World.cell?_of_block (w := w) (a := ⟨g, o + i, none⟩) this]
  exact hc i hi⟩
theorem catB_append (a b : List ByteArray) : catB (a ++ b) = catB a ++ catB b := by simp [catB]
theorem catB_one (s : ByteArray) : catB [s] = s.data.toList := by simp [catB]
theorem strs_one (w : World) (p : ByteArray) : Strs (w.alloc (.cells #[.string p] 9)) (some ⟨w.heap.size, 0, none⟩) 1 [p] := by
 refine ⟨rfl, fun _ => ⟨w.heap.size, 0, rfl, by simp, fun i hi => ?_⟩⟩
 obtain rfl : i = 0 := by omega
 exact cell_of_row _ _ 0 #[.string p] 9 (0, 0) (heap_alloc_new _ _)
theorem one_small (p : ByteArray) (h : p.size ≤ 9223372036854775807) : ∀ j, j < 1 → ([p].getD j ByteArray.empty).size ≤ 9223372036854775807 := fun j hj => by
 obtain rfl : j = 0 := by omega
 exact h
end Go.Proofs.YtpcjbjpofcdjeaaGreatDoor.Hh
