/- The sum of 32 bytes as plain lists of words and bytes: no program. Small functions of sha and of the document's sum: what each call answers. sha.putHigh: a number's bytes, the highest first. sha.spread: the sixty-four words of a block. The cells of a running sum; the two tables. sha.take: the words behind a block. sha.told: the words' bytes. Bytes written into a running sum's block: plain laws, and two of the builtins. sha.end: the mark, the noughts, the count. sha.add: bytes taken behind those that were taken. What the words are behind the end is what the sum asks: plain lists. sha.Sum: the sum of all parts. What sha's texts share. What a statement's arguments hold (texts, bytes): plain laws. -/
import Derived.Test.YtaecfcodldbnhaaBase
import Derived.Lib.Hide
import Derived.Test.YtaecfcodldbnhaaRows
import Derived.WalkKit
import Derived.WalkSpells
import Derived.WalkLawsBesides
import Derived.BigRegion
import Derived.StillTailTactics
import Derived.IntWalk
import Derived.Test.YtaecfcodldbnhaaTdA
import Derived.Laws.CopyOwn
import Derived.Deep.OwnRows
import Derived.Deep.RegionWith
import Derived.Outline
import Derived.BigQuiet
import Derived.Deep.QuietTactic
import Derived.Deep.MidRow
import Derived.Lib.SliceRun
import Derived.Lib.LazyBuf
import Derived.Laws.IdiomCopy
import Derived.SliceStrings
import Derived.Laws.AppendOwn
/- The sum of 32 bytes as plain lists of words and bytes: no program. -/
namespace Go.Proofs.Ytaecfcodldbnhaa.Wd
open Go Mm

def an (a b : UInt32) : UInt32 := a &&& b
def nt (a : UInt32) : UInt32 := 4294967295 ^^^ a
def shr (a : UInt32) (k : Nat) : UInt32 := a >>> (UInt32.ofNat k)
theorem pl_wrap (a b : UInt32) : IntKind.u32.wrap ((a.toNat : Int) + (b.toNat : Int)) = ((pl a b).toNat : Int) := add32 a b
theorem an_walk (a b : UInt32) : bits .and .u32 (a.toNat : Int) (b.toNat : Int) = ((an a b).toNat : Int) := and32 a b
theorem shr3_walk (a : UInt32) : (a.toNat : Int) / 8 = ((shr a 3).toNat : Int) := shr32 a 3 (by decide)
theorem shr10_walk (a : UInt32) : (a.toNat : Int) / 1024 = ((shr a 10).toNat : Int) := shr32 a 10 (by decide)
theorem nt_walk (a : UInt32) : bits .xor .u32 (if IntKind.u32.signed = true then -1 else IntKind.u32.max) (a.toNat : Int) = ((nt a).toNat : Int) := by
  have e : (if IntKind.u32.signed = true then (-1 : Int) else IntKind.u32.max) = ((4294967295 : UInt32).toNat : Int) := by decide
  rw [e, xor32]; rfl

def far (x : UInt32) : UInt32 := xo (xo (rotl x 25) (rotl x 14)) (shr x 3)
def near (x : UInt32) : UInt32 := xo (xo (rotl x 15) (rotl x 13)) (shr x 10)
def low (x : UInt32) : UInt32 := xo (xo (rotl x 26) (rotl x 21)) (rotl x 7)
def high (x : UInt32) : UInt32 := xo (xo (rotl x 30) (rotl x 19)) (rotl x 10)
def pick (e f g : UInt32) : UInt32 := xo (an e f) (an (nt e) g)
def most (a b c : UInt32) : UInt32 := xo (xo (an a b) (an a c)) (an b c)

/-- A word out of four bytes, the highest first. -/
def be32 (a b c d : UInt8) : UInt32 := a.toUInt32 <<< 24 ||| b.toUInt32 <<< 16 ||| c.toUInt32 <<< 8 ||| d.toUInt32
def beAt (l : List UInt8) (i : Nat) : UInt32 := be32 (l.getD i 0) (l.getD (i + 1) 0) (l.getD (i + 2) 0) (l.getD (i + 3) 0)
theorem be32_walk (a b c d : UInt8) : bits .or .u32 (bits .or .u32 (bits .or .u32 ((a.toNat : Int) % 4294967296 * 16777216 % 4294967296) ((b.toNat : Int) % 4294967296 * 65536 % 4294967296)) ((c.toNat : Int) % 4294967296 * 256 % 4294967296)) ((d.toNat : Int) % 4294967296) = ((be32 a b c d).toNat : Int) := by
  have h8 : (c.toUInt32.toNat : Int) * 256 % 4294967296 = _ := shl32 c.toUInt32 8 (by decide)
  have h16 : (b.toUInt32.toNat : Int) * 65536 % 4294967296 = _ := shl32 b.toUInt32 16 (by decide)
  have h24 : (a.toUInt32.toNat : Int) * 16777216 % 4294967296 = _ := shl32 a.toUInt32 24 (by decide)
  rw [up32, up32, up32, up32, h8, h16, h24, or32, or32, or32]; rfl

/-- The sixty-four words of a block. -/
def nextW (l : List UInt32) (i : Nat) : UInt32 := pl (pl (pl (l.getD (i - 16) 0) (l.getD (i - 7) 0)) (far (l.getD (i - 15) 0))) (near (l.getD (i - 2) 0))
def sched (b : List UInt8) : Nat → List UInt32
  | 0 => (List.range 16).map fun i => beAt b (4 * i)
  | k + 1 => sched b k ++ [nextW (sched b k) (16 + k)]
def wS (b : List UInt8) : List UInt32 := sched b 48
theorem sched_len (b : List UInt8) (k : Nat) : (sched b k).length = 16 + k := by
  induction k with
  | zero => simp [sched]
  | succ k ih => simp [sched, ih]; omega
theorem wS_len (b : List UInt8) : (wS b).length = 64 := sched_len b 48
theorem sched_more (b : List UInt8) (k m i : Nat) (hi : i < 16 + k) : (sched b (k + m)).getD i 0 = (sched b k).getD i 0 := by
  induction m with
  | zero => rfl
  | succ m ih =>
    rw [← ih, show k + (m + 1) = k + m + 1 by omega, sched]
    simp only [List.getD_eq_getElem?_getD]
    rw [List.getElem?_append_left (by rw [sched_len]; omega)]
theorem wS_low (b : List UInt8) (i : Nat) (hi : i < 16) : (wS b).getD i 0 = beAt b (4 * i) := by
  have := sched_more b 0 48 i (by omega)
  rw [show wS b = sched b (0 + 48) from rfl, this]
  simp [sched, hi]
theorem sched_high (b : List UInt8) (N i : Nat) (h1 : 16 ≤ i) (h2 : i < 16 + N) : (sched b N).getD i 0 = nextW (sched b N) i := by
  obtain ⟨k, rfl⟩ : ∃ k, i = 16 + k := ⟨i - 16, by omega⟩
  obtain ⟨m, rfl⟩ : ∃ m, N = k + 1 + m := ⟨N - (k + 1), by omega⟩
  have h := sched_more b (k + 1) m (16 + k) (by omega)
  have hx : (sched b (k + 1)).getD (16 + k) 0 = nextW (sched b k) (16 + k) := by
    rw [sched]
    simp only [List.getD_eq_getElem?_getD]
    rw [List.getElem?_append_right (by rw [sched_len]; omega), sched_len]
    simp
  rw [h, hx]
  have e : k + 1 + m = k + (1 + m) := by omega
  unfold nextW
  rw [e, sched_more b k (1 + m) (16 + k - 16) (by omega), sched_more b k (1 + m) (16 + k - 7) (by omega), sched_more b k (1 + m) (16 + k - 15) (by omega), sched_more b k (1 + m) (16 + k - 2) (by omega)]
theorem wS_high (b : List UInt8) (i : Nat) (h1 : 16 ≤ i) (h2 : i < 64) : (wS b).getD i 0 = nextW (wS b) i := sched_high b 48 i h1 h2

/-- The eight words within the rounds. -/
structure St where
  (a b c d e f g h : UInt32)
def St.of (l : List UInt32) : St := ⟨l.getD 0 0, l.getD 1 0, l.getD 2 0, l.getD 3 0, l.getD 4 0, l.getD 5 0, l.getD 6 0, l.getD 7 0⟩
def St.list (s : St) : List UInt32 := [s.a, s.b, s.c, s.d, s.e, s.f, s.g, s.h]
def tOf (s : St) (k w : UInt32) : UInt32 := pl (pl (pl (pl s.h (low s.e)) (pick s.e s.f s.g)) k) w
def uOf (s : St) : UInt32 := pl (high s.a) (most s.a s.b s.c)
def rnd (s : St) (k w : UInt32) : St := ⟨pl (tOf s k w) (uOf s), s.a, s.b, s.c, pl s.d (tOf s k w), s.e, s.f, s.g⟩
def konst : List UInt32 := [
  0x428a2f98, 0x71374491, 0xb5c0fbcf, 0xe9b5dba5, 0x3956c25b, 0x59f111f1, 0x923f82a4, 0xab1c5ed5, 0xd807aa98, 0x12835b01, 0x243185be, 0x550c7dc3, 0x72be5d74, 0x80deb1fe, 0x9bdc06a7, 0xc19bf174,
  0xe49b69c1, 0xefbe4786, 0x0fc19dc6, 0x240ca1cc, 0x2de92c6f, 0x4a7484aa, 0x5cb0a9dc, 0x76f988da, 0x983e5152, 0xa831c66d, 0xb00327c8, 0xbf597fc7, 0xc6e00bf3, 0xd5a79147, 0x06ca6351, 0x14292967,
  0x27b70a85, 0x2e1b2138, 0x4d2c6dfc, 0x53380d13, 0x650a7354, 0x766a0abb, 0x81c2c92e, 0x92722c85, 0xa2bfe8a1, 0xa81a664b, 0xc24b8b70, 0xc76c51a3, 0xd192e819, 0xd6990624, 0xf40e3585, 0x106aa070,
  0x19a4c116, 0x1e376c08, 0x2748774c, 0x34b0bcb5, 0x391c0cb3, 0x4ed8aa4a, 0x5b9cca4f, 0x682e6ff3, 0x748f82ee, 0x78a5636f, 0x84c87814, 0x8cc70208, 0x90befffa, 0xa4506ceb, 0xbef9a3f7, 0xc67178f2]
def rnds (s : St) (ws : List UInt32) : Nat → St
  | 0 => s
  | i + 1 => rnd (rnds s ws i) (konst.getD i 0) (ws.getD i 0)
/-- The eight words behind a block. -/
def comp (l : List UInt32) (b : List UInt8) : List UInt32 := List.zipWith pl l (rnds (St.of l) (wS b) 64).list
theorem comp_len (l : List UInt32) (b : List UInt8) (h : l.length = 8) : (comp l b).length = 8 := by simp [comp, St.list, h]

def firstH : List UInt32 := [0x6a09e667, 0xbb67ae85, 0x3c6ef372, 0xa54ff53a, 0x510e527f, 0x9b05688c, 0x1f83d9ab, 0x5be0cd19]
/-- The words behind the first so many blocks of p. -/
def runB (p : List UInt8) : Nat → List UInt32
  | 0 => firstH
  | j + 1 => comp (runB p j) ((p.drop (64 * j)).take 64)
theorem runB_len (p : List UInt8) (j : Nat) : (runB p j).length = 8 := by
  induction j with
  | zero => rfl
  | succ j ih => exact comp_len _ _ ih
theorem runB_app (p x : List UInt8) (j : Nat) (h : 64 * j ≤ p.length) : runB (p ++ x) j = runB p j := by
  induction j with
  | zero => rfl
  | succ j ih =>
    rw [runB, runB, ih (by omega)]
    congr 1
    rw [List.drop_append_of_le_length (by omega), List.take_append_of_le_length (by rw [List.length_drop]; omega)]

/-- A number's bytes, the highest first. -/
def highB (n : Nat) (m i : Nat) : UInt8 := UInt8.ofNat (n / 256 ^ (m - 1 - i))
def beBytes (n m : Nat) : List UInt8 := (List.range m).map (highB n m)
theorem beBytes_len (n m : Nat) : (beBytes n m).length = m := by simp [beBytes]
theorem beBytes_getD (n m i : Nat) (h : i < m) : (beBytes n m).getD i 0 = highB n m i := by simp [beBytes, h]

/-- What stands behind the bytes. -/
def tailB (n : Nat) : List UInt8 := 128 :: (List.replicate ((119 - n % 64) % 64) 0 ++ beBytes (8 * n % 18446744073709551616) 8)
def padB (m : List UInt8) : List UInt8 := m ++ tailB m.length
theorem tailB_len (n : Nat) : (n + (tailB n).length) % 64 = 0 := by
  simp only [tailB, List.length_cons, List.length_append, List.length_replicate, beBytes_len]
  omega
/-- The sum. -/
def tellF (l : List UInt32) (i : Nat) : UInt8 := highB (l.getD (i / 4) 0).toNat 4 (i % 4)
def tellB (l : List UInt32) : List UInt8 := (List.range 32).map (tellF l)
theorem tellB_len (l : List UInt32) : (tellB l).length = 32 := by simp [tellB]
def shaS (m : List UInt8) : List UInt8 := tellB (runB (padB m) ((padB m).length / 64))
end Go.Proofs.Ytaecfcodldbnhaa.Wd

/- Small functions of sha and of the document's sum: what each call answers. -/
namespace Go.Proofs.Ytaecfcodldbnhaa.Hh
open Go.RowKit Wd

theorem ret_u32 {a b : Int} (h : a = b) : Ending.returned (.int .u32 a) = .returned (.int .u32 b) := by rw [h]

theorem rotl_30 (a : UInt32) : bits .or .u32 ((a.toNat : Int) * 1073741824 % 4294967296) ((a.toNat : Int) / 4) = ((rotl a 30).toNat : Int) := rotl_walk a 30 (by decide) (by decide)
theorem left_30 (a : UInt32) (w : World) :
    Calls Try.prog 21 #[.int .u32 a.toNat, .int .u64 30] w fun e w' => e = .returned (.int .u32 (rotl a 30).toNat) ∧ w = w' := by
  go_enter Try.func21, Try.ntmps21
  go_wp2
  go_ret
  exact ⟨ret_u32 (rotl_30 a), rfl⟩

theorem rotl_26 (a : UInt32) : bits .or .u32 ((a.toNat : Int) * 67108864 % 4294967296) ((a.toNat : Int) / 64) = ((rotl a 26).toNat : Int) := rotl_walk a 26 (by decide) (by decide)
theorem left_26 (a : UInt32) (w : World) :
    Calls Try.prog 21 #[.int .u32 a.toNat, .int .u64 26] w fun e w' => e = .returned (.int .u32 (rotl a 26).toNat) ∧ w = w' := by
  go_enter Try.func21, Try.ntmps21
  go_wp2
  go_ret
  exact ⟨ret_u32 (rotl_26 a), rfl⟩

theorem rotl_25 (a : UInt32) : bits .or .u32 ((a.toNat : Int) * 33554432 % 4294967296) ((a.toNat : Int) / 128) = ((rotl a 25).toNat : Int) := rotl_walk a 25 (by decide) (by decide)
theorem left_25 (a : UInt32) (w : World) :
    Calls Try.prog 21 #[.int .u32 a.toNat, .int .u64 25] w fun e w' => e = .returned (.int .u32 (rotl a 25).toNat) ∧ w = w' := by
  go_enter Try.func21, Try.ntmps21
  go_wp2
  go_ret
  exact ⟨ret_u32 (rotl_25 a), rfl⟩

theorem rotl_21 (a : UInt32) : bits .or .u32 ((a.toNat : Int) * 2097152 % 4294967296) ((a.toNat : Int) / 2048) = ((rotl a 21).toNat : Int) := rotl_walk a 21 (by decide) (by decide)
theorem left_21 (a : UInt32) (w : World) :
    Calls Try.prog 21 #[.int .u32 a.toNat, .int .u64 21] w fun e w' => e = .returned (.int .u32 (rotl a 21).toNat) ∧ w = w' := by
  go_enter Try.func21, Try.ntmps21
  go_wp2
  go_ret
  exact ⟨ret_u32 (rotl_21 a), rfl⟩

theorem rotl_19 (a : UInt32) : bits .or .u32 ((a.toNat : Int) * 524288 % 4294967296) ((a.toNat : Int) / 8192) = ((rotl a 19).toNat : Int) := rotl_walk a 19 (by decide) (by decide)
theorem left_19 (a : UInt32) (w : World) :
    Calls Try.prog 21 #[.int .u32 a.toNat, .int .u64 19] w fun e w' => e = .returned (.int .u32 (rotl a 19).toNat) ∧ w = w' := by
  go_enter Try.func21, Try.ntmps21
  go_wp2
  go_ret
  exact ⟨ret_u32 (rotl_19 a), rfl⟩

theorem rotl_15 (a : UInt32) : bits .or .u32 ((a.toNat : Int) * 32768 % 4294967296) ((a.toNat : Int) / 131072) = ((rotl a 15).toNat : Int) := rotl_walk a 15 (by decide) (by decide)
theorem left_15 (a : UInt32) (w : World) :
    Calls Try.prog 21 #[.int .u32 a.toNat, .int .u64 15] w fun e w' => e = .returned (.int .u32 (rotl a 15).toNat) ∧ w = w' := by
  go_enter Try.func21, Try.ntmps21
  go_wp2
  go_ret
  exact ⟨ret_u32 (rotl_15 a), rfl⟩

theorem rotl_14 (a : UInt32) : bits .or .u32 ((a.toNat : Int) * 16384 % 4294967296) ((a.toNat : Int) / 262144) = ((rotl a 14).toNat : Int) := rotl_walk a 14 (by decide) (by decide)
theorem left_14 (a : UInt32) (w : World) :
    Calls Try.prog 21 #[.int .u32 a.toNat, .int .u64 14] w fun e w' => e = .returned (.int .u32 (rotl a 14).toNat) ∧ w = w' := by
  go_enter Try.func21, Try.ntmps21
  go_wp2
  go_ret
  exact ⟨ret_u32 (rotl_14 a), rfl⟩

theorem rotl_13 (a : UInt32) : bits .or .u32 ((a.toNat : Int) * 8192 % 4294967296) ((a.toNat : Int) / 524288) = ((rotl a 13).toNat : Int) := rotl_walk a 13 (by decide) (by decide)
theorem left_13 (a : UInt32) (w : World) :
    Calls Try.prog 21 #[.int .u32 a.toNat, .int .u64 13] w fun e w' => e = .returned (.int .u32 (rotl a 13).toNat) ∧ w = w' := by
  go_enter Try.func21, Try.ntmps21
  go_wp2
  go_ret
  exact ⟨ret_u32 (rotl_13 a), rfl⟩

theorem rotl_10 (a : UInt32) : bits .or .u32 ((a.toNat : Int) * 1024 % 4294967296) ((a.toNat : Int) / 4194304) = ((rotl a 10).toNat : Int) := rotl_walk a 10 (by decide) (by decide)
theorem left_10 (a : UInt32) (w : World) :
    Calls Try.prog 21 #[.int .u32 a.toNat, .int .u64 10] w fun e w' => e = .returned (.int .u32 (rotl a 10).toNat) ∧ w = w' := by
  go_enter Try.func21, Try.ntmps21
  go_wp2
  go_ret
  exact ⟨ret_u32 (rotl_10 a), rfl⟩

theorem rotl_7 (a : UInt32) : bits .or .u32 ((a.toNat : Int) * 128 % 4294967296) ((a.toNat : Int) / 33554432) = ((rotl a 7).toNat : Int) := rotl_walk a 7 (by decide) (by decide)
theorem left_7 (a : UInt32) (w : World) :
    Calls Try.prog 21 #[.int .u32 a.toNat, .int .u64 7] w fun e w' => e = .returned (.int .u32 (rotl a 7).toNat) ∧ w = w' := by
  go_enter Try.func21, Try.ntmps21
  go_wp2
  go_ret
  exact ⟨ret_u32 (rotl_7 a), rfl⟩

attribute [local go_sem] xo_walk shr3_walk shr10_walk

theorem turnsLow_any (a : UInt32) (w : World) :
    Calls Try.prog 22 #[.int .u32 a.toNat, .int .u64 6, .int .u64 11, .int .u64 25] w fun e w' => e = .returned (.int .u32 (low a).toNat) ∧ w = w' := by
  go_enter Try.func22, Try.ntmps22
  go_wp2_with fail
  refine (left_26 _ _).mono ?_; rintro e w' ⟨rfl, rfl⟩
  go_wp2_with fail
  refine (left_21 _ _).mono ?_; rintro e w' ⟨rfl, rfl⟩
  go_wp2_with fail
  refine (left_7 _ _).mono ?_; rintro e w' ⟨rfl, rfl⟩
  go_wp2_with fail
  go_ret
  exact ⟨rfl, rfl⟩

theorem turnsHigh_any (a : UInt32) (w : World) :
    Calls Try.prog 22 #[.int .u32 a.toNat, .int .u64 2, .int .u64 13, .int .u64 22] w fun e w' => e = .returned (.int .u32 (high a).toNat) ∧ w = w' := by
  go_enter Try.func22, Try.ntmps22
  go_wp2_with fail
  refine (left_30 _ _).mono ?_; rintro e w' ⟨rfl, rfl⟩
  go_wp2_with fail
  refine (left_19 _ _).mono ?_; rintro e w' ⟨rfl, rfl⟩
  go_wp2_with fail
  refine (left_10 _ _).mono ?_; rintro e w' ⟨rfl, rfl⟩
  go_wp2_with fail
  go_ret
  exact ⟨rfl, rfl⟩

end Go.Proofs.Ytaecfcodldbnhaa.Hh

/- sha.putHigh: a number's bytes, the highest first. -/
namespace Go.Proofs.Ytaecfcodldbnhaa.Hh
open Go.RowKit Wd Mm

theorem put_front (cs : Array Value) (p : Nat) (f : Nat → Value) (k : Nat) : put cs p f (k + 1) = (put cs (p + 1) (fun j => f (j + 1)) k).setIfInBounds p (f 0) := by
  apply Array.ext_getElem?
  intro i
  rw [put_get, Array.getElem?_setIfInBounds, put_get, put_size]
  by_cases hp : p = i
  · subst hp
    by_cases hs : p < cs.size
    · simp [hs]
    · rw [if_neg (by omega), if_pos rfl, if_neg hs, Array.getElem?_eq_none (by omega)]
  · rw [if_neg hp]
    by_cases hc : p ≤ i ∧ i < p + (k + 1) ∧ i < cs.size
    · rw [if_pos hc, if_pos (by omega)]
      congr 2; omega
    · rw [if_neg hc, if_neg (by omega)]
theorem put_congr (cs : Array Value) (p : Nat) (f f' : Nat → Value) (k : Nat) (h : ∀ j, j < k → f j = f' j) : put cs p f k = put cs p f' k := by
  induction k with
  | zero => rfl
  | succ k ih => rw [put, put, ih (fun j hj => h j (by omega)), h k (by omega)]
theorem highB_walk (N n j q : Nat) (hq : q = N / 256 ^ (n - 1 - j)) : (q : Int) % 256 = ((highB N n j).toNat : Int) := by
  rw [highB, ← hq, UInt8.toNat_ofNat']
  omega

end Go.Proofs.Ytaecfcodldbnhaa.Hh

/- sha.spread: the sixty-four words of a block. -/
namespace Go.Proofs.Ytaecfcodldbnhaa.Hh
open Go.RowKit Wd Mm

theorem words_one (l : List UInt32) : ((l.map w32).toArray).all (·.oneCell') = true := by
  rw [Array.all_eq_true_iff_forall_mem]
  intro v hv
  simp only [List.mem_toArray, List.mem_map] at hv
  obtain ⟨x, _, rfl⟩ := hv
  rfl
/-- Block g holds, from place o on, the bytes b. -/
def Bytes (w : World) (g o : Nat) (b : List UInt8) : Prop := ∀ i, i < b.length → w.cell? ⟨g, o + i, none⟩ = some (w8 (b.getD i 0))
def zero64 : List UInt32 := List.replicate 64 0
def wF (b : List UInt8) (i : Nat) : Value := w32 ((wS b).getD i 0)
theorem wF_all (b : List UInt8) (cs : Array Value) (h : cs.size = 64) : put cs 0 (wF b) 64 = ((wS b).map w32).toArray := by
  refine put_all _ _ 64 _ h (by simp [wS_len]) (fun i hi => ?_)
  exact words_get _ _ (by rw [wS_len]; exact hi)

attribute [local go_sem] pl_walk pl_wrap xo_walk

end Go.Proofs.Ytaecfcodldbnhaa.Hh

/- The cells of a running sum; the two tables. -/
namespace Go.Proofs.Ytaecfcodldbnhaa.Hh
open Go.RowKit Wd Mm

/-- The cells of a running sum. -/
def stC (l : List UInt32) (B : List UInt8) (held tot : Nat) : Array Value := (l.map w32 ++ (B.map w8 ++ [Value.int .i64 (held : Int), Value.int .u64 (tot : Int)])).toArray
theorem stC_size {l : List UInt32} {B : List UInt8} {h t : Nat} (hl : l.length = 8) (hB : B.length = 64) : (stC l B h t).size = 74 := by simp [stC, hl, hB]
theorem stC_word {l : List UInt32} {B : List UInt8} {h t i : Nat} (hl : l.length = 8) (hi : i < 8) : (stC l B h t)[i]? = some (.int .u32 ((l.getD i 0).toNat : Int)) := by
  simp [stC, hl, hi, w32, List.getElem?_append]
theorem stC_byte {l : List UInt32} {B : List UInt8} {h t i : Nat} (hl : l.length = 8) (hB : B.length = 64) (hi : i < 64) : (stC l B h t)[8 + i]? = some (w8 (B.getD i 0)) := by
  simp only [stC, List.getElem?_toArray]
  rw [List.getElem?_append_right (by simp [hl]), List.getElem?_append_left (by simp [hl, hB, hi])]
  simp [hl, hB, hi]
theorem stC_held {l : List UInt32} {B : List UInt8} {h t : Nat} (hl : l.length = 8) (hB : B.length = 64) : (stC l B h t)[72]? = some (.int .i64 (h : Int)) := by
  simp only [stC, List.getElem?_toArray]
  rw [List.getElem?_append_right (by simp [hl]), List.getElem?_append_right (by simp [hl, hB])]
  simp [hl, hB]
theorem stC_tot {l : List UInt32} {B : List UInt8} {h t : Nat} (hl : l.length = 8) (hB : B.length = 64) : (stC l B h t)[73]? = some (.int .u64 (t : Int)) := by
  simp only [stC, List.getElem?_toArray]
  rw [List.getElem?_append_right (by simp [hl]), List.getElem?_append_right (by simp [hl, hB])]
  simp [hl, hB]
theorem tail_same (X Y Z : List Value) (i : Nat) (hX : X.length = 8) (hY : Y.length = 8) (hi : 8 ≤ i) : (X ++ Z)[i]? = (Y ++ Z)[i]? := by
  rw [List.getElem?_append_right (by omega), List.getElem?_append_right (by omega), hX, hY]
theorem stC_words (l m : List UInt32) (B : List UInt8) (h t : Nat) (hl : l.length = 8) (hm : m.length = 8) : put (stC l B h t) 0 (fun i => w32 (m.getD i 0)) 8 = stC m B h t := by
  apply Array.ext_getElem?
  intro i
  rw [put_get]
  by_cases hi : i < 8
  · by_cases hs : i < (stC l B h t).size
    · rw [if_pos ⟨Nat.zero_le _, by omega, hs⟩, stC_word hm hi]; rfl
    · simp [stC, hl] at hs; omega
  · rw [if_neg (by omega)]
    unfold stC
    rw [List.getElem?_toArray, List.getElem?_toArray]
    exact tail_same _ _ _ _ (by simp [hl]) (by simp [hm]) (by omega)
theorem comp_getD (l : List UInt32) (b : List UInt8) (k : Nat) (hl : l.length = 8) (hk : k < 8) : (comp l b).getD k 0 = pl (l.getD k 0) ((rnds (St.of l) (wS b) 64).list.getD k 0) := by
  have h2 : k < (rnds (St.of l) (wS b) 64).list.length := by simp [St.list, hk]
  unfold comp
  simp only [List.getD_eq_getElem?_getD, List.getElem?_zipWith, List.getElem?_eq_getElem (show k < l.length by omega), List.getElem?_eq_getElem h2]
  rfl
end Go.Proofs.Ytaecfcodldbnhaa.Hh

/- sha.take: the words behind a block. -/
namespace Go.Proofs.Ytaecfcodldbnhaa.Hh
open Go.RowKit Wd Mm

attribute [local go_sem] pl_walk pl_wrap xo_walk an_walk nt_walk

end Go.Proofs.Ytaecfcodldbnhaa.Hh

/- sha.told: the words' bytes. -/
namespace Go.Proofs.Ytaecfcodldbnhaa.Hh
open Go.RowKit Wd Mm

theorem put_more (cs : Array Value) (F f : Nat → Value) (a m : Nat) (h : ∀ i, i < m → f i = F (a + i)) : put (put cs 0 F a) a f m = put cs 0 F (a + m) := by
  induction m with
  | zero => rfl
  | succ m ih =>
    rw [put, ih (fun i hi => h i (by omega)), h m (by omega), ← Nat.add_assoc, put, Nat.zero_add]

def tF (l : List UInt32) (i : Nat) : Value := w8 (tellF l i)
theorem tell_cells {w : World} {g : Nat} {t : TypeId} {Z : Array Value} (l : List UInt32) (hZ : Z.size = 32) (h : Row w g t (put Z 0 (tF l) 32)) :
    ∀ j (hj : j < (tellB l).length), w.cell? ((⟨g, 0, none⟩ : Addr).add j) = some (.int .u8 ((tellB l)[j].toNat : Int)) := by
  intro j hj
  have hadd : (⟨g, 0, none⟩ : Addr).add j = ⟨g, j, none⟩ := by unfold Addr.add; split <;> simp_all
  have hj' : j < 32 := by rw [tellB_len] at hj; exact hj
  rw [hadd, h.get, put_get, if_pos ⟨Nat.zero_le _, by omega, by omega⟩]
  simp [tF, tellB, w8]

end Go.Proofs.Ytaecfcodldbnhaa.Hh

/- Bytes written into a running sum's block: plain laws, and two of the builtins. -/
namespace Go.Proofs.Ytaecfcodldbnhaa.Hh
open Go.RowKit Wd Mm

/-- The world under a name, within a region. -/
theorem namedL {P : Program} {ops : Array Oper} {Q : Exit → Act → World → Prop} {l : List Oper} {a : Act} {W0 : World} (R : World → Prop) (h0 : R W0) (h : ∀ W, R W → wpList P ops Q l a W) : wpList P ops Q l a W0 := h W0 h0

/-- B with X in the place of as many bytes from o on. -/
def patch (B : List UInt8) (o : Nat) (X : List UInt8) : List UInt8 := B.take o ++ (X ++ B.drop (o + X.length))
theorem patch_len {B X : List UInt8} {o : Nat} (h : o + X.length ≤ B.length) : (patch B o X).length = B.length := by
  simp [patch]; omega
theorem patch_getD {B X : List UInt8} {o : Nat} (h : o + X.length ≤ B.length) (i : Nat) : (patch B o X).getD i 0 = if o ≤ i ∧ i < o + X.length then X.getD (i - o) 0 else B.getD i 0 := by
  unfold patch
  simp only [List.getD_eq_getElem?_getD]
  by_cases h1 : i < o
  · rw [List.getElem?_append_left (by simp; omega), if_neg (by omega), List.getElem?_take_of_lt h1]
  · have hl : (B.take o).length = o := by simp; omega
    rw [List.getElem?_append_right (by omega), hl]
    by_cases h2 : i < o + X.length
    · rw [List.getElem?_append_left (by omega), if_pos ⟨by omega, h2⟩]
    · rw [List.getElem?_append_right (by omega), if_neg (by omega), List.getElem?_drop]
      congr 2; omega
theorem stC_get {l : List UInt32} {B : List UInt8} {h t : Nat} (hl : l.length = 8) (hB : B.length = 64) (i : Nat) :
    (stC l B h t)[i]? = if i < 8 then some (w32 (l.getD i 0)) else if i < 72 then some (w8 (B.getD (i - 8) 0)) else if i = 72 then some (Value.int .i64 (h : Int)) else if i = 73 then some (Value.int .u64 (t : Int)) else none := by
  by_cases h1 : i < 8
  · rw [if_pos h1, stC_word hl h1]; rfl
  · rw [if_neg h1]
    by_cases h2 : i < 72
    · rw [if_pos h2]
      have := stC_byte (h := h) (t := t) hl hB (i := i - 8) (by omega)
      rw [show 8 + (i - 8) = i by omega] at this
      exact this
    · rw [if_neg h2]
      by_cases h3 : i = 72
      · rw [if_pos h3, h3, stC_held hl hB]
      · rw [if_neg h3]
        by_cases h4 : i = 73
        · rw [if_pos h4, h4, stC_tot hl hB]
        · rw [if_neg h4, Array.getElem?_eq_none (by rw [stC_size hl hB]; omega)]
theorem stC_patch {l : List UInt32} {B X : List UInt8} {h t o : Nat} (hl : l.length = 8) (hB : B.length = 64) (hX : o + X.length ≤ 64) :
    put (stC l B h t) (8 + o) (fun i => w8 (X.getD i 0)) X.length = stC l (patch B o X) h t := by
  have hp : (patch B o X).length = 64 := by rw [patch_len (by omega), hB]
  apply Array.ext_getElem?
  intro i
  rw [put_get, stC_get hl hB, stC_get hl hp, stC_size hl hB]
  by_cases hc : 8 + o ≤ i ∧ i < 8 + o + X.length ∧ i < 74
  · rw [if_pos hc, if_neg (by omega), if_pos (by omega), patch_getD (by omega), if_pos (by omega)]
    rw [show i - (8 + o) = i - 8 - o by omega]
  · rw [if_neg hc]
    by_cases h1 : i < 8
    · rw [if_pos h1, if_pos h1]
    · rw [if_neg h1, if_neg h1]
      by_cases h2 : i < 72
      · rw [if_pos h2, if_pos h2, patch_getD (by omega), if_neg (by omega)]
      · rw [if_neg h2, if_neg h2]
theorem stC_setHeld {l : List UInt32} {B : List UInt8} {h t : Nat} (hl : l.length = 8) (hB : B.length = 64) (h' : Nat) : (stC l B h t).setIfInBounds 72 (.int .i64 (h' : Int)) = stC l B h' t := by
  apply Array.ext_getElem?
  intro i
  rw [Array.getElem?_setIfInBounds, stC_get hl hB, stC_get hl hB, stC_size hl hB]
  by_cases e : 72 = i
  · subst e; simp
  · rw [if_neg e]
    by_cases e2 : i = 72
    · omega
    · simp [e2]
theorem stC_setTot {l : List UInt32} {B : List UInt8} {h t : Nat} (hl : l.length = 8) (hB : B.length = 64) (t' : Nat) : (stC l B h t).setIfInBounds 73 (.int .u64 (t' : Int)) = stC l B h t' := by
  apply Array.ext_getElem?
  intro i
  rw [Array.getElem?_setIfInBounds, stC_get hl hB, stC_get hl hB, stC_size hl hB]
  by_cases e : 73 = i
  · subst e; simp
  · rw [if_neg e]
    by_cases e2 : i = 73
    · omega
    · simp [e2]

end Go.Proofs.Ytaecfcodldbnhaa.Hh

/- sha.end: the mark, the noughts, the count. -/
namespace Go.Proofs.Ytaecfcodldbnhaa.Hh
open Go.RowKit Wd Mm

theorem zero_byte (w : World) : (zeroValue 5).run Try.prog w = .ok (.int .u8 0) w := by kernel_rfl
/-- clear of a part of the block. -/
theorem run_clear_block (w : World) (g o n c : Nat) (ty : TypeId) (hn : 0 < n) {t : TypeId} {cs : Array Value} (hr : Row w g t cs) (hfit : o + n ≤ cs.size) :
    (Builtin.clear_ #[28] ty #[.slice (some ⟨g, o, none⟩) n c]).run Try.prog w = .ok (.tuple #[]) (w.setCells g o (List.replicate n (.int .u8 0))) :=
  Lib.run_clear_slice w 28 5 ty (.int .u8 0) Try.underlying28 zero_byte rfl rfl g o n c hn
    (fun j hj => by rw [hr.get, Array.getElem?_eq_getElem (by omega)]; rfl) (fun _ _ => hr.free _)
def zs64 : List Value := List.replicate 64 (.int .u8 0)
/-- The block's bytes behind the mark; behind the count. -/
def markB (B : List UInt8) (h : Nat) : List UInt8 := patch (patch B h [128]) (h + 1) (List.replicate (63 - h) 0)
def countB (B : List UInt8) (N : Nat) : List UInt8 := patch B 56 (beBytes N 8)
theorem markB_len {B : List UInt8} {h : Nat} (hB : B.length = 64) (hh : h < 64) : (markB B h).length = 64 := by
  have h1 : (patch B h [128]).length = 64 := by rw [patch_len (by simp; omega), hB]
  unfold markB
  rw [patch_len (by simp; omega), h1]
theorem countB_len {B : List UInt8} {N : Nat} (hB : B.length = 64) : (countB B N).length = 64 := by
  unfold countB
  rw [patch_len (by rw [beBytes_len]; omega), hB]
/-- What the words are behind the end. -/
def endW (l : List UInt32) (B : List UInt8) (h t : Nat) : List UInt32 :=
  if h < 56 then comp l (countB (markB B h) (8 * t % 18446744073709551616)) else comp (comp l (markB B h)) (countB (patch (markB B h) 0 (List.replicate 64 0)) (8 * t % 18446744073709551616))

end Go.Proofs.Ytaecfcodldbnhaa.Hh

/- sha.add: bytes taken behind those that were taken. -/
namespace Go.Proofs.Ytaecfcodldbnhaa.Hh
open Go.RowKit Wd Mm

theorem strLen_ext (s : ByteArray) (n : Nat) : (s.extract n s.size).data.toList = s.data.toList.drop n := by
  rw [ByteArray.data_extract, Array.toList_extract]
  simp only [List.extract_eq_take_drop]
  exact List.take_of_length_le (by simp)
def strLen : Value → Nat | .string s => s.size | _ => 0

/-- One piece: as much as has room. -/
theorem piece (M : List UInt8) (B : List UInt8) (X : List UInt8) (hB : B.length = 64) (ht : B.take (M.length % 64) = M.drop (64 * (M.length / 64))) (hX : M.length % 64 + X.length < 64) :
    (patch B (M.length % 64) X).take ((M ++ X).length % 64) = (M ++ X).drop (64 * ((M ++ X).length / 64)) ∧ (M ++ X).length / 64 = M.length / 64 ∧ (M ++ X).length % 64 = M.length % 64 + X.length ∧ runB (M ++ X) (M.length / 64) = runB M (M.length / 64) := by
  have e1 : (M ++ X).length / 64 = M.length / 64 := by rw [List.length_append]; omega
  have e2 : (M ++ X).length % 64 = M.length % 64 + X.length := by rw [List.length_append]; omega
  refine ⟨?_, e1, e2, runB_app M X _ (by omega)⟩
  rw [e1, e2, List.drop_append_of_le_length (by omega), ← ht]
  unfold patch
  rw [List.take_append, List.take_of_length_le (by simp; omega)]
  congr 1
  have hl : (B.take (M.length % 64)).length = M.length % 64 := by simp; omega
  rw [hl, List.take_append_of_le_length (by omega), List.take_of_length_le (by omega)]
theorem piece_full (M : List UInt8) (B : List UInt8) (X : List UInt8) (hB : B.length = 64) (ht : B.take (M.length % 64) = M.drop (64 * (M.length / 64))) (hX : M.length % 64 + X.length = 64) :
    (M ++ X).length / 64 = M.length / 64 + 1 ∧ (M ++ X).length % 64 = 0 ∧ runB (M ++ X) (M.length / 64 + 1) = comp (runB M (M.length / 64)) (patch B (M.length % 64) X) := by
  have e1 : (M ++ X).length / 64 = M.length / 64 + 1 := by rw [List.length_append]; omega
  have e2 : (M ++ X).length % 64 = 0 := by rw [List.length_append]; omega
  refine ⟨e1, e2, ?_⟩
  rw [runB, runB_app M X _ (by omega)]
  congr 1
  rw [List.drop_append_of_le_length (by omega), ← ht]
  unfold patch
  rw [hX, List.drop_of_length_le (by omega), List.append_nil]
  exact List.take_of_length_le (by simp; omega)

theorem byte_one_size (w : World) : (Go.sizeOf 5).run Try.prog w = .ok 1 w := by kernel_rfl
theorem cells_bytes (X : List UInt8) (n : Nat) : (X.map w8).take n = (X.take n).map w8 := by rw [List.map_take]

end Go.Proofs.Ytaecfcodldbnhaa.Hh

/- What the words are behind the end is what the sum asks: plain lists. -/
namespace Go.Proofs.Ytaecfcodldbnhaa.Hh
open Go.RowKit Wd Mm

theorem mark_eq (B : List UInt8) (h : Nat) (hB : B.length = 64) (hh : h < 64) : markB B h = B.take h ++ (128 :: List.replicate (63 - h) 0) := by
  unfold markB patch
  have hl : (B.take h).length = h := by simp; omega
  have e1 : (B.take h ++ ([128] ++ B.drop (h + ([128] : List UInt8).length))).take (h + 1) = B.take h ++ [128] := by
    rw [List.take_append, List.take_of_length_le (by omega), hl, show h + 1 - h = 1 by omega]; rfl
  have e2 : (B.take h ++ ([128] ++ B.drop (h + ([128] : List UInt8).length))).drop (h + 1 + (List.replicate (63 - h) (0 : UInt8)).length) = [] := by
    refine List.drop_of_length_le ?_
    simp; omega
  rw [e1, e2, List.append_nil, List.append_assoc]; rfl
theorem count_eq (X : List UInt8) (N : Nat) (hX : X.length = 64) : countB X N = X.take 56 ++ beBytes N 8 := by
  unfold countB patch
  rw [beBytes_len, List.drop_of_length_le (by omega), List.append_nil]
theorem tail_low (n : Nat) (h : n % 64 < 56) : tailB n = 128 :: (List.replicate (55 - n % 64) 0 ++ beBytes (8 * n % 18446744073709551616) 8) := by
  unfold tailB
  rw [show (119 - n % 64) % 64 = 55 - n % 64 by omega]
theorem tail_high (n : Nat) (h : 56 ≤ n % 64) : tailB n = 128 :: (List.replicate (63 - n % 64) 0 ++ (List.replicate 56 0 ++ beBytes (8 * n % 18446744073709551616) 8)) := by
  unfold tailB
  rw [show (119 - n % 64) % 64 = (63 - n % 64) + 56 by omega, ← List.replicate_append_replicate, List.append_assoc]

theorem end_sha (M B : List UInt8) (h t : Nat) (hB : B.length = 64) (hh : h = M.length % 64) (ht : t = M.length % 18446744073709551616) (htk : B.take h = M.drop (64 * (M.length / 64))) :
    endW (runB M (M.length / 64)) B h t = runB (padB M) ((padB M).length / 64) := by
  have h64 : h < 64 := by omega
  have hN : 8 * t % 18446744073709551616 = 8 * M.length % 18446744073709551616 := by omega
  have hl : (B.take h).length = h := by simp; omega
  have hpl : ∀ T : List UInt8, ((M ++ T).drop (64 * (M.length / 64))) = B.take h ++ T := fun T => by
    rw [List.drop_append_of_le_length (by omega), htk]
  unfold endW
  rw [hN]
  by_cases hb : h < 56
  · rw [if_pos hb]
    have hT := tail_low M.length (by omega)
    rw [← hh] at hT
    have hlen : (padB M).length / 64 = M.length / 64 + 1 := by
      unfold padB
      rw [hT]
      simp only [List.length_append, List.length_cons, List.length_replicate, beBytes_len]
      omega
    rw [hlen, runB]
    have e0 : runB (padB M) (M.length / 64) = runB M (M.length / 64) := runB_app _ _ _ (by omega)
    rw [e0]
    refine congrArg (comp _) ?_
    unfold padB
    rw [hpl, hT, mark_eq B h hB h64, count_eq _ _ (by simp; omega)]
    rw [List.take_append, List.take_of_length_le (l := B.take h) (i := 56) (by omega), hl, show 56 - h = (55 - h) + 1 by omega, List.take_succ_cons, List.take_replicate, show min (55 - h) (63 - h) = 55 - h by omega]
    rw [List.take_of_length_le (l := B.take h ++ _) (i := 64) (by simp only [List.length_append, List.length_cons, List.length_replicate, beBytes_len]; omega)]
    simp
  · rw [if_neg hb]
    have hT := tail_high M.length (by omega)
    rw [← hh] at hT
    have hlen : (padB M).length / 64 = M.length / 64 + 1 + 1 := by
      unfold padB
      rw [hT]
      simp only [List.length_append, List.length_cons, List.length_replicate, beBytes_len]
      omega
    rw [hlen, runB, runB]
    have e0 : runB (padB M) (M.length / 64) = runB M (M.length / 64) := runB_app _ _ _ (by omega)
    rw [e0]
    have hm : (markB B h).length = 64 := markB_len hB h64
    have hd1 : ((padB M).drop (64 * (M.length / 64))).take 64 = markB B h := by
      unfold padB
      rw [hpl, hT, mark_eq B h hB h64, ← List.cons_append, ← List.append_assoc, List.take_append_of_le_length (by simp only [List.length_append, List.length_cons, List.length_replicate]; omega)]
      exact List.take_of_length_le (by simp only [List.length_append, List.length_cons, List.length_replicate]; omega)
    have hd2 : ((padB M).drop (64 * (M.length / 64 + 1))).take 64 = countB (patch (markB B h) 0 (List.replicate 64 0)) (8 * M.length % 18446744073709551616) := by
      rw [show 64 * (M.length / 64 + 1) = 64 * (M.length / 64) + 64 by omega, ← List.drop_drop]
      unfold padB
      rw [hpl, hT, count_eq _ _ (by rw [patch_len (by rw [hm]; simp), hm])]
      rw [← List.cons_append, ← List.append_assoc, List.drop_append_of_le_length (by simp only [List.length_append, List.length_cons, List.length_replicate]; omega)]
      rw [List.drop_of_length_le (by simp only [List.length_append, List.length_cons, List.length_replicate]; omega), List.nil_append]
      rw [List.take_of_length_le (by simp only [List.length_append, List.length_replicate, beBytes_len]; omega)]
      unfold patch
      rw [List.take_zero, List.nil_append, List.take_append_of_le_length (by simp), List.take_replicate]; rfl
    rw [hd1, hd2]
end Go.Proofs.Ytaecfcodldbnhaa.Hh

/- sha.Sum: the sum of all parts. -/
namespace Go.Proofs.Ytaecfcodldbnhaa.Hh
open Go.RowKit Wd Mm

/-- The slice at A, of n texts, holds these. -/
def Strs (w : World) (A : Option Addr) (n : Nat) (ss : List ByteArray) : Prop :=
  ss.length = n ∧ (0 < n → ∃ g o, A = some ⟨g, o, none⟩ ∧ g < w.heap.size ∧ ∀ i, i < n → w.cell? ⟨g, o + i, none⟩ = some (.string (ss.getD i ByteArray.empty)))
theorem Strs.keep {w w' : World} {A : Option Addr} {n : Nat} {ss : List ByteArray} (h : Strs w A n ss) (hg : w.grownBy w' none) : Strs w' A n ss := by
  refine ⟨h.1, fun hn => ?_⟩
  obtain ⟨g, o, e, hl, hc⟩ := h.2 hn
  exact ⟨g, o, e, Nat.lt_of_lt_of_le hl hg.size, fun i hi => by
    have := hg.block g hl (by simp)
    rw [World.cell?_of_block (w := w) (a := ⟨g, o + i, none⟩) this]
    exact hc i hi⟩
/-- All parts, one behind the other. -/
def catB (ss : List ByteArray) : List UInt8 := ss.flatMap fun s => s.data.toList
theorem catB_take (ss : List ByteArray) (k : Nat) (hk : k < ss.length) : catB (ss.take (k + 1)) = catB (ss.take k) ++ (ss.getD k ByteArray.empty).data.toList := by
  unfold catB
  rw [List.take_succ_eq_append_getElem hk, List.flatMap_append]
  simp [hk]

def zeroB : List UInt8 := List.replicate 64 0
theorem zeroB_len : zeroB.length = 64 := by simp [zeroB]
/-- The cells of a running sum that is nothing; that has begun. -/
def zC : Array Value := stC (List.replicate 8 0) zeroB 0 0
def sC : Array Value := stC firstH zeroB 0 0
theorem zC_size : zC.size = 74 := stC_size (by decide) zeroB_len
theorem sC_size : sC.size = 74 := stC_size (by decide) zeroB_len
theorem zC_set : (((((((zC.setIfInBounds 0 (Value.int IntKind.u32 1779033703)).setIfInBounds 1 (Value.int IntKind.u32 3144134277)).setIfInBounds 2 (Value.int IntKind.u32 1013904242)).setIfInBounds 3 (Value.int IntKind.u32 2773480762)).setIfInBounds 4 (Value.int IntKind.u32 1359893119)).setIfInBounds 5 (Value.int IntKind.u32 2600822924)).setIfInBounds 6 (Value.int IntKind.u32 528734635)).setIfInBounds 7 (Value.int IntKind.u32 1541459225) = sC := by
  have h := stC_words (List.replicate 8 0) firstH zeroB 0 0 (by decide) (by decide)
  exact h
theorem sC_one : sC.all (·.oneCell') = true := by
  rw [Array.all_eq_true_iff_forall_mem]
  intro v hv
  simp only [sC, stC, List.mem_toArray, List.mem_append, List.mem_map, List.mem_cons, List.not_mem_nil, or_false] at hv
  rcases hv with ⟨x, _, rfl⟩ | ⟨x, _, rfl⟩ | rfl | rfl <;> rfl
end Go.Proofs.Ytaecfcodldbnhaa.Hh

/- What sha's texts share. -/
namespace Go.Proofs.Ytaecfcodldbnhaa.Hh
open Go.RowKit Wd Mm

theorem shaS_len (m : List UInt8) : (shaS m).length = 32 := tellB_len _
theorem len_data (s : ByteArray) : s.data.toList.length = s.size := by simp
theorem ba (l : List UInt8) : (⟨l.toArray⟩ : ByteArray).data.toList = l := by simp
theorem row_bytes {w : World} {g : Nat} {t : TypeId} {l : List UInt8} (h : Row w g t (l.map w8).toArray) : ∀ j (hj : j < l.length), w.cell? ((⟨g, 0, none⟩ : Addr).add j) = some (.int .u8 (l[j].toNat : Int)) := fun j hj => by
  have hadd : (⟨g, 0, none⟩ : Addr).add j = ⟨g, j, none⟩ := by unfold Addr.add; split <;> simp_all
  rw [hadd]
  exact h.at_ (by simp [hj, w8])
theorem gb_drew_eq (a w : World) (r : Option Nat) : a.grownBy w.drew r = a.grownBy w r := propext ⟨fun h => ⟨h.os, h.tape, h.output, h.size, h.block⟩, fun h => gb_drew h⟩
theorem below_of {w w' : World} (h : w.grownBy w' none) : Below w.heap.size w w' := gb_below h (Nat.le_refl _)
theorem ret_bool {a b : Bool} (h : a = b) : Ending.returned (.bool a) = .returned (.bool b) := by rw [h]
/-- No parts. -/
theorem strs_none (w : World) (c : Nat) : Strs w none 0 [] ∧ c = c := ⟨⟨rfl, fun h => absurd h (by omega)⟩, rfl⟩
end Go.Proofs.Ytaecfcodldbnhaa.Hh

/- What a statement's arguments hold (texts, bytes): plain laws. -/
namespace Go.Proofs.Ytaecfcodldbnhaa.Hh
open Go.RowKit Wd Mm

/-- A slice of texts that came in. -/
def IsStrs (w : World) (a : Option Addr) (len cap : Nat) (zs : List ByteArray) : Prop :=
  (a = none ∧ len = 0 ∧ cap = 0 ∧ zs = []) ∨
  ∃ x, a = some x ∧ len ≤ cap ∧ cap ≤ maxLen ∧ zs.length = cap ∧ (∀ i, i < zs.length → w.cell? (x.add i) = some (.string (zs.getD i ByteArray.empty))) ∧ ∀ s ∈ zs, s.size ≤ maxLen
theorem strs_of {w : World} {a : Option Addr} {len cap : Nat} {zs : List ByteArray} (h : IsStrs w a len cap zs) :
    Strs w a len (zs.take len) ∧ len ≤ 9223372036854775807 ∧ ∀ i, i < len → ((zs.take len).getD i ByteArray.empty).size ≤ 9223372036854775807 := by
  rcases h with ⟨rfl, rfl, rfl, rfl⟩ | ⟨x, rfl, hl, hc, hz, hcell, hwf⟩
  · exact ⟨⟨rfl, fun h => absurd h (by omega)⟩, by omega, fun i hi => absurd hi (by omega)⟩
  · unfold maxLen at hc hwf
    have hget : ∀ i, i < len → (zs.take len).getD i ByteArray.empty = zs.getD i ByteArray.empty := fun i hi => by
      simp only [List.getD_eq_getElem?_getD, List.getElem?_take, if_pos hi]
    refine ⟨⟨by rw [List.length_take]; omega, fun h0 => ?_⟩, by omega, fun i hi => ?_⟩
    · obtain ⟨b, o, sp⟩ := x
      have c0 := hcell 0 (by omega)
      cases sp with
      | some sp =>
        exfalso
        simp only [Addr.add, World.cell?] at c0
        split at c0 <;> simp at c0
      | none =>
        refine ⟨b, o, rfl, ?_, fun i hi => ?_⟩
        · have := block_lt_of_cell c0
          simpa [Addr.add] using this
        · have ci := hcell i (by omega)
          have hadd : (⟨b, o, none⟩ : Addr).add i = ⟨b, o + i, none⟩ := by unfold Addr.add; split <;> simp_all
          rw [hadd] at ci
          rw [hget i hi]; exact ci
    · rw [hget i hi]
      exact hwf _ (by rw [List.getD_eq_getElem?_getD, List.getElem?_eq_getElem (by omega)]; exact List.getElem_mem _)
/-- A slice of bytes that came in: its first byte's place, each byte. -/
def Held8 (w : World) (a : Option Addr) (len : Nat) : Prop := 0 < len → ∃ g o, a = some ⟨g, o, none⟩ ∧ g < w.heap.size ∧ ∀ i, i < len → ∃ b : Nat, b ≤ 255 ∧ w.cell? ⟨g, o + i, none⟩ = some (.int .u8 (b : Int))
theorem Held8.keep {w w' : World} {a : Option Addr} {n : Nat} (h : Held8 w a n) (hg : w.grownBy w' none) : Held8 w' a n := fun hn => by
  obtain ⟨g, o, e, hl, hc⟩ := h hn
  exact ⟨g, o, e, Nat.lt_of_lt_of_le hl hg.size, fun i hi => by
    have := hg.block g hl (by simp)
    rw [World.cell?_of_block (w := w) (a := ⟨g, o + i, none⟩) this]
    exact hc i hi⟩
theorem held8_of {w : World} {a : Option Addr} {len cap : Nat} {zs : List Int}
    (h : (a = none ∧ len = 0 ∧ cap = 0 ∧ zs = []) ∨ ∃ x, a = some x ∧ len ≤ cap ∧ cap ≤ maxLen ∧ zs.length = cap ∧ (∀ i, i < zs.length → w.cell? (x.add i) = some (.int .u8 (zs.getD i 0))) ∧ ∀ n ∈ zs, (Lit.int .u8 n).wf = true) :
    Held8 w a len := by
  rcases h with ⟨rfl, rfl, rfl, rfl⟩ | ⟨x, rfl, hl, hc, hz, hcell, hwf⟩
  · exact fun h => absurd h (by omega)
  · intro h0
    obtain ⟨b, o, sp⟩ := x
    have c0 := hcell 0 (by omega)
    cases sp with
    | some sp =>
      exfalso
      simp only [Addr.add, World.cell?] at c0
      split at c0 <;> simp at c0
    | none =>
      refine ⟨b, o, rfl, ?_, fun i hi => ?_⟩
      · have := block_lt_of_cell c0
        simpa [Addr.add] using this
      · have ci := hcell i (by omega)
        have hadd : (⟨b, o, none⟩ : Addr).add i = ⟨b, o + i, none⟩ := by unfold Addr.add; split <;> simp_all
        rw [hadd] at ci
        have hin : i < zs.length := by omega
        have hv := hwf (zs.getD i 0) (by rw [List.getD_eq_getElem?_getD, List.getElem?_eq_getElem hin]; exact List.getElem_mem hin)
        have hb : 0 ≤ zs.getD i 0 ∧ zs.getD i 0 ≤ 255 := by
          have h1 : IntKind.u8.min = 0 := by decide
          have h2 : IntKind.u8.max = 255 := by decide
          simp only [Lit.wf, h1, h2, Bool.and_eq_true, decide_eq_true_eq] at hv
          exact hv
        refine ⟨(zs.getD i 0).toNat, by omega, ?_⟩
        rw [ci, show (((zs.getD i 0).toNat : Nat) : Int) = zs.getD i 0 by omega]
/-- A row of texts of the call's own, as a slice of texts. -/
theorem strs_own {w : World} {base : Nat} {e : TypeId} {v : Value} {os : List ByteArray} (h : w.ownsRow base e 1 v os.length (os.map Value.string)) : ∃ A c, v = .slice A os.length c ∧ Strs w A os.length os := by
  rcases h.2 with ⟨rfl, h0⟩ | ⟨g, cap, cur, rfl, _, hh, _, _, hs, ht⟩
  · exact ⟨none, 0, by rw [h0], rfl, fun hn => absurd hn (by omega)⟩
  · refine ⟨_, _, rfl, rfl, fun hn => ⟨g, 0, rfl, (Array.getElem?_eq_some_iff.1 hh).1, fun i hi => ?_⟩⟩
    have hadd : (⟨g, 0, none⟩ : Addr).add i = ⟨g, 0 + i, none⟩ := by unfold Addr.add; split <;> simp_all
    rw [← hadd]
    exact h.cells (g := g) rfl i _ (by simp [hi])
theorem str_info : (Try.prog.info? 9).map (fun i => (i.zero, i.size, i.bytes)) = some (some (.string ⟨#[]⟩), 1, 16) := by kernel_rfl
theorem catB_append (a b : List ByteArray) : catB (a ++ b) = catB a ++ catB b := by simp [catB]
theorem catB_one (s : ByteArray) : catB [s] = s.data.toList := by simp [catB]
theorem strs_one (w : World) (p : ByteArray) : Strs (w.alloc (.cells #[.string p] 9)) (some ⟨w.heap.size, 0, none⟩) 1 [p] := by
  refine ⟨rfl, fun _ => ⟨w.heap.size, 0, rfl, by simp, fun i hi => ?_⟩⟩
  obtain rfl : i = 0 := by omega
  exact cell_of_row _ _ 0 #[.string p] 9 (0, 0) (heap_alloc_new _ _)
theorem one_small (p : ByteArray) (h : p.size ≤ 9223372036854775807) : ∀ j, j < 1 → ([p].getD j ByteArray.empty).size ≤ 9223372036854775807 := fun j hj => by
  obtain rfl : j = 0 := by omega
  exact h
end Go.Proofs.Ytaecfcodldbnhaa.Hh
