/- Bytes turned by the stream: plain lemmas, no program. -/
import Derived.Test.YtkeincmmcdcggaaByte
namespace Go.Proofs.Ytkeincmmcdcggaa.Wd
open Go Mm

/-- Byte i of the stream from block c on; bytes turned by it. -/
def ctr (c : Int) (j : Nat) : UInt32 := UInt32.ofInt (c + (j : Int))
def wsAt (k n : List UInt8) (c : Int) (j : Nat) : List UInt32 := initW k n (ctr c j)
def keyB (k n : List UInt8) (c : Int) (i : Nat) : UInt8 := streamB (stir (wsAt k n c (i / 64))) (i % 64)
def xorS (k n : List UInt8) (c : Int) (bs : List UInt8) : List UInt8 := (List.range bs.length).map fun i => xb (bs.getD i 0) (keyB k n c i)
def xF (k n : List UInt8) (c : Int) (bs : List UInt8) (i : Nat) : Value := w8 (xb (bs.getD i 0) (keyB k n c i))

theorem wsAt_len (k n : List UInt8) (c : Int) (j : Nat) : (wsAt k n c j).length = 16 := rfl
theorem ctr_zero (c : Int) : ctr c 0 = UInt32.ofInt c := by simp [ctr]
theorem ctr_succ (c : Int) (j : Nat) : (((ctr c j).toNat : Int) + 1) % 4294967296 = ((ctr c (j + 1)).toNat : Int) := by
  unfold ctr
  rw [← ofInt32, ← ofInt32]; omega
theorem wsAt_next (k n : List UInt8) (c : Int) (j : Nat) : (((wsAt k n c j).map w32).toArray).setIfInBounds 12 (.int .u32 ((ctr c (j + 1)).toNat : Int)) = ((wsAt k n c (j + 1)).map w32).toArray := rfl
theorem wsAt_12 (k n : List UInt8) (c : Int) (j : Nat) : (((wsAt k n c j).map w32).toArray)[12]? = some (.int .u32 ((ctr c j).toNat : Int)) := rfl

theorem put_more (cs : Array Value) (F f : Nat → Value) (a m : Nat) (h : ∀ i, i < m → f i = F (a + i)) : put (put cs 0 F a) a f m = put cs 0 F (a + m) := by
  induction m with
  | zero => rfl
  | succ m ih =>
    show (put (put cs 0 F a) a f m).setIfInBounds (a + m) (f m) = (put cs 0 F (a + m)).setIfInBounds (0 + (a + m)) (F (a + m))
    rw [ih (fun i hi => h i (by omega)), h m (by omega), Nat.zero_add]
/-- The part of bs from a on, at most 64 bytes. -/
def partB (bs : List UInt8) (a m : Nat) : List UInt8 := (List.range m).map fun i => bs.getD (a + i) 0
theorem partB_len (bs : List UInt8) (a m : Nat) : (partB bs a m).length = m := by simp [partB]
theorem partB_get (bs : List UInt8) (a m i : Nat) (h : i < m) : (partB bs a m).getD i 0 = bs.getD (a + i) 0 := by simp [partB, h]
theorem turned_part (k n : List UInt8) (c : Int) (bs : List UInt8) (j m i : Nat) (hm : m ≤ 64) (h : i < m) : turned (partB bs (64 * j) m) (stir (wsAt k n c j)) i = xF k n c bs (64 * j + i) := by
  unfold turned xF keyB
  rw [partB_get _ _ _ _ h, show (64 * j + i) / 64 = j by omega, show (64 * j + i) % 64 = i by omega]
theorem cells_part (k n : List UInt8) (c : Int) (bs : List UInt8) (a m i : Nat) (h : i < m) (hb : a + i < bs.length) : (put (bs.map w8).toArray 0 (xF k n c bs) a)[a + i]? = some (w8 ((partB bs a m).getD i 0)) := by
  rw [put_get, if_neg (by omega), partB_get _ _ _ _ h]
  simp [hb]
theorem xorS_len (k n : List UInt8) (c : Int) (bs : List UInt8) : (xorS k n c bs).length = bs.length := by simp [xorS]
theorem put_xorS (k n : List UInt8) (c : Int) (bs : List UInt8) : put (bs.map w8).toArray 0 (xF k n c bs) bs.length = ((xorS k n c bs).map w8).toArray := by
  refine put_all _ _ _ _ (by simp) (by simp [xorS]) (fun i hi => ?_)
  simp [xorS, hi, xF]
end Go.Proofs.Ytkeincmmcdcggaa.Wd
