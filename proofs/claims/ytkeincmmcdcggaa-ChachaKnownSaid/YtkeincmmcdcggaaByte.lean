/- The bytes of words: plain lemmas, no program. -/
import Derived.Test.YtkeincmmcdcggaaWord
import Derived.Test.YtkeincmmcdcggaaMem
namespace Go.Proofs.Ytkeincmmcdcggaa.Wd
open Go Mm

theorem row_ne {w : World} {g g' : Nat} {t t' : TypeId} {cs cs' : Array Value} (h : Row w g t cs) (h' : Row w g' t' cs') (hn : t ≠ t') : g ≠ g' := by
  rintro rfl
  unfold Row at h h'
  rw [h] at h'
  injection h' with h'
  injection h' with _ e
  exact hn e

theorem row_new_at (w : World) (t : TypeId) (cs : Array Value) (B : Nat) (h : B = w.heap.size) : Row (w.alloc (.cells cs t)) B t cs := by subst h; exact Row.new w t cs

/-- Byte i of a row of words, the lowest first. -/
def bOf (x : UInt32) (j : Nat) : UInt8 := (x >>> (UInt32.ofNat (8 * j))).toUInt8
def streamB (ws : List UInt32) (i : Nat) : UInt8 := bOf (ws.getD (i / 4) 0) (i % 4)
theorem streamB_at (ws : List UInt32) (k a j : Nat) (ha : a = 4 * k) (hj : j < 4) : streamB ws (a + j) = bOf (ws.getD k 0) j := by
  unfold streamB
  rw [show (a + j) / 4 = k by omega, show (a + j) % 4 = j by omega]
def xb (a b : UInt8) : UInt8 := a ^^^ b
theorem xb_walk (a b : UInt8) : bits .xor .u8 (a.toNat : Int) (b.toNat : Int) = ((xb a b).toNat : Int) := xor8 a b
/-- Byte i of ps, turned by the words' bytes, as a cell; the cells from place o on. -/
def turned (ps : List UInt8) (ws : List UInt32) (i : Nat) : Value := w8 (xb (ps.getD i 0) (streamB ws i))
theorem turned_at (ps : List UInt8) (ws : List UInt32) (k a j : Nat) (ha : a = 4 * k) (hj : j < 4) : turned ps ws (a + j) = .int .u8 ((xb (ps.getD (a + j) 0) (bOf (ws.getD k 0) j)).toNat : Int) := by
  unfold turned; rw [streamB_at ws k a j ha hj]; rfl
theorem put_1 (cs : Array Value) (o a : Nat) (f : Nat → Value) : put cs o f (a + 1) = (put cs o f a).setIfInBounds (o + a) (f a) := rfl
theorem put_back2 (cs : Array Value) (o a : Nat) (f : Nat → Value) : put cs o f (a + 2) = ((put cs o f a).setIfInBounds (o + a + 1) (f (a + 1))).setIfInBounds (o + a) (f a) := by
  rw [Array.setIfInBounds_comm _ _ (by omega)]; rfl
theorem put_back3 (cs : Array Value) (o a : Nat) (f : Nat → Value) : put cs o f (a + 3) = (((put cs o f a).setIfInBounds (o + a + 2) (f (a + 2))).setIfInBounds (o + a + 1) (f (a + 1))).setIfInBounds (o + a) (f a) := by
  rw [Array.setIfInBounds_comm (i := o + a + 2) (j := o + a + 1) _ _ (by omega), Array.setIfInBounds_comm (i := o + a + 2) (j := o + a) _ _ (by omega), Array.setIfInBounds_comm (i := o + a + 1) (j := o + a) _ _ (by omega)]; rfl
theorem byte_0 (x : UInt32) : (x.toNat : Int) % 256 = ((bOf x 0).toNat : Int) := by
  have h := byte0 (x >>> (UInt32.ofNat 0))
  have e : x >>> (UInt32.ofNat 0) = x := by
    apply UInt32.toNat_inj.1
    rw [UInt32.toNat_shiftRight]; simp
  rw [e] at h; rw [h]; simp [bOf]
theorem byte_k (x : UInt32) (j : Nat) (hj : 8 * j < 32) : ((x.toNat : Int) / ((2 ^ (8 * j) : Nat) : Int)) % 256 = ((bOf x j).toNat : Int) := by
  rw [shr32 x (8 * j) hj, byte0]; rfl
theorem byte_1 (x : UInt32) : ((x.toNat : Int) / 256) % 256 = ((bOf x 1).toNat : Int) := byte_k x 1 (by decide)
theorem byte_2 (x : UInt32) : ((x.toNat : Int) / 65536) % 256 = ((bOf x 2).toNat : Int) := byte_k x 2 (by decide)
theorem byte_3 (x : UInt32) : ((x.toNat : Int) / 16777216) % 256 = ((bOf x 3).toNat : Int) := byte_k x 3 (by decide)

/-- Noughts, turned, are the stream. -/
theorem zerosD (n i : Nat) : (List.replicate n (0 : UInt8)).getD i 0 = 0 := by
  by_cases h : i < n
  · simp [h]
  · simp [h]
theorem zerosC (n i : Nat) (h : i < n) : (((List.replicate n (0 : UInt8)).map w8).toArray)[0 + i]? = some (w8 ((List.replicate n (0 : UInt8)).getD i 0)) := by
  rw [zerosD]; simp [h]
def zeros64 : List UInt8 := List.replicate 64 0
theorem zeros64_len : zeros64.length = 64 := List.length_replicate
theorem zeros_get (i : Nat) (h : i < 64) : ((zeros64.map w8).toArray)[0 + i]? = some (w8 (zeros64.getD i 0)) := zerosC 64 i h
theorem turned_zero (ws : List UInt32) (i : Nat) : turned zeros64 ws i = w8 (streamB ws i) := by
  have e : zeros64.getD i 0 = 0 := zerosD 64 i
  unfold turned
  rw [e]
  congr 1
  simp [xb]
def streamOf (ws : List UInt32) : List UInt8 := (List.range 64).map (streamB ws)
theorem streamOf_len (ws : List UInt32) : (streamOf ws).length = 64 := by simp [streamOf]
theorem streamOf_get (ws : List UInt32) (i : Nat) (h : i < (streamOf ws).length) : (streamOf ws)[i] = streamB ws i := by simp [streamOf]
theorem stream_cells {w : World} {g : Nat} {t : TypeId} {cs : Array Value} (ws : List UInt32) (hc : 64 ≤ cs.size) (h : Row w g t (put cs 0 (turned zeros64 ws) 64)) :
    ∀ j (hj : j < (streamOf ws).length), w.cell? ((⟨g, 0, none⟩ : Addr).add j) = some (.int .u8 ((streamOf ws)[j].toNat : Int)) := by
  intro j hj
  have hj' : j < 64 := by rw [streamOf_len] at hj; exact hj
  have hadd : (⟨g, 0, none⟩ : Addr).add j = ⟨g, j, none⟩ := by unfold Addr.add; split <;> simp_all
  rw [hadd, h.get, put_get, if_pos (by omega), turned_zero, streamOf_get]
  rfl

end Go.Proofs.Ytkeincmmcdcggaa.Wd
