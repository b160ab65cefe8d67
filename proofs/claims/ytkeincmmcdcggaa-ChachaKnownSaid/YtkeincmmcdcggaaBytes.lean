/- The statements' own Bytes and awake. -/
import Derived.Test.YtkeincmmcdcggaaRefXor
import Derived.StillTailTactics
import Derived.IntWalk
namespace Go.Proofs.Ytkeincmmcdcggaa
open Go.RowKit Wd Mm

/-- What Bytes tells. -/
def byteS (bs : List UInt8) (i : Nat) : UInt8 := if bs.length = 0 then UInt8.ofNat i else bs.getD (i % bs.length) 0 + UInt8.ofNat (i / bs.length)
def bytesS (bs : List UInt8) (n : Nat) : List UInt8 := (List.range n).map (byteS bs)
theorem bytesS_len (bs : List UInt8) (n : Nat) : (bytesS bs n).length = n := by simp [bytesS]
theorem byte_of (i : Nat) : ((i : Int) % 256) = ((UInt8.ofNat i).toNat : Int) := by
  rw [UInt8.toNat_ofNat']; omega
theorem byte_sum (a b : UInt8) : ((a.toNat : Int) + (b.toNat : Int)) % 256 = ((a + b).toNat : Int) := by
  rw [UInt8.toNat_add]; omega
theorem put_bytesS {w : World} {g : Nat} {t : TypeId} (bs : List UInt8) (n : Nat) (h : Row w g t (put (madeCells #[.int .u8 0] n) 0 (fun i => w8 (byteS bs i)) n)) :
    ∀ j (hj : j < (bytesS bs n).length), w.cell? ((⟨g, 0, none⟩ : Addr).add j) = some (.int .u8 ((bytesS bs n)[j].toNat : Int)) := by
  intro j hj
  have hj' : j < n := by rw [bytesS_len] at hj; exact hj
  have hadd : (⟨g, 0, none⟩ : Addr).add j = ⟨g, j, none⟩ := by unfold Addr.add; split <;> simp_all
  rw [hadd, h.get, put_get, if_pos (by rw [size_madeCells]; omega), Nat.sub_zero]
  simp [bytesS, w8]

theorem set_twice (cs : Array Value) (i : Nat) (a b : Value) : (cs.setIfInBounds i a).setIfInBounds i b = cs.setIfInBounds i b := by
  apply Array.ext_getElem?
  intro j
  simp only [Array.getElem?_setIfInBounds, Array.size_setIfInBounds]
  by_cases h : i = j <;> simp [h]

set_option maxHeartbeats 1000000 in
theorem bytes_any (A : Option Addr) (m cp n : Nat) (bs : List UInt8) (w : World) (hb : Holds w A m bs) (hm : m ≤ 9223372036854775807) (hn : n ≤ 1099511627776) :
    Calls Try.prog 15 #[.slice A m cp, .int .i64 (n : Int)] w fun e w' => e = .returned (.string ⟨(bytesS bs n).toArray⟩) ∧ w.grownBy w' none := by
  have hmk := fun W => run_make_row' (P := Try.prog) 25 5 (.int .u8 0) 1 Try.underlying25 byte_info rfl .i64 .i64 n (by omega) (by omega) W
  have Hb := Lib.hid hb
  clear hb
  go_enter Try.func15, Try.ntmps15
  go_wp2
  go_loopw [6] (fun i wr => ∃ k : Nat, k ≤ n ∧ i = .int .i64 k ∧ Row wr w.heap.size 5 (put (madeCells #[.int .u8 0] n) 0 (fun i => w8 (byteS bs i)) k) ∧ w.grownBy wr none) (fun i _ => n - (intOf i).toNat)
  case atStart => exact ⟨0, Nat.zero_le _, rfl, Row.new _ _ _, gb_alloc (gb_refl _ _) _⟩
  case round =>
    clear hmk
    obtain ⟨k, hk, rfl, hr, hg⟩ := hrel
    by_cases hlt : k < n
    · obtain ⟨v0, hv0⟩ : ∃ v, (put (madeCells #[.int .u8 0] n) 0 (fun i => w8 (byteS bs i)) k)[k]? = some v := ⟨_, Array.getElem?_eq_getElem (by rw [put_size, size_madeCells]; exact hlt)⟩
      have hc := hr.at_ hv0
      clear hv0
      have hf := hr.free k
      by_cases hm0 : m = 0
      · have t1 : decide (0 < m) = false := by simp; omega
        have e : byteS bs k = UInt8.ofNat k := by unfold byteS; rw [if_pos (by rw [Hb.out.1]; exact hm0)]
        obtain ⟨y, Hy⟩ : ∃ y : UInt8, Hid (y = UInt8.ofNat k) := ⟨_, rfl⟩
        have hbk : (k : Int) % 256 = (y.toNat : Int) := by rw [Hy.out]; exact byte_of k
        rw [← Hy.out] at e
        have He := Lib.hid e
        clear e hm0
        go_wp2
        go_roundw
        case rel =>
          refine ⟨k + 1, by omega, by go_num, ?_, gb_new hg (gb_set1 _ _ _ _) (Nat.le_refl _)⟩
          have h := hr.set_ k (w8 (byteS bs k))
          rw [put_1, Nat.zero_add]
          rw [He.out] at h ⊢
          exact h
        case measure => simp [intOf]; omega
      · have t1 : decide (0 < m) = true := by simp; omega
        have hm1 : (m : Int) ≠ 0 := by omega
        obtain ⟨g, o, rfl, hgl, hcell⟩ := (Hb.out.keep hg).2 (by omega)
        obtain ⟨r, Hr⟩ : ∃ r, Hid (r = k % m) := ⟨_, rfl⟩
        obtain ⟨d, Hd⟩ : ∃ d, Hid (d = k / m) := ⟨_, rfl⟩
        have hr1 : (k : Int).tmod (m : Int) = (r : Int) := by rw [Hr.out]; rfl
        have hd1 : (k : Int).tdiv (m : Int) = (d : Int) := by rw [Hd.out]; rfl
        have hw2 : wrap64 (d : Int) = (d : Int) := by
          have := Nat.div_le_self k m
          rw [← Hd.out] at this
          exact IntWalk.wrap64_in _ ⟨by omega, by omega⟩
        have hrm : (r : Int) < (m : Int) := by have := Nat.mod_lt k (show 0 < m by omega); rw [← Hr.out] at this; omega
        have cr : wr.cell? ⟨g, o + r, none⟩ = some (.int .u8 ((bs.getD r 0).toNat : Int)) := hcell r (by omega)
        have hgB : g < w.heap.size := by
          obtain ⟨g', o', e', hl', _⟩ := Hb.out.2 (by omega)
          cases e'; exact hl'
        have e : byteS bs k = bs.getD r 0 + UInt8.ofNat d := by unfold byteS; rw [Hb.out.1, if_neg hm0, Hr.out, Hd.out]
        generalize bs.getD r 0 = x at cr e
        obtain ⟨y, Hy⟩ : ∃ y : UInt8, Hid (y = UInt8.ofNat k) := ⟨_, rfl⟩
        obtain ⟨z, Hz⟩ : ∃ z : UInt8, Hid (z = UInt8.ofNat d) := ⟨_, rfl⟩
        have hbk : (k : Int) % 256 = (y.toNat : Int) := by rw [Hy.out]; exact byte_of k
        have hbd : (d : Int) % 256 = (z.toNat : Int) := by rw [Hz.out]; exact byte_of d
        rw [← Hz.out] at e
        have He := Lib.hid e
        clear e hcell
        have r1 := hr.set_ k (w8 y)
        have g1 : w.grownBy (wr.setCell ⟨w.heap.size, k, none⟩ (.int .u8 (y.toNat : Int))) none := gb_new hg (gb_set1 _ _ _ _) (Nat.le_refl _)
        have cr1 : (wr.setCell ⟨w.heap.size, k, none⟩ (.int .u8 (y.toNat : Int))).cell? ⟨g, o + r, none⟩ = some (.int .u8 (x.toNat : Int)) := by
          rw [World.cell?_of_block (w := wr) (a := ⟨g, o + r, none⟩) (heap_setCell_other wr _ g _ (by simp; omega))]
          exact cr
        have hkn : (k : Int) < (n : Int) := by omega
        go_wp2
        have hc1 := r1.at_ (i := k) (v := w8 y) (by simp [put_size, size_madeCells, hlt])
        have hf1 := r1.free k
        change Row (wr.setCell ⟨w.heap.size, k, none⟩ (.int .u8 (y.toNat : Int))) _ _ _ at r1
        change (wr.setCell ⟨w.heap.size, k, none⟩ (.int .u8 (y.toNat : Int))).cell? _ = _ at hc1
        change (wr.setCell ⟨w.heap.size, k, none⟩ (.int .u8 (y.toNat : Int))).frozen? _ = _ at hf1
        generalize wr.setCell ⟨w.heap.size, k, none⟩ (.int .u8 (y.toNat : Int)) = wz at *
        refine wp_region_still_tail 15 (by kernel_rfl) (by kernel_rfl) ?_
        simp only [List.take_succ_cons, List.take_zero, List.drop_succ_cons, List.drop_zero]
        iterate 15 still_step
        refine wpStill_nil ?_
        change wpList _ _ _ _ _ wz.drew
        go_wp2
        refine ⟨⟨k + 1, by omega, by go_num, ?_, gb_drew (gb_new g1 (gb_set1 _ _ _ _) (Nat.le_refl _))⟩, by simp [intOf]; omega⟩
        have h := (r1.set_ k (w8 (byteS bs k))).drew
        rw [set_twice, He.out] at h
        rw [byte_sum, put_1, Nat.zero_add]
        show Row _ _ _ (Array.setIfInBounds _ k (w8 (byteS bs k)))
        rw [He.out]
        exact h
    · have Hkn : Hid (k = n) := by show k = n; omega
      have hr' : Row wr w.heap.size 5 (put (madeCells #[.int .u8 0] n) 0 (fun i => w8 (byteS bs i)) n) := by
        have h := hr; rw [Hkn.out] at h; exact h
      have hconv := run_convert_bytes_back (P := Try.prog) wr 25 9 5 ⟨w.heap.size, 0, none⟩ n (bytesS bs n) Try.underlying25 Try.underlying5 Try.underlying9 (put_bytesS bs n hr')
      rw [bytesS_len] at hconv
      clear hk hr
      go_wp2
      go_ret
      exact ⟨rfl, hg⟩
end Go.Proofs.Ytkeincmmcdcggaa
