/- hmac.masked and the document's masked: a key of a block, xor a byte. -/
import Derived.Test.YtalobkggpdniaaaDoorSLaw
import Derived.Test.YtalobkggpdniaaaDoorSPatch
namespace Go.Proofs.YtalobkggpdniaaaDoor
open Go.RowKit Wd Mm

def padK (k : List UInt8) : List UInt8 := k ++ List.replicate (64 - k.length) 0
def maskL (k : List UInt8) (m : UInt8) : List UInt8 := (padK k).map (fun x => x ^^^ m)
def maskB (k : ByteArray) (m : UInt8) : ByteArray := ⟨(maskL k.data.toList m).toArray⟩
theorem padK_len (k : List UInt8) (h : k.length ≤ 64) : (padK k).length = 64 := by simp [padK]; omega
theorem maskL_len (k : List UInt8) (m : UInt8) (h : k.length ≤ 64) : (maskL k m).length = 64 := by simp [maskL, padK_len k h]
theorem maskB_size (k : ByteArray) (m : UInt8) (h : k.size ≤ 64) : (maskB k m).size = 64 := by
  rw [← len_data]; unfold maskB; rw [ba]; exact maskL_len _ _ (by rw [len_data]; exact h)
theorem maskL_getD (k : List UInt8) (m : UInt8) (i : Nat) (h : k.length ≤ 64) (hi : i < 64) : (maskL k m).getD i 0 = (padK k).getD i 0 ^^^ m := by
  have hl := padK_len k h
  unfold maskL
  simp only [List.getD_eq_getElem?_getD, List.getElem?_map, List.getElem?_eq_getElem (show i < (padK k).length by omega), Option.map_some, Option.getD_some]
def zB : Array Value := ((List.replicate 64 (0 : UInt8)).map w8).toArray
theorem zB_run (W : World) : (zeroValue 44).run Tryd.prog W = .ok (.agg zB) W := by kernel_rfl
theorem zB_size : zB.size = 64 := by simp [zB]
theorem zB_at (i : Nat) (h : i < 64) : zB[i]? = some (w8 0) := by
  unfold zB
  rw [List.getElem?_toArray, List.getElem?_map, List.getElem?_replicate, if_pos h]; rfl
/-- The key laid over noughts. -/
theorem put_pad (k : List UInt8) (n : Nat) (hn : k.length = n) (h : n ≤ 64) : put zB 0 (fun i => ((k.map w8).take n).getD i undef) n = ((padK k).map w8).toArray := by
  subst hn
  apply Array.ext_getElem?
  intro i
  rw [put_get, zB_size]
  by_cases hi : i < k.length
  · rw [if_pos (by omega)]
    simp [padK, hi, List.getElem?_append_left]
  · rw [if_neg (by omega)]
    by_cases h6 : i < 64
    · rw [zB_at i h6, padK, List.getElem?_toArray, List.getElem?_map, List.getElem?_append_right (Nat.le_of_not_lt hi), List.getElem?_replicate, if_pos (by omega)]
      rfl
    · rw [Array.getElem?_eq_none (by rw [zB_size]; omega), Array.getElem?_eq_none (by simp [padK_len k h]; omega)]
theorem put_mask (k : List UInt8) (m : UInt8) (h : k.length ≤ 64) : put ((padK k).map w8).toArray 0 (fun i => w8 ((maskL k m).getD i 0)) 64 = ((maskL k m).map w8).toArray :=
  put_all _ _ 64 _ (by simp [padK_len k h]) (by simp [maskL_len k m h]) fun i hi => by
    have hl := maskL_len k m h
    simp [hl, hi]
/-- A row of bytes of whatever type, as a string. -/
theorem row_text {w : World} {g : Nat} {t : TypeId} {l : List UInt8} {n : Nat} (h : Row w g t (l.map w8).toArray) (hn : l.length = n) (c : Nat) : (convert 26 9 (.slice (some ⟨g, 0, none⟩) n c)).run Tryd.prog w = .ok (.string ⟨l.toArray⟩) w := by
  subst hn
  exact run_convert_bytes_back (P := Tryd.prog) w 26 9 5 ⟨g, 0, none⟩ c l Tryd.underlying26 Tryd.underlying5 Tryd.underlying9 (row_bytes h)
theorem copy_pad {W : World} {g : Nat} {t : TypeId} (k : ByteArray) (hk : k.size ≤ 64) (h : Row W g t zB) :
    (∀ ty, (Builtin.copy_ #[26, 9] ty #[.slice (some ⟨g, 0, none⟩) 64 64, .string k]).run Tryd.prog W = .ok (.int .i64 (k.size : Int)) (W.setCells g 0 ((k.data.toList.map w8).take k.size))) ∧
    Row (W.setCells g 0 ((k.data.toList.map w8).take k.size)) g t ((padK k.data.toList).map w8).toArray ∧ W.grownBy (W.setCells g 0 ((k.data.toList.map w8).take k.size)) (some g) := by
  refine ⟨fun ty => run_copy_min W 26 9 ty 5 g 0 64 64 k.size k Tryd.underlying26 byte_one_size (Nat.min_eq_left hk) (fun j hj => by rw [Nat.zero_add, h.get, Array.getElem?_eq_getElem (by rw [zB_size]; omega)]; rfl) (fun j _ => h.free _), ?_, gb_setCells _ _ _ _⟩
  have h1 := row_setCells ((k.data.toList.map w8).take k.size) 0 _ _ h
  have hl : ((k.data.toList.map w8).take k.size).length = k.size := by simp
  rw [hl, put_pad k.data.toList k.size (len_data k) hk] at h1
  exact h1

attribute [local go_sem] xor8
set_option maxHeartbeats 4000000 in
set_option maxRecDepth 100000 in
theorem masked_any (k : ByteArray) (m : UInt8) (w : World) (hk : k.size ≤ 64) :
    Calls Tryd.prog 31 #[.string k, .int .u8 (m.toNat : Int)] w fun e w' => e = .returned (.string (maskB k m)) ∧ w.grownBy w' none := by
  have hz := zB_run
  have hz2 := zB_size
  have hA : Tryd.prog.arrayLen 44 = 64 := by kernel_rfl
  obtain ⟨hcp, hr0, hg0⟩ := copy_pad k hk (Row.new w 44 zB)
  have Hr0 := Lib.hid hr0
  have Hg0 := Lib.hid hg0
  have HK := Lib.hid hk
  clear hr0 hg0 hk
  go_enter Tryd.func31, Tryd.ntmps31
  go_wp2_with fail
  clear hcp hz hz2
  have hl := (padK_len k.data.toList (by rw [len_data]; exact HK.out))
  have Hl := Lib.hid hl
  clear hl
  go_loopw [10] (fun i wr => ∃ r : Nat, r ≤ 64 ∧ i = .int .i64 r ∧ Row wr w.heap.size 44 (put ((padK k.data.toList).map w8).toArray 0 (fun i => w8 ((maskL k.data.toList m).getD i 0)) r) ∧ w.grownBy wr none) (fun i _ => 64 - (intOf i).toNat)
  case atStart => exact ⟨0, Nat.zero_le _, rfl, Hr0.out, gb_new (gb_alloc (gb_refl _ _) _) Hg0.out (Nat.le_refl _)⟩
  case round =>
    obtain ⟨r, hr, rfl, hrow, hg⟩ := hrel
    by_cases hlt : r < 64
    · have hdec : decide ((r : Int) < 64) = true := decide_eq_true (by omega)
      have bk : (r : Int) < 64 := by omega
      obtain ⟨x, Hx⟩ : ∃ x, Hid (x = (padK k.data.toList).getD r 0) := ⟨_, rfl⟩
      have cx : wr.cell? ⟨w.heap.size, r, none⟩ = some (.int .u8 (x.toNat : Int)) := by
        refine hrow.at_ ?_
        rw [put_get, if_neg (by omega), Hx.out]
        have := Hl.out
        simp [this, hlt, w8]
      have hf : wr.frozen? ⟨w.heap.size, r, none⟩ = false := hrow.free _
      go_wp2_with fail
      go_roundw
      case rel =>
        refine ⟨r + 1, by omega, by go_num, ?_, gb_new hg (gb_set1 _ _ _ _) (Nat.le_refl _)⟩
        have e : w8 ((maskL k.data.toList m).getD r 0) = .int .u8 ((x ^^^ m).toNat : Int) := by
          rw [maskL_getD _ _ _ (by rw [len_data]; exact HK.out) hlt, Hx.out]; rfl
        have h := hrow.set_ r (w8 ((maskL k.data.toList m).getD r 0))
        rw [e] at h
        simp only [put, Nat.zero_add]
        rw [e]
        exact h
      case measure => simp [intOf]; omega
    · have hr64 : r = 64 := by omega
      subst hr64
      have hdec : decide (((64 : Nat) : Int) < 64) = false := by decide
      rw [put_mask _ _ (by rw [len_data]; exact HK.out)] at hrow
      have hconv := row_text hrow (maskL_len _ _ (by rw [len_data]; exact HK.out)) 64
      clear hlt hr hrow
      go_wp2_with fail
      go_ret
      exact ⟨rfl, hg⟩

theorem z64_eq : madeB 64 = zB := madeB_eq 64
set_option maxHeartbeats 4000000 in
set_option maxRecDepth 100000 in
theorem refMasked_any (k : ByteArray) (m : UInt8) (w : World) (hk : k.size ≤ 64) :
    Calls Tryd.prog 32 #[.string k, .int .u8 (m.toNat : Int)] w fun e w' => e = .returned (.string (maskB k m)) ∧ w.grownBy w' none := by
  have hmk : (Instr.makeSlice 26 (.int .i64 64) (.int .i64 64)).run Tryd.prog w = .ok (.slice (some ⟨w.heap.size, 0, none⟩) 64 64) (w.alloc (.cells zB 5)) := by
    rw [← z64_eq]; exact makeB_at 64 (by decide) w
  obtain ⟨hcp, hr0, hg0⟩ := copy_pad k hk (Row.new w 5 zB)
  have Hr0 := Lib.hid hr0
  have Hg0 := Lib.hid hg0
  have HK := Lib.hid hk
  clear hr0 hg0 hk
  go_enter Tryd.func32, Tryd.ntmps32
  go_wp2_with fail
  clear hcp hmk
  have hl := (padK_len k.data.toList (by rw [len_data]; exact HK.out))
  have Hl := Lib.hid hl
  clear hl
  go_loopw [6] (fun i wr => ∃ r : Nat, r ≤ 64 ∧ i = .int .i64 r ∧ Row wr w.heap.size 5 (put ((padK k.data.toList).map w8).toArray 0 (fun i => w8 ((maskL k.data.toList m).getD i 0)) r) ∧ w.grownBy wr none) (fun i _ => 64 - (intOf i).toNat)
  case atStart => exact ⟨0, Nat.zero_le _, rfl, Hr0.out, gb_new (gb_alloc (gb_refl _ _) _) Hg0.out (Nat.le_refl _)⟩
  case round =>
    obtain ⟨r, hr, rfl, hrow, hg⟩ := hrel
    by_cases hlt : r < 64
    · have hdec : decide ((r : Int) < 64) = true := decide_eq_true (by omega)
      have bk : (r : Int) < 64 := by omega
      obtain ⟨x, Hx⟩ : ∃ x, Hid (x = (padK k.data.toList).getD r 0) := ⟨_, rfl⟩
      have cx : wr.cell? ⟨w.heap.size, r, none⟩ = some (.int .u8 (x.toNat : Int)) := by
        refine hrow.at_ ?_
        rw [put_get, if_neg (by omega), Hx.out]
        have := Hl.out
        simp [this, hlt, w8]
      have hf : wr.frozen? ⟨w.heap.size, r, none⟩ = false := hrow.free _
      go_wp2_with fail
      go_roundw
      case rel =>
        refine ⟨r + 1, by omega, by go_num, ?_, gb_new hg (gb_set1 _ _ _ _) (Nat.le_refl _)⟩
        have e : w8 ((maskL k.data.toList m).getD r 0) = .int .u8 ((x ^^^ m).toNat : Int) := by
          rw [maskL_getD _ _ _ (by rw [len_data]; exact HK.out) hlt, Hx.out]; rfl
        have h := hrow.set_ r (w8 ((maskL k.data.toList m).getD r 0))
        rw [e] at h
        simp only [put, Nat.zero_add]
        rw [e]
        exact h
      case measure => simp [intOf]; omega
    · have hr64 : r = 64 := by omega
      subst hr64
      have hdec : decide (((64 : Nat) : Int) < 64) = false := by decide
      rw [put_mask _ _ (by rw [len_data]; exact HK.out)] at hrow
      have hconv := row_text hrow (maskL_len _ _ (by rw [len_data]; exact HK.out)) 64
      clear hlt hr hrow
      go_wp2_with fail
      go_ret
      exact ⟨rfl, hg⟩
end Go.Proofs.YtalobkggpdniaaaDoor
