/-
  Proved: whatever values of its parameters' types it is called with, deaddroplaw1.ChachaSizes returns true, and each argument reads behind the call as it read before.
  Conditions: none but those of the row itself.
  (The frame round the walk was written by the kit's proof-skeleton.mjs.)
-/
import Derived.Test.YthajddnebambfaaRows
import Derived.WalkKit
import Derived.ProofKit
import Derived.OpenShut
import Derived.ShutString
import Derived.Test.YthajddnebambfaaHelp
import Derived.IntWalk
import Derived.Below
namespace Go.Proofs.Ythajddnebambfaa.chachaSizes
open Go.ChangeShapes Go.WideShapes Go.ChangeAt Go.RowKit
open Go.ChangeMaps (open_string shut_string)
open Go.Proofs.Ythajddnebambfaa.Wd Go.Proofs.Ythajddnebambfaa.Mm
set_option linter.unusedVariables false      -- a walk need not use every 'w<i>' (that an integer argument fits its kind)

theorem own : ownKnob Try.prog.godebug = none := by kernel_rfl

theorem zeros_row {w : World} {g n : Nat} {t : TypeId} (h : Row w g t (madeCells #[.int .u8 0] n)) : Holds w (some ⟨g, 0, none⟩) n (List.replicate n 0) := by
  refine ⟨by simp, fun _ => ⟨g, 0, rfl, h.lt, fun i hi => ?_⟩⟩
  rw [Nat.zero_add, zerosD]
  refine h.at_ ?_
  simp [madeCells, hi, w8, Nat.mod_one]

set_option maxHeartbeats 4000000 in
set_option maxRecDepth 100000 in
theorem szAs (a0 a1 a2 a3 : Int) (k o L : Nat) (hk : a0 % 70 = (k : Int)) (ho : a1 % 30 = (o : Int)) (hL : 1 + a3 % 300 = (L : Int)) (b0 : 0 ≤ a0) (b0' : a0 ≤ 255) (b1 : 0 ≤ a1) (b1' : a1 ≤ 255) (b3 : 0 ≤ a3) (b3' : a3 ≤ 65535) (b2 : -9223372036854775808 ≤ a2) (b2' : a2 ≤ 9223372036854775807) (c1 : k ≠ 32) (c6 : L ≤ 64) (w : World) :
    Calls Try.prog 7 #[.int .u8 a0, .int .u8 a1, .int .i64 a2, .int .u16 a3] w fun e w' => e = .returned (.bool true) ∧ Below w.heap.size w w' := by
  have hk7 : k < 70 := by omega
  have ho3 : o < 30 := by omega
  have hL0 : 1 ≤ L := by omega
  have hL3 : L ≤ 300 := by omega
  have d1 : ((k : Int) == 32) = false := by rw [beq_eq_false_iff_ne]; omega
  have d6 : decide ((L : Int) ≤ 64) = true := by simp; omega
  have hmk := fun W => run_make_row' (P := Try.prog) 25 5 (.int .u8 0) 1 Try.underlying25 byte_info rfl .i64 .i64 L (by omega) (by omega) W
  go_enter Try.func7, Try.ntmps7
  go_wp2_with fail
  have hz : Holds (w.alloc (.cells (madeCells #[.int .u8 0] L) 5)) (some ⟨w.heap.size, 0, none⟩) L (List.replicate L 0) := zeros_row (Row.new _ _ _)
  have hg0 : w.grownBy (w.alloc (.cells (madeCells #[.int .u8 0] L) 5)) none := gb_alloc (gb_refl _ _) _
  generalize w.alloc (.cells (madeCells #[.int .u8 0] L) 5) = wa at *
  refine (bytes_any none 0 0 k [] _ ⟨rfl, fun h => absurd h (by omega)⟩ (by omega) (by omega)).mono ?_
  rintro e y1 ⟨rfl, k1⟩
  go_wp2_with fail
  refine (bytes_any none 0 0 o [] _ ⟨rfl, fun h => absurd h (by omega)⟩ (by omega) (by omega)).mono ?_
  rintro e y2 ⟨rfl, k2⟩
  have hg2 := gb_none (gb_none hg0 k1) k2
  have hz2 := (hz.keep k1).keep k2
  have HK : Hid ((⟨(bytesS [] k).toArray⟩ : ByteArray).size = k) := by show _ = _; rw [← len_data, ba, bytesS_len]
  have HO : Hid ((⟨(bytesS [] o).toArray⟩ : ByteArray).size = o) := by show _ = _; rw [← len_data, ba, bytesS_len]
  have HKe : Hid (∃ K : ByteArray, K = ⟨(bytesS [] k).toArray⟩) := ⟨_, rfl⟩
  obtain ⟨K, eK⟩ := HKe.out
  have HOe : Hid (∃ K : ByteArray, K = ⟨(bytesS [] o).toArray⟩) := ⟨_, rfl⟩
  obtain ⟨O, eO⟩ := HOe.out
  have EK := Lib.hid eK
  have EO := Lib.hid eO
  rw [← eK] at HK
  rw [← eO] at HO
  rw [← eK, ← eO]
  clear eK eO HKe HOe hz hg0 k1 k2
  obtain ⟨S, HS⟩ : ∃ S, Hid (blockA K O a2 = S) := ⟨_, rfl⟩
  have hS : S = ⟨#[]⟩ := by
    rw [← HS.out]
    unfold blockA
    rw [if_neg]
    intro h
    simp only [fitsB, decide_eq_true_eq] at h
    exact c1 (by rw [← HK.out]; exact h.1)
  have hx : xorA K O a2 (List.replicate L 0) = [] := by
    unfold xorA
    rw [List.length_replicate, if_neg (by omega), if_neg]
    intro h
    simp only [fitsB, decide_eq_true_eq] at h
    exact c1 (by rw [← HK.out]; exact h.1)
  have Hx := Lib.hid hx
  clear hx
  go_wp2_with fail
  refine (block_any _ _ _ _).mono ?_
  rintro e y3 ⟨rfl, k3⟩
  rw [HS.out]
  rw [hS]; clear hS
  have hg3 := gb_none hg2 k3
  have hz3 := hz2.keep k3
  clear hg2 hz2 k3
  go_wp2_with fail
  refine (bytes_any none 0 0 k [] _ ⟨rfl, fun h => absurd h (by omega)⟩ (by omega) (by omega)).mono ?_
  rintro e y4 ⟨rfl, k4⟩
  rw [← EK.out]
  go_wp2_with fail
  refine (bytes_any none 0 0 o [] _ ⟨rfl, fun h => absurd h (by omega)⟩ (by omega) (by omega)).mono ?_
  rintro e y5 ⟨rfl, k5⟩
  rw [← EO.out]
  have hg5 := gb_none (gb_none hg3 k4) k5
  have hz5 := (hz3.keep k4).keep k5
  clear hg3 hz3 k4 k5
  go_wp2_with fail
  refine (xor_any K O a2 _ L L (List.replicate L 0) _ (by omega) hz5).mono ?_
  rintro e y6 ⟨v, rfl, k6, t6⟩
  rw [Hx.out] at t6
  obtain rfl : v = .slice none 0 0 := by
    rcases t6 with ⟨_, hv⟩ | ⟨hn, _⟩
    · exact hv
    · exact absurd rfl hn
  have hg6 := gb_none hg5 k6
  have hz6 := hz5.keep k6
  clear hg5 hz5 k6 t6
  go_wp2_with fail
  refine (bytes_any none 0 0 32 [] _ ⟨rfl, fun h => absurd h (by omega)⟩ (by omega) (by omega)).mono ?_
  rintro e y7 ⟨rfl, k7⟩
  go_wp2_with fail
  refine (bytes_any none 0 0 12 [] _ ⟨rfl, fun h => absurd h (by omega)⟩ (by omega) (by omega)).mono ?_
  rintro e y8 ⟨rfl, k8⟩
  have HK2 : Hid ((⟨(bytesS [] 32).toArray⟩ : ByteArray).size = 32) := by show _ = _; rw [← len_data, ba, bytesS_len]
  have HO2 : Hid ((⟨(bytesS [] 12).toArray⟩ : ByteArray).size = 12) := by show _ = _; rw [← len_data, ba, bytesS_len]
  generalize (⟨(bytesS [] 32).toArray⟩ : ByteArray) = K2 at *
  generalize (⟨(bytesS [] 12).toArray⟩ : ByteArray) = O2 at *
  have hg8 := gb_none (gb_none hg6 k7) k8
  have hz8 := (hz6.keep k7).keep k8
  clear hg6 hz6 k7 k8
  have hy : xorA K2 O2 4294967295 (List.replicate L 0) = xorS K2.data.toList O2.data.toList 4294967295 (List.replicate L 0) := by
    unfold xorA
    rw [List.length_replicate, if_neg (by omega), if_pos]
    simp only [fitsB, decide_eq_true_eq]
    exact ⟨HK2.out, HO2.out, by omega, by omega⟩
  have Hy := Lib.hid hy
  clear hy
  go_wp2_with fail
  refine (xor_any K2 O2 4294967295 _ L L (List.replicate L 0) _ (by omega) hz8).mono ?_
  rintro e y9 ⟨v2, rfl, k9, t9⟩
  rw [Hy.out] at t9
  obtain ⟨gy, rfl⟩ : ∃ g, v2 = .slice (some ⟨g, 0, none⟩) L L := by
    rcases t9 with ⟨he, _⟩ | ⟨_, g, hv, _, _⟩
    · exfalso
      have hl := congrArg List.length he
      rw [xorS_len, List.length_replicate] at hl
      simp at hl; omega
    · exact ⟨g, by rw [hv, xorS_len, List.length_replicate]⟩
  have hg9 := gb_none hg8 k9
  have hLp : decide (0 < (L : Int)) = true := by simp; omega
  have hLp2 : decide (0 < L) = true := by simp; omega
  have hL00 : ((L : Int) == 0) = false := by rw [beq_eq_false_iff_ne]; omega
  have hL01 : ((0 : Int) == (L : Int)) = false := by rw [beq_eq_false_iff_ne]; omega
  clear hg8 hz8 k9 t9
  go_wp2_with fail
  refine (awake_any _).mono ?_
  rintro e y10 ⟨rfl, k10⟩
  go_wp2_with fail
  go_ret
  exact ⟨rfl, below_of (gb_none hg9 k10)⟩

set_option maxHeartbeats 4000000 in
set_option maxRecDepth 100000 in
theorem szAl (a0 a1 a2 a3 : Int) (k o L : Nat) (hk : a0 % 70 = (k : Int)) (ho : a1 % 30 = (o : Int)) (hL : 1 + a3 % 300 = (L : Int)) (b0 : 0 ≤ a0) (b0' : a0 ≤ 255) (b1 : 0 ≤ a1) (b1' : a1 ≤ 255) (b3 : 0 ≤ a3) (b3' : a3 ≤ 65535) (b2 : -9223372036854775808 ≤ a2) (b2' : a2 ≤ 9223372036854775807) (c1 : k ≠ 32) (c6 : 64 < L) (w : World) :
    Calls Try.prog 7 #[.int .u8 a0, .int .u8 a1, .int .i64 a2, .int .u16 a3] w fun e w' => e = .returned (.bool true) ∧ Below w.heap.size w w' := by
  have hk7 : k < 70 := by omega
  have ho3 : o < 30 := by omega
  have hL0 : 1 ≤ L := by omega
  have hL3 : L ≤ 300 := by omega
  have d1 : ((k : Int) == 32) = false := by rw [beq_eq_false_iff_ne]; omega
  have d6 : decide ((L : Int) ≤ 64) = false := by simp; omega
  have hmk := fun W => run_make_row' (P := Try.prog) 25 5 (.int .u8 0) 1 Try.underlying25 byte_info rfl .i64 .i64 L (by omega) (by omega) W
  go_enter Try.func7, Try.ntmps7
  go_wp2_with fail
  have hz : Holds (w.alloc (.cells (madeCells #[.int .u8 0] L) 5)) (some ⟨w.heap.size, 0, none⟩) L (List.replicate L 0) := zeros_row (Row.new _ _ _)
  have hg0 : w.grownBy (w.alloc (.cells (madeCells #[.int .u8 0] L) 5)) none := gb_alloc (gb_refl _ _) _
  generalize w.alloc (.cells (madeCells #[.int .u8 0] L) 5) = wa at *
  refine (bytes_any none 0 0 k [] _ ⟨rfl, fun h => absurd h (by omega)⟩ (by omega) (by omega)).mono ?_
  rintro e y1 ⟨rfl, k1⟩
  go_wp2_with fail
  refine (bytes_any none 0 0 o [] _ ⟨rfl, fun h => absurd h (by omega)⟩ (by omega) (by omega)).mono ?_
  rintro e y2 ⟨rfl, k2⟩
  have hg2 := gb_none (gb_none hg0 k1) k2
  have hz2 := (hz.keep k1).keep k2
  have HK : Hid ((⟨(bytesS [] k).toArray⟩ : ByteArray).size = k) := by show _ = _; rw [← len_data, ba, bytesS_len]
  have HO : Hid ((⟨(bytesS [] o).toArray⟩ : ByteArray).size = o) := by show _ = _; rw [← len_data, ba, bytesS_len]
  have HKe : Hid (∃ K : ByteArray, K = ⟨(bytesS [] k).toArray⟩) := ⟨_, rfl⟩
  obtain ⟨K, eK⟩ := HKe.out
  have HOe : Hid (∃ K : ByteArray, K = ⟨(bytesS [] o).toArray⟩) := ⟨_, rfl⟩
  obtain ⟨O, eO⟩ := HOe.out
  have EK := Lib.hid eK
  have EO := Lib.hid eO
  rw [← eK] at HK
  rw [← eO] at HO
  rw [← eK, ← eO]
  clear eK eO HKe HOe hz hg0 k1 k2
  obtain ⟨S, HS⟩ : ∃ S, Hid (blockA K O a2 = S) := ⟨_, rfl⟩
  have hS : S = ⟨#[]⟩ := by
    rw [← HS.out]
    unfold blockA
    rw [if_neg]
    intro h
    simp only [fitsB, decide_eq_true_eq] at h
    exact c1 (by rw [← HK.out]; exact h.1)
  have hx : xorA K O a2 (List.replicate L 0) = [] := by
    unfold xorA
    rw [List.length_replicate, if_neg (by omega), if_neg]
    intro h
    simp only [fitsB, decide_eq_true_eq] at h
    exact c1 (by rw [← HK.out]; exact h.1)
  have Hx := Lib.hid hx
  clear hx
  go_wp2_with fail
  refine (block_any _ _ _ _).mono ?_
  rintro e y3 ⟨rfl, k3⟩
  rw [HS.out]
  rw [hS]; clear hS
  have hg3 := gb_none hg2 k3
  have hz3 := hz2.keep k3
  clear hg2 hz2 k3
  go_wp2_with fail
  refine (bytes_any none 0 0 k [] _ ⟨rfl, fun h => absurd h (by omega)⟩ (by omega) (by omega)).mono ?_
  rintro e y4 ⟨rfl, k4⟩
  rw [← EK.out]
  go_wp2_with fail
  refine (bytes_any none 0 0 o [] _ ⟨rfl, fun h => absurd h (by omega)⟩ (by omega) (by omega)).mono ?_
  rintro e y5 ⟨rfl, k5⟩
  rw [← EO.out]
  have hg5 := gb_none (gb_none hg3 k4) k5
  have hz5 := (hz3.keep k4).keep k5
  clear hg3 hz3 k4 k5
  go_wp2_with fail
  refine (xor_any K O a2 _ L L (List.replicate L 0) _ (by omega) hz5).mono ?_
  rintro e y6 ⟨v, rfl, k6, t6⟩
  rw [Hx.out] at t6
  obtain rfl : v = .slice none 0 0 := by
    rcases t6 with ⟨_, hv⟩ | ⟨hn, _⟩
    · exact hv
    · exact absurd rfl hn
  have hg6 := gb_none hg5 k6
  have hz6 := hz5.keep k6
  clear hg5 hz5 k6 t6
  go_wp2_with fail
  refine (bytes_any none 0 0 32 [] _ ⟨rfl, fun h => absurd h (by omega)⟩ (by omega) (by omega)).mono ?_
  rintro e y7 ⟨rfl, k7⟩
  go_wp2_with fail
  refine (bytes_any none 0 0 12 [] _ ⟨rfl, fun h => absurd h (by omega)⟩ (by omega) (by omega)).mono ?_
  rintro e y8 ⟨rfl, k8⟩
  have HK2 : Hid ((⟨(bytesS [] 32).toArray⟩ : ByteArray).size = 32) := by show _ = _; rw [← len_data, ba, bytesS_len]
  have HO2 : Hid ((⟨(bytesS [] 12).toArray⟩ : ByteArray).size = 12) := by show _ = _; rw [← len_data, ba, bytesS_len]
  generalize (⟨(bytesS [] 32).toArray⟩ : ByteArray) = K2 at *
  generalize (⟨(bytesS [] 12).toArray⟩ : ByteArray) = O2 at *
  have hg8 := gb_none (gb_none hg6 k7) k8
  have hz8 := (hz6.keep k7).keep k8
  clear hg6 hz6 k7 k8
  have hy : xorA K2 O2 4294967295 (List.replicate L 0) = [] := by
    unfold xorA
    rw [List.length_replicate, if_neg (by omega), if_neg]
    intro h
    simp only [fitsB, decide_eq_true_eq] at h
    exact absurd h.2.2.2 (by omega)
  have Hy := Lib.hid hy
  clear hy
  go_wp2_with fail
  refine (xor_any K2 O2 4294967295 _ L L (List.replicate L 0) _ (by omega) hz8).mono ?_
  rintro e y9 ⟨v2, rfl, k9, t9⟩
  rw [Hy.out] at t9
  obtain rfl : v2 = .slice none 0 0 := by
    rcases t9 with ⟨_, hv⟩ | ⟨hn, _⟩
    · exact hv
    · exact absurd rfl hn
  have hg9 := gb_none hg8 k9
  have hLp : decide (0 < (L : Int)) = true := by simp; omega
  have hLp2 : decide (0 < L) = true := by simp; omega
  have hL00 : ((L : Int) == 0) = false := by rw [beq_eq_false_iff_ne]; omega
  have hL01 : ((0 : Int) == (L : Int)) = false := by rw [beq_eq_false_iff_ne]; omega
  clear hg8 hz8 k9 t9
  go_wp2_with fail
  refine (awake_any _).mono ?_
  rintro e y10 ⟨rfl, k10⟩
  go_wp2_with fail
  go_ret
  exact ⟨rfl, below_of (gb_none hg9 k10)⟩

set_option maxHeartbeats 4000000 in
set_option maxRecDepth 100000 in
theorem szBs (a0 a1 a2 a3 : Int) (k o L : Nat) (hk : a0 % 70 = (k : Int)) (ho : a1 % 30 = (o : Int)) (hL : 1 + a3 % 300 = (L : Int)) (b0 : 0 ≤ a0) (b0' : a0 ≤ 255) (b1 : 0 ≤ a1) (b1' : a1 ≤ 255) (b3 : 0 ≤ a3) (b3' : a3 ≤ 65535) (b2 : -9223372036854775808 ≤ a2) (b2' : a2 ≤ 9223372036854775807) (c1 : k = 32) (c2 : o ≠ 12) (c6 : L ≤ 64) (w : World) :
    Calls Try.prog 7 #[.int .u8 a0, .int .u8 a1, .int .i64 a2, .int .u16 a3] w fun e w' => e = .returned (.bool true) ∧ Below w.heap.size w w' := by
  have hk7 : k < 70 := by omega
  have ho3 : o < 30 := by omega
  have hL0 : 1 ≤ L := by omega
  have hL3 : L ≤ 300 := by omega
  have d1 : ((k : Int) == 32) = true := by rw [c1]; rfl
  have d2 : ((o : Int) == 12) = false := by rw [beq_eq_false_iff_ne]; omega
  have d6 : decide ((L : Int) ≤ 64) = true := by simp; omega
  have C1 := Lib.hid c1
  clear c1
  have hmk := fun W => run_make_row' (P := Try.prog) 25 5 (.int .u8 0) 1 Try.underlying25 byte_info rfl .i64 .i64 L (by omega) (by omega) W
  go_enter Try.func7, Try.ntmps7
  go_wp2_with fail
  have hz : Holds (w.alloc (.cells (madeCells #[.int .u8 0] L) 5)) (some ⟨w.heap.size, 0, none⟩) L (List.replicate L 0) := zeros_row (Row.new _ _ _)
  have hg0 : w.grownBy (w.alloc (.cells (madeCells #[.int .u8 0] L) 5)) none := gb_alloc (gb_refl _ _) _
  generalize w.alloc (.cells (madeCells #[.int .u8 0] L) 5) = wa at *
  refine (bytes_any none 0 0 k [] _ ⟨rfl, fun h => absurd h (by omega)⟩ (by omega) (by omega)).mono ?_
  rintro e y1 ⟨rfl, k1⟩
  go_wp2_with fail
  refine (bytes_any none 0 0 o [] _ ⟨rfl, fun h => absurd h (by omega)⟩ (by omega) (by omega)).mono ?_
  rintro e y2 ⟨rfl, k2⟩
  have hg2 := gb_none (gb_none hg0 k1) k2
  have hz2 := (hz.keep k1).keep k2
  have HK : Hid ((⟨(bytesS [] k).toArray⟩ : ByteArray).size = k) := by show _ = _; rw [← len_data, ba, bytesS_len]
  have HO : Hid ((⟨(bytesS [] o).toArray⟩ : ByteArray).size = o) := by show _ = _; rw [← len_data, ba, bytesS_len]
  have HKe : Hid (∃ K : ByteArray, K = ⟨(bytesS [] k).toArray⟩) := ⟨_, rfl⟩
  obtain ⟨K, eK⟩ := HKe.out
  have HOe : Hid (∃ K : ByteArray, K = ⟨(bytesS [] o).toArray⟩) := ⟨_, rfl⟩
  obtain ⟨O, eO⟩ := HOe.out
  have EK := Lib.hid eK
  have EO := Lib.hid eO
  rw [← eK] at HK
  rw [← eO] at HO
  rw [← eK, ← eO]
  clear eK eO HKe HOe hz hg0 k1 k2
  obtain ⟨S, HS⟩ : ∃ S, Hid (blockA K O a2 = S) := ⟨_, rfl⟩
  have hS : S = ⟨#[]⟩ := by
    rw [← HS.out]
    unfold blockA
    rw [if_neg]
    intro h
    simp only [fitsB, decide_eq_true_eq] at h
    exact c2 (by rw [← HO.out]; exact h.2.1)
  have hx : xorA K O a2 (List.replicate L 0) = [] := by
    unfold xorA
    rw [List.length_replicate, if_neg (by omega), if_neg]
    intro h
    simp only [fitsB, decide_eq_true_eq] at h
    exact c2 (by rw [← HO.out]; exact h.2.1)
  have Hx := Lib.hid hx
  clear hx
  go_wp2_with fail
  refine (block_any _ _ _ _).mono ?_
  rintro e y3 ⟨rfl, k3⟩
  rw [HS.out]
  rw [hS]; clear hS
  have hg3 := gb_none hg2 k3
  have hz3 := hz2.keep k3
  clear hg2 hz2 k3
  go_wp2_with fail
  refine (bytes_any none 0 0 k [] _ ⟨rfl, fun h => absurd h (by omega)⟩ (by omega) (by omega)).mono ?_
  rintro e y4 ⟨rfl, k4⟩
  rw [← EK.out]
  go_wp2_with fail
  refine (bytes_any none 0 0 o [] _ ⟨rfl, fun h => absurd h (by omega)⟩ (by omega) (by omega)).mono ?_
  rintro e y5 ⟨rfl, k5⟩
  rw [← EO.out]
  have hg5 := gb_none (gb_none hg3 k4) k5
  have hz5 := (hz3.keep k4).keep k5
  clear hg3 hz3 k4 k5
  go_wp2_with fail
  refine (xor_any K O a2 _ L L (List.replicate L 0) _ (by omega) hz5).mono ?_
  rintro e y6 ⟨v, rfl, k6, t6⟩
  rw [Hx.out] at t6
  obtain rfl : v = .slice none 0 0 := by
    rcases t6 with ⟨_, hv⟩ | ⟨hn, _⟩
    · exact hv
    · exact absurd rfl hn
  have hg6 := gb_none hg5 k6
  have hz6 := hz5.keep k6
  clear hg5 hz5 k6 t6
  go_wp2_with fail
  refine (bytes_any none 0 0 32 [] _ ⟨rfl, fun h => absurd h (by omega)⟩ (by omega) (by omega)).mono ?_
  rintro e y7 ⟨rfl, k7⟩
  go_wp2_with fail
  refine (bytes_any none 0 0 12 [] _ ⟨rfl, fun h => absurd h (by omega)⟩ (by omega) (by omega)).mono ?_
  rintro e y8 ⟨rfl, k8⟩
  have HK2 : Hid ((⟨(bytesS [] 32).toArray⟩ : ByteArray).size = 32) := by show _ = _; rw [← len_data, ba, bytesS_len]
  have HO2 : Hid ((⟨(bytesS [] 12).toArray⟩ : ByteArray).size = 12) := by show _ = _; rw [← len_data, ba, bytesS_len]
  generalize (⟨(bytesS [] 32).toArray⟩ : ByteArray) = K2 at *
  generalize (⟨(bytesS [] 12).toArray⟩ : ByteArray) = O2 at *
  have hg8 := gb_none (gb_none hg6 k7) k8
  have hz8 := (hz6.keep k7).keep k8
  clear hg6 hz6 k7 k8
  have hy : xorA K2 O2 4294967295 (List.replicate L 0) = xorS K2.data.toList O2.data.toList 4294967295 (List.replicate L 0) := by
    unfold xorA
    rw [List.length_replicate, if_neg (by omega), if_pos]
    simp only [fitsB, decide_eq_true_eq]
    exact ⟨HK2.out, HO2.out, by omega, by omega⟩
  have Hy := Lib.hid hy
  clear hy
  go_wp2_with fail
  refine (xor_any K2 O2 4294967295 _ L L (List.replicate L 0) _ (by omega) hz8).mono ?_
  rintro e y9 ⟨v2, rfl, k9, t9⟩
  rw [Hy.out] at t9
  obtain ⟨gy, rfl⟩ : ∃ g, v2 = .slice (some ⟨g, 0, none⟩) L L := by
    rcases t9 with ⟨he, _⟩ | ⟨_, g, hv, _, _⟩
    · exfalso
      have hl := congrArg List.length he
      rw [xorS_len, List.length_replicate] at hl
      simp at hl; omega
    · exact ⟨g, by rw [hv, xorS_len, List.length_replicate]⟩
  have hg9 := gb_none hg8 k9
  have hLp : decide (0 < (L : Int)) = true := by simp; omega
  have hLp2 : decide (0 < L) = true := by simp; omega
  have hL00 : ((L : Int) == 0) = false := by rw [beq_eq_false_iff_ne]; omega
  have hL01 : ((0 : Int) == (L : Int)) = false := by rw [beq_eq_false_iff_ne]; omega
  clear hg8 hz8 k9 t9
  go_wp2_with fail
  refine (awake_any _).mono ?_
  rintro e y10 ⟨rfl, k10⟩
  go_wp2_with fail
  go_ret
  exact ⟨rfl, below_of (gb_none hg9 k10)⟩

set_option maxHeartbeats 4000000 in
set_option maxRecDepth 100000 in
theorem szBl (a0 a1 a2 a3 : Int) (k o L : Nat) (hk : a0 % 70 = (k : Int)) (ho : a1 % 30 = (o : Int)) (hL : 1 + a3 % 300 = (L : Int)) (b0 : 0 ≤ a0) (b0' : a0 ≤ 255) (b1 : 0 ≤ a1) (b1' : a1 ≤ 255) (b3 : 0 ≤ a3) (b3' : a3 ≤ 65535) (b2 : -9223372036854775808 ≤ a2) (b2' : a2 ≤ 9223372036854775807) (c1 : k = 32) (c2 : o ≠ 12) (c6 : 64 < L) (w : World) :
    Calls Try.prog 7 #[.int .u8 a0, .int .u8 a1, .int .i64 a2, .int .u16 a3] w fun e w' => e = .returned (.bool true) ∧ Below w.heap.size w w' := by
  have hk7 : k < 70 := by omega
  have ho3 : o < 30 := by omega
  have hL0 : 1 ≤ L := by omega
  have hL3 : L ≤ 300 := by omega
  have d1 : ((k : Int) == 32) = true := by rw [c1]; rfl
  have d2 : ((o : Int) == 12) = false := by rw [beq_eq_false_iff_ne]; omega
  have d6 : decide ((L : Int) ≤ 64) = false := by simp; omega
  have C1 := Lib.hid c1
  clear c1
  have hmk := fun W => run_make_row' (P := Try.prog) 25 5 (.int .u8 0) 1 Try.underlying25 byte_info rfl .i64 .i64 L (by omega) (by omega) W
  go_enter Try.func7, Try.ntmps7
  go_wp2_with fail
  have hz : Holds (w.alloc (.cells (madeCells #[.int .u8 0] L) 5)) (some ⟨w.heap.size, 0, none⟩) L (List.replicate L 0) := zeros_row (Row.new _ _ _)
  have hg0 : w.grownBy (w.alloc (.cells (madeCells #[.int .u8 0] L) 5)) none := gb_alloc (gb_refl _ _) _
  generalize w.alloc (.cells (madeCells #[.int .u8 0] L) 5) = wa at *
  refine (bytes_any none 0 0 k [] _ ⟨rfl, fun h => absurd h (by omega)⟩ (by omega) (by omega)).mono ?_
  rintro e y1 ⟨rfl, k1⟩
  go_wp2_with fail
  refine (bytes_any none 0 0 o [] _ ⟨rfl, fun h => absurd h (by omega)⟩ (by omega) (by omega)).mono ?_
  rintro e y2 ⟨rfl, k2⟩
  have hg2 := gb_none (gb_none hg0 k1) k2
  have hz2 := (hz.keep k1).keep k2
  have HK : Hid ((⟨(bytesS [] k).toArray⟩ : ByteArray).size = k) := by show _ = _; rw [← len_data, ba, bytesS_len]
  have HO : Hid ((⟨(bytesS [] o).toArray⟩ : ByteArray).size = o) := by show _ = _; rw [← len_data, ba, bytesS_len]
  have HKe : Hid (∃ K : ByteArray, K = ⟨(bytesS [] k).toArray⟩) := ⟨_, rfl⟩
  obtain ⟨K, eK⟩ := HKe.out
  have HOe : Hid (∃ K : ByteArray, K = ⟨(bytesS [] o).toArray⟩) := ⟨_, rfl⟩
  obtain ⟨O, eO⟩ := HOe.out
  have EK := Lib.hid eK
  have EO := Lib.hid eO
  rw [← eK] at HK
  rw [← eO] at HO
  rw [← eK, ← eO]
  clear eK eO HKe HOe hz hg0 k1 k2
  obtain ⟨S, HS⟩ : ∃ S, Hid (blockA K O a2 = S) := ⟨_, rfl⟩
  have hS : S = ⟨#[]⟩ := by
    rw [← HS.out]
    unfold blockA
    rw [if_neg]
    intro h
    simp only [fitsB, decide_eq_true_eq] at h
    exact c2 (by rw [← HO.out]; exact h.2.1)
  have hx : xorA K O a2 (List.replicate L 0) = [] := by
    unfold xorA
    rw [List.length_replicate, if_neg (by omega), if_neg]
    intro h
    simp only [fitsB, decide_eq_true_eq] at h
    exact c2 (by rw [← HO.out]; exact h.2.1)
  have Hx := Lib.hid hx
  clear hx
  go_wp2_with fail
  refine (block_any _ _ _ _).mono ?_
  rintro e y3 ⟨rfl, k3⟩
  rw [HS.out]
  rw [hS]; clear hS
  have hg3 := gb_none hg2 k3
  have hz3 := hz2.keep k3
  clear hg2 hz2 k3
  go_wp2_with fail
  refine (bytes_any none 0 0 k [] _ ⟨rfl, fun h => absurd h (by omega)⟩ (by omega) (by omega)).mono ?_
  rintro e y4 ⟨rfl, k4⟩
  rw [← EK.out]
  go_wp2_with fail
  refine (bytes_any none 0 0 o [] _ ⟨rfl, fun h => absurd h (by omega)⟩ (by omega) (by omega)).mono ?_
  rintro e y5 ⟨rfl, k5⟩
  rw [← EO.out]
  have hg5 := gb_none (gb_none hg3 k4) k5
  have hz5 := (hz3.keep k4).keep k5
  clear hg3 hz3 k4 k5
  go_wp2_with fail
  refine (xor_any K O a2 _ L L (List.replicate L 0) _ (by omega) hz5).mono ?_
  rintro e y6 ⟨v, rfl, k6, t6⟩
  rw [Hx.out] at t6
  obtain rfl : v = .slice none 0 0 := by
    rcases t6 with ⟨_, hv⟩ | ⟨hn, _⟩
    · exact hv
    · exact absurd rfl hn
  have hg6 := gb_none hg5 k6
  have hz6 := hz5.keep k6
  clear hg5 hz5 k6 t6
  go_wp2_with fail
  refine (bytes_any none 0 0 32 [] _ ⟨rfl, fun h => absurd h (by omega)⟩ (by omega) (by omega)).mono ?_
  rintro e y7 ⟨rfl, k7⟩
  go_wp2_with fail
  refine (bytes_any none 0 0 12 [] _ ⟨rfl, fun h => absurd h (by omega)⟩ (by omega) (by omega)).mono ?_
  rintro e y8 ⟨rfl, k8⟩
  have HK2 : Hid ((⟨(bytesS [] 32).toArray⟩ : ByteArray).size = 32) := by show _ = _; rw [← len_data, ba, bytesS_len]
  have HO2 : Hid ((⟨(bytesS [] 12).toArray⟩ : ByteArray).size = 12) := by show _ = _; rw [← len_data, ba, bytesS_len]
  generalize (⟨(bytesS [] 32).toArray⟩ : ByteArray) = K2 at *
  generalize (⟨(bytesS [] 12).toArray⟩ : ByteArray) = O2 at *
  have hg8 := gb_none (gb_none hg6 k7) k8
  have hz8 := (hz6.keep k7).keep k8
  clear hg6 hz6 k7 k8
  have hy : xorA K2 O2 4294967295 (List.replicate L 0) = [] := by
    unfold xorA
    rw [List.length_replicate, if_neg (by omega), if_neg]
    intro h
    simp only [fitsB, decide_eq_true_eq] at h
    exact absurd h.2.2.2 (by omega)
  have Hy := Lib.hid hy
  clear hy
  go_wp2_with fail
  refine (xor_any K2 O2 4294967295 _ L L (List.replicate L 0) _ (by omega) hz8).mono ?_
  rintro e y9 ⟨v2, rfl, k9, t9⟩
  rw [Hy.out] at t9
  obtain rfl : v2 = .slice none 0 0 := by
    rcases t9 with ⟨_, hv⟩ | ⟨hn, _⟩
    · exact hv
    · exact absurd rfl hn
  have hg9 := gb_none hg8 k9
  have hLp : decide (0 < (L : Int)) = true := by simp; omega
  have hLp2 : decide (0 < L) = true := by simp; omega
  have hL00 : ((L : Int) == 0) = false := by rw [beq_eq_false_iff_ne]; omega
  have hL01 : ((0 : Int) == (L : Int)) = false := by rw [beq_eq_false_iff_ne]; omega
  clear hg8 hz8 k9 t9
  go_wp2_with fail
  refine (awake_any _).mono ?_
  rintro e y10 ⟨rfl, k10⟩
  go_wp2_with fail
  go_ret
  exact ⟨rfl, below_of (gb_none hg9 k10)⟩

set_option maxHeartbeats 4000000 in
set_option maxRecDepth 100000 in
theorem szCs (a0 a1 a2 a3 : Int) (k o L : Nat) (hk : a0 % 70 = (k : Int)) (ho : a1 % 30 = (o : Int)) (hL : 1 + a3 % 300 = (L : Int)) (b0 : 0 ≤ a0) (b0' : a0 ≤ 255) (b1 : 0 ≤ a1) (b1' : a1 ≤ 255) (b3 : 0 ≤ a3) (b3' : a3 ≤ 65535) (b2 : -9223372036854775808 ≤ a2) (b2' : a2 ≤ 9223372036854775807) (c1 : k = 32) (c2 : o = 12) (c3 : a2 < 0) (c6 : L ≤ 64) (w : World) :
    Calls Try.prog 7 #[.int .u8 a0, .int .u8 a1, .int .i64 a2, .int .u16 a3] w fun e w' => e = .returned (.bool true) ∧ Below w.heap.size w w' := by
  have hk7 : k < 70 := by omega
  have ho3 : o < 30 := by omega
  have hL0 : 1 ≤ L := by omega
  have hL3 : L ≤ 300 := by omega
  have d1 : ((k : Int) == 32) = true := by rw [c1]; rfl
  have d2 : ((o : Int) == 12) = true := by rw [c2]; rfl
  have d3 : decide (0 ≤ a2) = false := by simp; omega
  have d6 : decide ((L : Int) ≤ 64) = true := by simp; omega
  have C1 := Lib.hid c1
  have C2 := Lib.hid c2
  clear c1 c2
  have hmk := fun W => run_make_row' (P := Try.prog) 25 5 (.int .u8 0) 1 Try.underlying25 byte_info rfl .i64 .i64 L (by omega) (by omega) W
  go_enter Try.func7, Try.ntmps7
  go_wp2_with fail
  have hz : Holds (w.alloc (.cells (madeCells #[.int .u8 0] L) 5)) (some ⟨w.heap.size, 0, none⟩) L (List.replicate L 0) := zeros_row (Row.new _ _ _)
  have hg0 : w.grownBy (w.alloc (.cells (madeCells #[.int .u8 0] L) 5)) none := gb_alloc (gb_refl _ _) _
  generalize w.alloc (.cells (madeCells #[.int .u8 0] L) 5) = wa at *
  refine (bytes_any none 0 0 k [] _ ⟨rfl, fun h => absurd h (by omega)⟩ (by omega) (by omega)).mono ?_
  rintro e y1 ⟨rfl, k1⟩
  go_wp2_with fail
  refine (bytes_any none 0 0 o [] _ ⟨rfl, fun h => absurd h (by omega)⟩ (by omega) (by omega)).mono ?_
  rintro e y2 ⟨rfl, k2⟩
  have hg2 := gb_none (gb_none hg0 k1) k2
  have hz2 := (hz.keep k1).keep k2
  have HK : Hid ((⟨(bytesS [] k).toArray⟩ : ByteArray).size = k) := by show _ = _; rw [← len_data, ba, bytesS_len]
  have HO : Hid ((⟨(bytesS [] o).toArray⟩ : ByteArray).size = o) := by show _ = _; rw [← len_data, ba, bytesS_len]
  have HKe : Hid (∃ K : ByteArray, K = ⟨(bytesS [] k).toArray⟩) := ⟨_, rfl⟩
  obtain ⟨K, eK⟩ := HKe.out
  have HOe : Hid (∃ K : ByteArray, K = ⟨(bytesS [] o).toArray⟩) := ⟨_, rfl⟩
  obtain ⟨O, eO⟩ := HOe.out
  have EK := Lib.hid eK
  have EO := Lib.hid eO
  rw [← eK] at HK
  rw [← eO] at HO
  rw [← eK, ← eO]
  clear eK eO HKe HOe hz hg0 k1 k2
  obtain ⟨S, HS⟩ : ∃ S, Hid (blockA K O a2 = S) := ⟨_, rfl⟩
  have hS : S = ⟨#[]⟩ := by
    rw [← HS.out]
    unfold blockA
    rw [if_neg]
    intro h
    simp only [fitsB, decide_eq_true_eq] at h
    exact absurd h.2.2.1 (by omega)
  have hx : xorA K O a2 (List.replicate L 0) = [] := by
    unfold xorA
    rw [List.length_replicate, if_neg (by omega), if_neg]
    intro h
    simp only [fitsB, decide_eq_true_eq] at h
    exact absurd h.2.2.1 (by omega)
  have Hx := Lib.hid hx
  clear hx
  go_wp2_with fail
  refine (block_any _ _ _ _).mono ?_
  rintro e y3 ⟨rfl, k3⟩
  rw [HS.out]
  rw [hS]; clear hS
  have hg3 := gb_none hg2 k3
  have hz3 := hz2.keep k3
  clear hg2 hz2 k3
  go_wp2_with fail
  refine (bytes_any none 0 0 k [] _ ⟨rfl, fun h => absurd h (by omega)⟩ (by omega) (by omega)).mono ?_
  rintro e y4 ⟨rfl, k4⟩
  rw [← EK.out]
  go_wp2_with fail
  refine (bytes_any none 0 0 o [] _ ⟨rfl, fun h => absurd h (by omega)⟩ (by omega) (by omega)).mono ?_
  rintro e y5 ⟨rfl, k5⟩
  rw [← EO.out]
  have hg5 := gb_none (gb_none hg3 k4) k5
  have hz5 := (hz3.keep k4).keep k5
  clear hg3 hz3 k4 k5
  go_wp2_with fail
  refine (xor_any K O a2 _ L L (List.replicate L 0) _ (by omega) hz5).mono ?_
  rintro e y6 ⟨v, rfl, k6, t6⟩
  rw [Hx.out] at t6
  obtain rfl : v = .slice none 0 0 := by
    rcases t6 with ⟨_, hv⟩ | ⟨hn, _⟩
    · exact hv
    · exact absurd rfl hn
  have hg6 := gb_none hg5 k6
  have hz6 := hz5.keep k6
  clear hg5 hz5 k6 t6
  go_wp2_with fail
  refine (bytes_any none 0 0 32 [] _ ⟨rfl, fun h => absurd h (by omega)⟩ (by omega) (by omega)).mono ?_
  rintro e y7 ⟨rfl, k7⟩
  go_wp2_with fail
  refine (bytes_any none 0 0 12 [] _ ⟨rfl, fun h => absurd h (by omega)⟩ (by omega) (by omega)).mono ?_
  rintro e y8 ⟨rfl, k8⟩
  have HK2 : Hid ((⟨(bytesS [] 32).toArray⟩ : ByteArray).size = 32) := by show _ = _; rw [← len_data, ba, bytesS_len]
  have HO2 : Hid ((⟨(bytesS [] 12).toArray⟩ : ByteArray).size = 12) := by show _ = _; rw [← len_data, ba, bytesS_len]
  generalize (⟨(bytesS [] 32).toArray⟩ : ByteArray) = K2 at *
  generalize (⟨(bytesS [] 12).toArray⟩ : ByteArray) = O2 at *
  have hg8 := gb_none (gb_none hg6 k7) k8
  have hz8 := (hz6.keep k7).keep k8
  clear hg6 hz6 k7 k8
  have hy : xorA K2 O2 4294967295 (List.replicate L 0) = xorS K2.data.toList O2.data.toList 4294967295 (List.replicate L 0) := by
    unfold xorA
    rw [List.length_replicate, if_neg (by omega), if_pos]
    simp only [fitsB, decide_eq_true_eq]
    exact ⟨HK2.out, HO2.out, by omega, by omega⟩
  have Hy := Lib.hid hy
  clear hy
  go_wp2_with fail
  refine (xor_any K2 O2 4294967295 _ L L (List.replicate L 0) _ (by omega) hz8).mono ?_
  rintro e y9 ⟨v2, rfl, k9, t9⟩
  rw [Hy.out] at t9
  obtain ⟨gy, rfl⟩ : ∃ g, v2 = .slice (some ⟨g, 0, none⟩) L L := by
    rcases t9 with ⟨he, _⟩ | ⟨_, g, hv, _, _⟩
    · exfalso
      have hl := congrArg List.length he
      rw [xorS_len, List.length_replicate] at hl
      simp at hl; omega
    · exact ⟨g, by rw [hv, xorS_len, List.length_replicate]⟩
  have hg9 := gb_none hg8 k9
  have hLp : decide (0 < (L : Int)) = true := by simp; omega
  have hLp2 : decide (0 < L) = true := by simp; omega
  have hL00 : ((L : Int) == 0) = false := by rw [beq_eq_false_iff_ne]; omega
  have hL01 : ((0 : Int) == (L : Int)) = false := by rw [beq_eq_false_iff_ne]; omega
  clear hg8 hz8 k9 t9
  go_wp2_with fail
  refine (awake_any _).mono ?_
  rintro e y10 ⟨rfl, k10⟩
  go_wp2_with fail
  go_ret
  exact ⟨rfl, below_of (gb_none hg9 k10)⟩

set_option maxHeartbeats 4000000 in
set_option maxRecDepth 100000 in
theorem szCl (a0 a1 a2 a3 : Int) (k o L : Nat) (hk : a0 % 70 = (k : Int)) (ho : a1 % 30 = (o : Int)) (hL : 1 + a3 % 300 = (L : Int)) (b0 : 0 ≤ a0) (b0' : a0 ≤ 255) (b1 : 0 ≤ a1) (b1' : a1 ≤ 255) (b3 : 0 ≤ a3) (b3' : a3 ≤ 65535) (b2 : -9223372036854775808 ≤ a2) (b2' : a2 ≤ 9223372036854775807) (c1 : k = 32) (c2 : o = 12) (c3 : a2 < 0) (c6 : 64 < L) (w : World) :
    Calls Try.prog 7 #[.int .u8 a0, .int .u8 a1, .int .i64 a2, .int .u16 a3] w fun e w' => e = .returned (.bool true) ∧ Below w.heap.size w w' := by
  have hk7 : k < 70 := by omega
  have ho3 : o < 30 := by omega
  have hL0 : 1 ≤ L := by omega
  have hL3 : L ≤ 300 := by omega
  have d1 : ((k : Int) == 32) = true := by rw [c1]; rfl
  have d2 : ((o : Int) == 12) = true := by rw [c2]; rfl
  have d3 : decide (0 ≤ a2) = false := by simp; omega
  have d6 : decide ((L : Int) ≤ 64) = false := by simp; omega
  have C1 := Lib.hid c1
  have C2 := Lib.hid c2
  clear c1 c2
  have hmk := fun W => run_make_row' (P := Try.prog) 25 5 (.int .u8 0) 1 Try.underlying25 byte_info rfl .i64 .i64 L (by omega) (by omega) W
  go_enter Try.func7, Try.ntmps7
  go_wp2_with fail
  have hz : Holds (w.alloc (.cells (madeCells #[.int .u8 0] L) 5)) (some ⟨w.heap.size, 0, none⟩) L (List.replicate L 0) := zeros_row (Row.new _ _ _)
  have hg0 : w.grownBy (w.alloc (.cells (madeCells #[.int .u8 0] L) 5)) none := gb_alloc (gb_refl _ _) _
  generalize w.alloc (.cells (madeCells #[.int .u8 0] L) 5) = wa at *
  refine (bytes_any none 0 0 k [] _ ⟨rfl, fun h => absurd h (by omega)⟩ (by omega) (by omega)).mono ?_
  rintro e y1 ⟨rfl, k1⟩
  go_wp2_with fail
  refine (bytes_any none 0 0 o [] _ ⟨rfl, fun h => absurd h (by omega)⟩ (by omega) (by omega)).mono ?_
  rintro e y2 ⟨rfl, k2⟩
  have hg2 := gb_none (gb_none hg0 k1) k2
  have hz2 := (hz.keep k1).keep k2
  have HK : Hid ((⟨(bytesS [] k).toArray⟩ : ByteArray).size = k) := by show _ = _; rw [← len_data, ba, bytesS_len]
  have HO : Hid ((⟨(bytesS [] o).toArray⟩ : ByteArray).size = o) := by show _ = _; rw [← len_data, ba, bytesS_len]
  have HKe : Hid (∃ K : ByteArray, K = ⟨(bytesS [] k).toArray⟩) := ⟨_, rfl⟩
  obtain ⟨K, eK⟩ := HKe.out
  have HOe : Hid (∃ K : ByteArray, K = ⟨(bytesS [] o).toArray⟩) := ⟨_, rfl⟩
  obtain ⟨O, eO⟩ := HOe.out
  have EK := Lib.hid eK
  have EO := Lib.hid eO
  rw [← eK] at HK
  rw [← eO] at HO
  rw [← eK, ← eO]
  clear eK eO HKe HOe hz hg0 k1 k2
  obtain ⟨S, HS⟩ : ∃ S, Hid (blockA K O a2 = S) := ⟨_, rfl⟩
  have hS : S = ⟨#[]⟩ := by
    rw [← HS.out]
    unfold blockA
    rw [if_neg]
    intro h
    simp only [fitsB, decide_eq_true_eq] at h
    exact absurd h.2.2.1 (by omega)
  have hx : xorA K O a2 (List.replicate L 0) = [] := by
    unfold xorA
    rw [List.length_replicate, if_neg (by omega), if_neg]
    intro h
    simp only [fitsB, decide_eq_true_eq] at h
    exact absurd h.2.2.1 (by omega)
  have Hx := Lib.hid hx
  clear hx
  go_wp2_with fail
  refine (block_any _ _ _ _).mono ?_
  rintro e y3 ⟨rfl, k3⟩
  rw [HS.out]
  rw [hS]; clear hS
  have hg3 := gb_none hg2 k3
  have hz3 := hz2.keep k3
  clear hg2 hz2 k3
  go_wp2_with fail
  refine (bytes_any none 0 0 k [] _ ⟨rfl, fun h => absurd h (by omega)⟩ (by omega) (by omega)).mono ?_
  rintro e y4 ⟨rfl, k4⟩
  rw [← EK.out]
  go_wp2_with fail
  refine (bytes_any none 0 0 o [] _ ⟨rfl, fun h => absurd h (by omega)⟩ (by omega) (by omega)).mono ?_
  rintro e y5 ⟨rfl, k5⟩
  rw [← EO.out]
  have hg5 := gb_none (gb_none hg3 k4) k5
  have hz5 := (hz3.keep k4).keep k5
  clear hg3 hz3 k4 k5
  go_wp2_with fail
  refine (xor_any K O a2 _ L L (List.replicate L 0) _ (by omega) hz5).mono ?_
  rintro e y6 ⟨v, rfl, k6, t6⟩
  rw [Hx.out] at t6
  obtain rfl : v = .slice none 0 0 := by
    rcases t6 with ⟨_, hv⟩ | ⟨hn, _⟩
    · exact hv
    · exact absurd rfl hn
  have hg6 := gb_none hg5 k6
  have hz6 := hz5.keep k6
  clear hg5 hz5 k6 t6
  go_wp2_with fail
  refine (bytes_any none 0 0 32 [] _ ⟨rfl, fun h => absurd h (by omega)⟩ (by omega) (by omega)).mono ?_
  rintro e y7 ⟨rfl, k7⟩
  go_wp2_with fail
  refine (bytes_any none 0 0 12 [] _ ⟨rfl, fun h => absurd h (by omega)⟩ (by omega) (by omega)).mono ?_
  rintro e y8 ⟨rfl, k8⟩
  have HK2 : Hid ((⟨(bytesS [] 32).toArray⟩ : ByteArray).size = 32) := by show _ = _; rw [← len_data, ba, bytesS_len]
  have HO2 : Hid ((⟨(bytesS [] 12).toArray⟩ : ByteArray).size = 12) := by show _ = _; rw [← len_data, ba, bytesS_len]
  generalize (⟨(bytesS [] 32).toArray⟩ : ByteArray) = K2 at *
  generalize (⟨(bytesS [] 12).toArray⟩ : ByteArray) = O2 at *
  have hg8 := gb_none (gb_none hg6 k7) k8
  have hz8 := (hz6.keep k7).keep k8
  clear hg6 hz6 k7 k8
  have hy : xorA K2 O2 4294967295 (List.replicate L 0) = [] := by
    unfold xorA
    rw [List.length_replicate, if_neg (by omega), if_neg]
    intro h
    simp only [fitsB, decide_eq_true_eq] at h
    exact absurd h.2.2.2 (by omega)
  have Hy := Lib.hid hy
  clear hy
  go_wp2_with fail
  refine (xor_any K2 O2 4294967295 _ L L (List.replicate L 0) _ (by omega) hz8).mono ?_
  rintro e y9 ⟨v2, rfl, k9, t9⟩
  rw [Hy.out] at t9
  obtain rfl : v2 = .slice none 0 0 := by
    rcases t9 with ⟨_, hv⟩ | ⟨hn, _⟩
    · exact hv
    · exact absurd rfl hn
  have hg9 := gb_none hg8 k9
  have hLp : decide (0 < (L : Int)) = true := by simp; omega
  have hLp2 : decide (0 < L) = true := by simp; omega
  have hL00 : ((L : Int) == 0) = false := by rw [beq_eq_false_iff_ne]; omega
  have hL01 : ((0 : Int) == (L : Int)) = false := by rw [beq_eq_false_iff_ne]; omega
  clear hg8 hz8 k9 t9
  go_wp2_with fail
  refine (awake_any _).mono ?_
  rintro e y10 ⟨rfl, k10⟩
  go_wp2_with fail
  go_ret
  exact ⟨rfl, below_of (gb_none hg9 k10)⟩

set_option maxHeartbeats 4000000 in
set_option maxRecDepth 100000 in
theorem szDs (a0 a1 a2 a3 : Int) (k o L : Nat) (hk : a0 % 70 = (k : Int)) (ho : a1 % 30 = (o : Int)) (hL : 1 + a3 % 300 = (L : Int)) (b0 : 0 ≤ a0) (b0' : a0 ≤ 255) (b1 : 0 ≤ a1) (b1' : a1 ≤ 255) (b3 : 0 ≤ a3) (b3' : a3 ≤ 65535) (b2 : -9223372036854775808 ≤ a2) (b2' : a2 ≤ 9223372036854775807) (c1 : k = 32) (c2 : o = 12) (c3 : 0 ≤ a2) (c4 : 4294967296 ≤ a2) (c6 : L ≤ 64) (w : World) :
    Calls Try.prog 7 #[.int .u8 a0, .int .u8 a1, .int .i64 a2, .int .u16 a3] w fun e w' => e = .returned (.bool true) ∧ Below w.heap.size w w' := by
  have hk7 : k < 70 := by omega
  have ho3 : o < 30 := by omega
  have hL0 : 1 ≤ L := by omega
  have hL3 : L ≤ 300 := by omega
  have d1 : ((k : Int) == 32) = true := by rw [c1]; rfl
  have d2 : ((o : Int) == 12) = true := by rw [c2]; rfl
  have d3 : decide (0 ≤ a2) = true := by simp; omega
  have d4 : decide (a2 < 4294967296) = false := by simp; omega
  have d6 : decide ((L : Int) ≤ 64) = true := by simp; omega
  have C1 := Lib.hid c1
  have C2 := Lib.hid c2
  clear c1 c2
  have hmk := fun W => run_make_row' (P := Try.prog) 25 5 (.int .u8 0) 1 Try.underlying25 byte_info rfl .i64 .i64 L (by omega) (by omega) W
  go_enter Try.func7, Try.ntmps7
  go_wp2_with fail
  have hz : Holds (w.alloc (.cells (madeCells #[.int .u8 0] L) 5)) (some ⟨w.heap.size, 0, none⟩) L (List.replicate L 0) := zeros_row (Row.new _ _ _)
  have hg0 : w.grownBy (w.alloc (.cells (madeCells #[.int .u8 0] L) 5)) none := gb_alloc (gb_refl _ _) _
  generalize w.alloc (.cells (madeCells #[.int .u8 0] L) 5) = wa at *
  refine (bytes_any none 0 0 k [] _ ⟨rfl, fun h => absurd h (by omega)⟩ (by omega) (by omega)).mono ?_
  rintro e y1 ⟨rfl, k1⟩
  go_wp2_with fail
  refine (bytes_any none 0 0 o [] _ ⟨rfl, fun h => absurd h (by omega)⟩ (by omega) (by omega)).mono ?_
  rintro e y2 ⟨rfl, k2⟩
  have hg2 := gb_none (gb_none hg0 k1) k2
  have hz2 := (hz.keep k1).keep k2
  have HK : Hid ((⟨(bytesS [] k).toArray⟩ : ByteArray).size = k) := by show _ = _; rw [← len_data, ba, bytesS_len]
  have HO : Hid ((⟨(bytesS [] o).toArray⟩ : ByteArray).size = o) := by show _ = _; rw [← len_data, ba, bytesS_len]
  have HKe : Hid (∃ K : ByteArray, K = ⟨(bytesS [] k).toArray⟩) := ⟨_, rfl⟩
  obtain ⟨K, eK⟩ := HKe.out
  have HOe : Hid (∃ K : ByteArray, K = ⟨(bytesS [] o).toArray⟩) := ⟨_, rfl⟩
  obtain ⟨O, eO⟩ := HOe.out
  have EK := Lib.hid eK
  have EO := Lib.hid eO
  rw [← eK] at HK
  rw [← eO] at HO
  rw [← eK, ← eO]
  clear eK eO HKe HOe hz hg0 k1 k2
  obtain ⟨S, HS⟩ : ∃ S, Hid (blockA K O a2 = S) := ⟨_, rfl⟩
  have hS : S = ⟨#[]⟩ := by
    rw [← HS.out]
    unfold blockA
    rw [if_neg]
    intro h
    simp only [fitsB, decide_eq_true_eq] at h
    exact absurd h.2.2.2 (by omega)
  have hx : xorA K O a2 (List.replicate L 0) = [] := by
    unfold xorA
    rw [List.length_replicate, if_neg (by omega), if_neg]
    intro h
    simp only [fitsB, decide_eq_true_eq] at h
    exact absurd h.2.2.2 (by omega)
  have Hx := Lib.hid hx
  clear hx
  go_wp2_with fail
  refine (block_any _ _ _ _).mono ?_
  rintro e y3 ⟨rfl, k3⟩
  rw [HS.out]
  rw [hS]; clear hS
  have hg3 := gb_none hg2 k3
  have hz3 := hz2.keep k3
  clear hg2 hz2 k3
  go_wp2_with fail
  refine (bytes_any none 0 0 k [] _ ⟨rfl, fun h => absurd h (by omega)⟩ (by omega) (by omega)).mono ?_
  rintro e y4 ⟨rfl, k4⟩
  rw [← EK.out]
  go_wp2_with fail
  refine (bytes_any none 0 0 o [] _ ⟨rfl, fun h => absurd h (by omega)⟩ (by omega) (by omega)).mono ?_
  rintro e y5 ⟨rfl, k5⟩
  rw [← EO.out]
  have hg5 := gb_none (gb_none hg3 k4) k5
  have hz5 := (hz3.keep k4).keep k5
  clear hg3 hz3 k4 k5
  go_wp2_with fail
  refine (xor_any K O a2 _ L L (List.replicate L 0) _ (by omega) hz5).mono ?_
  rintro e y6 ⟨v, rfl, k6, t6⟩
  rw [Hx.out] at t6
  obtain rfl : v = .slice none 0 0 := by
    rcases t6 with ⟨_, hv⟩ | ⟨hn, _⟩
    · exact hv
    · exact absurd rfl hn
  have hg6 := gb_none hg5 k6
  have hz6 := hz5.keep k6
  clear hg5 hz5 k6 t6
  go_wp2_with fail
  refine (bytes_any none 0 0 32 [] _ ⟨rfl, fun h => absurd h (by omega)⟩ (by omega) (by omega)).mono ?_
  rintro e y7 ⟨rfl, k7⟩
  go_wp2_with fail
  refine (bytes_any none 0 0 12 [] _ ⟨rfl, fun h => absurd h (by omega)⟩ (by omega) (by omega)).mono ?_
  rintro e y8 ⟨rfl, k8⟩
  have HK2 : Hid ((⟨(bytesS [] 32).toArray⟩ : ByteArray).size = 32) := by show _ = _; rw [← len_data, ba, bytesS_len]
  have HO2 : Hid ((⟨(bytesS [] 12).toArray⟩ : ByteArray).size = 12) := by show _ = _; rw [← len_data, ba, bytesS_len]
  generalize (⟨(bytesS [] 32).toArray⟩ : ByteArray) = K2 at *
  generalize (⟨(bytesS [] 12).toArray⟩ : ByteArray) = O2 at *
  have hg8 := gb_none (gb_none hg6 k7) k8
  have hz8 := (hz6.keep k7).keep k8
  clear hg6 hz6 k7 k8
  have hy : xorA K2 O2 4294967295 (List.replicate L 0) = xorS K2.data.toList O2.data.toList 4294967295 (List.replicate L 0) := by
    unfold xorA
    rw [List.length_replicate, if_neg (by omega), if_pos]
    simp only [fitsB, decide_eq_true_eq]
    exact ⟨HK2.out, HO2.out, by omega, by omega⟩
  have Hy := Lib.hid hy
  clear hy
  go_wp2_with fail
  refine (xor_any K2 O2 4294967295 _ L L (List.replicate L 0) _ (by omega) hz8).mono ?_
  rintro e y9 ⟨v2, rfl, k9, t9⟩
  rw [Hy.out] at t9
  obtain ⟨gy, rfl⟩ : ∃ g, v2 = .slice (some ⟨g, 0, none⟩) L L := by
    rcases t9 with ⟨he, _⟩ | ⟨_, g, hv, _, _⟩
    · exfalso
      have hl := congrArg List.length he
      rw [xorS_len, List.length_replicate] at hl
      simp at hl; omega
    · exact ⟨g, by rw [hv, xorS_len, List.length_replicate]⟩
  have hg9 := gb_none hg8 k9
  have hLp : decide (0 < (L : Int)) = true := by simp; omega
  have hLp2 : decide (0 < L) = true := by simp; omega
  have hL00 : ((L : Int) == 0) = false := by rw [beq_eq_false_iff_ne]; omega
  have hL01 : ((0 : Int) == (L : Int)) = false := by rw [beq_eq_false_iff_ne]; omega
  clear hg8 hz8 k9 t9
  go_wp2_with fail
  refine (awake_any _).mono ?_
  rintro e y10 ⟨rfl, k10⟩
  go_wp2_with fail
  go_ret
  exact ⟨rfl, below_of (gb_none hg9 k10)⟩

set_option maxHeartbeats 4000000 in
set_option maxRecDepth 100000 in
theorem szDl (a0 a1 a2 a3 : Int) (k o L : Nat) (hk : a0 % 70 = (k : Int)) (ho : a1 % 30 = (o : Int)) (hL : 1 + a3 % 300 = (L : Int)) (b0 : 0 ≤ a0) (b0' : a0 ≤ 255) (b1 : 0 ≤ a1) (b1' : a1 ≤ 255) (b3 : 0 ≤ a3) (b3' : a3 ≤ 65535) (b2 : -9223372036854775808 ≤ a2) (b2' : a2 ≤ 9223372036854775807) (c1 : k = 32) (c2 : o = 12) (c3 : 0 ≤ a2) (c4 : 4294967296 ≤ a2) (c6 : 64 < L) (w : World) :
    Calls Try.prog 7 #[.int .u8 a0, .int .u8 a1, .int .i64 a2, .int .u16 a3] w fun e w' => e = .returned (.bool true) ∧ Below w.heap.size w w' := by
  have hk7 : k < 70 := by omega
  have ho3 : o < 30 := by omega
  have hL0 : 1 ≤ L := by omega
  have hL3 : L ≤ 300 := by omega
  have d1 : ((k : Int) == 32) = true := by rw [c1]; rfl
  have d2 : ((o : Int) == 12) = true := by rw [c2]; rfl
  have d3 : decide (0 ≤ a2) = true := by simp; omega
  have d4 : decide (a2 < 4294967296) = false := by simp; omega
  have d6 : decide ((L : Int) ≤ 64) = false := by simp; omega
  have C1 := Lib.hid c1
  have C2 := Lib.hid c2
  clear c1 c2
  have hmk := fun W => run_make_row' (P := Try.prog) 25 5 (.int .u8 0) 1 Try.underlying25 byte_info rfl .i64 .i64 L (by omega) (by omega) W
  go_enter Try.func7, Try.ntmps7
  go_wp2_with fail
  have hz : Holds (w.alloc (.cells (madeCells #[.int .u8 0] L) 5)) (some ⟨w.heap.size, 0, none⟩) L (List.replicate L 0) := zeros_row (Row.new _ _ _)
  have hg0 : w.grownBy (w.alloc (.cells (madeCells #[.int .u8 0] L) 5)) none := gb_alloc (gb_refl _ _) _
  generalize w.alloc (.cells (madeCells #[.int .u8 0] L) 5) = wa at *
  refine (bytes_any none 0 0 k [] _ ⟨rfl, fun h => absurd h (by omega)⟩ (by omega) (by omega)).mono ?_
  rintro e y1 ⟨rfl, k1⟩
  go_wp2_with fail
  refine (bytes_any none 0 0 o [] _ ⟨rfl, fun h => absurd h (by omega)⟩ (by omega) (by omega)).mono ?_
  rintro e y2 ⟨rfl, k2⟩
  have hg2 := gb_none (gb_none hg0 k1) k2
  have hz2 := (hz.keep k1).keep k2
  have HK : Hid ((⟨(bytesS [] k).toArray⟩ : ByteArray).size = k) := by show _ = _; rw [← len_data, ba, bytesS_len]
  have HO : Hid ((⟨(bytesS [] o).toArray⟩ : ByteArray).size = o) := by show _ = _; rw [← len_data, ba, bytesS_len]
  have HKe : Hid (∃ K : ByteArray, K = ⟨(bytesS [] k).toArray⟩) := ⟨_, rfl⟩
  obtain ⟨K, eK⟩ := HKe.out
  have HOe : Hid (∃ K : ByteArray, K = ⟨(bytesS [] o).toArray⟩) := ⟨_, rfl⟩
  obtain ⟨O, eO⟩ := HOe.out
  have EK := Lib.hid eK
  have EO := Lib.hid eO
  rw [← eK] at HK
  rw [← eO] at HO
  rw [← eK, ← eO]
  clear eK eO HKe HOe hz hg0 k1 k2
  obtain ⟨S, HS⟩ : ∃ S, Hid (blockA K O a2 = S) := ⟨_, rfl⟩
  have hS : S = ⟨#[]⟩ := by
    rw [← HS.out]
    unfold blockA
    rw [if_neg]
    intro h
    simp only [fitsB, decide_eq_true_eq] at h
    exact absurd h.2.2.2 (by omega)
  have hx : xorA K O a2 (List.replicate L 0) = [] := by
    unfold xorA
    rw [List.length_replicate, if_neg (by omega), if_neg]
    intro h
    simp only [fitsB, decide_eq_true_eq] at h
    exact absurd h.2.2.2 (by omega)
  have Hx := Lib.hid hx
  clear hx
  go_wp2_with fail
  refine (block_any _ _ _ _).mono ?_
  rintro e y3 ⟨rfl, k3⟩
  rw [HS.out]
  rw [hS]; clear hS
  have hg3 := gb_none hg2 k3
  have hz3 := hz2.keep k3
  clear hg2 hz2 k3
  go_wp2_with fail
  refine (bytes_any none 0 0 k [] _ ⟨rfl, fun h => absurd h (by omega)⟩ (by omega) (by omega)).mono ?_
  rintro e y4 ⟨rfl, k4⟩
  rw [← EK.out]
  go_wp2_with fail
  refine (bytes_any none 0 0 o [] _ ⟨rfl, fun h => absurd h (by omega)⟩ (by omega) (by omega)).mono ?_
  rintro e y5 ⟨rfl, k5⟩
  rw [← EO.out]
  have hg5 := gb_none (gb_none hg3 k4) k5
  have hz5 := (hz3.keep k4).keep k5
  clear hg3 hz3 k4 k5
  go_wp2_with fail
  refine (xor_any K O a2 _ L L (List.replicate L 0) _ (by omega) hz5).mono ?_
  rintro e y6 ⟨v, rfl, k6, t6⟩
  rw [Hx.out] at t6
  obtain rfl : v = .slice none 0 0 := by
    rcases t6 with ⟨_, hv⟩ | ⟨hn, _⟩
    · exact hv
    · exact absurd rfl hn
  have hg6 := gb_none hg5 k6
  have hz6 := hz5.keep k6
  clear hg5 hz5 k6 t6
  go_wp2_with fail
  refine (bytes_any none 0 0 32 [] _ ⟨rfl, fun h => absurd h (by omega)⟩ (by omega) (by omega)).mono ?_
  rintro e y7 ⟨rfl, k7⟩
  go_wp2_with fail
  refine (bytes_any none 0 0 12 [] _ ⟨rfl, fun h => absurd h (by omega)⟩ (by omega) (by omega)).mono ?_
  rintro e y8 ⟨rfl, k8⟩
  have HK2 : Hid ((⟨(bytesS [] 32).toArray⟩ : ByteArray).size = 32) := by show _ = _; rw [← len_data, ba, bytesS_len]
  have HO2 : Hid ((⟨(bytesS [] 12).toArray⟩ : ByteArray).size = 12) := by show _ = _; rw [← len_data, ba, bytesS_len]
  generalize (⟨(bytesS [] 32).toArray⟩ : ByteArray) = K2 at *
  generalize (⟨(bytesS [] 12).toArray⟩ : ByteArray) = O2 at *
  have hg8 := gb_none (gb_none hg6 k7) k8
  have hz8 := (hz6.keep k7).keep k8
  clear hg6 hz6 k7 k8
  have hy : xorA K2 O2 4294967295 (List.replicate L 0) = [] := by
    unfold xorA
    rw [List.length_replicate, if_neg (by omega), if_neg]
    intro h
    simp only [fitsB, decide_eq_true_eq] at h
    exact absurd h.2.2.2 (by omega)
  have Hy := Lib.hid hy
  clear hy
  go_wp2_with fail
  refine (xor_any K2 O2 4294967295 _ L L (List.replicate L 0) _ (by omega) hz8).mono ?_
  rintro e y9 ⟨v2, rfl, k9, t9⟩
  rw [Hy.out] at t9
  obtain rfl : v2 = .slice none 0 0 := by
    rcases t9 with ⟨_, hv⟩ | ⟨hn, _⟩
    · exact hv
    · exact absurd rfl hn
  have hg9 := gb_none hg8 k9
  have hLp : decide (0 < (L : Int)) = true := by simp; omega
  have hLp2 : decide (0 < L) = true := by simp; omega
  have hL00 : ((L : Int) == 0) = false := by rw [beq_eq_false_iff_ne]; omega
  have hL01 : ((0 : Int) == (L : Int)) = false := by rw [beq_eq_false_iff_ne]; omega
  clear hg8 hz8 k9 t9
  go_wp2_with fail
  refine (awake_any _).mono ?_
  rintro e y10 ⟨rfl, k10⟩
  go_wp2_with fail
  go_ret
  exact ⟨rfl, below_of (gb_none hg9 k10)⟩

set_option maxHeartbeats 4000000 in
set_option maxRecDepth 100000 in
theorem szEsa (a0 a1 a2 a3 : Int) (k o L : Nat) (hk : a0 % 70 = (k : Int)) (ho : a1 % 30 = (o : Int)) (hL : 1 + a3 % 300 = (L : Int)) (b0 : 0 ≤ a0) (b0' : a0 ≤ 255) (b1 : 0 ≤ a1) (b1' : a1 ≤ 255) (b3 : 0 ≤ a3) (b3' : a3 ≤ 65535) (b2 : -9223372036854775808 ≤ a2) (b2' : a2 ≤ 9223372036854775807) (c1 : k = 32) (c2 : o = 12) (c3 : 0 ≤ a2) (c4 : a2 < 4294967296) (c5 : a2 + ((L : Int) - 1) / 64 < 4294967296) (c6 : L ≤ 64) (w : World) :
    Calls Try.prog 7 #[.int .u8 a0, .int .u8 a1, .int .i64 a2, .int .u16 a3] w fun e w' => e = .returned (.bool true) ∧ Below w.heap.size w w' := by
  have hk7 : k < 70 := by omega
  have ho3 : o < 30 := by omega
  have hL0 : 1 ≤ L := by omega
  have hL3 : L ≤ 300 := by omega
  have d1 : ((k : Int) == 32) = true := by rw [c1]; rfl
  have d2 : ((o : Int) == 12) = true := by rw [c2]; rfl
  have d3 : decide (0 ≤ a2) = true := by simp; omega
  have d4 : decide (a2 < 4294967296) = true := by simp; omega
  have d5 : decide (a2 + ((L : Int) - 1) / 64 < 4294967296) = true := by simp; omega
  have d6 : decide ((L : Int) ≤ 64) = true := by simp; omega
  have C1 := Lib.hid c1
  have C2 := Lib.hid c2
  clear c1 c2
  have hmk := fun W => run_make_row' (P := Try.prog) 25 5 (.int .u8 0) 1 Try.underlying25 byte_info rfl .i64 .i64 L (by omega) (by omega) W
  go_enter Try.func7, Try.ntmps7
  go_wp2_with fail
  have hz : Holds (w.alloc (.cells (madeCells #[.int .u8 0] L) 5)) (some ⟨w.heap.size, 0, none⟩) L (List.replicate L 0) := zeros_row (Row.new _ _ _)
  have hg0 : w.grownBy (w.alloc (.cells (madeCells #[.int .u8 0] L) 5)) none := gb_alloc (gb_refl _ _) _
  generalize w.alloc (.cells (madeCells #[.int .u8 0] L) 5) = wa at *
  refine (bytes_any none 0 0 k [] _ ⟨rfl, fun h => absurd h (by omega)⟩ (by omega) (by omega)).mono ?_
  rintro e y1 ⟨rfl, k1⟩
  go_wp2_with fail
  refine (bytes_any none 0 0 o [] _ ⟨rfl, fun h => absurd h (by omega)⟩ (by omega) (by omega)).mono ?_
  rintro e y2 ⟨rfl, k2⟩
  have hg2 := gb_none (gb_none hg0 k1) k2
  have hz2 := (hz.keep k1).keep k2
  have HK : Hid ((⟨(bytesS [] k).toArray⟩ : ByteArray).size = k) := by show _ = _; rw [← len_data, ba, bytesS_len]
  have HO : Hid ((⟨(bytesS [] o).toArray⟩ : ByteArray).size = o) := by show _ = _; rw [← len_data, ba, bytesS_len]
  have HKe : Hid (∃ K : ByteArray, K = ⟨(bytesS [] k).toArray⟩) := ⟨_, rfl⟩
  obtain ⟨K, eK⟩ := HKe.out
  have HOe : Hid (∃ K : ByteArray, K = ⟨(bytesS [] o).toArray⟩) := ⟨_, rfl⟩
  obtain ⟨O, eO⟩ := HOe.out
  have EK := Lib.hid eK
  have EO := Lib.hid eO
  rw [← eK] at HK
  rw [← eO] at HO
  rw [← eK, ← eO]
  clear eK eO HKe HOe hz hg0 k1 k2
  obtain ⟨S, HS⟩ : ∃ S, Hid (blockA K O a2 = S) := ⟨_, rfl⟩
  have hS : (S.size : Int) == 64 := by
    rw [← HS.out, blockA_fit K O a2 (by rw [HK.out]; exact C1.out) (by rw [HO.out]; exact C2.out) c3 (by omega)]
    show ((streamOf _).toArray.size : Int) == 64
    rw [List.size_toArray, streamOf_len]; rfl
  have hx : xorA K O a2 (List.replicate L 0) = xorS K.data.toList O.data.toList a2 (List.replicate L 0) := by
    unfold xorA
    rw [List.length_replicate, if_neg (by omega), if_pos]
    simp only [fitsB, decide_eq_true_eq]
    exact ⟨by rw [HK.out]; exact C1.out, by rw [HO.out]; exact C2.out, c3, by omega⟩
  have Hx := Lib.hid hx
  clear hx
  go_wp2_with fail
  refine (block_any _ _ _ _).mono ?_
  rintro e y3 ⟨rfl, k3⟩
  rw [HS.out]
  have hg3 := gb_none hg2 k3
  have hz3 := hz2.keep k3
  clear hg2 hz2 k3
  go_wp2_with fail
  refine (bytes_any none 0 0 k [] _ ⟨rfl, fun h => absurd h (by omega)⟩ (by omega) (by omega)).mono ?_
  rintro e y4 ⟨rfl, k4⟩
  rw [← EK.out]
  go_wp2_with fail
  refine (bytes_any none 0 0 o [] _ ⟨rfl, fun h => absurd h (by omega)⟩ (by omega) (by omega)).mono ?_
  rintro e y5 ⟨rfl, k5⟩
  rw [← EO.out]
  have hg5 := gb_none (gb_none hg3 k4) k5
  have hz5 := (hz3.keep k4).keep k5
  clear hg3 hz3 k4 k5
  go_wp2_with fail
  refine (xor_any K O a2 _ L L (List.replicate L 0) _ (by omega) hz5).mono ?_
  rintro e y6 ⟨v, rfl, k6, t6⟩
  rw [Hx.out] at t6
  obtain ⟨gx, rfl⟩ : ∃ g, v = .slice (some ⟨g, 0, none⟩) L L := by
    rcases t6 with ⟨he, _⟩ | ⟨_, g, hv, _, _⟩
    · exfalso
      have hl := congrArg List.length he
      rw [xorS_len, List.length_replicate] at hl
      simp at hl; omega
    · exact ⟨g, by rw [hv, xorS_len, List.length_replicate]⟩
  have hg6 := gb_none hg5 k6
  have hz6 := hz5.keep k6
  clear hg5 hz5 k6 t6
  go_wp2_with fail
  refine (bytes_any none 0 0 32 [] _ ⟨rfl, fun h => absurd h (by omega)⟩ (by omega) (by omega)).mono ?_
  rintro e y7 ⟨rfl, k7⟩
  go_wp2_with fail
  refine (bytes_any none 0 0 12 [] _ ⟨rfl, fun h => absurd h (by omega)⟩ (by omega) (by omega)).mono ?_
  rintro e y8 ⟨rfl, k8⟩
  have HK2 : Hid ((⟨(bytesS [] 32).toArray⟩ : ByteArray).size = 32) := by show _ = _; rw [← len_data, ba, bytesS_len]
  have HO2 : Hid ((⟨(bytesS [] 12).toArray⟩ : ByteArray).size = 12) := by show _ = _; rw [← len_data, ba, bytesS_len]
  generalize (⟨(bytesS [] 32).toArray⟩ : ByteArray) = K2 at *
  generalize (⟨(bytesS [] 12).toArray⟩ : ByteArray) = O2 at *
  have hg8 := gb_none (gb_none hg6 k7) k8
  have hz8 := (hz6.keep k7).keep k8
  clear hg6 hz6 k7 k8
  have hy : xorA K2 O2 4294967295 (List.replicate L 0) = xorS K2.data.toList O2.data.toList 4294967295 (List.replicate L 0) := by
    unfold xorA
    rw [List.length_replicate, if_neg (by omega), if_pos]
    simp only [fitsB, decide_eq_true_eq]
    exact ⟨HK2.out, HO2.out, by omega, by omega⟩
  have Hy := Lib.hid hy
  clear hy
  go_wp2_with fail
  refine (xor_any K2 O2 4294967295 _ L L (List.replicate L 0) _ (by omega) hz8).mono ?_
  rintro e y9 ⟨v2, rfl, k9, t9⟩
  rw [Hy.out] at t9
  obtain ⟨gy, rfl⟩ : ∃ g, v2 = .slice (some ⟨g, 0, none⟩) L L := by
    rcases t9 with ⟨he, _⟩ | ⟨_, g, hv, _, _⟩
    · exfalso
      have hl := congrArg List.length he
      rw [xorS_len, List.length_replicate] at hl
      simp at hl; omega
    · exact ⟨g, by rw [hv, xorS_len, List.length_replicate]⟩
  have hg9 := gb_none hg8 k9
  have hLp : decide (0 < (L : Int)) = true := by simp; omega
  have hLp2 : decide (0 < L) = true := by simp; omega
  have hL00 : ((L : Int) == 0) = false := by rw [beq_eq_false_iff_ne]; omega
  have hL01 : ((0 : Int) == (L : Int)) = false := by rw [beq_eq_false_iff_ne]; omega
  clear hg8 hz8 k9 t9
  go_wp2_with fail
  refine (awake_any _).mono ?_
  rintro e y10 ⟨rfl, k10⟩
  go_wp2_with fail
  go_ret
  exact ⟨rfl, below_of (gb_none hg9 k10)⟩

set_option maxHeartbeats 4000000 in
set_option maxRecDepth 100000 in
theorem szEla (a0 a1 a2 a3 : Int) (k o L : Nat) (hk : a0 % 70 = (k : Int)) (ho : a1 % 30 = (o : Int)) (hL : 1 + a3 % 300 = (L : Int)) (b0 : 0 ≤ a0) (b0' : a0 ≤ 255) (b1 : 0 ≤ a1) (b1' : a1 ≤ 255) (b3 : 0 ≤ a3) (b3' : a3 ≤ 65535) (b2 : -9223372036854775808 ≤ a2) (b2' : a2 ≤ 9223372036854775807) (c1 : k = 32) (c2 : o = 12) (c3 : 0 ≤ a2) (c4 : a2 < 4294967296) (c5 : a2 + ((L : Int) - 1) / 64 < 4294967296) (c6 : 64 < L) (w : World) :
    Calls Try.prog 7 #[.int .u8 a0, .int .u8 a1, .int .i64 a2, .int .u16 a3] w fun e w' => e = .returned (.bool true) ∧ Below w.heap.size w w' := by
  have hk7 : k < 70 := by omega
  have ho3 : o < 30 := by omega
  have hL0 : 1 ≤ L := by omega
  have hL3 : L ≤ 300 := by omega
  have d1 : ((k : Int) == 32) = true := by rw [c1]; rfl
  have d2 : ((o : Int) == 12) = true := by rw [c2]; rfl
  have d3 : decide (0 ≤ a2) = true := by simp; omega
  have d4 : decide (a2 < 4294967296) = true := by simp; omega
  have d5 : decide (a2 + ((L : Int) - 1) / 64 < 4294967296) = true := by simp; omega
  have d6 : decide ((L : Int) ≤ 64) = false := by simp; omega
  have C1 := Lib.hid c1
  have C2 := Lib.hid c2
  clear c1 c2
  have hmk := fun W => run_make_row' (P := Try.prog) 25 5 (.int .u8 0) 1 Try.underlying25 byte_info rfl .i64 .i64 L (by omega) (by omega) W
  go_enter Try.func7, Try.ntmps7
  go_wp2_with fail
  have hz : Holds (w.alloc (.cells (madeCells #[.int .u8 0] L) 5)) (some ⟨w.heap.size, 0, none⟩) L (List.replicate L 0) := zeros_row (Row.new _ _ _)
  have hg0 : w.grownBy (w.alloc (.cells (madeCells #[.int .u8 0] L) 5)) none := gb_alloc (gb_refl _ _) _
  generalize w.alloc (.cells (madeCells #[.int .u8 0] L) 5) = wa at *
  refine (bytes_any none 0 0 k [] _ ⟨rfl, fun h => absurd h (by omega)⟩ (by omega) (by omega)).mono ?_
  rintro e y1 ⟨rfl, k1⟩
  go_wp2_with fail
  refine (bytes_any none 0 0 o [] _ ⟨rfl, fun h => absurd h (by omega)⟩ (by omega) (by omega)).mono ?_
  rintro e y2 ⟨rfl, k2⟩
  have hg2 := gb_none (gb_none hg0 k1) k2
  have hz2 := (hz.keep k1).keep k2
  have HK : Hid ((⟨(bytesS [] k).toArray⟩ : ByteArray).size = k) := by show _ = _; rw [← len_data, ba, bytesS_len]
  have HO : Hid ((⟨(bytesS [] o).toArray⟩ : ByteArray).size = o) := by show _ = _; rw [← len_data, ba, bytesS_len]
  have HKe : Hid (∃ K : ByteArray, K = ⟨(bytesS [] k).toArray⟩) := ⟨_, rfl⟩
  obtain ⟨K, eK⟩ := HKe.out
  have HOe : Hid (∃ K : ByteArray, K = ⟨(bytesS [] o).toArray⟩) := ⟨_, rfl⟩
  obtain ⟨O, eO⟩ := HOe.out
  have EK := Lib.hid eK
  have EO := Lib.hid eO
  rw [← eK] at HK
  rw [← eO] at HO
  rw [← eK, ← eO]
  clear eK eO HKe HOe hz hg0 k1 k2
  obtain ⟨S, HS⟩ : ∃ S, Hid (blockA K O a2 = S) := ⟨_, rfl⟩
  have hS : (S.size : Int) == 64 := by
    rw [← HS.out, blockA_fit K O a2 (by rw [HK.out]; exact C1.out) (by rw [HO.out]; exact C2.out) c3 (by omega)]
    show ((streamOf _).toArray.size : Int) == 64
    rw [List.size_toArray, streamOf_len]; rfl
  have hx : xorA K O a2 (List.replicate L 0) = xorS K.data.toList O.data.toList a2 (List.replicate L 0) := by
    unfold xorA
    rw [List.length_replicate, if_neg (by omega), if_pos]
    simp only [fitsB, decide_eq_true_eq]
    exact ⟨by rw [HK.out]; exact C1.out, by rw [HO.out]; exact C2.out, c3, by omega⟩
  have Hx := Lib.hid hx
  clear hx
  go_wp2_with fail
  refine (block_any _ _ _ _).mono ?_
  rintro e y3 ⟨rfl, k3⟩
  rw [HS.out]
  have hg3 := gb_none hg2 k3
  have hz3 := hz2.keep k3
  clear hg2 hz2 k3
  go_wp2_with fail
  refine (bytes_any none 0 0 k [] _ ⟨rfl, fun h => absurd h (by omega)⟩ (by omega) (by omega)).mono ?_
  rintro e y4 ⟨rfl, k4⟩
  rw [← EK.out]
  go_wp2_with fail
  refine (bytes_any none 0 0 o [] _ ⟨rfl, fun h => absurd h (by omega)⟩ (by omega) (by omega)).mono ?_
  rintro e y5 ⟨rfl, k5⟩
  rw [← EO.out]
  have hg5 := gb_none (gb_none hg3 k4) k5
  have hz5 := (hz3.keep k4).keep k5
  clear hg3 hz3 k4 k5
  go_wp2_with fail
  refine (xor_any K O a2 _ L L (List.replicate L 0) _ (by omega) hz5).mono ?_
  rintro e y6 ⟨v, rfl, k6, t6⟩
  rw [Hx.out] at t6
  obtain ⟨gx, rfl⟩ : ∃ g, v = .slice (some ⟨g, 0, none⟩) L L := by
    rcases t6 with ⟨he, _⟩ | ⟨_, g, hv, _, _⟩
    · exfalso
      have hl := congrArg List.length he
      rw [xorS_len, List.length_replicate] at hl
      simp at hl; omega
    · exact ⟨g, by rw [hv, xorS_len, List.length_replicate]⟩
  have hg6 := gb_none hg5 k6
  have hz6 := hz5.keep k6
  clear hg5 hz5 k6 t6
  go_wp2_with fail
  refine (bytes_any none 0 0 32 [] _ ⟨rfl, fun h => absurd h (by omega)⟩ (by omega) (by omega)).mono ?_
  rintro e y7 ⟨rfl, k7⟩
  go_wp2_with fail
  refine (bytes_any none 0 0 12 [] _ ⟨rfl, fun h => absurd h (by omega)⟩ (by omega) (by omega)).mono ?_
  rintro e y8 ⟨rfl, k8⟩
  have HK2 : Hid ((⟨(bytesS [] 32).toArray⟩ : ByteArray).size = 32) := by show _ = _; rw [← len_data, ba, bytesS_len]
  have HO2 : Hid ((⟨(bytesS [] 12).toArray⟩ : ByteArray).size = 12) := by show _ = _; rw [← len_data, ba, bytesS_len]
  generalize (⟨(bytesS [] 32).toArray⟩ : ByteArray) = K2 at *
  generalize (⟨(bytesS [] 12).toArray⟩ : ByteArray) = O2 at *
  have hg8 := gb_none (gb_none hg6 k7) k8
  have hz8 := (hz6.keep k7).keep k8
  clear hg6 hz6 k7 k8
  have hy : xorA K2 O2 4294967295 (List.replicate L 0) = [] := by
    unfold xorA
    rw [List.length_replicate, if_neg (by omega), if_neg]
    intro h
    simp only [fitsB, decide_eq_true_eq] at h
    exact absurd h.2.2.2 (by omega)
  have Hy := Lib.hid hy
  clear hy
  go_wp2_with fail
  refine (xor_any K2 O2 4294967295 _ L L (List.replicate L 0) _ (by omega) hz8).mono ?_
  rintro e y9 ⟨v2, rfl, k9, t9⟩
  rw [Hy.out] at t9
  obtain rfl : v2 = .slice none 0 0 := by
    rcases t9 with ⟨_, hv⟩ | ⟨hn, _⟩
    · exact hv
    · exact absurd rfl hn
  have hg9 := gb_none hg8 k9
  have hLp : decide (0 < (L : Int)) = true := by simp; omega
  have hLp2 : decide (0 < L) = true := by simp; omega
  have hL00 : ((L : Int) == 0) = false := by rw [beq_eq_false_iff_ne]; omega
  have hL01 : ((0 : Int) == (L : Int)) = false := by rw [beq_eq_false_iff_ne]; omega
  clear hg8 hz8 k9 t9
  go_wp2_with fail
  refine (awake_any _).mono ?_
  rintro e y10 ⟨rfl, k10⟩
  go_wp2_with fail
  go_ret
  exact ⟨rfl, below_of (gb_none hg9 k10)⟩

set_option maxHeartbeats 4000000 in
set_option maxRecDepth 100000 in
theorem szEl (a0 a1 a2 a3 : Int) (k o L : Nat) (hk : a0 % 70 = (k : Int)) (ho : a1 % 30 = (o : Int)) (hL : 1 + a3 % 300 = (L : Int)) (b0 : 0 ≤ a0) (b0' : a0 ≤ 255) (b1 : 0 ≤ a1) (b1' : a1 ≤ 255) (b3 : 0 ≤ a3) (b3' : a3 ≤ 65535) (b2 : -9223372036854775808 ≤ a2) (b2' : a2 ≤ 9223372036854775807) (c1 : k = 32) (c2 : o = 12) (c3 : 0 ≤ a2) (c4 : a2 < 4294967296) (c5 : 4294967296 ≤ a2 + ((L : Int) - 1) / 64) (c6 : 64 < L) (w : World) :
    Calls Try.prog 7 #[.int .u8 a0, .int .u8 a1, .int .i64 a2, .int .u16 a3] w fun e w' => e = .returned (.bool true) ∧ Below w.heap.size w w' := by
  have hk7 : k < 70 := by omega
  have ho3 : o < 30 := by omega
  have hL0 : 1 ≤ L := by omega
  have hL3 : L ≤ 300 := by omega
  have d1 : ((k : Int) == 32) = true := by rw [c1]; rfl
  have d2 : ((o : Int) == 12) = true := by rw [c2]; rfl
  have d3 : decide (0 ≤ a2) = true := by simp; omega
  have d4 : decide (a2 < 4294967296) = true := by simp; omega
  have d5 : decide (a2 + ((L : Int) - 1) / 64 < 4294967296) = false := by simp; omega
  have d6 : decide ((L : Int) ≤ 64) = false := by simp; omega
  have C1 := Lib.hid c1
  have C2 := Lib.hid c2
  clear c1 c2
  have hmk := fun W => run_make_row' (P := Try.prog) 25 5 (.int .u8 0) 1 Try.underlying25 byte_info rfl .i64 .i64 L (by omega) (by omega) W
  go_enter Try.func7, Try.ntmps7
  go_wp2_with fail
  have hz : Holds (w.alloc (.cells (madeCells #[.int .u8 0] L) 5)) (some ⟨w.heap.size, 0, none⟩) L (List.replicate L 0) := zeros_row (Row.new _ _ _)
  have hg0 : w.grownBy (w.alloc (.cells (madeCells #[.int .u8 0] L) 5)) none := gb_alloc (gb_refl _ _) _
  generalize w.alloc (.cells (madeCells #[.int .u8 0] L) 5) = wa at *
  refine (bytes_any none 0 0 k [] _ ⟨rfl, fun h => absurd h (by omega)⟩ (by omega) (by omega)).mono ?_
  rintro e y1 ⟨rfl, k1⟩
  go_wp2_with fail
  refine (bytes_any none 0 0 o [] _ ⟨rfl, fun h => absurd h (by omega)⟩ (by omega) (by omega)).mono ?_
  rintro e y2 ⟨rfl, k2⟩
  have hg2 := gb_none (gb_none hg0 k1) k2
  have hz2 := (hz.keep k1).keep k2
  have HK : Hid ((⟨(bytesS [] k).toArray⟩ : ByteArray).size = k) := by show _ = _; rw [← len_data, ba, bytesS_len]
  have HO : Hid ((⟨(bytesS [] o).toArray⟩ : ByteArray).size = o) := by show _ = _; rw [← len_data, ba, bytesS_len]
  have HKe : Hid (∃ K : ByteArray, K = ⟨(bytesS [] k).toArray⟩) := ⟨_, rfl⟩
  obtain ⟨K, eK⟩ := HKe.out
  have HOe : Hid (∃ K : ByteArray, K = ⟨(bytesS [] o).toArray⟩) := ⟨_, rfl⟩
  obtain ⟨O, eO⟩ := HOe.out
  have EK := Lib.hid eK
  have EO := Lib.hid eO
  rw [← eK] at HK
  rw [← eO] at HO
  rw [← eK, ← eO]
  clear eK eO HKe HOe hz hg0 k1 k2
  obtain ⟨S, HS⟩ : ∃ S, Hid (blockA K O a2 = S) := ⟨_, rfl⟩
  have hS : (S.size : Int) == 64 := by
    rw [← HS.out, blockA_fit K O a2 (by rw [HK.out]; exact C1.out) (by rw [HO.out]; exact C2.out) c3 (by omega)]
    show ((streamOf _).toArray.size : Int) == 64
    rw [List.size_toArray, streamOf_len]; rfl
  have hx : xorA K O a2 (List.replicate L 0) = [] := by
    unfold xorA
    rw [List.length_replicate, if_neg (by omega), if_neg]
    intro h
    simp only [fitsB, decide_eq_true_eq] at h
    exact absurd h.2.2.2 (by omega)
  have Hx := Lib.hid hx
  clear hx
  go_wp2_with fail
  refine (block_any _ _ _ _).mono ?_
  rintro e y3 ⟨rfl, k3⟩
  rw [HS.out]
  have hg3 := gb_none hg2 k3
  have hz3 := hz2.keep k3
  clear hg2 hz2 k3
  go_wp2_with fail
  refine (bytes_any none 0 0 k [] _ ⟨rfl, fun h => absurd h (by omega)⟩ (by omega) (by omega)).mono ?_
  rintro e y4 ⟨rfl, k4⟩
  rw [← EK.out]
  go_wp2_with fail
  refine (bytes_any none 0 0 o [] _ ⟨rfl, fun h => absurd h (by omega)⟩ (by omega) (by omega)).mono ?_
  rintro e y5 ⟨rfl, k5⟩
  rw [← EO.out]
  have hg5 := gb_none (gb_none hg3 k4) k5
  have hz5 := (hz3.keep k4).keep k5
  clear hg3 hz3 k4 k5
  go_wp2_with fail
  refine (xor_any K O a2 _ L L (List.replicate L 0) _ (by omega) hz5).mono ?_
  rintro e y6 ⟨v, rfl, k6, t6⟩
  rw [Hx.out] at t6
  obtain rfl : v = .slice none 0 0 := by
    rcases t6 with ⟨_, hv⟩ | ⟨hn, _⟩
    · exact hv
    · exact absurd rfl hn
  have hg6 := gb_none hg5 k6
  have hz6 := hz5.keep k6
  clear hg5 hz5 k6 t6
  go_wp2_with fail
  refine (bytes_any none 0 0 32 [] _ ⟨rfl, fun h => absurd h (by omega)⟩ (by omega) (by omega)).mono ?_
  rintro e y7 ⟨rfl, k7⟩
  go_wp2_with fail
  refine (bytes_any none 0 0 12 [] _ ⟨rfl, fun h => absurd h (by omega)⟩ (by omega) (by omega)).mono ?_
  rintro e y8 ⟨rfl, k8⟩
  have HK2 : Hid ((⟨(bytesS [] 32).toArray⟩ : ByteArray).size = 32) := by show _ = _; rw [← len_data, ba, bytesS_len]
  have HO2 : Hid ((⟨(bytesS [] 12).toArray⟩ : ByteArray).size = 12) := by show _ = _; rw [← len_data, ba, bytesS_len]
  generalize (⟨(bytesS [] 32).toArray⟩ : ByteArray) = K2 at *
  generalize (⟨(bytesS [] 12).toArray⟩ : ByteArray) = O2 at *
  have hg8 := gb_none (gb_none hg6 k7) k8
  have hz8 := (hz6.keep k7).keep k8
  clear hg6 hz6 k7 k8
  have hy : xorA K2 O2 4294967295 (List.replicate L 0) = [] := by
    unfold xorA
    rw [List.length_replicate, if_neg (by omega), if_neg]
    intro h
    simp only [fitsB, decide_eq_true_eq] at h
    exact absurd h.2.2.2 (by omega)
  have Hy := Lib.hid hy
  clear hy
  go_wp2_with fail
  refine (xor_any K2 O2 4294967295 _ L L (List.replicate L 0) _ (by omega) hz8).mono ?_
  rintro e y9 ⟨v2, rfl, k9, t9⟩
  rw [Hy.out] at t9
  obtain rfl : v2 = .slice none 0 0 := by
    rcases t9 with ⟨_, hv⟩ | ⟨hn, _⟩
    · exact hv
    · exact absurd rfl hn
  have hg9 := gb_none hg8 k9
  have hLp : decide (0 < (L : Int)) = true := by simp; omega
  have hLp2 : decide (0 < L) = true := by simp; omega
  have hL00 : ((L : Int) == 0) = false := by rw [beq_eq_false_iff_ne]; omega
  have hL01 : ((0 : Int) == (L : Int)) = false := by rw [beq_eq_false_iff_ne]; omega
  clear hg8 hz8 k9 t9
  go_wp2_with fail
  refine (awake_any _).mono ?_
  rintro e y10 ⟨rfl, k10⟩
  go_wp2_with fail
  go_ret
  exact ⟨rfl, below_of (gb_none hg9 k10)⟩

set_option maxHeartbeats 40000000 in
set_option maxRecDepth 100000 in
theorem walk (a0 : Int) (a1 : Int) (a2 : Int) (a3 : Int) (w0 : (Lit.int .u8 a0).wf = true) (w1 : (Lit.int .u8 a1).wf = true) (w2 : (Lit.int .i64 a2).wf = true) (w3 : (Lit.int .u16 a3).wf = true) (w : World) :
    Calls Try.prog 7 #[.int .u8 a0, .int .u8 a1, .int .i64 a2, .int .u16 a3] w fun e w' => e = .returned (.bool true) ∧ Below w.heap.size w w' := by
  have m8 : IntKind.u8.min = 0 := by decide
  have x8 : IntKind.u8.max = 255 := by decide
  have m16 : IntKind.u16.min = 0 := by decide
  have x16 : IntKind.u16.max = 65535 := by decide
  have m64 : IntKind.i64.min = -9223372036854775808 := by decide
  have x64 : IntKind.i64.max = 9223372036854775807 := by decide
  simp only [Lit.wf, m8, x8, m16, x16, m64, x64, Bool.and_eq_true, decide_eq_true_eq] at w0 w1 w2 w3
  obtain ⟨k, hk⟩ : ∃ k : Nat, a0 % 70 = (k : Int) := ⟨(a0 % 70).toNat, by omega⟩
  obtain ⟨o, ho⟩ : ∃ o : Nat, a1 % 30 = (o : Int) := ⟨(a1 % 30).toNat, by omega⟩
  obtain ⟨L, hL⟩ : ∃ L : Nat, 1 + a3 % 300 = (L : Int) := ⟨(1 + a3 % 300).toNat, by omega⟩
  by_cases c6 : L ≤ 64
  · by_cases c1 : k = 32
    · by_cases c2 : o = 12
      · by_cases c3 : 0 ≤ a2
        · by_cases c4 : a2 < 4294967296
          · by_cases c5 : a2 + ((L : Int) - 1) / 64 < 4294967296
            · exact szEsa a0 a1 a2 a3 k o L hk ho hL w0.1 w0.2 w1.1 w1.2 w3.1 w3.2 w2.1 w2.2 c1 c2 c3 c4 c5 c6 w
            · omega
          · exact szDs a0 a1 a2 a3 k o L hk ho hL w0.1 w0.2 w1.1 w1.2 w3.1 w3.2 w2.1 w2.2 c1 c2 c3 (by omega) c6 w
        · exact szCs a0 a1 a2 a3 k o L hk ho hL w0.1 w0.2 w1.1 w1.2 w3.1 w3.2 w2.1 w2.2 c1 c2 (by omega) c6 w
      · exact szBs a0 a1 a2 a3 k o L hk ho hL w0.1 w0.2 w1.1 w1.2 w3.1 w3.2 w2.1 w2.2 c1 c2 c6 w
    · exact szAs a0 a1 a2 a3 k o L hk ho hL w0.1 w0.2 w1.1 w1.2 w3.1 w3.2 w2.1 w2.2 c1 c6 w
  · by_cases c1 : k = 32
    · by_cases c2 : o = 12
      · by_cases c3 : 0 ≤ a2
        · by_cases c4 : a2 < 4294967296
          · by_cases c5 : a2 + ((L : Int) - 1) / 64 < 4294967296
            · exact szEla a0 a1 a2 a3 k o L hk ho hL w0.1 w0.2 w1.1 w1.2 w3.1 w3.2 w2.1 w2.2 c1 c2 c3 c4 c5 (by omega) w
            · exact szEl a0 a1 a2 a3 k o L hk ho hL w0.1 w0.2 w1.1 w1.2 w3.1 w3.2 w2.1 w2.2 c1 c2 c3 c4 (by omega) (by omega) w
          · exact szDl a0 a1 a2 a3 k o L hk ho hL w0.1 w0.2 w1.1 w1.2 w3.1 w3.2 w2.1 w2.2 c1 c2 c3 (by omega) (by omega) w
        · exact szCl a0 a1 a2 a3 k o L hk ho hL w0.1 w0.2 w1.1 w1.2 w3.1 w3.2 w2.1 w2.2 c1 c2 (by omega) (by omega) w
      · exact szBl a0 a1 a2 a3 k o L hk ho hL w0.1 w0.2 w1.1 w1.2 w3.1 w3.2 w2.1 w2.2 c1 c2 (by omega) w
    · exact szAl a0 a1 a2 a3 k o L hk ho hL w0.1 w0.2 w1.1 w1.2 w3.1 w3.2 w2.1 w2.2 c1 (by omega) w

set_option maxRecDepth 100000 in
theorem lifted (os : Os) (started : os.Started) (H : Type) (enc : TypeId × Value → H) :
    ReturnsInHanded {} Try.checked os 7 .any (Rows.chachaSizesSpec.pre6 enc Try.prog Try.f7 Rows.chachaSizesRow.domain false) (Rows.chachaSizesSpec.post enc Try.prog Try.f7 false true false false) := by
  refine returnsInHanded_of_change (C := Try.checked) own started (by kernel_rfl) Try.func7
    (ChangeSpec.witness6 (enc := enc) (C := Try.checked) false ⟨#[], #[.int .u8 0, .int .u8 0, .int .i64 0, .int .u16 0], []⟩ 8 (by kernel_rfl) (by kernel_rfl) (by kernel_rfl) (by kernel_rfl)) ?_
  intro W base args ds gs before hval0 hW hcnd _
  have hval : ∀ (j : Nat) t v, Try.f7.params[j]? = some t → args[j]? = some v → Value.okWide Try.prog W .any base t v := hval0
  have hW' := hW
  obtain ⟨p, q, hA0, hV, rfl, hfz, hnd⟩ := hW
  have hA : DataW.TrodAll enc Try.prog W 0 (fun _ => true) true Try.f7.params.toList args.toList ds p := hA0
  rw [Try.params7] at hA hval
  obtain ⟨v0, vs0, d0, ds0, p0, q0, hargs, rfl, rfl, h0, r0⟩ := trodAll_cons hA
  obtain ⟨v1, vs1, d1, ds1, p1, q1, rfl, rfl, rfl, h1, r1⟩ := trodAll_cons r0
  obtain ⟨v2, vs2, d2, ds2, p2, q2, rfl, rfl, rfl, h2, r2⟩ := trodAll_cons r1
  obtain ⟨v3, vs3, d3, ds3, p3, q3, rfl, rfl, rfl, h3, r3⟩ := trodAll_cons r2
  obtain ⟨rfl, rfl, rfl⟩ := trodAll_nil r3
  obtain rfl : args = #[v0, v1, v2, v3] := by cases args; simp_all
  obtain ⟨rfl, rfl⟩ := trodVars_none hV
  obtain ⟨a0, rfl, rfl, rfl, w0⟩ := open_int Try.underlying5 (hval 0 5 v0 rfl rfl) h0
  obtain ⟨a1, rfl, rfl, rfl, w1⟩ := open_int Try.underlying5 (hval 1 5 v1 rfl rfl) h1
  obtain ⟨a2, rfl, rfl, rfl, w2⟩ := open_int Try.underlying3 (hval 2 3 v2 rfl rfl) h2
  obtain ⟨a3, rfl, rfl, rfl, w3⟩ := open_int Try.underlying32 (hval 3 32 v3 rfl rfl) h3
  clear hA0 hval0
  simp only [List.append_nil] at hW'
  refine (walk a0 a1 a2 a3 w0 w1 w2 w3 W).mono fun e W' ⟨he, hg⟩ => ?_
  subst he
  exact ⟨_, rfl, _, _, _, [], [], [], hW', (trodAll_cons_mk (shut_bool Try.underlying4 _) trodAll_mk0), (trodAll_cons_mk (shut_int Try.underlying5 w0) (trodAll_cons_mk (shut_int Try.underlying5 w1) (trodAll_cons_mk (shut_int Try.underlying3 w2) (trodAll_cons_mk (shut_int Try.underlying32 w3) trodAll_mk0)))), rfl, hg.frame _, fun h => by cases h⟩

theorem over : Rows.chachaSizesRow.holds Try.pinned (OpenSpec.ofChange Rows.chachaSizesSpec) :=
  OpenClaim.holds_of_wide 7 Try.f7 rfl rfl rfl rfl rfl rfl rfl ⟨rfl, rfl, rfl, rfl, rfl⟩ rfl rfl rfl rfl rfl (by kernel_rfl) Try.func7 (by kernel_rfl)
    (of_decide_eq_true (by kernel_rfl)) (by unfold Func.isWrapper; first | (rw [if_pos (by decide +kernel)]; kernel_rfl) | (rw [if_neg (by decide +kernel)]; exact ⟨rfl, rfl⟩))
    (fun os started H enc _ => lifted os started H enc)

theorem proved : Rows.ChachaSizesSaid :=
  over
#print axioms proved
end Go.Proofs.Ythajddnebambfaa.chachaSizes
