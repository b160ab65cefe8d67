/- sha.add: bytes taken behind those that were taken. -/
import Derived.Test.YtalobkggpdniaaaDoorSTake
import Derived.Test.YtalobkggpdniaaaDoorSPatch
namespace Go.Proofs.YtalobkggpdniaaaDoor
open Go.RowKit Wd Mm

/-- The running sum at g has taken the bytes M; its count is t. -/
def Run (w : World) (g : Nat) (M : List UInt8) (t : Nat) : Prop :=
  ∃ B, B.length = 64 ∧ B.take (M.length % 64) = M.drop (64 * (M.length / 64)) ∧ Row w g 47 (stC (runB M (M.length / 64)) B (M.length % 64) t)
theorem strLen_ext (s : ByteArray) (n : Nat) : (s.extract n s.size).data.toList = s.data.toList.drop n := by
  rw [ByteArray.data_extract, Array.toList_extract]
  simp only [List.extract_eq_take_drop]
  exact List.take_of_length_le (by simp)
def strLen : Value → Nat | .string s => s.size | _ => 0

/-- One piece: as much as has room. -/
theorem piece (M : List UInt8) (B : List UInt8) (X : List UInt8) (hB : B.length = 64) (ht : B.take (M.length % 64) = M.drop (64 * (M.length / 64))) (hX : M.length % 64 + X.length < 64) :
    (patch B (M.length % 64) X).take ((M ++ X).length % 64) = (M ++ X).drop (64 * ((M ++ X).length / 64)) ∧ (M ++ X).length / 64 = M.length / 64 ∧ (M ++ X).length % 64 = M.length % 64 + X.length ∧ runB (M ++ X) (M.length / 64) = runB M (M.length / 64) := by
  have e1 : (M ++ X).length / 64 = M.length / 64 := by rw [List.length_append]; omega
  have e2 : (M ++ X).length % 64 = M.length % 64 + X.length := by rw [List.length_append]; omega
  refine ⟨?_, e1, e2, runB_app M X _ (by omega)⟩
  rw [e1, e2, List.drop_append_of_le_length (by omega), ← ht]
  unfold patch
  rw [List.take_append, List.take_of_length_le (by simp; omega)]
  congr 1
  have hl : (B.take (M.length % 64)).length = M.length % 64 := by simp; omega
  rw [hl, List.take_append_of_le_length (by omega), List.take_of_length_le (by omega)]
theorem piece_full (M : List UInt8) (B : List UInt8) (X : List UInt8) (hB : B.length = 64) (ht : B.take (M.length % 64) = M.drop (64 * (M.length / 64))) (hX : M.length % 64 + X.length = 64) :
    (M ++ X).length / 64 = M.length / 64 + 1 ∧ (M ++ X).length % 64 = 0 ∧ runB (M ++ X) (M.length / 64 + 1) = comp (runB M (M.length / 64)) (patch B (M.length % 64) X) := by
  have e1 : (M ++ X).length / 64 = M.length / 64 + 1 := by rw [List.length_append]; omega
  have e2 : (M ++ X).length % 64 = 0 := by rw [List.length_append]; omega
  refine ⟨e1, e2, ?_⟩
  rw [runB, runB_app M X _ (by omega)]
  congr 1
  rw [List.drop_append_of_le_length (by omega), ← ht]
  unfold patch
  rw [hX, List.drop_of_length_le (by omega), List.append_nil]
  exact List.take_of_length_le (by simp; omega)

theorem byte_one_size (w : World) : (Go.sizeOf 5).run Tryd.prog w = .ok 1 w := by kernel_rfl
theorem cells_bytes (X : List UInt8) (n : Nat) : (X.map w8).take n = (X.take n).map w8 := by rw [List.map_take]

set_option maxHeartbeats 4000000 in
set_option maxRecDepth 100000 in
theorem add_any (g : Nat) (M : List UInt8) (t : Nat) (part : ByteArray) (w : World) (hsz : part.size ≤ 9223372036854775807) (hT : Tabs w) (hg1 : 3 < g) (hr : Run w g M t) :
    Calls Tryd.prog 23 #[.pointer (some ⟨g, 0, none⟩), .string part] w
      fun e w' => e = .returned (.tuple #[]) ∧ Run w' g (M ++ part.data.toList) ((t + part.size) % 18446744073709551616) ∧ w.grownBy w' (some g) := by
  obtain ⟨T, HT⟩ : ∃ T : Nat, Hid (T = (t + part.size) % 18446744073709551616) := ⟨_, rfl⟩
  rw [← HT.out]
  obtain ⟨B, hB, htk, hrow⟩ := hr
  have hA : Tryd.prog.arrayLen 44 = 64 := by kernel_rfl
  have hw1 : IntKind.u64.wrap ((t : Int) + (part.size : Int)) = (T : Int) := by rw [HT.out, IntKind.wrap_u64]; omega
  have hw2 : ((t : Int) + (part.size : Int)) % 18446744073709551616 = (T : Int) := by rw [HT.out]; omega
  have hlen := runB_len M (M.length / 64)
  have c73 : w.cell? ⟨g, 73, none⟩ = some (.int .u64 (t : Int)) := hrow.at_ (stC_tot hlen hB)
  have f73 := hrow.free 73
  have Hpart := Lib.hid hsz
  go_enter Tryd.func23, Tryd.ntmps23
  go_wp2
  change Code.wp _ _ _ (Act.mk _ _) _
  refine Td.named (fun W => Run W g M T ∧ w.grownBy W (some g)) ⟨⟨B, hB, htk, ?r0⟩, gb_set1 _ _ _ _⟩ ?_
  case r0 =>
    have h := hrow.set_ 73 (.int .u64 (T : Int))
    rw [stC_setTot hlen hB] at h
    exact h
  clear hw1 hw2 c73 f73 hB htk hrow hlen
  rintro w1 ⟨r1, g1⟩
  go_loopw [1] (fun v wr => ∃ (s : ByteArray) (c : Nat), v = .string s ∧ c ≤ part.size ∧ Hid (s.data.toList = part.data.toList.drop c) ∧ s.size = part.size - c ∧ Run wr g (M ++ part.data.toList.take c) T ∧ w.grownBy wr (some g)) (fun v _ => strLen v)
  case atStart => exact ⟨part, 0, rfl, Nat.zero_le _, rfl, by omega, by rw [List.take_zero, List.append_nil]; exact r1, g1⟩
  case round =>
    clear r1 g1
    obtain ⟨s, c, rfl, hc, Hs, hss, hr, hg⟩ := hrel
    have Hss := Lib.hid hss
    clear hss
    by_cases hlt : 0 < s.size
    · generalize hX : M ++ part.data.toList.take c = X at *
      have HX := Lib.hid hX
      clear hX
      obtain ⟨B, hB, htk, hrow⟩ := hr
      obtain ⟨h, Hh⟩ : ∃ h : Nat, Hid (h = X.length % 64) := ⟨_, rfl⟩
      have hh : h < 64 := by rw [Hh.out]; omega
      obtain ⟨l, HL⟩ : ∃ l, Hid (l = runB X (X.length / 64)) := ⟨_, rfl⟩
      rw [← Hh.out] at htk hrow
      rw [← HL.out] at hrow
      have hl : l.length = 8 := by rw [HL.out]; exact runB_len _ _
      obtain ⟨n, Hn⟩ : ∃ n : Nat, Hid (n = Nat.min s.size (64 - h)) := ⟨_, rfl⟩
      have hn1 : n ≤ s.size := by rw [Hn.out]; exact Nat.min_le_left _ _
      have hn2 : n ≤ 64 - h := by rw [Hn.out]; exact Nat.min_le_right _ _
      have hn0 : 0 < n := by rw [Hn.out]; exact Nat.lt_min.2 ⟨hlt, by omega⟩
      have hS : s.data.toList.length = s.size := by simp
      have hXn : (s.data.toList.take n).length = n := by rw [List.length_take, hS]; omega
      have c72 : wr.cell? ⟨g, 72, none⟩ = some (.int .i64 (h : Int)) := hrow.at_ (stC_held hl hB)
      have hcp : ∀ ty, (Builtin.copy_ #[26, 9] ty #[.slice (some ⟨g, 8 + h, none⟩) (64 - h) (64 - h), .string s]).run Tryd.prog wr.drew = .ok (.int .i64 (n : Int)) (wr.drew.setCells g (8 + h) ((s.data.toList.map w8).take n)) := fun ty =>
        run_copy_min wr.drew 26 9 ty 5 g (8 + h) (64 - h) (64 - h) n s Tryd.underlying26 byte_one_size Hn.out.symm
          (fun j hj => by rw [hrow.drew.get, Array.getElem?_eq_getElem (by rw [stC_size hl hB]; omega)]; rfl) (fun j _ => hrow.drew.free _)
      have r2 : Row (wr.drew.setCells g (8 + h) ((s.data.toList.map w8).take n)) g 47 (stC l (patch B h (s.data.toList.take n)) h T) := by
        have h1 := row_setCells ((s.data.toList.map w8).take n) (8 + h) _ _ hrow.drew
        have h2 := stC_patch (l := l) (B := B) (X := s.data.toList.take n) (h := h) (t := T) (o := h) hl hB (by rw [hXn]; omega)
        rw [hXn] at h2
        rw [cells_bytes, List.length_map, hXn] at h1
        rw [cells_bytes, ← h2]
        have e : put (stC l B h T) (8 + h) (fun i => ((s.data.toList.take n).map w8).getD i undef) n = put (stC l B h T) (8 + h) (fun i => w8 ((s.data.toList.take n).getD i 0)) n := by
          refine put_congr _ _ _ _ _ fun j hj => ?_
          have hj' : j < (s.data.toList.take n).length := by omega
          simp only [List.getD_eq_getElem?_getD, List.getElem?_map, List.getElem?_eq_getElem hj', Option.map_some, Option.getD_some]
        rw [← e]
        exact h1
      have g2 := gb_then (gb_drew hg) (gb_setCells g ((s.data.toList.map w8).take n) (8 + h) wr.drew)
      have hB2 : (patch B h (s.data.toList.take n)).length = 64 := by rw [patch_len (by omega), hB]
      have Hl := Lib.hid hl
      have HB := Lib.hid hB
      have HB2 := Lib.hid hB2
      have HXn := Lib.hid hXn
      have Htk := Lib.hid htk
      have q0 := IntWalk.i64_in (h : Int) (by omega)
      have hh64 : (h : Int) ≤ 64 := by omega
      have hne : ¬ (64 = h) := by omega
      have hd0 : decide (0 < (s.size : Int)) = true := decide_eq_true (by omega)
      clear hl hB hB2 hXn hrow htk hS hg
      go_wp2_with fail
      refine wp_region_still_tail 9 (by kernel_rfl) (by kernel_rfl) ?_
      simp only [List.take_succ_cons, List.take_zero, List.drop_succ_cons, List.drop_zero]
      iterate 9 still_step
      refine wpStill_nil ?_
      clear q0
      change wpList _ _ _ _ _ wr.drew
      have c72b := r2.at_ (stC_held Hl.out HB2.out)
      have f72b := r2.free 72
      obtain ⟨k2, Hk2⟩ : ∃ k2 : Nat, Hid (k2 = h + n) := ⟨_, rfl⟩
      have hk2 : (h : Int) + (n : Int) = (k2 : Int) := by have := Hk2.out; omega
      have hk64 : k2 ≤ 64 := by have := Hk2.out; omega
      have hi1 : (n : Int) ≤ (s.size : Int) := by omega
      have r3 := r2.set_ 72 (.int .i64 (k2 : Int))
      rw [stC_setHeld Hl.out HB2.out] at r3
      have g3 := gb_then g2 (gb_set1 (wr.drew.setCells g (8 + h) ((s.data.toList.map w8).take n)) g 72 (.int .i64 (k2 : Int)))
      have c72c := r3.at_ (stC_held Hl.out HB2.out)
      have HnE : Hid (∀ c', c' = c + n → (s.extract n s.size).data.toList = part.data.toList.drop c' ∧ (s.extract n s.size).size = part.size - c' ∧ M ++ part.data.toList.take c' = X ++ s.data.toList.take n ∧ c' ≤ part.size) := by
        intro c' hc'
        subst hc'
        have hs1 := Hss.out
        refine ⟨?_, ?_, ?_, by omega⟩
        · rw [strLen_ext, Hs.out, List.drop_drop]
        · rw [ByteArray.size_extract]; omega
        · rw [HX.out.symm, Hs.out, List.append_assoc, List.take_add]
      have HsE : Hid ((s.extract n s.size).size < s.size) := by
        show _ < _
        rw [ByteArray.size_extract]; omega
      clear r2 g2 c72
      by_cases hfull : k2 = 64
      · subst hfull
        rw [show ((64 : Nat) : Int) = 64 from rfl] at c72c hk2
        have ht64 : ((64 : Int) == 64) = true := rfl
        go_wp2_with fail
        have hT3 := hT.keep g3 (fun i e => by cases e; exact hg1)
        refine (take_any g l (patch B h (s.data.toList.take n)) 64 T _ Hl.out HB2.out (by exact hT3) (by exact r3)).mono ?_
        rintro e w4 ⟨rfl, r4, g4⟩
        have g5 := gb_then g3 g4
        have Hlc := Lib.hid (comp_len l (patch B h (s.data.toList.take n)) Hl.out)
        have c72d := r4.at_ (stC_held Hlc.out HB2.out)
        have f72d := r4.free 72
        have r5 := r4.set_ 72 (.int .i64 ((0 : Nat) : Int))
        rw [stC_setHeld Hlc.out HB2.out] at r5
        clear r3 g3 g4 r4 c72b f72b c72c hT3 hcp
        go_wp2_with fail
        go_roundw
        case rel =>
          obtain ⟨e1, e2, e3, e4⟩ := HnE.out (c + n) rfl
          refine ⟨_, c + n, rfl, e4, e1, e2, ?_, gb_then g5 (gb_set1 _ _ _ _)⟩
          rw [e3]
          have hp := piece_full X B (s.data.toList.take n) HB.out (by rw [← Hh.out]; exact Htk.out) (by rw [HXn.out, ← Hh.out]; have := Hk2.out; omega)
          refine ⟨patch B h (s.data.toList.take n), HB2.out, ?_, ?_⟩
          · rw [hp.1, hp.2.1, List.take_zero]
            refine (List.drop_of_length_le ?_).symm
            have := hp.1
            have := hp.2.1
            omega
          · rw [hp.1, hp.2.1, hp.2.2, ← HL.out, ← Hh.out]; exact r5
        case measure => exact HsE.out
      · have ht64 : ((k2 : Int) == 64) = false := by rw [beq_eq_false_iff_ne]; omega
        go_wp2_with fail
        go_roundw
        case rel =>
          obtain ⟨e1, e2, e3, e4⟩ := HnE.out (c + n) rfl
          refine ⟨_, c + n, rfl, e4, e1, e2, ?_, g3⟩
          rw [e3]
          have hp := piece X B (s.data.toList.take n) HB.out (by rw [← Hh.out]; exact Htk.out) (by rw [HXn.out, ← Hh.out]; have := Hk2.out; omega)
          refine ⟨patch B h (s.data.toList.take n), HB2.out, ?_, ?_⟩
          · rw [Hh.out]; exact hp.1
          · rw [hp.2.1, hp.2.2.1, hp.2.2.2, HXn.out, ← Hh.out, ← HL.out, ← Hk2.out]; exact r3
        case measure => exact HsE.out
    · have hc2 : c = part.size := by have := Hss.out; omega
      have hd0 : decide (0 < (s.size : Int)) = false := decide_eq_false (by omega)
      have hd1 : ¬ 0 < (s.size : Int) := by omega
      have hall : part.data.toList.take c = part.data.toList := List.take_of_length_le (by rw [hc2]; simp)
      rw [hall] at hr
      clear hall hc2
      go_wp2
      go_end0
      exact ⟨rfl, hr, hg⟩
end Go.Proofs.YtalobkggpdniaaaDoor
