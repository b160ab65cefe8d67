/- What the words are behind the end is what the sum asks: plain lists. -/
import Derived.Test.YtalobkggpdniaaaDoorSEnd
namespace Go.Proofs.YtalobkggpdniaaaDoor
open Go.RowKit Wd Mm

theorem mark_eq (B : List UInt8) (h : Nat) (hB : B.length = 64) (hh : h < 64) : markB B h = B.take h ++ (128 :: List.replicate (63 - h) 0) := by
  unfold markB patch
  have hl : (B.take h).length = h := by simp; omega
  have e1 : (B.take h ++ ([128] ++ B.drop (h + ([128] : List UInt8).length))).take (h + 1) = B.take h ++ [128] := by
    rw [List.take_append, List.take_of_length_le (by omega), hl, show h + 1 - h = 1 by omega]; rfl
  have e2 : (B.take h ++ ([128] ++ B.drop (h + ([128] : List UInt8).length))).drop (h + 1 + (List.replicate (63 - h) (0 : UInt8)).length) = [] := by
    refine List.drop_of_length_le ?_
    simp; omega
  rw [e1, e2, List.append_nil, List.append_assoc]; rfl
theorem count_eq (X : List UInt8) (N : Nat) (hX : X.length = 64) : countB X N = X.take 56 ++ beBytes N 8 := by
  unfold countB patch
  rw [beBytes_len, List.drop_of_length_le (by omega), List.append_nil]
theorem tail_low (n : Nat) (h : n % 64 < 56) : tailB n = 128 :: (List.replicate (55 - n % 64) 0 ++ beBytes (8 * n % 18446744073709551616) 8) := by
  unfold tailB
  rw [show (119 - n % 64) % 64 = 55 - n % 64 by omega]
theorem tail_high (n : Nat) (h : 56 ≤ n % 64) : tailB n = 128 :: (List.replicate (63 - n % 64) 0 ++ (List.replicate 56 0 ++ beBytes (8 * n % 18446744073709551616) 8)) := by
  unfold tailB
  rw [show (119 - n % 64) % 64 = (63 - n % 64) + 56 by omega, ← List.replicate_append_replicate, List.append_assoc]

theorem end_sha (M B : List UInt8) (h t : Nat) (hB : B.length = 64) (hh : h = M.length % 64) (ht : t = M.length % 18446744073709551616) (htk : B.take h = M.drop (64 * (M.length / 64))) :
    endW (runB M (M.length / 64)) B h t = runB (padB M) ((padB M).length / 64) := by
  have h64 : h < 64 := by omega
  have hN : 8 * t % 18446744073709551616 = 8 * M.length % 18446744073709551616 := by omega
  have hl : (B.take h).length = h := by simp; omega
  have hpl : ∀ T : List UInt8, ((M ++ T).drop (64 * (M.length / 64))) = B.take h ++ T := fun T => by
    rw [List.drop_append_of_le_length (by omega), htk]
  unfold endW
  rw [hN]
  by_cases hb : h < 56
  · rw [if_pos hb]
    have hT := tail_low M.length (by omega)
    rw [← hh] at hT
    have hlen : (padB M).length / 64 = M.length / 64 + 1 := by
      unfold padB
      rw [hT]
      simp only [List.length_append, List.length_cons, List.length_replicate, beBytes_len]
      omega
    rw [hlen, runB]
    have e0 : runB (padB M) (M.length / 64) = runB M (M.length / 64) := runB_app _ _ _ (by omega)
    rw [e0]
    refine congrArg (comp _) ?_
    unfold padB
    rw [hpl, hT, mark_eq B h hB h64, count_eq _ _ (by simp; omega)]
    rw [List.take_append, List.take_of_length_le (l := B.take h) (i := 56) (by omega), hl, show 56 - h = (55 - h) + 1 by omega, List.take_succ_cons, List.take_replicate, show min (55 - h) (63 - h) = 55 - h by omega]
    rw [List.take_of_length_le (l := B.take h ++ _) (i := 64) (by simp only [List.length_append, List.length_cons, List.length_replicate, beBytes_len]; omega)]
    simp
  · rw [if_neg hb]
    have hT := tail_high M.length (by omega)
    rw [← hh] at hT
    have hlen : (padB M).length / 64 = M.length / 64 + 1 + 1 := by
      unfold padB
      rw [hT]
      simp only [List.length_append, List.length_cons, List.length_replicate, beBytes_len]
      omega
    rw [hlen, runB, runB]
    have e0 : runB (padB M) (M.length / 64) = runB M (M.length / 64) := runB_app _ _ _ (by omega)
    rw [e0]
    have hm : (markB B h).length = 64 := markB_len hB h64
    have hd1 : ((padB M).drop (64 * (M.length / 64))).take 64 = markB B h := by
      unfold padB
      rw [hpl, hT, mark_eq B h hB h64, ← List.cons_append, ← List.append_assoc, List.take_append_of_le_length (by simp only [List.length_append, List.length_cons, List.length_replicate]; omega)]
      exact List.take_of_length_le (by simp only [List.length_append, List.length_cons, List.length_replicate]; omega)
    have hd2 : ((padB M).drop (64 * (M.length / 64 + 1))).take 64 = countB (patch (markB B h) 0 (List.replicate 64 0)) (8 * M.length % 18446744073709551616) := by
      rw [show 64 * (M.length / 64 + 1) = 64 * (M.length / 64) + 64 by omega, ← List.drop_drop]
      unfold padB
      rw [hpl, hT, count_eq _ _ (by rw [patch_len (by rw [hm]; simp), hm])]
      rw [← List.cons_append, ← List.append_assoc, List.drop_append_of_le_length (by simp only [List.length_append, List.length_cons, List.length_replicate]; omega)]
      rw [List.drop_of_length_le (by simp only [List.length_append, List.length_cons, List.length_replicate]; omega), List.nil_append]
      rw [List.take_of_length_le (by simp only [List.length_append, List.length_replicate, beBytes_len]; omega)]
      unfold patch
      rw [List.take_zero, List.nil_append, List.take_append_of_le_length (by simp), List.take_replicate]; rfl
    rw [hd1, hd2]
end Go.Proofs.YtalobkggpdniaaaDoor
