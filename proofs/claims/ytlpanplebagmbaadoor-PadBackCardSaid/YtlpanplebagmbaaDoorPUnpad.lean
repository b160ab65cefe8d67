/- Unpad: the text whose Pad it is. -/
import Derived.Test.YtlpanplebagmbaaDoorPPad
import Derived.Lib.TrimByte
namespace Go.Proofs.YtlpanplebagmbaaDoor
open Go.RowKit Wd Mm

/-- The text whose Pad s is, as the program looks for it. -/
def unpL (s : List UInt8) : Option (List UInt8) :=
  if Lib.hasSuffix (Lib.trimRightB s 0) [128] = true ∧ bk ((Lib.trimSuffix (Lib.trimRightB s 0) [128]).length : Int) = s.length then some (Lib.trimSuffix (Lib.trimRightB s 0) [128]) else none
theorem trim_zeros (t : List UInt8) (k : Nat) (x : UInt8) (hx : x ≠ 0) : Lib.trimRightB (t ++ x :: List.replicate k 0) 0 = t ++ [x] := by
  unfold Lib.trimRightB
  have e : (t ++ x :: List.replicate k 0).reverse = List.replicate k 0 ++ (x :: t.reverse) := by simp
  rw [e]
  have h : ∀ k : Nat, (List.replicate k (0 : UInt8) ++ (x :: t.reverse)).dropWhile (· == 0) = x :: t.reverse := by
    intro k
    induction k with
    | zero =>
      simp only [List.replicate_zero, List.nil_append, List.dropWhile_cons]
      rw [if_neg (by simp [hx])]
    | succ k ih =>
      simp only [List.replicate_succ, List.cons_append, List.dropWhile_cons]
      rw [if_pos (by simp)]
      exact ih
  rw [h]
  simp
theorem trim_back (s : List UInt8) : ∃ k, s = Lib.trimRightB s 0 ++ List.replicate k 0 := by
  have h := List.takeWhile_append_dropWhile (p := (· == (0 : UInt8))) (l := s.reverse)
  refine ⟨(s.reverse.takeWhile (· == 0)).length, ?_⟩
  have hz : s.reverse.takeWhile (· == (0 : UInt8)) = List.replicate (s.reverse.takeWhile (· == (0 : UInt8))).length 0 := by
    refine List.eq_replicate_iff.2 ⟨rfl, fun b hb => ?_⟩
    have := List.all_eq_true.1 (List.all_takeWhile (p := (· == (0 : UInt8))) (l := s.reverse)) b hb
    simpa using this
  have h2 := congrArg List.reverse h
  rw [List.reverse_append, List.reverse_reverse] at h2
  unfold Lib.trimRightB
  conv => lhs; rw [← h2]
  congr 1
  rw [hz, List.reverse_replicate, List.length_replicate]
theorem suffix_iff (t : List UInt8) : Lib.hasSuffix t [128] = true ↔ ∃ l, t = l ++ [128] := by
  unfold Lib.hasSuffix
  rw [List.isSuffixOf_iff_suffix]
  exact ⟨fun ⟨l, h⟩ => ⟨l, h.symm⟩, fun ⟨l, h⟩ => ⟨l, h.symm⟩⟩
theorem trimSuffix_of (l : List UInt8) : Lib.trimSuffix (l ++ [128]) [128] = l := by
  unfold Lib.trimSuffix
  rw [if_pos ((suffix_iff _).2 ⟨l, rfl⟩)]
  simp
theorem unp_pad (l : List UInt8) (h : bk l.length ≠ 0) : unpL (padL l) = some l := by
  have hl := padL_len l h
  unfold unpL
  have ht : Lib.trimRightB (padL l) 0 = l ++ [128] := trim_zeros _ _ _ (by decide)
  rw [ht, trimSuffix_of, if_pos ⟨(suffix_iff _).2 ⟨l, rfl⟩, hl.symm⟩]
theorem unp_back {s l : List UInt8} (h : unpL s = some l) : s = padL l ∧ bk l.length ≠ 0 := by
  unfold unpL at h
  split at h
  · rename_i hc
    obtain ⟨h1, h2⟩ := hc
    obtain ⟨l', hl'⟩ := (suffix_iff _).1 h1
    rw [hl', trimSuffix_of] at h2 h
    cases h
    obtain ⟨k, hk⟩ := trim_back s
    rw [hl'] at hk
    have hlen := congrArg List.length hk
    simp only [List.length_append, List.length_cons, List.length_nil, List.length_replicate] at hlen
    refine ⟨?_, by omega⟩
    rw [hk]
    unfold padL
    rw [h2, List.append_assoc, show s.length - l.length - 1 = k by omega]
    rfl
  · cases h

/-- What the library tells of the text without its noughts. -/
theorem trim_any (s : ByteArray) (W : World) (hs : s.size ≤ 9223372036854775807) (T : ByteArray) (hT : T = ⟨(Lib.trimRightB s.data.toList 0).toArray⟩) : Calls Tryd.prog 15 #[.string s, .string ⟨#[0]⟩] W fun e w' => e = .returned (.string T) ∧ W = w' := by
  subst hT
  exact (Tryd.strings_TrimRight_one s 0 (by decide) W hs).mono fun e w' h => ⟨h.1, h.2.symm⟩
theorem cut_any (T X : ByteArray) (b : Bool) (W : World) (hs : T.size ≤ 9223372036854775807) (hX : X = ⟨(Lib.trimSuffix T.data.toList [128]).toArray⟩) (hb : b = Lib.hasSuffix T.data.toList [128]) : Calls Tryd.prog 14 #[.string T, .string ⟨#[128]⟩] W fun e w' => e = .returned (.tuple #[.string X, .bool b]) ∧ W = w' := by
  subst hX hb
  exact (Tryd.strings_CutSuffix T ⟨#[128]⟩ W hs).mono fun e w' h => ⟨h.1, h.2.symm⟩
theorem clone_any (s : ByteArray) (w : World) (h : s.size ≤ 281474976710656) : Calls Tryd.prog 16 #[.string s] w fun e w' => e = .returned (.string s) ∧ w.grownBy w' none := by
  have HL := Lib.hid (fun W => Tryd.stringslite_Clone s W h)
  go_enter Tryd.func16, Tryd.ntmps16
  go_wp2_with fail
  refine (HL.out _).mono ?_
  rintro e w2 ⟨rfl, g2⟩
  go_wp2_with fail
  go_ret
  exact ⟨rfl, below_gb g2⟩
theorem trim_le (s : List UInt8) : (Lib.trimRightB s 0).length ≤ s.length := by
  obtain ⟨k, hk⟩ := trim_back s
  have := congrArg List.length hk
  rw [List.length_append] at this
  omega
theorem suffix_le (t : List UInt8) : (Lib.trimSuffix t [128]).length ≤ t.length := by
  unfold Lib.trimSuffix
  split
  · rw [List.length_take]; omega
  · exact Nat.le_refl _

set_option maxHeartbeats 2000000 in
set_option maxRecDepth 100000 in
theorem unpad_some (s : ByteArray) (l : List UInt8) (w : World) (h : unpL s.data.toList = some l) : Calls Tryd.prog 8 #[.string s] w fun e w' => e = .returned (.tuple #[.string ⟨l.toArray⟩, .bool true]) ∧ w.grownBy w' none := by
  have hb := unp_back h
  have hlen : s.size = bk l.length := by
    have := congrArg List.length hb.1
    rw [padL_len l hb.2, size_list] at this
    exact this
  have hle := bk_le l.length
  have hll := (bk_above _ hb.2).1
  obtain ⟨T, hT⟩ : ∃ T : ByteArray, T = ⟨(Lib.trimRightB s.data.toList 0).toArray⟩ := ⟨_, rfl⟩
  obtain ⟨X, hX⟩ : ∃ X : ByteArray, X = ⟨l.toArray⟩ := ⟨_, rfl⟩
  have hXs : X.size = l.length := by rw [hX]; rfl
  unfold unpL at h
  split at h
  · rename_i hc
    obtain ⟨h1, h2⟩ := hc
    have hl := Option.some.inj h
    have hTl : T.data.toList = Lib.trimRightB s.data.toList 0 := by rw [hT]
    have hTs : T.size ≤ s.size := by
      have := trim_le s.data.toList
      rw [← size_list, ← size_list, hTl]; exact this
    have HT := Lib.hid (fun W => trim_any s W (by omega) T hT)
    have HC := Lib.hid (fun W => cut_any T X true W (by omega) (by rw [hTl, hl, hX]) (by rw [hTl, h1]))
    have HB := Lib.hid (fun W => bucket_any X.size W (by omega) (by omega))
    have HL := Lib.hid (fun W => clone_any X W (by omega))
    have hbs : ((bk (X.size : Int) : Int) == (s.size : Int)) = true := by rw [hXs, hlen]; simp
    obtain ⟨K, HK⟩ : ∃ K, Hid (bk (X.size : Int) = K) := ⟨_, rfl⟩
    rw [HK.out] at HB hbs
    rw [← hX]
    clear h h1 h2 hl hTl hTs hT hX hXs hlen hle hll hb
    go_enter Tryd.func8, Tryd.ntmps8
    go_wp2_with fail
    refine (HT.out _).mono ?_
    rintro e w1 ⟨rfl, rfl⟩
    go_wp2_with fail
    refine (HC.out _).mono ?_
    rintro e w1 ⟨rfl, rfl⟩
    go_wp2_with fail
    refine (HB.out _).mono ?_
    rintro e w1 ⟨rfl, rfl⟩
    go_wp2_with fail
    refine (HL.out _).mono ?_
    rintro e w1 ⟨rfl, g1⟩
    have G1 := Lib.hid g1
    clear g1
    go_wp2_with fail
    refine bodyPost_ret (v := .tuple #[.string X, .bool true]) (by simp [results, Tryd.results8, go_sem]) rfl ?_
    exact ⟨rfl, G1.out⟩
  · cases h
set_option maxHeartbeats 2000000 in
set_option maxRecDepth 100000 in
theorem unpad_none (s : ByteArray) (w : World) (hs : s.size ≤ 9223372036854775807) (h : unpL s.data.toList = none) : Calls Tryd.prog 8 #[.string s] w fun e w' => e = .returned (.tuple #[.string ⟨#[]⟩, .bool false]) ∧ w = w' := by
  obtain ⟨T, hT⟩ : ∃ T : ByteArray, T = ⟨(Lib.trimRightB s.data.toList 0).toArray⟩ := ⟨_, rfl⟩
  obtain ⟨X, hX⟩ : ∃ X : ByteArray, X = ⟨(Lib.trimSuffix T.data.toList [128]).toArray⟩ := ⟨_, rfl⟩
  have hTl : T.data.toList = Lib.trimRightB s.data.toList 0 := by rw [hT]
  have hTs : T.size ≤ s.size := by
    have := trim_le s.data.toList
    rw [← size_list, ← size_list, hTl]; exact this
  have hXs : X.size = (Lib.trimSuffix T.data.toList [128]).length := by rw [hX]; rfl
  have hXl : X.size ≤ T.size := by
    have := suffix_le T.data.toList
    rw [size_list] at this
    omega
  have HT := Lib.hid (fun W => trim_any s W hs T hT)
  unfold unpL at h
  rw [← hTl] at h
  by_cases h1 : Lib.hasSuffix T.data.toList [128] = true
  · have h2 : bk (X.size : Int) ≠ s.size := by
      intro e
      rw [if_pos ⟨h1, by rw [← hXs, e, size_list]⟩] at h
      cases h
    have HC := Lib.hid (fun W => cut_any T X true W (by omega) hX h1.symm)
    have HB := Lib.hid (fun W => bucket_any X.size W (by omega) (by omega))
    have hbs : ((bk (X.size : Int) : Int) == (s.size : Int)) = false := by simp; omega
    obtain ⟨K, HK⟩ : ∃ K, Hid (bk (X.size : Int) = K) := ⟨_, rfl⟩
    rw [HK.out] at HB hbs
    clear h h1 h2 hT hX hTl hTs hXs hXl hs
    go_enter Tryd.func8, Tryd.ntmps8
    go_wp2_with fail
    refine (HT.out _).mono ?_
    rintro e w1 ⟨rfl, rfl⟩
    go_wp2_with fail
    refine (HC.out _).mono ?_
    rintro e w1 ⟨rfl, rfl⟩
    go_wp2_with fail
    refine (HB.out _).mono ?_
    rintro e w1 ⟨rfl, rfl⟩
    go_wp2_with fail
    refine bodyPost_ret (v := .tuple #[.string ⟨#[]⟩, .bool false]) (by simp [results, Tryd.results8, go_sem]) rfl ?_
    exact ⟨rfl, rfl⟩
  · have h1' : false = Lib.hasSuffix T.data.toList [128] := by simpa using h1
    have HC := Lib.hid (fun W => cut_any T X false W (by omega) hX h1')
    clear h h1 h1' hT hX hTl hTs hXs hXl hs
    go_enter Tryd.func8, Tryd.ntmps8
    go_wp2_with fail
    refine (HT.out _).mono ?_
    rintro e w1 ⟨rfl, rfl⟩
    go_wp2_with fail
    refine (HC.out _).mono ?_
    rintro e w1 ⟨rfl, rfl⟩
    go_wp2_with fail
    refine bodyPost_ret (v := .tuple #[.string ⟨#[]⟩, .bool false]) (by simp [results, Tryd.results8, go_sem]) rfl ?_
    exact ⟨rfl, rfl⟩
end Go.Proofs.YtlpanplebagmbaaDoor
