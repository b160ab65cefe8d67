/- hmac.Mac and the document's Mac: the sum by a key. -/
import Derived.Test.YtalobkggpdniaaaDoorHConcat
namespace Go.Proofs.YtalobkggpdniaaaDoor
open Go.RowKit Wd Mm

def hkey (k : ByteArray) : ByteArray := if 64 < k.size then sumB k else k
theorem hkey_size (k : ByteArray) : (hkey k).size ≤ 64 := by
  unfold hkey
  split
  · rw [sumB_size]; decide
  · omega
def macB (k s : ByteArray) : ByteArray := sumB (maskB (hkey k) 92 ++ sumB (maskB (hkey k) 54 ++ s))
theorem macB_size (k s : ByteArray) : (macB k s).size = 32 := sumB_size _
theorem ref_sum (s : ByteArray) (w : World) (hs : s.size ≤ 1099511627776) : Calls Tryd.prog 15 #[.string s] w fun e w' => e = .returned (.string (sumB s)) ∧ w.grownBy w' none := refSum_any s w hs

set_option maxHeartbeats 1000000 in
theorem refMac_any (k s : ByteArray) (w : World) (hk : k.size ≤ 549755813888) (hs : s.size ≤ 549755813888) :
    Calls Tryd.prog 19 #[.string k, .string s] w fun e w' => e = .returned (.string (macB k s)) ∧ w.grownBy w' none := by
  obtain ⟨K, HK⟩ : ∃ K : ByteArray, Hid (K = hkey k) := ⟨_, rfl⟩
  have hK : K.size ≤ 64 := by rw [HK.out]; exact hkey_size k
  obtain ⟨a, Ha⟩ : ∃ a : ByteArray, Hid (a = maskB K 92) := ⟨_, rfl⟩
  obtain ⟨b, Hb⟩ : ∃ b : ByteArray, Hid (b = maskB K 54) := ⟨_, rfl⟩
  have hsa : a.size ≤ 64 := by rw [Ha.out, maskB_size K 92 hK]; decide
  have hsb : b.size ≤ 64 := by rw [Hb.out, maskB_size K 54 hK]; decide
  obtain ⟨c, Hc⟩ : ∃ c : ByteArray, Hid (c = sumB (b ++ s)) := ⟨_, rfl⟩
  have hsc : c.size ≤ 32 := by rw [Hc.out, sumB_size]; exact Nat.le_refl _
  have Hfin : Hid (macB k s = sumB (a ++ c)) := by show _ = _; rw [Hc.out, Ha.out, Hb.out, HK.out]; rfl
  by_cases h64 : 64 < k.size
  · have t1 : decide ((64 : Int) < (k.size : Int)) = true := decide_eq_true (by omega)
    have HK2 : Hid (sumB k = K) := by show _ = _; rw [HK.out, hkey, if_pos h64]
    go_enter Tryd.func19, Tryd.ntmps19
    go_wp2_with fail
    refine (ref_sum k _ (by omega)).mono ?_
    rintro e w1 ⟨rfl, g1⟩
    rw [HK2.out]
    go_wp2_with fail
    refine (refMasked_any K 92 _ hK).mono ?_
    rintro e w2 ⟨rfl, g2⟩
    rw [← Ha.out]
    go_wp2_with fail
    refine (refMasked_any K 54 _ hK).mono ?_
    rintro e w3 ⟨rfl, g3⟩
    rw [← Hb.out]
    go_wp2_with fail
    refine (ref_sum _ _ (by rw [ByteArray.size_append]; omega)).mono ?_
    rintro e w4 ⟨rfl, g4⟩
    rw [← Hc.out]
    go_wp2_with fail
    refine (ref_sum _ _ (by rw [ByteArray.size_append]; omega)).mono ?_
    rintro e w5 ⟨rfl, g5⟩
    rw [← Hfin.out]
    go_wp2_with fail
    go_ret
    exact ⟨rfl, gb_none (gb_none (gb_none (gb_none g1 g2) g3) g4) g5⟩
  · have t1 : decide ((64 : Int) < (k.size : Int)) = false := decide_eq_false (by omega)
    have HK2 : Hid (k = K) := by show _ = _; rw [HK.out, hkey, if_neg h64]
    have hkk := HK2.out
    subst hkk
    go_enter Tryd.func19, Tryd.ntmps19
    go_wp2_with fail
    refine (refMasked_any k 92 _ hK).mono ?_
    rintro e w2 ⟨rfl, g2⟩
    rw [← Ha.out]
    go_wp2_with fail
    refine (refMasked_any k 54 _ hK).mono ?_
    rintro e w3 ⟨rfl, g3⟩
    rw [← Hb.out]
    go_wp2_with fail
    refine (ref_sum _ _ (by rw [ByteArray.size_append]; omega)).mono ?_
    rintro e w4 ⟨rfl, g4⟩
    rw [← Hc.out]
    go_wp2_with fail
    refine (ref_sum _ _ (by rw [ByteArray.size_append]; omega)).mono ?_
    rintro e w5 ⟨rfl, g5⟩
    rw [← Hfin.out]
    go_wp2_with fail
    go_ret
    exact ⟨rfl, gb_none (gb_none (gb_none g2 g3) g4) g5⟩

/-- The sum by a key of all parts. -/
theorem catB_cons (a : ByteArray) (l : List ByteArray) (s : ByteArray) (h : catB l = s.data.toList) : catB ([a] ++ l) = (a ++ s).data.toList := by
  rw [catB_append, catB_one, h, ByteArray.data_append, Array.toList_append]
theorem parts_small (a : ByteArray) (l : List ByteArray) (n : Nat) (hl : l.length = n) (ha : a.size ≤ 64) (h : ∀ x ∈ l, x.size ≤ 549755813888) : ∀ i, i < 1 + n → (([a] ++ l).getD i ByteArray.empty).size ≤ 9223372036854775807 := fun i hi => by
  have hi' : i < ([a] ++ l).length := by simp; omega
  rw [List.getD_eq_getElem?_getD, List.getElem?_eq_getElem hi']
  have hm := List.getElem_mem hi'
  generalize ([a] ++ l)[i] = x at *
  simp only [Option.getD_some]
  rcases List.mem_append.1 hm with h1 | h1
  · rw [List.mem_singleton.1 h1]; omega
  · have := h x h1; omega

set_option maxHeartbeats 1000000 in
set_option maxRecDepth 100000 in
theorem mac_any (k s : ByteArray) (A : Option Addr) (n c : Nat) (ss : List ByteArray) (w : World) (hk : k.size ≤ 549755813888) (hs : Strs w A n ss) (hcat : catB ss = s.data.toList) (hn : n ≤ 900) (h0 : n = 0 → A = none) (hsm : ∀ x ∈ ss, x.size ≤ 549755813888) (hT : Tabs w) :
    Calls Tryd.prog 18 #[.string k, .slice A n c] w fun e w' => e = .returned (.string (macB k s)) ∧ w.grownBy w' none := by
  obtain ⟨K, HK⟩ : ∃ K : ByteArray, Hid (K = hkey k) := ⟨_, rfl⟩
  have hK : K.size ≤ 64 := by rw [HK.out]; exact hkey_size k
  obtain ⟨a, Ha⟩ : ∃ a : ByteArray, Hid (a = maskB K 92) := ⟨_, rfl⟩
  obtain ⟨b, Hb⟩ : ∃ b : ByteArray, Hid (b = maskB K 54) := ⟨_, rfl⟩
  have hsa : a.size ≤ 64 := by rw [Ha.out, maskB_size K 92 hK]; decide
  have hsb : b.size ≤ 64 := by rw [Hb.out, maskB_size K 54 hK]; decide
  obtain ⟨d, Hd⟩ : ∃ c : ByteArray, Hid (c = sumB (b ++ s)) := ⟨_, rfl⟩
  have hsd : d.size ≤ 32 := by rw [Hd.out, sumB_size]; exact Nat.le_refl _
  have Hfin : Hid (macB k s = sumB (a ++ d)) := by show _ = _; rw [Hd.out, Ha.out, Hb.out, HK.out]; rfl
  have Hs := Lib.hid hs
  have Hcat := Lib.hid (catB_cons b ss s hcat)
  have Hsm := Lib.hid (parts_small b ss n hs.1 hsb hsm)
  have H0 := Lib.hid h0
  clear hs hcat hsm h0
  have main : ∀ (W : World), w.grownBy W none → Hid (Calls Tryd.prog 31 #[.string K, .int .u8 54] W fun e w' => e = .returned (.string b) ∧ W.grownBy w' none) := fun W _ => by
    have := masked_any K 54 W hK
    rw [← Hb.out] at this
    exact this
  by_cases h64 : 64 < k.size
  · have t1 : decide ((64 : Int) < (k.size : Int)) = true := decide_eq_true (by omega)
    have HK2 : Hid (sumB k = K) := by show _ = _; rw [HK.out, hkey, if_pos h64]
    have hT1 := hT.keep (gb_alloc (gb_refl w none) (.cells #[.string k] 9)) (by simp)
    go_enter Tryd.func18, Tryd.ntmps18
    go_wp2_with fail
    refine (sum_any _ 1 1 [k] _ (by decide) (one_small _ (by omega)) (by exact strs_one _ _) (by exact hT1)).mono ?_
    rintro e w1 ⟨rfl, g1⟩
    rw [sum_text _ k (catB_one _), HK2.out]
    replace g1 := gb_none (gb_alloc (gb_refl w none) _) g1
    clear hT1
    go_wp2_with fail
    refine (main _ g1).out.mono ?_
    rintro e w2 ⟨rfl, g2⟩
    have g3 := gb_none g1 g2
    have hsz := g3.size
    have hcon := concat_any (w2.heap.size + 1) (some ⟨w2.heap.size, 0, none⟩) A 1 1 n c [b] ss ((w2.alloc (.cells #[.string b] 9)).alloc (.cells #[.slice (some ⟨w2.heap.size, 0, none⟩) 1 1, .slice A n c] 28))
      (cell_of_row _ _ 0 _ _ (0, 0) (heap_alloc2_new _ _ _)) (cell_of_row _ _ 1 _ _ (0, 0) (heap_alloc2_new _ _ _)) (by simp) ((strs_one _ _).keep (gb_alloc (gb_refl _ _) _)) (Hs.out.keep (gb_alloc (gb_alloc g3 _) _)) (by decide) (by omega) H0.out
    have Hcon := Lib.hid hcon
    clear hcon g1 g2
    go_wp2_with fail
    refine Hcon.out.mono ?_
    rintro e w3 ⟨g, c3, rfl, hs3, g4⟩
    have g5 := gb_none (gb_alloc (gb_alloc g3 _) _) g4
    have Hs3 := Lib.hid hs3
    clear hs3 Hcon g3 g4
    go_wp2_with fail
    refine (masked_any K 92 _ hK).mono ?_
    rintro e w4 ⟨rfl, g6⟩
    rw [← Ha.out]
    have g7 := gb_none g5 g6
    go_wp2_with fail
    refine (sum_any _ (1 + n) c3 ([b] ++ ss) _ (by omega) Hsm.out (by exact Hs3.out.keep g6) (by exact hT.keep g7 (by simp))).mono ?_
    rintro e w5 ⟨rfl, g8⟩
    rw [sum_text _ (b ++ s) Hcat.out, ← Hd.out]
    have g9 := gb_none g7 g8
    clear g5 g6 g7 g8
    go_wp2_with fail
    refine (sum_any _ 2 2 [a, d] _ (by decide) (two_small _ _ (by omega) (by omega)) (by exact strs_new2 _ _ _ _ rfl) (by exact hT.keep (gb_alloc g9 _) (by simp))).mono ?_
    rintro e w6 ⟨rfl, g10⟩
    rw [sum_text _ (a ++ d) (catB_two _ _), ← Hfin.out]
    go_wp2_with fail
    go_ret
    exact ⟨rfl, gb_none (gb_alloc g9 _) g10⟩
  · have t1 : decide ((64 : Int) < (k.size : Int)) = false := decide_eq_false (by omega)
    have HK2 : Hid (k = K) := by show _ = _; rw [HK.out, hkey, if_neg h64]
    have hkk := HK2.out
    subst hkk
    go_enter Tryd.func18, Tryd.ntmps18
    go_wp2_with fail
    refine (main _ (gb_refl _ _)).out.mono ?_
    rintro e w2 ⟨rfl, g3⟩
    have hsz := g3.size
    have hcon := concat_any (w2.heap.size + 1) (some ⟨w2.heap.size, 0, none⟩) A 1 1 n c [b] ss ((w2.alloc (.cells #[.string b] 9)).alloc (.cells #[.slice (some ⟨w2.heap.size, 0, none⟩) 1 1, .slice A n c] 28))
      (cell_of_row _ _ 0 _ _ (0, 0) (heap_alloc2_new _ _ _)) (cell_of_row _ _ 1 _ _ (0, 0) (heap_alloc2_new _ _ _)) (by simp) ((strs_one _ _).keep (gb_alloc (gb_refl _ _) _)) (Hs.out.keep (gb_alloc (gb_alloc g3 _) _)) (by decide) (by omega) H0.out
    have Hcon := Lib.hid hcon
    clear hcon
    go_wp2_with fail
    refine Hcon.out.mono ?_
    rintro e w3 ⟨g, c3, rfl, hs3, g4⟩
    have g5 := gb_none (gb_alloc (gb_alloc g3 _) _) g4
    have Hs3 := Lib.hid hs3
    clear hs3 Hcon g3 g4
    go_wp2_with fail
    refine (masked_any k 92 _ hK).mono ?_
    rintro e w4 ⟨rfl, g6⟩
    rw [← Ha.out]
    have g7 := gb_none g5 g6
    go_wp2_with fail
    refine (sum_any _ (1 + n) c3 ([b] ++ ss) _ (by omega) Hsm.out (by exact Hs3.out.keep g6) (by exact hT.keep g7 (by simp))).mono ?_
    rintro e w5 ⟨rfl, g8⟩
    rw [sum_text _ (b ++ s) Hcat.out, ← Hd.out]
    have g9 := gb_none g7 g8
    clear g5 g6 g7 g8
    go_wp2_with fail
    refine (sum_any _ 2 2 [a, d] _ (by decide) (two_small _ _ (by omega) (by omega)) (by exact strs_new2 _ _ _ _ rfl) (by exact hT.keep (gb_alloc g9 _) (by simp))).mono ?_
    rintro e w6 ⟨rfl, g10⟩
    rw [sum_text _ (a ++ d) (catB_two _ _), ← Hfin.out]
    go_wp2_with fail
    go_ret
    exact ⟨rfl, gb_none (gb_alloc g9 _) g10⟩
end Go.Proofs.YtalobkggpdniaaaDoor
