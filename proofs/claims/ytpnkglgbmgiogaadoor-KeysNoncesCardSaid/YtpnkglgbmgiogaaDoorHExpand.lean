/- hmac.expanded: so many bytes of the sums side by side. -/
import Derived.Test.YtpnkglgbmgiogaaDoorHBuild
import Derived.IntWalk
import Derived.Outline
namespace Go.Proofs.YtpnkglgbmgiogaaDoor.Hh
open Go.RowKit Wd Mm

theorem new_b (w : World) : (w.alloc (.cells #[.pointer none, .slice none 0 0] 60)).heap[w.heap.size]? = some (.cells #[.pointer none, .slice none 0 0] 60 (0, 0)) := heap_alloc_new w _
/-- What was written, behind k sums. -/
def outL (p info : ByteArray) (n k : Nat) : List UInt8 := (outN p info k).data.toList.take n
theorem outL_len (p info : ByteArray) (n k : Nat) (h : 32 * k ≤ n) : (outL p info n k).length = 32 * k := by
  unfold outL
  rw [List.length_take, len_data, outN_size]; omega
theorem outL_more (p info : ByteArray) (n k m : Nat) (hm : m = min 32 (n - 32 * k)) : outL p info n (k + 1) = outL p info n k ++ ((tN p info (k + 1)).extract 0 m).data.toList := by
  unfold outL
  have hs : (tN p info (k + 1)).size = 32 := by rw [tN, macB_size]
  rw [outN, ByteArray.data_append, Array.toList_append, List.take_append, len_data, outN_size, ByteArray.data_extract, Array.toList_extract]
  congr 1
  subst hm
  simp only [List.extract_eq_take_drop, List.drop_zero, Nat.sub_zero]
  by_cases h1 : n - 32 * k ≤ 32
  · rw [Nat.min_eq_right h1]
  · rw [Nat.min_eq_left (by omega), List.take_of_length_le (by rw [len_data, hs]; omega), List.take_of_length_le (by rw [len_data, hs]; exact Nat.le_refl _)]
theorem text_cells (s : ByteArray) : Lib.strCells s = s.data.toList.map w8 := by simp [Lib.strCells, w8]
theorem byte_cells (l : List UInt8) : Lib.byteCells l = l.map w8 := by simp [Lib.byteCells, w8]
theorem ext_bytes2 (a b : ByteArray) (h : a.data.toList = b.data.toList) : a = b := by
  cases a; cases b
  simp only at h
  congr 1
  exact Array.ext' h
theorem outL_all (p info : ByteArray) (n k : Nat) : (⟨(outL p info n k).toArray⟩ : ByteArray) = (outN p info k).extract 0 n := by
  refine ext_bytes2 _ _ ?_
  rw [ba, ByteArray.data_extract, Array.toList_extract]
  simp [outL, List.extract_eq_take_drop]
theorem gb_more {w a b : World} (h : w.grownBy a none) (k : Below w.heap.size a b) : w.grownBy b none :=
  ⟨k.os.trans h.os, k.tape.trans h.tape, k.output.trans h.output, Nat.le_trans h.size k.size, fun i hi _ => (k.block i hi).trans (h.block i hi (by simp))⟩
theorem builder_kept {T e : TypeId} {B b : Nat} {p : Value} {bs : List Value} {w w' : World} (h : Lib.BuilderAt T e B b p bs w) (hg : w.grownBy w' none) : Lib.BuilderAt T e B b p bs w' := by
  obtain ⟨hB, v, hb, hown, hne⟩ := h
  refine ⟨hB, v, (hg.block b (Array.getElem?_eq_some_iff.1 hb).1 (by simp)).trans hb, hown.kept hg ?_, hne⟩
  by_cases hv : v.ownBlock = none
  · exact .inl hv
  · exact .inr hv
theorem one_text1 (W : World) (k : Nat) (h : k + 1 ≤ 255) : (convert 37 9 (.slice (some ⟨W.heap.size, 0, none⟩) 1 1)).run Tryd.prog (W.alloc (.cells #[.int .u8 ((k : Int) + 1)] 5)) = .ok (.string (oneB (k + 1))) (W.alloc (.cells #[.int .u8 ((k : Int) + 1)] 5)) := by
  have h2 := one_text W (k + 1) h
  have e : ((k + 1 : Nat) : Int) = (k : Int) + 1 := by omega
  rw [e] at h2
  exact h2
theorem outL_zero (p info : ByteArray) (n : Nat) : (outL p info n 0).map w8 = [] := by simp [outL, outN]
theorem small_three (a b c : ByteArray) (h : a.size ≤ 549755813888) (h2 : b.size ≤ 549755813888) (h3 : c.size ≤ 549755813888) : ∀ x ∈ [a, b, c], x.size ≤ 549755813888 := by
  intro x hx
  simp only [List.mem_cons, List.not_mem_nil, or_false] at hx
  rcases hx with rfl | rfl | rfl
  · exact h
  · exact h2
  · exact h3

set_option maxHeartbeats 4000000 in
set_option maxRecDepth 100000 in
theorem expanded_any (p info : ByteArray) (n : Nat) (w : World) (hp : p.size ≤ 32) (hi : info.size ≤ 1048576) (hn : n ≤ 8160) (hT : Tabs w) :
    Calls Tryd.prog 30 #[.string p, .string info, .int .i64 (n : Int)] w fun e w' => e = .returned (.string ((outN p info ((n + 31) / 32)).extract 0 n)) ∧ w.grownBy w' none := by
  have hgr := Tryd.Builder_Grow_fresh w.heap.size w.heap.size n (w.alloc (.cells #[.pointer none, .slice none 0 0] 60)) (Nat.le_refl _) (new_b w) (by simp) (by omega)
  have Hgr := Lib.hid hgr
  clear hgr
  obtain ⟨M, hM⟩ : ∃ M : Nat, M = (n + 31) / 32 := ⟨_, rfl⟩
  have hq : ((n : Int) + 32 - 1) / 32 = (M : Int) := by omega
  have hM2 : M ≤ 255 := by omega
  have HM := Lib.hid hM
  clear hM
  go_enter Tryd.func30, Tryd.ntmps30
  go_wp2_with fail
  refine Hgr.out.mono ?_
  rintro e w1 ⟨rfl, hb1, hbel⟩
  have g1 : w.grownBy w1 none := gb_more (gb_alloc (gb_refl w none) _) hbel
  clear hbel
  go_wp2_with fail
  rw [hq]
  clear hq
  go_loopw [16, 8] (fun i last wr => ∃ k : Nat, k ≤ M ∧ i = .int .i64 k ∧ last = .string (tN p info k) ∧ Lib.BuilderAt 60 5 w.heap.size w.heap.size (.pointer (some ⟨w.heap.size, 0, none⟩)) ((outL p info n k).map w8) wr ∧ w.grownBy wr none) (fun i _ _ => M - (intOf i).toNat)
  case atStart => exact ⟨0, Nat.zero_le _, rfl, rfl, by rw [outL_zero]; exact hb1, g1⟩
  case round =>
    clear hb1 g1
    obtain ⟨k, hk, rfl, rfl, hb, hg⟩ := hrel
    by_cases hlt : k < M
    · have d1 : decide (k < M) = true := decide_eq_true hlt
      have d2 : decide ((k : Int) < (M : Int)) = true := decide_eq_true (by omega)
      have hkn : 32 * k < n := by have := HM.out; omega
      have hconv := one_text1 wr k (by omega)
      obtain ⟨t, Ht⟩ : ∃ t, Hid (t = tN p info k) := ⟨_, rfl⟩
      obtain ⟨b1, Hb1⟩ : ∃ b, Hid (b = oneB (k + 1)) := ⟨_, rfl⟩
      have hts : t.size ≤ 32 := by rw [Ht.out]; exact tN_size p info k
      have hbs : b1.size ≤ 1 := by rw [Hb1.out]; exact Nat.le_refl _
      rw [← Ht.out]
      rw [← Hb1.out] at hconv
      obtain ⟨T, HTT⟩ : ∃ T, Hid (T = tN p info (k + 1)) := ⟨_, rfl⟩
      have Hmac : Hid (macB p (t ++ info ++ b1) = T) := by show _ = _; rw [HTT.out, Ht.out, Hb1.out]; rfl
      have hT32 : T.size = 32 := by rw [HTT.out, tN, macB_size]
      have HT32 := Lib.hid hT32
      have Hb := Lib.hid hb
      have hki : (k : Int) < 255 := by omega
      have hs3 : Strs ((wr.alloc (.cells #[.int .u8 ((k : Int) + 1)] 5)).alloc (.cells #[.string t, .string info, .string b1] 9)) (some ⟨wr.heap.size + 1, 0, none⟩) 3 [t, info, b1] :=
        (show (wr.alloc (.cells #[.int .u8 ((k : Int) + 1)] 5)).heap.size = wr.heap.size + 1 by simp) ▸ strs_new3 (wr.alloc (.cells #[.int .u8 ((k : Int) + 1)] 5)) t info b1 _ rfl
      have Hs3 := Lib.hid hs3
      clear hT32 hb hs3
      go_wp2_with fail
      refine (mac_any p (t ++ info ++ b1) _ 3 3 [t, info, b1] _ (by omega) (by exact Hs3.out) (catB_three _ _ _) (by decide) (fun h => by cases h) (small_three _ _ _ (by omega) (by omega) (by omega)) (by exact hT.keep (gb_alloc (gb_alloc hg _) _) (by simp))).mono ?_
      rintro e w2 ⟨rfl, g2⟩
      rw [Hmac.out]
      have g3 := gb_none (gb_alloc (gb_alloc hg _) _) g2
      have hb3 := builder_kept Hb.out (gb_none (gb_alloc (gb_alloc (gb_refl wr none) _) _) g2)
      clear hconv g2
      go_wp2_with fail
      refine (Tryd.Builder_Len w.heap.size w.heap.size _ _ (.inr hb3)).mono ?_
      rintro e w3 ⟨rfl, rfl⟩
      rw [List.length_map, outL_len p info n k (by omega)]
      have hT3 : (T.size : Int) = 32 := by have := HT32.out; omega
      go_wp2_with fail
      obtain ⟨m, hm⟩ : ∃ m : Nat, m = (min 32 ((n : Int) - 32 * (k : Int))).toNat := ⟨_, rfl⟩
      have hm2 : m = min 32 (n - 32 * k) := by omega
      have hlen : ((outL p info n k).map w8).length + (T.extract 0 m).size ≤ 140737488355328 := by
        rw [List.length_map, outL_len p info n k (by omega), ByteArray.size_extract]; omega
      have hwr := write_any w.heap.size w.heap.size _ (T.extract 0 m) _ hb3 hlen g3.size
      rw [← hm]
      refine hwr.mono ?_
      rintro e w4 ⟨rfl, hb4, hbel⟩
      have g4 := gb_more g3 hbel
      rw [text_cells, ← List.map_append, HTT.out, ← outL_more p info n k m hm2] at hb4
      clear hwr hb3 hlen g3 hbel hm hm2 hT3
      go_wp2_with fail
      go_roundw
      case rel => exact ⟨k + 1, by omega, by go_num, by rw [HTT.out], hb4, g4⟩
      case measure => simp [intOf]; omega
    · have hkM : k = M := by omega
      have d1 : decide (k < M) = false := decide_eq_false hlt
      have d2 : decide ((k : Int) < (M : Int)) = false := decide_eq_false (by omega)
      have Hk := Lib.hid hkM
      have hst := Tryd.Builder_String_any w.heap.size w.heap.size (outL p info n k) wr (.inr (by rw [byte_cells]; exact hb)) hg.size
      have Hst := Lib.hid hst
      clear hkM hlt hk hst
      go_wp2_with fail
      refine Hst.out.mono ?_
      rintro e w2 ⟨rfl, hbel⟩
      rw [outL_all, Hk.out, HM.out]
      go_wp2_with fail
      go_ret
      exact ⟨rfl, gb_more hg hbel⟩
end Go.Proofs.YtpnkglgbmgiogaaDoor.Hh
