/- box.tagOf and the document's tag. -/
import Derived.Test.YthdealjnhgkoiaaDoorHm
import Derived.Test.YthdealjnhgkoiaaDoorBxCount
import Derived.Test.YthdealjnhgkoiaaDoorBxXored
import Derived.Test.YthdealjnhgkoiaaDoorTold
namespace Go.Proofs.YthdealjnhgkoiaaDoor.Bx
open Go.RowKit Wd Mm Td

theorem strs_new4 (w : World) (p q r s : ByteArray) (o : Obj) (ho : o = .cells #[.string p, .string q, .string r, .string s] 9 (0, 0)) : Strs (w.alloc o) (some ⟨w.heap.size, 0, none⟩) 4 [p, q, r, s] := by
  subst ho
  refine ⟨rfl, fun _ => ⟨w.heap.size, 0, rfl, by simp, fun i hi => ?_⟩⟩
  have h : i = 0 ∨ i = 1 ∨ i = 2 ∨ i = 3 := by omega
  rcases h with rfl | rfl | rfl | rfl
  · exact cell_of_row _ _ 0 #[.string p, .string q, .string r, .string s] 9 (0, 0) (heap_alloc_new _ _)
  · exact cell_of_row _ _ 1 #[.string p, .string q, .string r, .string s] 9 (0, 0) (heap_alloc_new _ _)
  · exact cell_of_row _ _ 2 #[.string p, .string q, .string r, .string s] 9 (0, 0) (heap_alloc_new _ _)
  · exact cell_of_row _ _ 3 #[.string p, .string q, .string r, .string s] 9 (0, 0) (heap_alloc_new _ _)
theorem catB_four (p q r s : ByteArray) : catB [p, q, r, s] = (p ++ q ++ r ++ s).data.toList := by
  simp [catB, ByteArray.data_append]

def cntB (N : Nat) : ByteArray := ⟨(beBytes N 8).toArray⟩
theorem cntB_size (N : Nat) : (cntB N).size = 8 := by rw [← len_data]; unfold cntB; rw [ba]; exact beBytes_len _ _
/-- What the tag is over; the tag. -/
def overB (nonce ad c : ByteArray) : ByteArray := cntB ad.size ++ ad ++ nonce ++ c
def tagB (key nonce ad c : ByteArray) : ByteArray := (macB (key.extract 32 key.size) (overB nonce ad c)).extract 0 16
theorem tagB_size (key nonce ad c : ByteArray) : (tagB key nonce ad c).size = 16 := by
  unfold tagB
  rw [ByteArray.size_extract, macB_size]; rfl

attribute [local go_sem] Td.upon_value Td.upon_skip Td.upon_enter Td.upon_row Td.look_tmp Td.look_const Td.look_func Td.look_global
set_option maxHeartbeats 4000000 in
set_option maxRecDepth 100000 in
theorem tag_any (key nonce ad c : ByteArray) (w : World) (hk : key.size = 64) (hn : nonce.size ≤ 549755813888) (ha : ad.size ≤ 549755813888) (hc : c.size ≤ 549755813888) (hT : Tabs w) :
    Calls Tryd.prog 21 #[.string key, .string nonce, .string ad, .string c] w fun e w' => e = .returned (.string (tagB key nonce ad c)) ∧ w.grownBy w' none := by
  have k1 : (32 : Int) ≤ (key.size : Int) := by omega
  have k2 : 32 ≤ key.size := by omega
  have hks : (key.extract 32 key.size).size ≤ 549755813888 := by rw [ByteArray.size_extract]; omega
  obtain ⟨K, HK⟩ : ∃ K, Hid (macB (key.extract 32 key.size) (overB nonce ad c) = K) := ⟨_, rfl⟩
  have hKs : K.size = 32 := by rw [← HK.out]; exact macB_size _ _
  have h16 : (16 : Int) ≤ (K.size : Int) := by omega
  have h16n : 16 ≤ K.size := by omega
  have hsm : ∀ x ∈ [cntB ad.size, ad, nonce, c], x.size ≤ 549755813888 := by
    intro x hx
    simp only [List.mem_cons, List.not_mem_nil, or_false] at hx
    rcases hx with rfl | rfl | rfl | rfl
    · rw [cntB_size]; decide
    · exact ha
    · exact hn
    · exact hc
  have Hfin : Hid (tagB key nonce ad c = K.extract 0 16) := by show _ = _; rw [← HK.out]; rfl
  have hN : ad.size ≤ 9223372036854775807 := by omega
  have Hsm := Lib.hid hsm
  have Hks := Lib.hid hks
  have HN := Lib.hid hN
  clear hk hn ha hc hKs hsm hks hN
  go_enter Tryd.func21, Tryd.ntmps21
  go_wp2_with fail
  -- told tagOf
  apply wp_region_told (le := fun a b => a.grownBy b none) [isV _, isV _, isV _, isV _, isV _, isV _, isV _, isV _, strsV 4 [cntB ad.size, ad, nonce, c], isV _, isV _, isV _]
  case hn => rfl
  case hm => kernel_rfl
  case hB => kernel_rfl
  case ht => exact fun _ _ _ h k => gb_none h k
  case hw => exact gb_drew (gb_refl _ _)
  -- 0: box.go:78 move
  apply told_is
  · intro W f hW hE h0 K hK
    have e0 := h0 0 (by kernel_rfl)
    conv at e0 => rhs; whnf
    clear hE h0
    refine yes_of (want_free rfl) ?_
    go_simp; exact hK _ _ (gb_refl _ _) rfl
  -- 1: box.go:78 slice
  apply told_is
  · intro W f hW hE h0 K hK
    have e9 : f 9 = _ := hE 0 9 _ rfl (by kernel_rfl)
    clear hE h0
    refine yes_of (want_free rfl) ?_
    go_simp; exact hK _ _ (gb_refl _ _) rfl
  -- 2: box.go:78 move
  apply told_is
  · intro W f hW hE h0 K hK
    have e2 := h0 2 (by kernel_rfl)
    conv at e2 => rhs; whnf
    clear hE h0
    refine yes_of (want_free rfl) ?_
    go_simp; exact hK _ _ (gb_refl _ _) rfl
  -- 3: box.go:78 call
  apply told_is
  · intro W f hW hE h0 K hK
    have e11 : f 11 = _ := hE 0 11 _ rfl (by kernel_rfl)
    clear hE h0
    refine yes_of (want_free rfl) ?_
    go_simp; exact hK _ _ (gb_refl _ _) rfl
  -- 4: box.go:78 call
  apply told_is
  · intro W f hW hE h0 K hK
    have e12 : f 12 = _ := hE 0 12 _ rfl (by kernel_rfl)
    clear hE h0
    refine yes_of (want_free rfl) ?_
    go_simp
    refine (count_any ad.size _ HN.out).mono ?_
    rintro e w1 ⟨rfl, g⟩
    exact ⟨_, rfl, hK _ _ g rfl⟩
  -- 5: box.go:78 move
  apply told_is
  · intro W f hW hE h0 K hK
    have e2 := h0 2 (by kernel_rfl)
    conv at e2 => rhs; whnf
    clear hE h0
    refine yes_of (want_free rfl) ?_
    go_simp; exact hK _ _ (gb_refl _ _) rfl
  -- 6: box.go:78 move
  apply told_is
  · intro W f hW hE h0 K hK
    have e1 := h0 1 (by kernel_rfl)
    conv at e1 => rhs; whnf
    clear hE h0
    refine yes_of (want_free rfl) ?_
    go_simp; exact hK _ _ (gb_refl _ _) rfl
  -- 7: box.go:78 move
  apply told_is
  · intro W f hW hE h0 K hK
    have e3 := h0 3 (by kernel_rfl)
    conv at e3 => rhs; whnf
    clear hE h0
    refine yes_of (want_free rfl) ?_
    go_simp; exact hK _ _ (gb_refl _ _) rfl
  -- 8: box.go:78 buildSlice
  apply told_at strs_stays
  · intro W f hW hE h0 K hK
    have e13 : f 13 = _ := hE 3 13 _ rfl (by kernel_rfl)
    have e14 : f 14 = _ := hE 2 14 _ rfl (by kernel_rfl)
    have e15 : f 15 = _ := hE 1 15 _ rfl (by kernel_rfl)
    have e16 : f 16 = _ := hE 0 16 _ rfl (by kernel_rfl)
    clear hE h0
    refine yes_of (want_free rfl) ?_
    go_simp
    exact hK _ _ (gb_alloc (gb_refl _ _) _) ⟨_, _, rfl, strs_new4 _ _ _ _ _ _ rfl⟩
  -- 9: box.go:78 call
  apply told_is
  · intro W f hW hE h0 K hK
    have e10 : f 10 = _ := hE 7 10 _ rfl (by kernel_rfl)
    have e17 := hE 0 17 _ rfl (by kernel_rfl)
    clear hE h0
    refine yes_of (want_free rfl) ?_
    obtain ⟨A, cp, ev, hs⟩ := e17
    go_simp
    refine (mac_any _ (overB nonce ad c) _ 4 _ [cntB ad.size, ad, nonce, c] _ Hks.out hs (catB_four _ _ _ _) (by decide) (fun h => by cases h) Hsm.out (hT.keep hW (by simp))).mono ?_
    rintro e w1 ⟨rfl, g⟩
    rw [HK.out]
    exact ⟨_, rfl, hK _ _ g rfl⟩
  -- 10: box.go:78 slice
  apply told_is
  · intro W f hW hE h0 K hK
    have e18 : f 18 = _ := hE 0 18 _ rfl (by kernel_rfl)
    clear hE h0
    refine yes_of (want_free rfl) ?_
    go_simp; exact hK _ _ (gb_refl _ _) rfl
  -- 11: box.go:78 assign
  apply told_is
  · intro W f hW hE h0 K hK
    have e19 : f 19 = _ := hE 0 19 _ rfl (by kernel_rfl)
    clear hE h0
    refine yes_of (want_free rfl) ?_
    go_simp; exact hK _ _ (gb_refl _ _) rfl
  intro W f hW hA
  simp only [lexIn, Act.put, List.setIfInBounds_toArray, List.set_cons_zero, List.set_cons_succ]
  have e8 : f 8 = _ := hA 0 (some 8) _ rfl
  rw [e8]
  clear hA
  -- end tagOf
  go_wp2_with fail
  go_ret
  exact ⟨by rw [Hfin.out]; rfl, hW⟩
end Go.Proofs.YthdealjnhgkoiaaDoor.Bx
