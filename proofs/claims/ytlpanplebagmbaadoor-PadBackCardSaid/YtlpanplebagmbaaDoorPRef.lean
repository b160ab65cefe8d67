/- The document's Bucket, Pad, Unpad. -/
import Derived.Test.YtlpanplebagmbaaDoorPUnpad
import Derived.Test.YtlpanplebagmbaaDoorPRow
import Derived.Test.YtlpanplebagmbaaDoorSetC
namespace Go.Proofs.YtlpanplebagmbaaDoor
open Go.RowKit Wd Mm

theorem bk_is (n : Int) (K : Nat) (h : (n < 0 → K = 0) ∧ (0 ≤ n → n < 64 → K = 64) ∧ (64 ≤ n → n < 256 → K = 256) ∧ (256 ≤ n → n < 1024 → K = 1024) ∧ (1024 ≤ n → n < 4096 → K = 4096) ∧ (4096 ≤ n → n < 16384 → K = 16384) ∧ (16384 ≤ n → K = 0)) : bk n = K := by
  unfold bk; split <;> (try split) <;> (try split) <;> (try split) <;> (try split) <;> (try split) <;> omega
set_option maxHeartbeats 2000000 in
set_option maxRecDepth 100000 in
theorem refBucket_any (n : Int) (w : World) (h1 : -9223372036854775808 ≤ n) (h2 : n ≤ 9223372036854775807) : Calls Tryd.prog 12 #[.int .i64 n] w fun e w' => e = .returned (.int .i64 (bk n : Int)) ∧ w.grownBy w' none := by
  obtain ⟨K, HK⟩ : ∃ K : Nat, Hid (bk n = K) := ⟨_, rfl⟩
  rw [HK.out]
  have HG := Lib.hid (gb_alloc (gb_refl w none) (.cells #[.int .i64 64, .int .i64 256, .int .i64 1024, .int .i64 4096, .int .i64 16384] 3))
  go_enter Tryd.func12, Tryd.ntmps12
  go_wp2_with fail
  go_loop [4] (fun i => ∃ j : Nat, j ≤ 5 ∧ i = .int .i64 j ∧ (1 ≤ j → 64 ≤ n) ∧ (2 ≤ j → 256 ≤ n) ∧ (3 ≤ j → 1024 ≤ n) ∧ (4 ≤ j → 4096 ≤ n) ∧ (5 ≤ j → 16384 ≤ n)) (fun i => 5 - (intOf i).toNat)
  case atStart => exact ⟨0, Nat.zero_le _, rfl, by omega, by omega, by omega, by omega, by omega⟩
  case round =>
    obtain ⟨j, hj, rfl, q1, q2, q3, q4, q5⟩ := hrel
    rcases (by omega : j = 0 ∨ j = 1 ∨ j = 2 ∨ j = 3 ∨ j = 4 ∨ j = 5) with rfl | rfl | rfl | rfl | rfl | rfl
    · by_cases hn : 0 ≤ n
      · have d0 : decide (0 ≤ n) = true := decide_eq_true hn
        by_cases hl : n < 64
        · have d1 : decide (n < 64) = true := decide_eq_true hl
          have hb : K = 64 := by rw [← HK.out]; exact bk_is _ _ (by omega)
          subst hb
          clear q1 q2 q3 q4 q5 hn hl
          go_wp2_with fail
          go_ret
          exact ⟨rfl, HG.out⟩
        · have d1 : decide (n < 64) = false := decide_eq_false hl
          have Hq := Lib.hid (by omega : 64 ≤ n)
          clear q1 q2 q3 q4 q5 hn hl
          go_wp2_with fail
          go_round
          case rel => exact ⟨1, by omega, rfl, by have := Hq.out; omega, by have := Hq.out; omega, by have := Hq.out; omega, by have := Hq.out; omega, by have := Hq.out; omega⟩
          case measure => simp [intOf]
      · have d0 : decide (0 ≤ n) = false := decide_eq_false hn
        have hb : K = 0 := by rw [← HK.out]; exact bk_is _ _ (by omega)
        subst hb
        clear q1 q2 q3 q4 q5 hn
        go_wp2_with fail
        go_ret
        exact ⟨rfl, HG.out⟩
    · by_cases hn : 0 ≤ n
      · have d0 : decide (0 ≤ n) = true := decide_eq_true hn
        by_cases hl : n < 256
        · have d1 : decide (n < 256) = true := decide_eq_true hl
          have hb : K = 256 := by rw [← HK.out]; exact bk_is _ _ (by omega)
          subst hb
          clear q1 q2 q3 q4 q5 hn hl
          go_wp2_with fail
          go_ret
          exact ⟨rfl, HG.out⟩
        · have d1 : decide (n < 256) = false := decide_eq_false hl
          have Hq := Lib.hid (by omega : 256 ≤ n)
          clear q1 q2 q3 q4 q5 hn hl
          go_wp2_with fail
          go_round
          case rel => exact ⟨2, by omega, rfl, by have := Hq.out; omega, by have := Hq.out; omega, by have := Hq.out; omega, by have := Hq.out; omega, by have := Hq.out; omega⟩
          case measure => simp [intOf]
      · have d0 : decide (0 ≤ n) = false := decide_eq_false hn
        have hb : K = 0 := by rw [← HK.out]; exact bk_is _ _ (by omega)
        subst hb
        clear q1 q2 q3 q4 q5 hn
        go_wp2_with fail
        go_ret
        exact ⟨rfl, HG.out⟩
    · by_cases hn : 0 ≤ n
      · have d0 : decide (0 ≤ n) = true := decide_eq_true hn
        by_cases hl : n < 1024
        · have d1 : decide (n < 1024) = true := decide_eq_true hl
          have hb : K = 1024 := by rw [← HK.out]; exact bk_is _ _ (by omega)
          subst hb
          clear q1 q2 q3 q4 q5 hn hl
          go_wp2_with fail
          go_ret
          exact ⟨rfl, HG.out⟩
        · have d1 : decide (n < 1024) = false := decide_eq_false hl
          have Hq := Lib.hid (by omega : 1024 ≤ n)
          clear q1 q2 q3 q4 q5 hn hl
          go_wp2_with fail
          go_round
          case rel => exact ⟨3, by omega, rfl, by have := Hq.out; omega, by have := Hq.out; omega, by have := Hq.out; omega, by have := Hq.out; omega, by have := Hq.out; omega⟩
          case measure => simp [intOf]
      · have d0 : decide (0 ≤ n) = false := decide_eq_false hn
        have hb : K = 0 := by rw [← HK.out]; exact bk_is _ _ (by omega)
        subst hb
        clear q1 q2 q3 q4 q5 hn
        go_wp2_with fail
        go_ret
        exact ⟨rfl, HG.out⟩
    · by_cases hn : 0 ≤ n
      · have d0 : decide (0 ≤ n) = true := decide_eq_true hn
        by_cases hl : n < 4096
        · have d1 : decide (n < 4096) = true := decide_eq_true hl
          have hb : K = 4096 := by rw [← HK.out]; exact bk_is _ _ (by omega)
          subst hb
          clear q1 q2 q3 q4 q5 hn hl
          go_wp2_with fail
          go_ret
          exact ⟨rfl, HG.out⟩
        · have d1 : decide (n < 4096) = false := decide_eq_false hl
          have Hq := Lib.hid (by omega : 4096 ≤ n)
          clear q1 q2 q3 q4 q5 hn hl
          go_wp2_with fail
          go_round
          case rel => exact ⟨4, by omega, rfl, by have := Hq.out; omega, by have := Hq.out; omega, by have := Hq.out; omega, by have := Hq.out; omega, by have := Hq.out; omega⟩
          case measure => simp [intOf]
      · have d0 : decide (0 ≤ n) = false := decide_eq_false hn
        have hb : K = 0 := by rw [← HK.out]; exact bk_is _ _ (by omega)
        subst hb
        clear q1 q2 q3 q4 q5 hn
        go_wp2_with fail
        go_ret
        exact ⟨rfl, HG.out⟩
    · by_cases hn : 0 ≤ n
      · have d0 : decide (0 ≤ n) = true := decide_eq_true hn
        by_cases hl : n < 16384
        · have d1 : decide (n < 16384) = true := decide_eq_true hl
          have hb : K = 16384 := by rw [← HK.out]; exact bk_is _ _ (by omega)
          subst hb
          clear q1 q2 q3 q4 q5 hn hl
          go_wp2_with fail
          go_ret
          exact ⟨rfl, HG.out⟩
        · have d1 : decide (n < 16384) = false := decide_eq_false hl
          have Hq := Lib.hid (by omega : 16384 ≤ n)
          clear q1 q2 q3 q4 q5 hn hl
          go_wp2_with fail
          go_round
          case rel => exact ⟨5, by omega, rfl, by have := Hq.out; omega, by have := Hq.out; omega, by have := Hq.out; omega, by have := Hq.out; omega, by have := Hq.out; omega⟩
          case measure => simp [intOf]
      · have d0 : decide (0 ≤ n) = false := decide_eq_false hn
        have hb : K = 0 := by rw [← HK.out]; exact bk_is _ _ (by omega)
        subst hb
        clear q1 q2 q3 q4 q5 hn
        go_wp2_with fail
        go_ret
        exact ⟨rfl, HG.out⟩
    · have hb : K = 0 := by rw [← HK.out]; exact bk_is _ _ (by omega)
      subst hb
      clear q1 q2 q3 q4 q5
      go_wp2_with fail
      go_ret
      exact ⟨rfl, HG.out⟩

theorem byte_one_size (w : World) : (Go.sizeOf 5).run Tryd.prog w = .ok 1 w := by kernel_rfl
theorem zc_at (K i : Nat) (h : i < K) : (zc K)[i]? = some (.int .u8 0) := by simp [zc, zl, h, w8]
theorem len_data (s : ByteArray) : s.data.toList.length = s.size := by simp
/-- The text laid over noughts; the mark behind it. -/
theorem put_text (l : List UInt8) (K : Nat) (h : bk l.length = K) (h0 : K ≠ 0) : (put (zc K) 0 (fun i => (l.map w8).getD i undef) l.length).setIfInBounds l.length (.int .u8 128) = ((padL l).map w8).toArray := by
  have hl := padL_len l (by omega)
  have ha := (bk_above _ (show bk l.length ≠ 0 by omega)).1
  have hz : (zc K).size = K := by simp [zc, zl]
  apply Array.ext_getElem?
  intro i
  rw [Array.getElem?_setIfInBounds, put_size, put_get, hz]
  by_cases e : l.length = i
  · subst e
    rw [if_pos rfl, if_pos (by omega)]
    simp [padL, w8]
  · rw [if_neg e]
    by_cases hi : i < l.length
    · rw [if_pos (by omega)]
      simp [padL, hi, List.getElem?_append_left]
    · rw [if_neg (by omega)]
      by_cases hk : i < K
      · have e2 : (padL l)[i]? = some 0 := by
          unfold padL
          rw [List.getElem?_append_right (by omega)]
          obtain ⟨j, hj⟩ : ∃ j, i - l.length = j + 1 := ⟨i - l.length - 1, by omega⟩
          rw [hj, List.getElem?_cons_succ, List.getElem?_replicate, if_pos (by omega)]
        have e3 : (List.map w8 (padL l)).toArray[i]? = some (w8 0) := by
          rw [List.getElem?_toArray, List.getElem?_map, e2]; rfl
        rw [e3]
        simp [zc, zl, hk]
      · rw [Array.getElem?_eq_none (by omega), Array.getElem?_eq_none (by simp; omega)]
theorem copy_over (s : ByteArray) (K g : Nat) (W : World) (hK : s.size ≤ K) (h : Row W g 5 (zc K)) (ty : TypeId) :
    (Builtin.copy_ #[32, 9] ty #[.slice (some ⟨g, 0, none⟩) K K, .string s]).run Tryd.prog W = .ok (.int .i64 (s.size : Int)) (W.setCells g 0 (s.data.toList.map w8)) := by
  have hz : (zc K).size = K := by simp [zc, zl]
  have := run_copy_min W 32 9 ty 5 g 0 K K s.size s Tryd.underlying32 byte_one_size (Nat.min_eq_left hK) (fun j hj => by rw [Nat.zero_add, h.get, Array.getElem?_eq_getElem (by omega)]; rfl) (fun j _ => h.free _)
  rw [List.take_of_length_le (by rw [List.length_map, len_data]; exact Nat.le_refl _)] at this
  exact this
theorem copied_row (s : ByteArray) (K g : Nat) (W : World) (h : Row W g 5 (zc K)) : Row (W.setCells g 0 (s.data.toList.map w8)) g 5 (put (zc K) 0 (fun i => (s.data.toList.map w8).getD i undef) s.size) := by
  have := row_setCells (s.data.toList.map w8) 0 _ _ h
  rw [List.length_map, len_data] at this
  exact this
theorem row_text {w : World} {g : Nat} {t : TypeId} {l : List UInt8} {n : Nat} (h : Row w g t (l.map w8).toArray) (hn : l.length = n) (c : Nat) : (convert 32 9 (.slice (some ⟨g, 0, none⟩) n c)).run Tryd.prog w = .ok (.string ⟨l.toArray⟩) w := by
  subst hn
  exact run_convert_bytes_back (P := Tryd.prog) w 32 9 5 ⟨g, 0, none⟩ c l Tryd.underlying32 Tryd.underlying5 Tryd.underlying9 (row_bytes h)

set_option maxHeartbeats 2000000 in
set_option maxRecDepth 100000 in
theorem refPad_some (s : ByteArray) (w : World) (h : bk s.size ≠ 0) : Calls Tryd.prog 9 #[.string s] w fun e w' => e = .returned (.agg #[.string (padB s), .bool true]) ∧ w.grownBy w' none := by
  have hab := bk_above _ h
  have hle := bk_le s.size
  have Hb := Lib.hid (fun W => refBucket_any s.size W (by omega) (by omega))
  obtain ⟨K, HK⟩ : ∃ K, Hid (bk s.size = K) := ⟨_, rfl⟩
  rw [HK.out] at h hab hle Hb
  have t0 : ((K : Int) == 0) = false := by simp; omega
  have hmk := fun W => make_zero K K rfl (by omega) W
  have hsK : s.size ≤ K := by omega
  have HsK := Lib.hid hsK
  have hlt : (s.size : Int) < (K : Int) := by omega
  clear hab hle hsK
  have HR0 := Lib.hid (Row.new w 26 #[.string ⟨#[]⟩, .bool false])
  have HG0 := Lib.hid (gb_alloc (gb_refl w none) (.cells #[.string ⟨#[]⟩, .bool false] 26))
  go_enter Tryd.func9, Tryd.ntmps9
  go_wp2_with fail
  refine (Hb.out _).mono ?_
  rintro e w1 ⟨rfl, g1⟩
  have HR1 := Lib.hid (HR0.out.kept g1 (by simp))
  have HG1 := Lib.hid (gb_none HG0.out g1)
  have hlt1 := HR1.out.lt
  have hcp := fun ty => copy_over s K w1.heap.size _ HsK.out (Row.new w1 5 (zc K)) ty
  have hr2 := copied_row s K w1.heap.size _ (Row.new w1 5 (zc K))
  have hf2 := hr2.free s.size
  have hc2 := hr2.at_ (i := s.size) (v := .int .u8 0) (by
    rw [put_get, if_neg (by omega)]
    exact zc_at K s.size (by omega))
  have hr3 := hr2.set_ s.size (.int .u8 128)
  have e3 := put_text s.data.toList K (by rw [len_data]; exact HK.out) (by omega)
  rw [len_data] at e3
  rw [e3] at hr3
  have hcv := row_text hr3 (n := K) (by rw [padL_len _ (by rw [len_data, HK.out]; omega), len_data, HK.out]) K
  have hb3 : Row (((w1.alloc (.cells (zc K) 5)).setCells w1.heap.size 0 (s.data.toList.map w8)).setCell ⟨w1.heap.size, s.size, none⟩ (.int .u8 128)) w.heap.size 26 #[.string ⟨#[]⟩, .bool false] :=
    ((HR1.out.alloc (.cells (zc K) 5)).kept (gb_setCells _ _ _ _) (by simp; omega)).far (by simp; omega) _
  have hg3 : w.grownBy (((w1.alloc (.cells (zc K) 5)).setCells w1.heap.size 0 (s.data.toList.map w8)).setCell ⟨w1.heap.size, s.size, none⟩ (.int .u8 128)) none :=
    gb_new (gb_new (gb_alloc HG1.out _) (gb_setCells _ _ _ _) HG1.out.size) (gb_set1 _ _ _ _) HG1.out.size
  have hb3c0 := hb3.at_ (i := 0) rfl
  have hb3c1 := hb3.at_ (i := 1) rfl
  have hb3f0 := hb3.free 0
  have hb3f1 := hb3.free 1
  have HG3 := Lib.hid hg3
  have HB3 := Lib.hid hb3
  clear g1 hg3 hb3 hr2 hr3 e3 hlt1
  go_wp2_with fail
  have HB4 := (HB3.out.set_ 0 (.string (padB s))).set_ 1 (.bool true)
  have q0 := HB4.at_ (i := 0) rfl
  have q1 := HB4.at_ (i := 1) rfl
  unfold padB at q0 q1
  refine bodyPost_ret (v := .agg #[.string (padB s), .bool true]) (by simp [results, Tryd.results9, go_sem, q0, q1, padB]) rfl ?_
  exact ⟨rfl, gb_new (gb_new HG3.out (gb_set1 _ _ _ _) (Nat.le_refl _)) (gb_set1 _ _ _ _) (Nat.le_refl _)⟩

set_option maxHeartbeats 2000000 in
set_option maxRecDepth 100000 in
theorem refPad_none (s : ByteArray) (w : World) (h : bk s.size = 0) (hs : s.size ≤ 9223372036854775807) : Calls Tryd.prog 9 #[.string s] w fun e w' => e = .returned (.agg #[.string ⟨#[]⟩, .bool false]) ∧ w.grownBy w' none := by
  have Hb := Lib.hid (fun W => refBucket_any s.size W (by omega) (by omega))
  rw [h] at Hb
  clear h
  have HR0 := Lib.hid (Row.new w 26 #[.string ⟨#[]⟩, .bool false])
  have HG0 := Lib.hid (gb_alloc (gb_refl w none) (.cells #[.string ⟨#[]⟩, .bool false] 26))
  go_enter Tryd.func9, Tryd.ntmps9
  go_wp2_with fail
  refine (Hb.out _).mono ?_
  rintro e w1 ⟨rfl, g1⟩
  have hr := HR0.out.kept g1 (by simp)
  have HR1 := Lib.hid hr
  have HG1 := Lib.hid (gb_none HG0.out g1)
  have c0 := hr.at_ (i := 0) rfl
  have c1 := hr.at_ (i := 1) rfl
  have f0 := hr.free 0
  have f1 := hr.free 1
  clear g1 hr
  go_wp2_with fail
  have HB4 := (HR1.out.set_ 0 (.string ⟨#[]⟩)).set_ 1 (.bool false)
  have q0 := HB4.at_ (i := 0) rfl
  have q1 := HB4.at_ (i := 1) rfl
  refine bodyPost_ret (v := .agg #[.string ⟨#[]⟩, .bool false]) (by simp [results, Tryd.results9, go_sem, q0, q1]) rfl ?_
  exact ⟨rfl, gb_new (gb_new HG1.out (gb_set1 _ _ _ _) (Nat.le_refl _)) (gb_set1 _ _ _ _) (Nat.le_refl _)⟩
end Go.Proofs.YtlpanplebagmbaaDoor
