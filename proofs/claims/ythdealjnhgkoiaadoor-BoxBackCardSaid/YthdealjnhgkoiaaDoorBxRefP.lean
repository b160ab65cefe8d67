/- The document's Open. -/
import Derived.Test.YthdealjnhgkoiaaDoorBxRefO
import Derived.IntWalk
import Derived.RegionTactic
namespace Go.Proofs.YthdealjnhgkoiaaDoor.Bx
open Go.RowKit Wd Mm Td

/-- What the document's Open answers. -/
def OpenedR (r : Option ByteArray) (w : World) (e : Ending) (w' : World) : Prop := e = .returned (.agg #[.string (r.getD ⟨#[]⟩), .bool r.isSome]) ∧ w.grownBy w' none
set_option maxHeartbeats 4000000 in
set_option maxRecDepth 100000 in
theorem refOpen_key (key nonce ad s : ByteArray) (w : World) (h : key.size ≠ 64) :
    Calls Tryd.prog 11 #[.string key, .string nonce, .string ad, .string s] w (OpenedR none w) := by
  have t1 : ((key.size : Int) != 64) = true := by rw [bne_iff_ne]; omega
  clear h
  have HG0 := Lib.hid (gb_alloc (gb_refl w none) (.cells #[.string ⟨#[]⟩, .bool false] 26))
  go_enter Tryd.func11, Tryd.ntmps11
  go_wp2_with fail
  go_region
  go_wp2_with fail
  refine bodyPost_ret (v := .agg #[.string ⟨#[]⟩, .bool false]) (by simp [results, Tryd.results11, go_sem]) rfl ?_
  exact ⟨rfl, gb_drew HG0.out⟩
set_option maxHeartbeats 4000000 in
set_option maxRecDepth 100000 in
theorem refOpen_nonce (key nonce ad s : ByteArray) (w : World) (hk : key.size = 64) (h : nonce.size ≠ 12) :
    Calls Tryd.prog 11 #[.string key, .string nonce, .string ad, .string s] w (OpenedR none w) := by
  have t1 : ((key.size : Int) != 64) = false := by rw [hk]; rfl
  have t2 : ((nonce.size : Int) != 12) = true := by rw [bne_iff_ne]; omega
  clear hk h
  have HG0 := Lib.hid (gb_alloc (gb_refl w none) (.cells #[.string ⟨#[]⟩, .bool false] 26))
  go_enter Tryd.func11, Tryd.ntmps11
  go_wp2_with fail
  go_region
  go_wp2_with fail
  refine bodyPost_ret (v := .agg #[.string ⟨#[]⟩, .bool false]) (by simp [results, Tryd.results11, go_sem]) rfl ?_
  exact ⟨rfl, gb_drew HG0.out⟩
set_option maxHeartbeats 4000000 in
set_option maxRecDepth 100000 in
theorem refOpen_short (key nonce ad s : ByteArray) (w : World) (hk : key.size = 64) (hn : nonce.size = 12) (h : s.size < 16) :
    Calls Tryd.prog 11 #[.string key, .string nonce, .string ad, .string s] w (OpenedR none w) := by
  have t1 : ((key.size : Int) != 64) = false := by rw [hk]; rfl
  have t2 : ((nonce.size : Int) != 12) = false := by rw [hn]; rfl
  have hz2 : wrap64 ((s.size : Int) - 16) = (s.size : Int) - 16 := IntWalk.wrap64_in _ ⟨by omega, by omega⟩
  have t3 : decide (wrap64 ((s.size : Int) - 16) < 0) = true := decide_eq_true (by omega)
  clear hk hn h hz2
  have HG0 := Lib.hid (gb_alloc (gb_refl w none) (.cells #[.string ⟨#[]⟩, .bool false] 26))
  go_enter Tryd.func11, Tryd.ntmps11
  go_wp2_with fail
  go_region
  go_wp2_with fail
  refine bodyPost_ret (v := .agg #[.string ⟨#[]⟩, .bool false]) (by simp [results, Tryd.results11, go_sem]) rfl ?_
  exact ⟨rfl, gb_drew HG0.out⟩
set_option maxHeartbeats 4000000 in
set_option maxRecDepth 100000 in
theorem refOpen_long (key nonce ad s : ByteArray) (w : World) (hk : key.size = 64) (hn : nonce.size = 12) (m : Nat) (hm : s.size = m + 16) (h : 1048576 < m) (hs : s.size ≤ 9223372036854775807) :
    Calls Tryd.prog 11 #[.string key, .string nonce, .string ad, .string s] w (OpenedR none w) := by
  have t1 : ((key.size : Int) != 64) = false := by rw [hk]; rfl
  have t2 : ((nonce.size : Int) != 12) = false := by rw [hn]; rfl
  have hz : wrap64 ((s.size : Int) - 16) = (m : Int) := by rw [IntWalk.wrap64_in _ ⟨by omega, by omega⟩]; omega
  have t3 : decide ((m : Int) < 0) = false := decide_eq_false (by omega)
  have t4 : decide (1048576 < (m : Int)) = true := decide_eq_true (by omega)
  clear hk hn h hm hs
  have HG0 := Lib.hid (gb_alloc (gb_refl w none) (.cells #[.string ⟨#[]⟩, .bool false] 26))
  go_enter Tryd.func11, Tryd.ntmps11
  go_wp2_with fail
  go_region
  go_wp2_with fail
  refine bodyPost_ret (v := .agg #[.string ⟨#[]⟩, .bool false]) (by simp [results, Tryd.results11, go_sem]) rfl ?_
  exact ⟨rfl, gb_drew HG0.out⟩

attribute [local go_sem] Td.upon_value Td.upon_skip Td.upon_enter Td.upon_row Td.look_tmp Td.look_const Td.look_func Td.look_global
set_option maxHeartbeats 4000000 in
set_option maxRecDepth 100000 in
theorem refOpen_fits (key nonce ad s : ByteArray) (m : Nat) (w : World) (hk : key.size = 64) (hn : nonce.size = 12) (hs : s.size = m + 16) (hm : m ≤ 1048576) (ha : ad.size ≤ 17179869184) (q : Bool) (hq : q = eqB (s.extract m s.size) (tagB key nonce ad (s.extract 0 m))) (r : Option ByteArray) (hr : r = if q = true then some (xorB key nonce (s.extract 0 m)) else none) :
    Calls Tryd.prog 11 #[.string key, .string nonce, .string ad, .string s] w (OpenedR r w) := by
  have t1 : ((key.size : Int) != 64) = false := by rw [hk]; rfl
  have t2 : ((nonce.size : Int) != 12) = false := by rw [hn]; rfl
  have hz : wrap64 ((s.size : Int) - 16) = (m : Int) := by rw [IntWalk.wrap64_in _ ⟨by omega, by omega⟩]; omega
  have t3 : decide ((m : Int) < 0) = false := decide_eq_false (by omega)
  have t4 : decide (1048576 < (m : Int)) = false := decide_eq_false (by omega)
  have b2 : (m : Int) ≤ (s.size : Int) := by omega
  have b3 : m ≤ s.size := by omega
  have k1 : (32 : Int) ≤ (key.size : Int) := by omega
  have k2 : 32 ≤ key.size := by omega
  obtain ⟨T, HT⟩ : ∃ T, Hid (tagB key nonce ad (s.extract 0 m) = T) := ⟨_, rfl⟩
  rw [HT.out] at hq
  have HQ : Hid ((T.toList == (s.extract m s.size).toList) = q) := by
    show _ = _
    rw [hq, eq_bytes]
    unfold eqB
    by_cases h : T = s.extract m s.size
    · rw [h]
    · rw [decide_eq_false h, decide_eq_false (fun h2 => h h2.symm)]
  have hes : (s.extract 0 m).size ≤ 9223372036854775807 := by rw [ByteArray.size_extract, hs]; omega
  have Hes := Lib.hid hes
  have hes2 : (s.extract 0 m).size ≤ 17179869184 := by rw [ByteArray.size_extract, hs]; omega
  have Hes2 := Lib.hid hes2
  have Hk := Lib.hid hk
  have Hn := Lib.hid hn
  have Hr := Lib.hid hr
  have HR0 := Lib.hid (Row.new w 26 #[.string ⟨#[]⟩, .bool false])
  have HG0 := Lib.hid (gb_alloc (gb_refl w none) (.cells #[.string ⟨#[]⟩, .bool false] 26))
  have ht := fun W => refTag_any key nonce ad (s.extract 0 m) W Hk.out (by have := Hn.out; omega) ha Hes2.out
  rw [HT.out] at ht
  have Ht := Lib.hid ht
  clear hk hn hs hm ha hq hr hes hes2 ht
  go_enter Tryd.func11, Tryd.ntmps11
  go_wp2_with fail
  -- told open
  apply wp_region_told (le := fun a b => a.grownBy b none) [isV _, isV _, isV _, isV _, isV _, isV _, isV _, isV _, isV _, isV _, isV _, isV _, isV _, isV _, isV _, isV _, isV _, isV _, isV _, isV _, isV _, isV _, isV _, isV _, isV _, isV _, isV _, isV _, isV _]
  case hn => rfl
  case hm => kernel_rfl
  case hB => kernel_rfl
  case ht => exact fun _ _ _ h k => gb_none h k
  case hw => exact gb_drew (gb_refl _ _)
  -- 0: ref.go:441 move
  apply told_is
  · intro W f hW hE h0 K hK
    have e0 := h0 0 (by kernel_rfl)
    conv at e0 => rhs; whnf
    clear hE h0
    refine yes_of (want_free rfl) ?_
    go_simp; exact hK _ _ (gb_refl _ _) rfl
  -- 1: ref.go:441 call
  apply told_is
  · intro W f hW hE h0 K hK
    have e13 : f 13 = _ := hE 0 13 _ rfl (by kernel_rfl)
    clear hE h0
    refine yes_of (want_free rfl) ?_
    go_simp; exact hK _ _ (gb_refl _ _) rfl
  -- 2: ref.go:441 binOp
  apply told_is
  · intro W f hW hE h0 K hK
    have e14 : f 14 = _ := hE 0 14 _ rfl (by kernel_rfl)
    clear hE h0
    refine yes_of (want_free rfl) ?_
    go_simp; exact hK _ _ (gb_refl _ _) rfl
  -- 3: ref.go:441 move
  apply told_is
  · intro W f hW hE h0 K hK
    have e15 : f 15 = _ := hE 0 15 _ rfl (by kernel_rfl)
    clear hE h0
    refine yes_of (want_free rfl) ?_
    go_simp; exact hK _ _ (gb_refl _ _) rfl
  -- 4: ref.go:441 move
  apply told_is
  · intro W f hW hE h0 K hK
    have e1 := h0 1 (by kernel_rfl)
    conv at e1 => rhs; whnf
    have e16 : f 16 = _ := hE 0 16 _ rfl (by kernel_rfl)
    clear hE h0
    refine yes_of (want_yes rfl rfl e16) ?_
    go_simp; exact hK _ _ (gb_refl _ _) rfl
  -- 5: ref.go:441 call
  apply told_is
  · intro W f hW hE h0 K hK
    have e17 : f 17 = _ := hE 0 17 _ rfl (by kernel_rfl)
    have e16 : f 16 = _ := hE 1 16 _ rfl (by kernel_rfl)
    clear hE h0
    refine yes_of (want_yes rfl rfl e16) ?_
    go_simp; exact hK _ _ (gb_refl _ _) rfl
  -- 6: ref.go:441 binOp
  apply told_is
  · intro W f hW hE h0 K hK
    have e18 : f 18 = _ := hE 0 18 _ rfl (by kernel_rfl)
    have e16 : f 16 = _ := hE 2 16 _ rfl (by kernel_rfl)
    clear hE h0
    refine yes_of (want_yes rfl rfl e16) ?_
    go_simp; exact hK _ _ (gb_refl _ _) rfl
  -- 7: ref.go:441 pick
  apply told_is
  · intro W f hW hE h0 K hK
    have e16 : f 16 = _ := hE 3 16 _ rfl (by kernel_rfl)
    have e19 : f 19 = _ := hE 0 19 _ rfl (by kernel_rfl)
    clear hE h0
    refine yes_of (want_free rfl) ?_
    go_simp; exact hK _ _ (gb_refl _ _) rfl
  -- 8: ref.go:441 move
  apply told_is
  · intro W f hW hE h0 K hK
    have e20 : f 20 = _ := hE 0 20 _ rfl (by kernel_rfl)
    clear hE h0
    refine yes_of (want_free rfl) ?_
    go_simp; exact hK _ _ (gb_refl _ _) rfl
  -- 9: ref.go:441 move
  apply told_is
  · intro W f hW hE h0 K hK
    have e9 := h0 9 (by kernel_rfl)
    conv at e9 => rhs; whnf
    have e21 : f 21 = _ := hE 0 21 _ rfl (by kernel_rfl)
    clear hE h0
    refine yes_of (want_yes rfl rfl e21) ?_
    go_simp; exact hK _ _ (gb_refl _ _) rfl
  -- 10: ref.go:441 binOp
  apply told_is
  · intro W f hW hE h0 K hK
    have e22 : f 22 = _ := hE 0 22 _ rfl (by kernel_rfl)
    have e21 : f 21 = _ := hE 1 21 _ rfl (by kernel_rfl)
    clear hE h0
    refine yes_of (want_yes rfl rfl e21) ?_
    go_simp; exact hK _ _ (gb_refl _ _) rfl
  -- 11: ref.go:441 pick
  apply told_is
  · intro W f hW hE h0 K hK
    have e21 : f 21 = _ := hE 2 21 _ rfl (by kernel_rfl)
    have e23 : f 23 = _ := hE 0 23 _ rfl (by kernel_rfl)
    clear hE h0
    refine yes_of (want_free rfl) ?_
    go_simp; exact hK _ _ (gb_refl _ _) rfl
  -- 12: ref.go:441 move
  apply told_is
  · intro W f hW hE h0 K hK
    have e24 : f 24 = _ := hE 0 24 _ rfl (by kernel_rfl)
    clear hE h0
    refine yes_of (want_free rfl) ?_
    go_simp; exact hK _ _ (gb_refl _ _) rfl
  -- 13: ref.go:441 move
  apply told_is
  · intro W f hW hE h0 K hK
    have e9 := h0 9 (by kernel_rfl)
    conv at e9 => rhs; whnf
    have e25 : f 25 = _ := hE 0 25 _ rfl (by kernel_rfl)
    clear hE h0
    refine yes_of (want_yes rfl rfl e25) ?_
    go_simp; exact hK _ _ (gb_refl _ _) rfl
  -- 14: ref.go:441 binOp
  apply told_is
  · intro W f hW hE h0 K hK
    have e26 : f 26 = _ := hE 0 26 _ rfl (by kernel_rfl)
    have e25 : f 25 = _ := hE 1 25 _ rfl (by kernel_rfl)
    clear hE h0
    refine yes_of (want_yes rfl rfl e25) ?_
    go_simp; exact hK _ _ (gb_refl _ _) rfl
  -- 15: ref.go:441 pick
  apply told_is
  · intro W f hW hE h0 K hK
    have e25 : f 25 = _ := hE 2 25 _ rfl (by kernel_rfl)
    have e27 : f 27 = _ := hE 0 27 _ rfl (by kernel_rfl)
    clear hE h0
    refine yes_of (want_free rfl) ?_
    go_simp; exact hK _ _ (gb_refl _ _) rfl
  -- 16: ref.go:441 move
  apply told_is
  · intro W f hW hE h0 K hK
    have e28 : f 28 = _ := hE 0 28 _ rfl (by kernel_rfl)
    clear hE h0
    refine yes_of (want_free rfl) ?_
    go_simp; exact hK _ _ (gb_refl _ _) rfl
  -- 17: ref.go:441 move
  apply told_is
  · intro W f hW hE h0 K hK
    have e0 := h0 0 (by kernel_rfl)
    conv at e0 => rhs; whnf
    have e29 : f 29 = _ := hE 0 29 _ rfl (by kernel_rfl)
    clear hE h0
    refine yes_of (want_yes rfl rfl e29) ?_
    go_simp; exact hK _ _ (gb_refl _ _) rfl
  -- 18: ref.go:441 move
  apply told_is
  · intro W f hW hE h0 K hK
    have e1 := h0 1 (by kernel_rfl)
    conv at e1 => rhs; whnf
    have e29 : f 29 = _ := hE 1 29 _ rfl (by kernel_rfl)
    clear hE h0
    refine yes_of (want_yes rfl rfl e29) ?_
    go_simp; exact hK _ _ (gb_refl _ _) rfl
  -- 19: ref.go:441 move
  apply told_is
  · intro W f hW hE h0 K hK
    have e2 := h0 2 (by kernel_rfl)
    conv at e2 => rhs; whnf
    have e29 : f 29 = _ := hE 2 29 _ rfl (by kernel_rfl)
    clear hE h0
    refine yes_of (want_yes rfl rfl e29) ?_
    go_simp; exact hK _ _ (gb_refl _ _) rfl
  -- 20: ref.go:441 move
  apply told_is
  · intro W f hW hE h0 K hK
    have e3 := h0 3 (by kernel_rfl)
    conv at e3 => rhs; whnf
    have e29 : f 29 = _ := hE 3 29 _ rfl (by kernel_rfl)
    clear hE h0
    refine yes_of (want_yes rfl rfl e29) ?_
    go_simp; exact hK _ _ (gb_refl _ _) rfl
  -- 21: ref.go:441 move
  apply told_is
  · intro W f hW hE h0 K hK
    have e9 := h0 9 (by kernel_rfl)
    conv at e9 => rhs; whnf
    have e29 : f 29 = _ := hE 4 29 _ rfl (by kernel_rfl)
    clear hE h0
    refine yes_of (want_yes rfl rfl e29) ?_
    go_simp; exact hK _ _ (gb_refl _ _) rfl
  -- 22: ref.go:441 slice
  apply told_is
  · intro W f hW hE h0 K hK
    have e33 : f 33 = _ := hE 1 33 _ rfl (by kernel_rfl)
    have e34 : f 34 = _ := hE 0 34 _ rfl (by kernel_rfl)
    have e29 : f 29 = _ := hE 5 29 _ rfl (by kernel_rfl)
    clear hE h0
    refine yes_of (want_yes rfl rfl e29) ?_
    go_simp; exact hK _ _ (gb_refl _ _) rfl
  -- 23: ref.go:441 call
  apply told_is
  · intro W f hW hE h0 K hK
    have e30 : f 30 = _ := hE 5 30 _ rfl (by kernel_rfl)
    have e31 : f 31 = _ := hE 4 31 _ rfl (by kernel_rfl)
    have e32 : f 32 = _ := hE 3 32 _ rfl (by kernel_rfl)
    have e35 : f 35 = _ := hE 0 35 _ rfl (by kernel_rfl)
    have e29 : f 29 = _ := hE 6 29 _ rfl (by kernel_rfl)
    clear hE h0
    refine yes_of (want_yes rfl rfl e29) ?_
    go_simp
    refine (Ht.out _).mono ?_
    rintro e w1 ⟨rfl, g⟩
    exact ⟨_, rfl, hK _ _ g rfl⟩
  -- 24: ref.go:441 move
  apply told_is
  · intro W f hW hE h0 K hK
    have e3 := h0 3 (by kernel_rfl)
    conv at e3 => rhs; whnf
    have e29 : f 29 = _ := hE 7 29 _ rfl (by kernel_rfl)
    clear hE h0
    refine yes_of (want_yes rfl rfl e29) ?_
    go_simp; exact hK _ _ (gb_refl _ _) rfl
  -- 25: ref.go:441 move
  apply told_is
  · intro W f hW hE h0 K hK
    have e9 := h0 9 (by kernel_rfl)
    conv at e9 => rhs; whnf
    have e29 : f 29 = _ := hE 8 29 _ rfl (by kernel_rfl)
    clear hE h0
    refine yes_of (want_yes rfl rfl e29) ?_
    go_simp; exact hK _ _ (gb_refl _ _) rfl
  -- 26: ref.go:441 slice
  apply told_is
  · intro W f hW hE h0 K hK
    have e37 : f 37 = _ := hE 1 37 _ rfl (by kernel_rfl)
    have e38 : f 38 = _ := hE 0 38 _ rfl (by kernel_rfl)
    have e29 : f 29 = _ := hE 9 29 _ rfl (by kernel_rfl)
    clear hE h0
    refine yes_of (want_yes rfl rfl e29) ?_
    go_simp; exact hK _ _ (gb_refl _ _) rfl
  -- 27: ref.go:441 binOp
  apply told_is
  · intro W f hW hE h0 K hK
    have e36 : f 36 = _ := hE 3 36 _ rfl (by kernel_rfl)
    have e39 : f 39 = _ := hE 0 39 _ rfl (by kernel_rfl)
    have e29 : f 29 = _ := hE 10 29 _ rfl (by kernel_rfl)
    clear hE h0
    refine yes_of (want_yes rfl rfl e29) ?_
    go_simp; exact hK _ _ (gb_refl _ _) rfl
  -- 28: ref.go:441 pick
  apply told_is
  · intro W f hW hE h0 K hK
    have e29 : f 29 = _ := hE 11 29 _ rfl (by kernel_rfl)
    have e40 : f 40 = _ := hE 0 40 _ rfl (by kernel_rfl)
    clear hE h0
    refine yes_of (want_free rfl) ?_
    go_simp; exact hK _ _ (gb_refl _ _) rfl
  intro W f hW hA
  simp only [lexIn, Act.put, List.setIfInBounds_toArray, List.set_cons_zero, List.set_cons_succ]
  have e41 : f 41 = _ := hA 0 (some 41) _ rfl
  rw [e41]
  clear hA
  -- end open
  rw [HQ.out]
  have hr := HR0.out.kept hW (by simp)
  have HR1 := Lib.hid hr
  have HG1 := Lib.hid (gb_none HG0.out hW)
  clear e41 hW
  cases q with
  | false =>
    have c0 := hr.at_ (i := 0) rfl
    have c1 := hr.at_ (i := 1) rfl
    have f0 := hr.free 0
    have f1 := hr.free 1
    clear hr
    go_wp2_with fail
    have HB4 := (HR1.out.set_ 0 (.string ⟨#[]⟩)).set_ 1 (.bool false)
    have q0 := HB4.at_ (i := 0) rfl
    have q1 := HB4.at_ (i := 1) rfl
    refine bodyPost_ret (v := .agg #[.string ⟨#[]⟩, .bool false]) (by simp [results, Tryd.results11, go_sem, q0, q1]) rfl ?_
    rw [Hr.out]
    exact ⟨rfl, gb_new (gb_new HG1.out (gb_set1 _ _ _ _) (Nat.le_refl _)) (gb_set1 _ _ _ _) (Nat.le_refl _)⟩
  | true =>
    clear hr
    go_wp2_with fail
    have hrd : Row W.drew w.heap.size 26 #[.string ⟨#[]⟩, .bool false] := HR1.out.drew
    have gd : w.grownBy W.drew none := gb_drew HG1.out
    clear HR1 HG1
    go_region_with (first
      | (go_at_call 15; refine (refXored key nonce (s.extract 0 m) _ Hes.out).mono ?_; rintro e w3 ⟨rfl, g4⟩; have hr3 := hrd.kept g4 (by simp); have g5 := gb_none gd g4; have c0 := hr3.at_ (i := 0) rfl; have c1 := hr3.at_ (i := 1) rfl; have f0 := hr3.free 0; have f1 := hr3.free 1))
    have HB4 := (hr3.set_ 0 (.string (xorB key nonce (s.extract 0 m)))).set_ 1 (.bool true)
    have q0 := HB4.at_ (i := 0) rfl
    have q1 := HB4.at_ (i := 1) rfl
    clear hr3 hrd gd g4 c0 c1 f0 f1
    go_wp2_with fail
    refine bodyPost_ret (v := .agg #[.string (xorB key nonce (s.extract 0 m)), .bool true]) (by simp [results, Tryd.results11, go_sem, q0, q1]) rfl ?_
    rw [Hr.out, if_pos True.intro]
    exact ⟨rfl, gb_new (gb_new g5 (gb_set1 _ _ _ _) (Nat.le_refl _)) (gb_set1 _ _ _ _) (Nat.le_refl _)⟩

theorem refOpen_any (key nonce ad s : ByteArray) (w : World) (ha : ad.size ≤ 17179869184) (hs : s.size ≤ 9223372036854775807) :
    Calls Tryd.prog 11 #[.string key, .string nonce, .string ad, .string s] w fun e w' => e = .returned (.agg #[.string (openS key nonce ad s), .bool (openB key nonce ad s).isSome]) ∧ w.grownBy w' none := by
  show Calls _ _ _ _ (OpenedR (openB key nonce ad s) w)
  by_cases h : key.size = 64
  · by_cases h2 : nonce.size = 12
    · by_cases h1 : s.size < 16
      · rw [openB_short h1]; exact refOpen_short key nonce ad s w h h2 h1
      · obtain ⟨m, hm⟩ : ∃ m, s.size = m + 16 := ⟨s.size - 16, by omega⟩
        by_cases h3 : 1048576 < m
        · rw [openB_long (by omega)]; exact refOpen_long key nonce ad s w h h2 m hm h3 hs
        · exact refOpen_fits key nonce ad s m w h h2 hm (by omega) ha _ rfl _ (openB_fits h h2 hm (by omega))
    · rw [openB_bad (fun h3 => h2 h3.2)]; exact refOpen_nonce key nonce ad s w h h2
  · rw [openB_bad (fun h3 => h h3.1)]; exact refOpen_key key nonce ad s w h

theorem said_text (b : ByteArray) (c : Bool) (W : World) : (Instr.field 26 (.agg #[.string b, .bool c]) 0).run Tryd.prog W = .ok (.string b) W := by kernel_rfl
theorem said_ok (b : ByteArray) (c : Bool) (W : World) : (Instr.field 26 (.agg #[.string b, .bool c]) 1).run Tryd.prog W = .ok (.bool c) W := by kernel_rfl

/-- What was sealed is opened. -/
theorem open_seal (key nonce ad p : ByteArray) (hk : key.size = 64) (hn : nonce.size = 12) (hp : p.size ≤ 1048576) : openB key nonce ad (sealB key nonce ad p) = some p := by
  have hx := xorB_size key nonce p hk hn hp
  have hs : (xorB key nonce p ++ tagB key nonce ad (xorB key nonce p)).size = p.size + 16 := by rw [ByteArray.size_append, hx, tagB_size]
  rw [sealB, if_pos ⟨hk, hn, hp⟩, openB_fits hk hn hs hp, hs]
  have e1 : (xorB key nonce p ++ tagB key nonce ad (xorB key nonce p)).extract 0 p.size = xorB key nonce p := by
    apply bytes_ext
    rw [ByteArray.data_extract, Array.toList_extract, ByteArray.data_append, Array.toList_append, ← hx]
    simp
  have e2 : (xorB key nonce p ++ tagB key nonce ad (xorB key nonce p)).extract p.size (p.size + 16) = tagB key nonce ad (xorB key nonce p) := by
    apply bytes_ext
    have ht := tagB_size key nonce ad (xorB key nonce p)
    rw [← Cc.len_data] at ht
    rw [ByteArray.data_extract, Array.toList_extract, ByteArray.data_append, Array.toList_append, ← hx, ← Cc.len_data]
    simp [List.take_of_length_le (Nat.le_of_eq ht)]
  rw [e1, e2, eqB_self, if_pos rfl, xorB_twice key nonce p hk hn hp]
theorem sealB_size (key nonce ad p : ByteArray) (hk : key.size = 64) (hn : nonce.size = 12) (hp : p.size ≤ 1048576) : (sealB key nonce ad p).size = p.size + 16 := by
  rw [sealB, if_pos ⟨hk, hn, hp⟩, ByteArray.size_append, xorB_size key nonce p hk hn hp, tagB_size]
end Go.Proofs.YthdealjnhgkoiaaDoor.Bx
