/- The document's tag and Seal. The document's Seal and Open. The document's Open. -/
import Derived.Test.YtpcjbjpofcdjeaaGreatDoorTwq
import Derived.Test.YtpcjbjpofcdjeaaGreatDoorBxAq
set_option maxHeartbeats 4000000
set_option maxRecDepth 100000
namespace Go.Proofs.YtpcjbjpofcdjeaaGreatDoor.Bx
open Go.RowKit Wd Mm Hh Td
theorem overB_size (nonce ad c : ByteArray) : (overB nonce ad c).size = 8 + ad.size + nonce.size + c.size := by
 unfold overB
 rw [ByteArray.size_append, ByteArray.size_append, ByteArray.size_append, cntB_size]
attribute [local go_sem] Td.upon_value Td.upon_skip Td.upon_enter Td.upon_row Td.look_tmp Td.look_const Td.look_func Td.look_global
theorem refTag_any (key nonce ad c : ByteArray) (w : World) (hk : key.size = 64) (hn : nonce.size ≤ 17179869184) (ha : ad.size ≤ 17179869184) (hc : c.size ≤ 17179869184) :
  Calls Tryz.prog 75 #[.string key, .string nonce, .string ad, .string c] w fun e w' => e = .returned (.string (tagB key nonce ad c)) ∧ Gn w w' := by
 have k1 : (32 : Int) ≤ (key.size : Int) := by omega
 have k2 : 32 ≤ key.size := by omega
 have hks : (key.extract 32 key.size).size ≤ 549755813888 := by rw [ByteArray.size_extract]; omega
 obtain ⟨K, HK⟩ : ∃ K, Hid (macB (key.extract 32 key.size) (overB nonce ad c) = K) := ⟨_, rfl⟩
 have hKs : K.size = 32 := by rw [← HK.out]; exact macB_size _ _
 have h16 : (16 : Int) ≤ (K.size : Int) := by omega
 have h16n : 16 ≤ K.size := by omega
 have Hfin : Hid (tagB key nonce ad c = K.extract 0 16) := by show _ = _; rw [← HK.out]; rfl
 have hov : (overB nonce ad c).size ≤ 549755813888 := by rw [overB_size]; omega
 have Hov := qj hov
 have Hks := qj hks
 have hc8 : (cntB ad.size).size = 8 := cntB_size _
 have s1 : ¬ (9223372036854775807 < (cntB ad.size).size + ad.size) := by omega
 have s2 : ¬ (9223372036854775807 < (cntB ad.size).size + ad.size + nonce.size) := by omega
 have s3 : ¬ (9223372036854775807 < (cntB ad.size).size + ad.size + nonce.size + c.size) := by omega
 have hN : ad.size ≤ 9223372036854775807 := by omega
 have HN := qj hN
 clear hk hn ha hc hKs hks hN hov hc8
 go_enter Tryz.func75, Tryz.ntmps75
 go_wp2_with fail
 refine tw_go ?_
 refine tw_h 0 ?_
 refine tw_e 0 9 ?_
 refine tw_h 2 ?_
 refine tw_e 0 11 ?_
 apply tw_xe 0 12
 ·intro W f hW e12 K hK; go_simp; refine (eight_any ad.size _ HN.out).mono ?_; rintro e w1 ⟨rfl, g⟩; rw [show (⟨(beBytes ad.size 8).toArray⟩ : ByteArray) = cntB ad.size from rfl]; exact ⟨_, rfl, hK _ _ g rfl⟩
 refine tw_h 2 ?_
 refine tw_ee 1 13 0 14 ?_
 refine tw_h 1 ?_
 refine tw_ee 1 15 0 16 ?_
 refine tw_h 3 ?_
 refine tw_ee 1 17 0 18 ?_
 apply tw_xee 9 10 0 19
 ·intro W f hW ⟨e10, e19⟩ K hK; go_simp; refine (refMac_any _ (overB nonce ad c) _ Hks.out Hov.out).mono ?_; rintro e w1 ⟨rfl, g⟩; rw [HK.out]; exact ⟨_, rfl, hK _ _ g rfl⟩
 refine tw_e 0 20 ?_
 refine tw_e 0 21 ?_
 refine tw_nil fun W f hW hA => ?_
 have e8 : f 8 = _ := hA 0 (some 8) _ rfl
 rw [e8]
 clear hA
 go_wp2_with fail
 go_ret
 exact ⟨by rw [Hfin.out]; rfl, hW⟩
end Go.Proofs.YtpcjbjpofcdjeaaGreatDoor.Bx
namespace Go.Proofs.YtpcjbjpofcdjeaaGreatDoor.Bx
open Go.RowKit Wd Mm Hh
theorem eq_bytes (a b : ByteArray) : (a.toList == b.toList) = eqB a b := by
 unfold eqB
 rw [ByteArray.toList_eq, ByteArray.toList_eq]
 by_cases h : a = b
 ·subst h; simp
 ·rw [decide_eq_false h, beq_eq_false_iff_ne]
  exact fun h2 => h (bytes_ext a b h2)
theorem refXored (key nonce s : ByteArray) (w : World) (hs : s.size ≤ 9223372036854775807) :
  Calls Tryz.prog 74 #[.string (key.extract 0 32), .string nonce, .int .i64 1, .string s] w fun e w' => e = .returned (.string (xorB key nonce s)) ∧ Gn w w' := Cc.refXor_any _ _ _ _ _ hs
theorem refSeal_key (key nonce ad plain : ByteArray) (w : World) (h : key.size ≠ 64) :
  Calls Tryz.prog 41 #[.string key, .string nonce, .string ad, .string plain] w fun e w' => e = .returned (.string ⟨#[]⟩) ∧ Gn w w' := by
 have t1 : ((key.size : Int) != 64) = true := by rw [bne_iff_ne]; omega
 clear h
 go_enter Tryz.func41, Tryz.ntmps41
 go_wp2_with fail
 go_ret
 exact ⟨rfl, gb_refl _ _⟩
theorem refSeal_nonce (key nonce ad plain : ByteArray) (w : World) (h : key.size = 64) (h2 : nonce.size ≠ 12) :
  Calls Tryz.prog 41 #[.string key, .string nonce, .string ad, .string plain] w fun e w' => e = .returned (.string ⟨#[]⟩) ∧ Gn w w' := by
 have t1 : ((key.size : Int) != 64) = false := by rw [h]; rfl
 have t2 : ((nonce.size : Int) != 12) = true := by rw [bne_iff_ne]; omega
 clear h h2
 go_enter Tryz.func41, Tryz.ntmps41
 go_wp2_with fail
 go_ret
 exact ⟨rfl, gb_refl _ _⟩
theorem refSeal_long (key nonce ad plain : ByteArray) (w : World) (h : key.size = 64) (h2 : nonce.size = 12) (h3 : 1048576 < plain.size) :
  Calls Tryz.prog 41 #[.string key, .string nonce, .string ad, .string plain] w fun e w' => e = .returned (.string ⟨#[]⟩) ∧ Gn w w' := by
 have t1 : ((key.size : Int) != 64) = false := by rw [h]; rfl
 have t2 : ((nonce.size : Int) != 12) = false := by rw [h2]; rfl
 have t3 : decide ((1048576 : Int) < (plain.size : Int)) = true := dcT
 clear h h2 h3
 go_enter Tryz.func41, Tryz.ntmps41
 go_wp2_with fail
 go_ret
 exact ⟨rfl, gb_refl _ _⟩
theorem refSeal_yes (key nonce ad plain : ByteArray) (w : World) (h : key.size = 64) (h2 : nonce.size = 12) (h3 : plain.size ≤ 1048576) (ha : ad.size ≤ 17179869184) :
  Calls Tryz.prog 41 #[.string key, .string nonce, .string ad, .string plain] w fun e w' => e = .returned (.string (sealB key nonce ad plain)) ∧ Gn w w' := by
 have t1 : ((key.size : Int) != 64) = false := by rw [h]; rfl
 have t2 : ((nonce.size : Int) != 12) = false := by rw [h2]; rfl
 have t3 : decide ((1048576 : Int) < (plain.size : Int)) = false := dcF
 have k1 : (32 : Int) ≤ (key.size : Int) := by omega
 have k2 : 32 ≤ key.size := by omega
 have hx : (xorB key nonce plain).size ≤ 1048576 := by rw [xorB_size key nonce plain h h2 h3]; exact h3
 rw [sealB, if_pos ⟨h, h2, h3⟩]
 obtain ⟨C, HC⟩ : ∃ C, Hid (xorB key nonce plain = C) := ⟨_, rfl⟩
 rw [HC.out] at hx ⊢
 obtain ⟨T, HT⟩ : ∃ T, Hid (tagB key nonce ad C = T) := ⟨_, rfl⟩
 have hTs : T.size = 16 := by rw [← HT.out]; exact tagB_size _ _ _ _
 rw [HT.out]
 have Hk := qj h
 have Hn := qj h2
 have hp : plain.size ≤ 9223372036854775807 := by omega
 have s1 : ¬ (9223372036854775807 < C.size + T.size) := by omega
 clear h h2 h3
 go_enter Tryz.func41, Tryz.ntmps41
 go_wp2_with fail
 refine (refXored key nonce plain _ hp).mono ?_
 rintro e w1 ⟨rfl, g1⟩
 rw [HC.out]
 go_wp2_with fail
 refine (refTag_any key nonce ad C _ Hk.out (by have := Hn.out; omega) ha (by omega)).mono ?_
 rintro e w2 ⟨rfl, g2⟩
 rw [HT.out]
 go_wp2_with fail
 go_ret
 exact ⟨rfl, gb_none g1 g2⟩
theorem refSeal_any (key nonce ad plain : ByteArray) (w : World) (ha : ad.size ≤ 17179869184) :
  Calls Tryz.prog 41 #[.string key, .string nonce, .string ad, .string plain] w fun e w' => e = .returned (.string (sealB key nonce ad plain)) ∧ Gn w w' := by
 by_cases h : key.size = 64
 ·by_cases h2 : nonce.size = 12
  ·by_cases h3 : plain.size ≤ 1048576
   ·exact refSeal_yes key nonce ad plain w h h2 h3 ha
   ·rw [sealB, if_neg (fun h4 => h3 h4.2.2)]
    exact refSeal_long key nonce ad plain w h h2 (by omega)
  ·rw [sealB, if_neg (fun h4 => h2 h4.2.1)]
   exact refSeal_nonce key nonce ad plain w h h2
 ·rw [sealB, if_neg (fun h4 => h h4.1)]
  exact refSeal_key key nonce ad plain w h
end Go.Proofs.YtpcjbjpofcdjeaaGreatDoor.Bx
namespace Go.Proofs.YtpcjbjpofcdjeaaGreatDoor.Bx
open Go.RowKit Wd Mm Hh Td
def OpenedR (r : Option ByteArray) (w : World) (e : Ending) (w' : World) : Prop := e = .returned (.agg #[.string (r.getD ⟨#[]⟩), .bool r.isSome]) ∧ Gn w w'
theorem refOpen_key (key nonce ad s : ByteArray) (w : World) (h : key.size ≠ 64) :
  Calls Tryz.prog 46 #[.string key, .string nonce, .string ad, .string s] w (OpenedR none w) := by
 have t1 : ((key.size : Int) != 64) = true := by rw [bne_iff_ne]; omega
 clear h
 have HG0 := qj (gb_alloc (gb_refl w none) (.cells #[.string ⟨#[]⟩, .bool false] 41))
 go_enter Tryz.func46, Tryz.ntmps46
 go_wp2_with fail
 go_region
 go_wp2_with fail
 refine bodyPost_ret (v := .agg #[.string ⟨#[]⟩, .bool false]) (by simp [results, Tryz.results46, go_sem]) rfl ?_
 exact ⟨rfl, gb_drew HG0.out⟩
theorem refOpen_nonce (key nonce ad s : ByteArray) (w : World) (hk : key.size = 64) (h : nonce.size ≠ 12) :
  Calls Tryz.prog 46 #[.string key, .string nonce, .string ad, .string s] w (OpenedR none w) := by
 have t1 : ((key.size : Int) != 64) = false := by rw [hk]; rfl
 have t2 : ((nonce.size : Int) != 12) = true := by rw [bne_iff_ne]; omega
 clear hk h
 have HG0 := qj (gb_alloc (gb_refl w none) (.cells #[.string ⟨#[]⟩, .bool false] 41))
 go_enter Tryz.func46, Tryz.ntmps46
 go_wp2_with fail
 go_region
 go_wp2_with fail
 refine bodyPost_ret (v := .agg #[.string ⟨#[]⟩, .bool false]) (by simp [results, Tryz.results46, go_sem]) rfl ?_
 exact ⟨rfl, gb_drew HG0.out⟩
theorem refOpen_short (key nonce ad s : ByteArray) (w : World) (hk : key.size = 64) (hn : nonce.size = 12) (h : s.size < 16) :
  Calls Tryz.prog 46 #[.string key, .string nonce, .string ad, .string s] w (OpenedR none w) := by
 have t1 : ((key.size : Int) != 64) = false := by rw [hk]; rfl
 have t2 : ((nonce.size : Int) != 12) = false := by rw [hn]; rfl
 have hz2 : wrap64 ((s.size : Int) - 16) = (s.size : Int) - 16 := IntWalk.wrap64_in _ ⟨by omega, by omega⟩
 have t3 : decide (wrap64 ((s.size : Int) - 16) < 0) = true := dcT
 clear hk hn h hz2
 have HG0 := qj (gb_alloc (gb_refl w none) (.cells #[.string ⟨#[]⟩, .bool false] 41))
 go_enter Tryz.func46, Tryz.ntmps46
 go_wp2_with fail
 go_region
 go_wp2_with fail
 refine bodyPost_ret (v := .agg #[.string ⟨#[]⟩, .bool false]) (by simp [results, Tryz.results46, go_sem]) rfl ?_
 exact ⟨rfl, gb_drew HG0.out⟩
theorem refOpen_long (key nonce ad s : ByteArray) (w : World) (hk : key.size = 64) (hn : nonce.size = 12) (m : Nat) (hm : s.size = m + 16) (h : 1048576 < m) (hs : s.size ≤ 9223372036854775807) :
  Calls Tryz.prog 46 #[.string key, .string nonce, .string ad, .string s] w (OpenedR none w) := by
 have t1 : ((key.size : Int) != 64) = false := by rw [hk]; rfl
 have t2 : ((nonce.size : Int) != 12) = false := by rw [hn]; rfl
 have hz : wrap64 ((s.size : Int) - 16) = (m : Int) := by rw [IntWalk.wrap64_in _ ⟨by omega, by omega⟩]; omega
 have t3 : decide ((m : Int) < 0) = false := dcF
 have t4 : decide (1048576 < (m : Int)) = true := dcT
 clear hk hn h hm hs
 have HG0 := qj (gb_alloc (gb_refl w none) (.cells #[.string ⟨#[]⟩, .bool false] 41))
 go_enter Tryz.func46, Tryz.ntmps46
 go_wp2_with fail
 go_region
 go_wp2_with fail
 refine bodyPost_ret (v := .agg #[.string ⟨#[]⟩, .bool false]) (by simp [results, Tryz.results46, go_sem]) rfl ?_
 exact ⟨rfl, gb_drew HG0.out⟩
attribute [local go_sem] Td.upon_value Td.upon_skip Td.upon_enter Td.upon_row Td.look_tmp Td.look_const Td.look_func Td.look_global
theorem refOpen_fits (key nonce ad s : ByteArray) (m : Nat) (w : World) (hk : key.size = 64) (hn : nonce.size = 12) (hs : s.size = m + 16) (hm : m ≤ 1048576) (ha : ad.size ≤ 17179869184) (q : Bool) (hq : q = eqB (s.extract m s.size) (tagB key nonce ad (s.extract 0 m))) (r : Option ByteArray) (hr : r = if q = true then some (xorB key nonce (s.extract 0 m)) else none) :
  Calls Tryz.prog 46 #[.string key, .string nonce, .string ad, .string s] w (OpenedR r w) := by
 have t1 : ((key.size : Int) != 64) = false := by rw [hk]; rfl
 have t2 : ((nonce.size : Int) != 12) = false := by rw [hn]; rfl
 have hz : wrap64 ((s.size : Int) - 16) = (m : Int) := by rw [IntWalk.wrap64_in _ ⟨by omega, by omega⟩]; omega
 have t3 : decide ((m : Int) < 0) = false := dcF
 have t4 : decide (1048576 < (m : Int)) = false := dcF
 have b2 : (m : Int) ≤ (s.size : Int) := by omega
 have b3 : m ≤ s.size := by omega
 have k1 : (32 : Int) ≤ (key.size : Int) := by omega
 have k2 : 32 ≤ key.size := by omega
 obtain ⟨T, HT⟩ : ∃ T, Hid (tagB key nonce ad (s.extract 0 m) = T) := ⟨_, rfl⟩
 rw [HT.out] at hq
 have HQ : Hid ((T.toList == (s.extract m s.size).toList) = q) := by
  show _ = _
  rw [hq, eq_bytes]
  unfold eqB
  by_cases h : T = s.extract m s.size
  ·rw [h]
  ·rw [decide_eq_false h, decide_eq_false (fun h2 => h h2.symm)]
 have hes : (s.extract 0 m).size ≤ 9223372036854775807 := by rw [ByteArray.size_extract, hs]; omega
 have Hes := qj hes
 have hes2 : (s.extract 0 m).size ≤ 17179869184 := by rw [ByteArray.size_extract, hs]; omega
 have Hes2 := qj hes2
 have Hk := qj hk
 have Hn := qj hn
 have Hr := qj hr
 have HR0 := qj (Row.new w 41 #[.string ⟨#[]⟩, .bool false])
 have HG0 := qj (gb_alloc (gb_refl w none) (.cells #[.string ⟨#[]⟩, .bool false] 41))
 have ht := fun W => refTag_any key nonce ad (s.extract 0 m) W Hk.out (by have := Hn.out; omega) ha Hes2.out
 rw [HT.out] at ht
 have Ht := qj ht
 clear hk hn hs hm ha hq hr hes hes2 ht
 go_enter Tryz.func46, Tryz.ntmps46
 go_wp2_with fail
 refine tw_go ?_
 refine tw_h 0 ?_
 refine tw_e 0 13 ?_
 refine tw_e 0 14 ?_
 refine tw_e 0 15 ?_
 refine tw_gh 0 16 1 ?_
 refine tw_ge 1 16 0 17 ?_
 refine tw_ge 2 16 0 18 ?_
 refine tw_ee 3 16 0 19 ?_
 refine tw_e 0 20 ?_
 refine tw_gh 0 21 9 ?_
 refine tw_ge 1 21 0 22 ?_
 refine tw_ee 2 21 0 23 ?_
 refine tw_e 0 24 ?_
 refine tw_gh 0 25 9 ?_
 refine tw_ge 1 25 0 26 ?_
 refine tw_ee 2 25 0 27 ?_
 refine tw_e 0 28 ?_
 refine tw_gh 0 29 0 ?_
 refine tw_gh 1 29 1 ?_
 refine tw_gh 2 29 2 ?_
 refine tw_gh 3 29 3 ?_
 refine tw_gh 4 29 9 ?_
 apply tw_is
 ·intro W f hW hE h0 K hK; have e33 := hE.of 1 33; have e34 := hE.of 0 34; have e29 := hE.of 5 29; clear hE h0; refine yes_g e29 ?_; go_simp; exact kK hK
 apply tw_is
 ·intro W f hW hE h0 K hK; have e30 := hE.of 5 30; have e31 := hE.of 4 31; have e32 := hE.of 3 32; have e35 := hE.of 0 35; have e29 := hE.of 6 29; clear hE h0; refine yes_g e29 ?_; go_simp; refine (Ht.out _).mono ?_; rintro e w1 ⟨rfl, g⟩; exact ⟨_, rfl, hK _ _ g rfl⟩
 refine tw_gh 7 29 3 ?_
 refine tw_gh 8 29 9 ?_
 apply tw_is
 ·intro W f hW hE h0 K hK; have e37 := hE.of 1 37; have e38 := hE.of 0 38; have e29 := hE.of 9 29; clear hE h0; refine yes_g e29 ?_; go_simp; exact kK hK
 apply tw_is
 ·intro W f hW hE h0 K hK; have e36 := hE.of 3 36; have e39 := hE.of 0 39; have e29 := hE.of 10 29; clear hE h0; refine yes_g e29 ?_; go_simp; exact kK hK
 refine tw_ee 11 29 0 40 ?_
 refine tw_nil fun W f hW hA => ?_
 have e41 : f 41 = _ := hA 0 (some 41) _ rfl
 rw [e41]
 clear hA
 rw [HQ.out]
 have hr := HR0.out.kept hW (by simp)
 have HR1 := qj hr
 have HG1 := qj (gb_none HG0.out hW)
 clear e41 hW
 cases q with
 | false =>
  have c0 := hr.at_ (i := 0) rfl
  have c1 := hr.at_ (i := 1) rfl
  have f0 := hr.free 0
  have f1 := hr.free 1
  clear hr
  go_wp2_with fail
  have HB4 := (HR1.out.set_ 0 (.string ⟨#[]⟩)).set_ 1 (.bool false)
  have q0 := HB4.at_ (i := 0) rfl
  have q1 := HB4.at_ (i := 1) rfl
  refine bodyPost_ret (v := .agg #[.string ⟨#[]⟩, .bool false]) (by simp [results, Tryz.results46, go_sem, q0, q1]) rfl ?_
  rw [Hr.out]
  exact ⟨rfl, gb_new (gb_new HG1.out (gb_set1 _ _ _ _) (Nat.le_refl _)) (gb_set1 _ _ _ _) (Nat.le_refl _)⟩
 | true =>
  clear hr
  go_wp2_with fail
  have hrd : Row W.drew w.heap.size 41 #[.string ⟨#[]⟩, .bool false] := HR1.out.drew
  have gd : w.grownBy W.drew none := gb_drew HG1.out
  clear HR1 HG1
  go_region_with (first
   | (go_at_call 74; refine (refXored key nonce (s.extract 0 m) _ Hes.out).mono ?_; rintro e w3 ⟨rfl, g4⟩; have hr3 := hrd.kept g4 (by simp); have g5 := gb_none gd g4; have c0 := hr3.at_ (i := 0) rfl; have c1 := hr3.at_ (i := 1) rfl; have f0 := hr3.free 0; have f1 := hr3.free 1))
  have HB4 := (hr3.set_ 0 (.string (xorB key nonce (s.extract 0 m)))).set_ 1 (.bool true)
  have q0 := HB4.at_ (i := 0) rfl
  have q1 := HB4.at_ (i := 1) rfl
  clear hr3 hrd gd g4 c0 c1 f0 f1
  go_wp2_with fail
  refine bodyPost_ret (v := .agg #[.string (xorB key nonce (s.extract 0 m)), .bool true]) (by simp [results, Tryz.results46, go_sem, q0, q1]) rfl ?_
  rw [Hr.out, if_pos True.intro]
  exact ⟨rfl, gb_new (gb_new g5 (gb_set1 _ _ _ _) (Nat.le_refl _)) (gb_set1 _ _ _ _) (Nat.le_refl _)⟩
theorem refOpen_any (key nonce ad s : ByteArray) (w : World) (ha : ad.size ≤ 17179869184) (hs : s.size ≤ 9223372036854775807) :
  Calls Tryz.prog 46 #[.string key, .string nonce, .string ad, .string s] w fun e w' => e = .returned (.agg #[.string (openS key nonce ad s), .bool (openB key nonce ad s).isSome]) ∧ Gn w w' := by
 show Calls _ _ _ _ (OpenedR (openB key nonce ad s) w)
 by_cases h : key.size = 64
 ·by_cases h2 : nonce.size = 12
  ·by_cases h1 : s.size < 16
   ·rw [openB_short h1]; exact refOpen_short key nonce ad s w h h2 h1
   ·obtain ⟨m, hm⟩ : ∃ m, s.size = m + 16 := ⟨s.size - 16, by omega⟩
    by_cases h3 : 1048576 < m
    ·rw [openB_long (by omega)]; exact refOpen_long key nonce ad s w h h2 m hm h3 hs
    ·exact refOpen_fits key nonce ad s m w h h2 hm (by omega) ha _ rfl _ (openB_fits h h2 hm (by omega))
  ·rw [openB_bad (fun h3 => h2 h3.2)]; exact refOpen_nonce key nonce ad s w h h2
 ·rw [openB_bad (fun h3 => h h3.1)]; exact refOpen_key key nonce ad s w h
theorem said_text (b : ByteArray) (c : Bool) (W : World) : (Instr.field 41 (.agg #[.string b, .bool c]) 0).run Tryz.prog W = .ok (.string b) W := by kernel_rfl
theorem said_ok (b : ByteArray) (c : Bool) (W : World) : (Instr.field 41 (.agg #[.string b, .bool c]) 1).run Tryz.prog W = .ok (.bool c) W := by kernel_rfl
theorem open_seal (key nonce ad p : ByteArray) (hk : key.size = 64) (hn : nonce.size = 12) (hp : p.size ≤ 1048576) : openB key nonce ad (sealB key nonce ad p) = some p := by
 have hx := xorB_size key nonce p hk hn hp
 have hs : (xorB key nonce p ++ tagB key nonce ad (xorB key nonce p)).size = p.size + 16 := by rw [ByteArray.size_append, hx, tagB_size]
 rw [sealB, if_pos ⟨hk, hn, hp⟩, openB_fits hk hn hs hp, hs]
 have e1 : (xorB key nonce p ++ tagB key nonce ad (xorB key nonce p)).extract 0 p.size = xorB key nonce p := by
  apply bytes_ext
  rw [ByteArray.data_extract, Array.toList_extract, ByteArray.data_append, Array.toList_append, ← hx]
  simp
 have e2 : (xorB key nonce p ++ tagB key nonce ad (xorB key nonce p)).extract p.size (p.size + 16) = tagB key nonce ad (xorB key nonce p) := by
  apply bytes_ext
  have ht := tagB_size key nonce ad (xorB key nonce p)
  rw [← Cc.len_data] at ht
  rw [ByteArray.data_extract, Array.toList_extract, ByteArray.data_append, Array.toList_append, ← hx, ← Cc.len_data]
  simp [List.take_of_length_le (Nat.le_of_eq ht)]
 rw [e1, e2, eqB_self, if_pos rfl, xorB_twice key nonce p hk hn hp]
theorem sealB_size (key nonce ad p : ByteArray) (hk : key.size = 64) (hn : nonce.size = 12) (hp : p.size ≤ 1048576) : (sealB key nonce ad p).size = p.size + 16 := by
 rw [sealB, if_pos ⟨hk, hn, hp⟩, ByteArray.size_append, xorB_size key nonce p hk hn hp, tagB_size]
end Go.Proofs.YtpcjbjpofcdjeaaGreatDoor.Bx
