/- The program's Make. Written by gen_wc3.py. -/
import Derived.Test.YtpcjbjpofcdjeaaGreatDoorTwq
import Derived.Test.YtpcjbjpofcdjeaaGreatDoorWcSq
import Derived.Test.YtpcjbjpofcdjeaaGreatDoorWcDeedq
import Derived.Test.YtpcjbjpofcdjeaaGreatDoorWcTq
set_option linter.unusedVariables false
set_option maxHeartbeats 16000000
set_option maxRecDepth 100000
namespace Go.Proofs.YtpcjbjpofcdjeaaGreatDoor.Wc
open Go Go.RowKit Mm Td Vw Dt
open Mb Ro Hh We
attribute [local go_sem] Td.upon_value Td.upon_skip Td.upon_enter Td.upon_row Td.look_tmp Td.look_const Td.look_func Td.look_global
theorem pMake_any (s m : ByteArray) (A : Option Addr) (n c : Nat) (l : List Rc) (kind dev : Int) (w : World) (hl : LogL w A n l) (hn : n ≤ 1000000) (hc : n ≤ c) (hb : ∀ r ∈ l, r.wraps.length ≤ 1099511627776) (hs : s.size ≤ 1048576) (hm : m.size ≤ 1048576) (hR : AllR w) :
  Calls Tryz.prog 12 #[.string s, .string m, .slice A n c, .int .i64 kind, .int .i64 dev] w (MadeIs (madeR s m l kind dev) (deedE l kind dev) w) := by
 obtain ⟨k, hk⟩ := nmd (deedE l kind dev)
 obtain ⟨b0, hb0⟩ := nmd (w.heap.size)
 obtain ⟨W0, hW0⟩ := nmd (w.alloc (.cells #[.int .i64 0, .string ⟨#[]⟩, .int .i64 0, .int .i64 0, .slice none 0 0, .string ⟨#[]⟩] 25))
 have g0 : Gn w W0 := by rw [← hW0]; exact gb_alloc (gb_refl _ _) _
 have HZ0 : Hid (Row W0 b0 25 #[.int .i64 0, .string ⟨#[]⟩, .int .i64 0, .int .i64 0, .slice none 0 0, .string ⟨#[]⟩]) := by rw [← hW0, ← hb0]; exact Row.new _ _ _
 have HG0 := qj g0
 have Hb0 : Hid (w.heap.size ≤ b0) := by show _ ≤ _; omega
 have HD : Hid (Calls Tryz.prog 34 #[.slice A n c, .int .i64 kind, .int .i64 dev] W0 fun e w' => (∃ v, e = .returned v ∧ Tells 1 v k) ∧ Gn W0 w') := by rw [← hk]; exact deed_any A n c l kind dev W0 (hl.keep g0) hn hc hb (hR.1.1.keep g0 (by simp)) (hR.2.2.1.keep g0)
 by_cases hk0 : k = 0
 ·subst hk0
  have hlen : l.length = n := hl.1
  obtain ⟨hch, h40⟩ := deed_chain hk
  rw [hlen] at h40
  obtain ⟨h9, hh9⟩ := nmd (lastH l)
  obtain ⟨R0, hR0⟩ := nmd (hung l kind dev)
  have f0 : R0.seq = (n : Int) + 1 := by rw [← hR0, ← hlen]; rfl
  have f1 : R0.prev = h9 := by rw [← hR0, ← hh9]; rfl
  have f2 : R0.kind = kind := by rw [← hR0]; rfl
  have f3 : R0.dev = dev := by rw [← hR0]; rfl
  have f4 : R0.wraps = [] := by rw [← hR0]; rfl
  have f5 : R0.tag = ⟨#[]⟩ := by rw [← hR0]; rfl
  obtain ⟨M9, hM9⟩ := nmd (memsN l kind dev)
  have hM9' : memsB (l ++ [R0]) ((n : Int) + 1) = M9 := by rw [← hM9, ← hR0, ← hlen]; rfl
  obtain ⟨k6, hk6⟩ := nmd (M9.length)
  have hk8 : k6 ≤ 8 := by rw [← hk6, ← hM9']; exact mems_len _ _
  obtain ⟨L9, hL9⟩ := nmd (wrapsR s m R0 M9)
  have hL6 : L9.length = k6 := by rw [← hL9, wraps_len]; exact hk6
  obtain ⟨R1, hR1⟩ := nmd (sealedR s m l kind dev)
  have r4 : R1.wraps = L9 := by rw [← hR1, ← hL9, ← hR0, ← hM9]; rfl
  have r0 : R1.seq = (n : Int) + 1 := by rw [← hR1, ← hlen]; rfl
  have r1 : R1.prev = h9 := by rw [← hR1, ← hh9]; rfl
  have r2 : R1.kind = kind := by rw [← hR1]; rfl
  have r3 : R1.dev = dev := by rw [← hR1]; rfl
  have r5 : R1.tag = ⟨#[]⟩ := by rw [← hR1]; rfl
  obtain ⟨R2, hR2⟩ := nmd (nextR s m l kind dev)
  have e9 : madeR s m l kind dev = R2 := by rw [← hR2]; exact if_pos hk
  have t4 : R2.wraps = L9 := by rw [← hR2, ← r4, ← hR1]; rfl
  have t0 : R2.seq = (n : Int) + 1 := by rw [← hR2, ← hlen]; rfl
  have t1 : R2.prev = h9 := by rw [← hR2, ← hh9]; rfl
  have t2 : R2.kind = kind := by rw [← hR2]; rfl
  have t3 : R2.dev = dev := by rw [← hR2]; rfl
  have t5 : R2.tag = if n = 0 then ⟨#[]⟩ else tagR (Ky.epochB s (n : Int)) R1 := by rw [← hR2, ← hR1, ← hlen]; rfl
  rw [e9, hk]
  have HHu : Hid (∀ W, Gn w W → Calls Tryz.prog 36 #[.slice A n c, .int .i64 kind, .int .i64 dev] W fun e w' => e = .returned (.agg #[.int .i64 ((n : Int) + 1), .string h9, .int .i64 kind, .int .i64 dev, .slice none 0 0, .string ⟨#[]⟩]) ∧ Gn W w') := fun W hW => by rw [← hh9]; exact hung_any A n c l kind dev W (hl.keep hW) hn hc hb (hR.1.1.keep hW (by simp))
  have HW5 : Hid (∀ W, Gn w W → Calls Tryz.prog 39 #[.slice A n c, .agg #[.int .i64 ((n : Int) + 1), .string h9, .int .i64 kind, .int .i64 dev, .slice none 0 0, .string ⟨#[]⟩]] W fun e w' => ∃ A' c', e = .returned (.slice A' (n + 1) c') ∧ LogL w' A' (n + 1) (l ++ [R0]) ∧ n + 1 ≤ c' ∧ Gn W w') := fun W hW => by
   have h := with_any A n c l R0 none 0 W (hl.keep hW) hn hc (by rw [f4]; exact WL.none _ _) (by rw [f4]; exact Nat.le_refl _)
   try unfold recCs at h
   rw [f0, f1, f2, f3, f4, f5] at h
   exact h
  have HM5 : Hid (∀ A' c' W, LogL W A' (n + 1) (l ++ [R0]) → Gn w W → Calls Tryz.prog 38 #[.slice A' (n + 1) c', .int .i64 ((n : Int) + 1)] W fun e w' => ∃ A c, e = .returned (.slice A k6 c) ∧ IL w' A k6 M9 ∧ Gn W w') := fun A' c' W h _ => by
   have h := pMembers_any A' (n + 1) c' (l ++ [R0]) ((n : Int) + 1) W h (by omega)
   rw [hM9'] at h
   exact h.mono fun e w' ⟨A, c, h1, h2, h3⟩ => ⟨A, c, by rw [h1, hk6], by rw [← hk6]; exact h2, h3⟩
  have HS5 : Hid (∀ A' c' W, IL W A' k6 M9 → Gn w W → Calls Tryz.prog 37 #[.string s, .string m, .agg #[.int .i64 ((n : Int) + 1), .string h9, .int .i64 kind, .int .i64 dev, .slice none 0 0, .string ⟨#[]⟩], .slice A' k6 c'] W fun e w' => ∃ A c, e = .returned (.slice A k6 c) ∧ WL w' A k6 L9 ∧ k6 ≤ c ∧ (∀ a, A = some a → W.heap.size ≤ a.block) ∧ Gn W w') := fun A' c' W h hW => by
   have h := sealed_any s m R0 none 0 A' k6 c' M9 W (by rw [f4]; exact WL.none _ _) (by rw [f4]; exact Nat.zero_le _) h hk8 (by rw [← hM9']; exact mems_range) (by rw [f0]; omega) hs hm (hR.1.keep hW) (hR.2.1.keep hW)
   try unfold recCs at h
   rw [f0, f1, f2, f3, f4, f5, hL9] at h
   exact h
  have HE7 : Hid (∀ W, Gn w W → Calls Tryz.prog 40 #[.string s, .int .i64 (n : Int)] W fun e w' => e = .returned (.string (Ky.epochB s (n : Int))) ∧ Gn W w') := fun W hW => Ky.pEpoch_any s (n : Int) W (by omega) (by omega) hs (hR.1.keep hW)
  have HT7 : Hid (∀ A6 c6 W, WL W A6 k6 L9 → Gn w W → Calls Tryz.prog 20 #[.string (Ky.epochB s (n : Int)), .agg #[.int .i64 ((n : Int) + 1), .string h9, .int .i64 kind, .int .i64 dev, .slice A6 k6 c6, .string ⟨#[]⟩]] W fun e w' => e = .returned (.string (tagR (Ky.epochB s (n : Int)) R1)) ∧ Gn W w') := fun A6 c6 W h hW => by
   have h := pTag_any (Ky.epochB s (n : Int)) R1 A6 c6 W (by rw [r4, hL6]; exact h) (by rw [r4, hL6]; omega) (by rw [epoch_size]; decide) (hR.1.1.keep hW (by simp))
   try unfold recCs at h
   rw [r0, r1, r2, r3, r4, r5, hL6] at h
   exact h
  have HT0 : Hid (R2.seq = (n : Int) + 1 ∧ R2.prev = h9 ∧ R2.kind = kind ∧ R2.dev = dev ∧ R2.wraps = L9 ∧ L9.length = k6) := ⟨t0, t1, t2, t3, t4, hL6⟩
  have HT5 := qj t5
  have Hn40 := qj h40
  have ht1 : IntKind.i64.wrap ((n : Int) + 1) = (n : Int) + 1 := by rw [IntKind.wrap_i64]; omega
  clear hl hn hc hb hs hm hR g0 hk hlen hch h40 hh9 hR0 f0 f1 f2 f3 f4 f5 hM9 hM9' hk6 hk8 hL9 hL6 hR1 r0 r1 r2 r3 r4 r5 hR2 e9 t0 t1 t2 t3 t4 t5
  generalize tagR (Ky.epochB s (n : Int)) R1 = T9 at *
  generalize Ky.epochB s (n : Int) = E9 at *
  go_enter Tryz.func12, Tryz.ntmps12
  go_upto_region 1 with fail
  clear hW0 hb0
  go_wp2_with fail
  refine HD.out.mono ?_
  rintro e w2 ⟨⟨v, rfl, hv⟩, g2⟩
  obtain rfl := hv.nil rfl
  have HZ2 := qj (HZ0.out.kept g2 (by simp))
  have HG2 := qj (gb_none HG0.out g2)
  clear g2 hv HD HZ0
  go_upto_region 4 with fail
  obtain ⟨b4, hb4⟩ : ∃ b4 : Nat, b4 = b4 ∧ w.heap.size ≤ b4 := ⟨w.heap.size, rfl, Nat.le_refl _⟩
  clear hb4 b4
  go_upto_region 5 with (go_at_call 36; refine (HHu.out w2 HG2.out).mono ?_; rintro e w3 ⟨rfl, g3⟩; have HZ3 := qj (HZ2.out.kept g3 (by simp)); have HG3 := qj (gb_none HG2.out g3); clear g3)
  obtain ⟨b4, hb4⟩ := nmd (w3.heap.size)
  obtain ⟨W4, hW4⟩ := nmd (w3.alloc (.cells #[.int .i64 ((n : Int) + 1), .string h9, .int .i64 kind, .int .i64 dev, .slice none 0 0, .string ⟨#[]⟩] 25))
  have HR4 : Hid (Row W4 b4 25 #[.int .i64 ((n : Int) + 1), .string h9, .int .i64 kind, .int .i64 dev, .slice none 0 0, .string ⟨#[]⟩]) := by rw [← hW4, ← hb4]; exact Row.new _ _ _
  have HZ4 : Hid (Row W4 b0 25 #[.int .i64 0, .string ⟨#[]⟩, .int .i64 0, .int .i64 0, .slice none 0 0, .string ⟨#[]⟩]) := by rw [← hW4]; exact HZ3.out.alloc _
  have HG4 : Hid (Gn w W4) := by rw [← hW4]; exact gb_alloc HG3.out _
  have Hb4 : Hid (w.heap.size ≤ b4) := by show _ ≤ _; rw [← hb4]; exact HG3.out.size
  have HS4 : Hid (∀ W, Gn W4 W → b4 + 1 ≤ W.heap.size) := fun W hW => Nat.le_trans (by rw [← hW4, World.size_alloc, hb4]; exact Nat.le_refl _) hW.size
  have Hbb : Hid (b0 < b4) := by have h1 := HZ3.out.lt; show b0 < b4; omega
  have Hne : Hid (b0 ≠ b4) := by have h1 := HZ3.out.lt; show b0 ≠ b4; omega
  have HY : Hid (∀ W, Gn W4 W → W.cell? ⟨b4, 0, none⟩ = some (.int .i64 ((n : Int) + 1)) ∧ W.cell? ⟨b4, 1, none⟩ = some (.string h9) ∧ W.cell? ⟨b4, 2, none⟩ = some (.int .i64 kind) ∧ W.cell? ⟨b4, 3, none⟩ = some (.int .i64 dev) ∧ W.cell? ⟨b4, 4, none⟩ = some (.slice none 0 0) ∧ W.cell? ⟨b4, 5, none⟩ = some (.string ⟨#[]⟩)) := fun W hW => by
   have h := HR4.out.kept hW (by simp)
   exact ⟨h.at_ (i := 0) rfl, h.at_ (i := 1) rfl, h.at_ (i := 2) rfl, h.at_ (i := 3) rfl, h.at_ (i := 4) rfl, h.at_ (i := 5) rfl⟩
  have HW5' := qj fun W (hW : Gn W4 W) => HW5.out W (gb_none HG4.out hW)
  have HM5' := qj fun A' c' W h (hW : Gn W4 W) => HM5.out A' c' W h (gb_none HG4.out hW)
  have HS5' := qj fun A' c' W h (hW : Gn W4 W) => HS5.out A' c' W h (gb_none HG4.out hW)
  clear HW5 HM5 HS5
  have HW5 := HW5'
  have HM5 := HM5'
  have HS5 := HS5'
  clear HW5' HM5' HS5' HZ2 HG2 HZ3 HG3 HHu
  rw [hb4, hW4]
  clear hb4 hW4
  refine tw_tail 11 ?_
  refine tw_h 0 ?_
  refine tw_h 1 ?_
  apply tw_xh 13
  ·intro W f hW e13 K hK; obtain ⟨y0, y1, y2, y3, y4, y5⟩ := HY.out W hW; go_simp; exact kK hK
  refine tw_h 2 ?_
  apply tw_xh 13
  ·intro W f hW e13 K hK; obtain ⟨y0, y1, y2, y3, y4, y5⟩ := HY.out W hW; go_simp; exact kK hK
  apply tw_at logV_stays
  ·intro W f hW hE h0 K hK; have e30 := hE.of 1 30; have e31 := hE.of 0 31; clear hE h0; refine yes_f ?_; go_simp; refine (HW5.out W hW).mono ?_; rintro e w1' ⟨A', c', rfl, h1, h2, g'⟩; exact ⟨_, rfl, hK _ _ g' ⟨A', c', rfl, h1, h2⟩⟩
  refine tw_h 13 ?_
  apply tw_xe 0 33
  ·intro W f hW e33 K hK; obtain ⟨y0, y1, y2, y3, y4, y5⟩ := HY.out W hW; go_simp; exact kK hK
  apply tw_at numsV_stays
  ·intro W f hW hE h0 K hK; have e32 := hE 2 32 _ rfl (by kernel_rfl); have e34 := hE.of 0 34; clear hE h0; refine yes_f ?_; obtain ⟨A2, c2, e32, hl2, hc2⟩ := e32; go_simp; refine (HM5.out A2 c2 W hl2 hW).mono ?_; rintro e w1' ⟨A', c', rfl, h1, g'⟩; exact ⟨_, rfl, hK _ _ g' ⟨A', c', rfl, h1⟩⟩
  apply tw_at wrapsF_stays
  ·intro W f hW hE h0 K hK; have e27 := hE.of 8 27; have e28 := hE.of 7 28; have e29 := hE.of 6 29; have e35 := hE 0 35 _ rfl (by kernel_rfl); clear hE h0; refine yes_f ?_; obtain ⟨A5, c5, e35, hl5⟩ := e35; go_simp; refine (HS5.out A5 c5 W hl5 hW).mono ?_; rintro e w1' ⟨A', c', rfl, h1, h2, h3, g'⟩; (exact ⟨_, rfl, hK _ _ g' ⟨A', c', rfl, h1, h2, fun a ha => Nat.le_trans (HS4.out W hW) (h3 a ha)⟩⟩)
  refine tw_h 13 ?_
  refine tw_nil fun W f hW hA => ?_
  have e36 := hA 1 (some 36) _ rfl
  have e37 : f 37 = _ := hA 0 (some 37) _ rfl
  rw [e37]
  clear hA
  obtain ⟨A6, c6, e36, hw6, hc6, hf6⟩ := e36
  have hr4 := HR4.out.kept hW (by simp)
  have u4 : W.cell? ⟨b4, 4, none⟩ = some (.slice none 0 0) := hr4.at_ (i := 4) rfl
  have p4 := hr4.free 4
  have gs := gb_set1 W b4 4 (.slice A6 k6 c6)
  obtain ⟨W5, hW5⟩ := nmd (W.setCell ⟨b4, 4, none⟩ (.slice A6 k6 c6))
  have hr5 : Row (W.setCell ⟨b4, 4, none⟩ (.slice A6 k6 c6)) b4 25 #[.int .i64 ((n : Int) + 1), .string h9, .int .i64 kind, .int .i64 dev, .slice A6 k6 c6, .string ⟨#[]⟩] := hr4.set_ 4 (.slice A6 k6 c6)
  rw [hW5] at gs hr5
  have HR5 := qj hr5
  have HZ5 := qj ((HZ4.out.kept hW (by simp)).kept gs (by simpa using Hne.out))
  have HG5 : Hid (Gn w W5) := gb_new (gb_none HG4.out hW) gs Hb4.out
  have HWL5 : Hid (WL W5 A6 k6 L9) := wl_kept hw6 gs fun _ a ha e => by have h1 := hf6 a ha; have h2 := Option.some.inj e; omega
  have Hc6 := qj hc6
  have Hf6 : Hid (∀ a, A6 = some a → b4 + 1 ≤ a.block) := hf6
  have HW5' := qj hW5
  rw [e36]
  clear hr4 gs hr5 hw6 hc6 hf6 hW hW5 e36 HW5 HM5 HS5 HR4 HZ4 HG4 HY HS4
  rw [ends_is]
  go_simp
  rw [HW5'.out]
  clear u4 p4 HW5'
  by_cases hn0 : n = 0
  ·have d1 : decide (0 < n) = false := dcF
   have d2 : decide ((0 : Int) < (n : Int)) = false := dcF
   have HT6 : Hid (R2.tag = ⟨#[]⟩) := by show _ = _; rw [HT5.out, if_pos hn0]
   clear hn0
   have y0 : W5.cell? ⟨b4, 0, none⟩ = some (.int .i64 ((n : Int) + 1)) := (HR5.out).at_ (i := 0) rfl
   have y1 : W5.cell? ⟨b4, 1, none⟩ = some (.string h9) := (HR5.out).at_ (i := 1) rfl
   have y2 : W5.cell? ⟨b4, 2, none⟩ = some (.int .i64 kind) := (HR5.out).at_ (i := 2) rfl
   have y3 : W5.cell? ⟨b4, 3, none⟩ = some (.int .i64 dev) := (HR5.out).at_ (i := 3) rfl
   have y4 : W5.cell? ⟨b4, 4, none⟩ = some (.slice A6 k6 c6) := (HR5.out).at_ (i := 4) rfl
   have y5 : W5.cell? ⟨b4, 5, none⟩ = some (.string ⟨#[]⟩) := (HR5.out).at_ (i := 5) rfl
   have hr9 := HZ5.out
   have u0 : W5.cell? ⟨b0, 0, none⟩ = some (.int .i64 0) := hr9.at_ (i := 0) rfl
   have p0 := hr9.free 0
   have u1 : W5.cell? ⟨b0, 1, none⟩ = some (.string ⟨#[]⟩) := hr9.at_ (i := 1) rfl
   have p1 := hr9.free 1
   have u2 : W5.cell? ⟨b0, 2, none⟩ = some (.int .i64 0) := hr9.at_ (i := 2) rfl
   have p2 := hr9.free 2
   have u3 : W5.cell? ⟨b0, 3, none⟩ = some (.int .i64 0) := hr9.at_ (i := 3) rfl
   have p3 := hr9.free 3
   have u4 : W5.cell? ⟨b0, 4, none⟩ = some (.slice none 0 0) := hr9.at_ (i := 4) rfl
   have p4 := hr9.free 4
   have u5 : W5.cell? ⟨b0, 5, none⟩ = some (.string ⟨#[]⟩) := hr9.at_ (i := 5) rfl
   have p5 := hr9.free 5
   have HSR : Hid (Row ((((((W5.setCell ⟨b0, 0, none⟩ (.int .i64 ((n : Int) + 1))).setCell ⟨b0, 1, none⟩ (.string h9)).setCell ⟨b0, 2, none⟩ (.int .i64 kind)).setCell ⟨b0, 3, none⟩ (.int .i64 dev)).setCell ⟨b0, 4, none⟩ (.slice A6 k6 c6)).setCell ⟨b0, 5, none⟩ (.string ⟨#[]⟩)) b0 25 #[.int .i64 ((n : Int) + 1), .string h9, .int .i64 kind, .int .i64 dev, .slice A6 k6 c6, .string ⟨#[]⟩]) := ((((((hr9.set_ 0 (.int .i64 ((n : Int) + 1))).set_ 1 (.string h9)).set_ 2 (.int .i64 kind)).set_ 3 (.int .i64 dev)).set_ 4 (.slice A6 k6 c6)).set_ 5 (.string ⟨#[]⟩))
   have HSG : Hid (W5.grownBy ((((((W5.setCell ⟨b0, 0, none⟩ (.int .i64 ((n : Int) + 1))).setCell ⟨b0, 1, none⟩ (.string h9)).setCell ⟨b0, 2, none⟩ (.int .i64 kind)).setCell ⟨b0, 3, none⟩ (.int .i64 dev)).setCell ⟨b0, 4, none⟩ (.slice A6 k6 c6)).setCell ⟨b0, 5, none⟩ (.string ⟨#[]⟩)) (some b0)) := gb_then (gb_then (gb_then (gb_then (gb_then (gb_set1 _ _ _ _) (gb_set1 _ _ _ _)) (gb_set1 _ _ _ _)) (gb_set1 _ _ _ _)) (gb_set1 _ _ _ _)) (gb_set1 _ _ _ _)
   clear hr9
   go_wp2_with fail
   obtain ⟨t0, t1, t2, t3, t4, t6⟩ := HT0.out
   exact bodyPost_ret (results_cell_row_tmp rfl _ _ b0 25 _ (0, 0) _ rfl HSR.out Tryz.underlying25 (by kernel_rfl)) rfl (made_is t0 t1 t2 t3 t4 HT6.out t6 rfl (wl_kept HWL5.out HSG.out (fun _ a ha e => by have h1 := Hf6.out a ha; have h2 := Option.some.inj e; have := Hbb.out; omega)) Hc6.out (gb_new HG5.out HSG.out Hb0.out))
  ·have d1 : decide (0 < n) = true := dcT
   have d2 : decide ((0 : Int) < (n : Int)) = true := dcT
   have HT6 : Hid (R2.tag = T9) := by show _ = _; rw [HT5.out, if_neg hn0]
   have HY7 : Hid (∀ W, Gn W5 W → W.cell? ⟨b4, 0, none⟩ = some (.int .i64 ((n : Int) + 1)) ∧ W.cell? ⟨b4, 1, none⟩ = some (.string h9) ∧ W.cell? ⟨b4, 2, none⟩ = some (.int .i64 kind) ∧ W.cell? ⟨b4, 3, none⟩ = some (.int .i64 dev) ∧ W.cell? ⟨b4, 4, none⟩ = some (.slice A6 k6 c6) ∧ W.cell? ⟨b4, 5, none⟩ = some (.string ⟨#[]⟩)) := fun W hW => by
    have h := HR5.out.kept hW (by simp)
    exact ⟨h.at_ (i := 0) rfl, h.at_ (i := 1) rfl, h.at_ (i := 2) rfl, h.at_ (i := 3) rfl, h.at_ (i := 4) rfl, h.at_ (i := 5) rfl⟩
   have HE7' := qj fun W (hW : Gn W5 W) => HE7.out W (gb_none HG5.out hW)
   have HT7' := qj fun W (hW : Gn W5 W) => HT7.out A6 c6 W (HWL5.out.keep hW) (gb_none HG5.out hW)
   clear HE7 HT7
   have HE7 := HE7'
   have HT7 := HT7'
   clear HE7' HT7' hn0
   go_upto_region 7 with fail
   refine tw_tail 7 ?_
   refine tw_h 0 ?_
   refine tw_h 2 ?_
   refine tw_e 0 42 ?_
   apply tw_xee 2 41 0 43
   ·intro W f hW ⟨e41, e43⟩ K hK; go_simp; exact ck (HE7.out W hW) hK
   apply tw_xh 13
   ·intro W f hW e13 K hK; obtain ⟨y0, y1, y2, y3, y4, y5⟩ := HY7.out W hW; go_simp; exact kK hK
   apply tw_xee 1 44 0 45
   ·intro W f hW ⟨e44, e45⟩ K hK; go_simp; exact ck (HT7.out W hW) hK
   refine tw_h 13 ?_
   refine tw_nil fun W f hW hA => ?_
   have e46 : f 46 = _ := hA 1 (some 46) _ rfl
   rw [e46]
   have e47 : f 47 = _ := hA 0 (some 47) _ rfl
   rw [e47]
   clear hA
   have hr5 := HR5.out.kept hW (by simp)
   have u5 : W.cell? ⟨b4, 5, none⟩ = some (.string ⟨#[]⟩) := hr5.at_ (i := 5) rfl
   have p5 := hr5.free 5
   have gs := gb_set1 W b4 5 (.string T9)
   obtain ⟨W8, hW8⟩ := nmd (W.setCell ⟨b4, 5, none⟩ (.string T9))
   have hr8 : Row (W.setCell ⟨b4, 5, none⟩ (.string T9)) b4 25 #[.int .i64 ((n : Int) + 1), .string h9, .int .i64 kind, .int .i64 dev, .slice A6 k6 c6, .string T9] := hr5.set_ 5 (.string T9)
   rw [hW8] at gs hr8
   have HR8 := qj hr8
   have HZ8 := qj ((HZ5.out.kept hW (by simp)).kept gs (by simpa using Hne.out))
   have HG8 : Hid (Gn w W8) := gb_new (gb_none HG5.out hW) gs Hb4.out
   have HWL8 : Hid (WL W8 A6 k6 L9) := wl_kept (HWL5.out.keep hW) gs fun _ a ha e => by have h1 := Hf6.out a ha; have h2 := Option.some.inj e; omega
   have HW8' := qj hW8
   clear hr5 gs hr8 hW hW8 HR5 HZ5 HG5 HWL5 HY7 HE7 HT7
   rw [ends_is]
   go_simp
   rw [HW8'.out]
   clear u5 p5 HW8'
   have y0 : W8.cell? ⟨b4, 0, none⟩ = some (.int .i64 ((n : Int) + 1)) := (HR8.out).at_ (i := 0) rfl
   have y1 : W8.cell? ⟨b4, 1, none⟩ = some (.string h9) := (HR8.out).at_ (i := 1) rfl
   have y2 : W8.cell? ⟨b4, 2, none⟩ = some (.int .i64 kind) := (HR8.out).at_ (i := 2) rfl
   have y3 : W8.cell? ⟨b4, 3, none⟩ = some (.int .i64 dev) := (HR8.out).at_ (i := 3) rfl
   have y4 : W8.cell? ⟨b4, 4, none⟩ = some (.slice A6 k6 c6) := (HR8.out).at_ (i := 4) rfl
   have y5 : W8.cell? ⟨b4, 5, none⟩ = some (.string T9) := (HR8.out).at_ (i := 5) rfl
   have hr9 := HZ8.out
   have u0 : W8.cell? ⟨b0, 0, none⟩ = some (.int .i64 0) := hr9.at_ (i := 0) rfl
   have p0 := hr9.free 0
   have u1 : W8.cell? ⟨b0, 1, none⟩ = some (.string ⟨#[]⟩) := hr9.at_ (i := 1) rfl
   have p1 := hr9.free 1
   have u2 : W8.cell? ⟨b0, 2, none⟩ = some (.int .i64 0) := hr9.at_ (i := 2) rfl
   have p2 := hr9.free 2
   have u3 : W8.cell? ⟨b0, 3, none⟩ = some (.int .i64 0) := hr9.at_ (i := 3) rfl
   have p3 := hr9.free 3
   have u4 : W8.cell? ⟨b0, 4, none⟩ = some (.slice none 0 0) := hr9.at_ (i := 4) rfl
   have p4 := hr9.free 4
   have u5 : W8.cell? ⟨b0, 5, none⟩ = some (.string ⟨#[]⟩) := hr9.at_ (i := 5) rfl
   have p5 := hr9.free 5
   have HSR : Hid (Row ((((((W8.setCell ⟨b0, 0, none⟩ (.int .i64 ((n : Int) + 1))).setCell ⟨b0, 1, none⟩ (.string h9)).setCell ⟨b0, 2, none⟩ (.int .i64 kind)).setCell ⟨b0, 3, none⟩ (.int .i64 dev)).setCell ⟨b0, 4, none⟩ (.slice A6 k6 c6)).setCell ⟨b0, 5, none⟩ (.string T9)) b0 25 #[.int .i64 ((n : Int) + 1), .string h9, .int .i64 kind, .int .i64 dev, .slice A6 k6 c6, .string T9]) := ((((((hr9.set_ 0 (.int .i64 ((n : Int) + 1))).set_ 1 (.string h9)).set_ 2 (.int .i64 kind)).set_ 3 (.int .i64 dev)).set_ 4 (.slice A6 k6 c6)).set_ 5 (.string T9))
   have HSG : Hid (W8.grownBy ((((((W8.setCell ⟨b0, 0, none⟩ (.int .i64 ((n : Int) + 1))).setCell ⟨b0, 1, none⟩ (.string h9)).setCell ⟨b0, 2, none⟩ (.int .i64 kind)).setCell ⟨b0, 3, none⟩ (.int .i64 dev)).setCell ⟨b0, 4, none⟩ (.slice A6 k6 c6)).setCell ⟨b0, 5, none⟩ (.string T9)) (some b0)) := gb_then (gb_then (gb_then (gb_then (gb_then (gb_set1 _ _ _ _) (gb_set1 _ _ _ _)) (gb_set1 _ _ _ _)) (gb_set1 _ _ _ _)) (gb_set1 _ _ _ _)) (gb_set1 _ _ _ _)
   clear hr9
   go_wp2_with fail
   obtain ⟨t0, t1, t2, t3, t4, t6⟩ := HT0.out
   exact bodyPost_ret (results_cell_row_tmp rfl _ _ b0 25 _ (0, 0) _ rfl HSR.out Tryz.underlying25 (by kernel_rfl)) rfl (made_is t0 t1 t2 t3 t4 HT6.out t6 rfl (wl_kept HWL8.out HSG.out (fun _ a ha e => by have h1 := Hf6.out a ha; have h2 := Option.some.inj e; have := Hbb.out; omega)) Hc6.out (gb_new HG8.out HSG.out Hb0.out))
 ·have hd : madeR s m l kind dev = zeroR := if_neg (by rw [hk]; exact hk0)
  rw [hd, hk]
  have HN : Hid (∀ W v, Tells 1 v k → Gn w W → Calls Tryz.prog 35 #[v] W fun e w' => e = .returned (.int .i64 k) ∧ Gn W w') := fun W v hv hW => number_any hv (by decide) W (hR.2.2.2.keep hW (by simp))
  have Hk0 := qj hk0
  clear hl hn hc hb hs hm hR g0 hk hd
  go_enter Tryz.func12, Tryz.ntmps12
  go_upto_region 1 with fail
  clear hW0 hb0
  go_wp2_with fail
  refine HD.out.mono ?_
  rintro e w2 ⟨⟨v, rfl, hv⟩, g2⟩
  obtain ⟨t0, p0, rfl⟩ := hv.iface Hk0.out
  have Hv := qj hv
  have HZ2 := qj (HZ0.out.kept g2 (by simp))
  have HG2 := qj (gb_none HG0.out g2)
  clear g2 hv HD HZ0 hk0
  go_wp2_with fail
  refine (HN.out w2 _ Hv.out HG2.out).mono ?_
  rintro e w3 ⟨rfl, g3⟩
  have HZ3 := qj (HZ2.out.kept g3 (by simp))
  have HG3 := qj (gb_none HG2.out g3)
  clear g3
  have hr9 := HZ3.out
  have u0 : w3.cell? ⟨b0, 0, none⟩ = some (.int .i64 0) := hr9.at_ (i := 0) rfl
  have p0 := hr9.free 0
  have u1 : w3.cell? ⟨b0, 1, none⟩ = some (.string ⟨#[]⟩) := hr9.at_ (i := 1) rfl
  have p1 := hr9.free 1
  have u2 : w3.cell? ⟨b0, 2, none⟩ = some (.int .i64 0) := hr9.at_ (i := 2) rfl
  have p2 := hr9.free 2
  have u3 : w3.cell? ⟨b0, 3, none⟩ = some (.int .i64 0) := hr9.at_ (i := 3) rfl
  have p3 := hr9.free 3
  have u4 : w3.cell? ⟨b0, 4, none⟩ = some (.slice none 0 0) := hr9.at_ (i := 4) rfl
  have p4 := hr9.free 4
  have u5 : w3.cell? ⟨b0, 5, none⟩ = some (.string ⟨#[]⟩) := hr9.at_ (i := 5) rfl
  have p5 := hr9.free 5
  have HSR : Hid (Row ((((((w3.setCell ⟨b0, 0, none⟩ (.int .i64 0)).setCell ⟨b0, 1, none⟩ (.string ⟨#[]⟩)).setCell ⟨b0, 2, none⟩ (.int .i64 0)).setCell ⟨b0, 3, none⟩ (.int .i64 0)).setCell ⟨b0, 4, none⟩ (.slice none 0 0)).setCell ⟨b0, 5, none⟩ (.string ⟨#[]⟩)) b0 25 #[.int .i64 0, .string ⟨#[]⟩, .int .i64 0, .int .i64 0, .slice none 0 0, .string ⟨#[]⟩]) := ((((((hr9.set_ 0 (.int .i64 0)).set_ 1 (.string ⟨#[]⟩)).set_ 2 (.int .i64 0)).set_ 3 (.int .i64 0)).set_ 4 (.slice none 0 0)).set_ 5 (.string ⟨#[]⟩))
  have HSG : Hid (w3.grownBy ((((((w3.setCell ⟨b0, 0, none⟩ (.int .i64 0)).setCell ⟨b0, 1, none⟩ (.string ⟨#[]⟩)).setCell ⟨b0, 2, none⟩ (.int .i64 0)).setCell ⟨b0, 3, none⟩ (.int .i64 0)).setCell ⟨b0, 4, none⟩ (.slice none 0 0)).setCell ⟨b0, 5, none⟩ (.string ⟨#[]⟩)) (some b0)) := gb_then (gb_then (gb_then (gb_then (gb_then (gb_set1 _ _ _ _) (gb_set1 _ _ _ _)) (gb_set1 _ _ _ _)) (gb_set1 _ _ _ _)) (gb_set1 _ _ _ _)) (gb_set1 _ _ _ _)
  clear hr9
  go_wp2_with fail
  exact bodyPost_ret (results_cell_row_tmp rfl _ _ b0 25 _ (0, 0) _ rfl HSR.out Tryz.underlying25 (by kernel_rfl)) rfl (made_is (r := zeroR) rfl rfl rfl rfl rfl rfl rfl rfl (WL.none _ _) (Nat.le_refl _) (gb_new HG3.out HSG.out Hb0.out))
end Go.Proofs.YtpcjbjpofcdjeaaGreatDoor.Wc
