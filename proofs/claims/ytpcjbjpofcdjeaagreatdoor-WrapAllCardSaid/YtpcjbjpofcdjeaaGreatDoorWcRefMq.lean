/- The document's Make. Written by gen_wc5.py. -/
import Derived.Test.YtpcjbjpofcdjeaaGreatDoorTwq
import Derived.Test.YtpcjbjpofcdjeaaGreatDoorWcRefNq
set_option linter.unusedVariables false
set_option maxHeartbeats 16000000
set_option maxRecDepth 100000
namespace Go.Proofs.YtpcjbjpofcdjeaaGreatDoor.Wc
open Go Go.RowKit Mm Td Vw Dt
open Mb Ro Hh We
attribute [local go_sem] Td.upon_value Td.upon_skip Td.upon_enter Td.upon_row Td.look_tmp Td.look_const Td.look_func Td.look_global
theorem one_list {w : World} {g : Nat} {x : Mb.Wp} (h : Row w g 70 #[.int .i64 x.d, .string x.box]) : ∀ j u, (wv1 x)[j]? = some u → w.cell? ((⟨g, 0, none⟩ : Addr).add j) = some u := fun j u hu => by
 have hq : j < 2 := by have := (List.getElem?_eq_some_iff.1 hu).1; simpa [wv1] using this
 rw [addr_add, Nat.zero_add]
 match j, hq, hu with
 | 0, _, hu => rw [← hu]; exact h.at_ (i := 0) rfl
 | 1, _, hu => rw [← hu]; exact h.at_ (i := 1) rfl
def boxW (x : Mb.Wp) : Td.Spec := fun W v => ∃ b, v = .slice (some ⟨b, 0, none⟩) 1 1 ∧ Row W b 70 #[.int .i64 x.d, .string x.box]
theorem boxW_stays {x : Mb.Wp} : Stays (fun a b => Gn a b) (boxW x) := fun _ _ _ k ⟨b, e, h⟩ => ⟨b, e, h.kept k (by simp)⟩
theorem wrapsU_yes {s m : ByteArray} {r : Rc} {l : List Rc} {e : Int} {j : Nat} (h : inB l e (j : Int) = true) : wrapsR s m r (memsU l e (j + 1)) = wrapsR s m r (memsU l e j) ++ [sealR s m r (j : Int)] := by
 unfold wrapsR
 rw [memsU_yes h, List.map_append]; rfl
theorem memsU_range {l : List Rc} {e : Int} {j : Nat} (hj : j ≤ 8) : ∀ d ∈ memsU l e j, 0 ≤ d ∧ d < 8 := fun d hd => by
 have h := (memsU_mem l e d j).1 hd
 omega
theorem head_part (s m : ByteArray) {r : Rc} (h : MayR r) (l : List Rc) (e : Int) {j : Nat} (hj : j ≤ 8) : Mb.headB (withW r (wrapsR s m r (memsU l e j))) = Mb.headB r :=
 (headB_is (withW_may h (wraps_right _ _ _ (memsU_range hj)) (wraps_rise _ _ _ (memsU_rise _ _ _))) h).2 ⟨rfl, rfl, rfl, rfl⟩
theorem last_at2 {l : List Rc} {n : Nat} (hn : l.length = n) (h0 : n ≠ 0) : ∃ r, l[n - 1]? = some r ∧ lastH l = hashB r := by
 obtain ⟨r, hr⟩ : ∃ r, l[n - 1]? = some r := ⟨_, List.getElem?_eq_getElem (by omega)⟩
 exact ⟨r, hr, by unfold lastH; rw [List.getLast?_eq_getElem?, hn, hr]⟩
def RecA (w : World) (g o : Nat) (r : Rc) (A : Option Addr) (c : Nat) : Prop := w.cell? ⟨g, o, none⟩ = some (.int .i64 r.seq) ∧ w.cell? ⟨g, o + 1, none⟩ = some (.string r.prev) ∧ w.cell? ⟨g, o + 2, none⟩ = some (.int .i64 r.kind) ∧ w.cell? ⟨g, o + 3, none⟩ = some (.int .i64 r.dev) ∧ w.cell? ⟨g, o + 4, none⟩ = some (.slice A r.wraps.length c) ∧ w.cell? ⟨g, o + 5, none⟩ = some (.string r.tag)
structure Lp (w wr : World) (b0 b4 Bw B7 n : Nat) (h9 : ByteArray) (kind dev : Int) (lv vv : Value) (N : Nat) (L : List Mb.Wp) (lr : List Rc) : Prop where
 own : wr.ownsRow Bw 70 2 vv N (wv L)
 row : Row wr b4 25 #[.int .i64 ((n : Int) + 1), .string h9, .int .i64 kind, .int .i64 dev, vv, .string ⟨#[]⟩]
 log : LR wr (· < w.heap.size) B7 lv lr
 zer : Row wr b0 36 #[.int .i64 0, .string ⟨#[]⟩, .int .i64 0, .int .i64 0, .slice none 0 0, .string ⟨#[]⟩, .int .i64 0]
 gro : Gn w wr
 low : ∀ i, lv.ownBlock = some i → i < Bw
 siz : Bw ≤ wr.heap.size
theorem Lp.keep {w wr wx : World} {b0 b4 Bw B7 n : Nat} {h9 : ByteArray} {kind dev : Int} {lv vv : Value} {N : Nat} {L : List Mb.Wp} {lr : List Rc} (h : Lp w wr b0 b4 Bw B7 n h9 kind dev lv vv N L lr) (k : Gn wr wx) : Lp w wx b0 b4 Bw B7 n h9 kind dev lv vv N L lr :=
 ⟨own_keep h.own k, h.row.kept k (by simp), h.log.keep k, h.zer.kept k (by simp), gb_none h.gro k, h.low, Nat.le_trans h.siz k.size⟩
theorem Lp.more {w wr wx : World} {b0 b4 Bw B7 n : Nat} {h9 : ByteArray} {kind dev : Int} {lv vv v2 : Value} {N : Nat} {L L2 : List Mb.Wp} {lr : List Rc} (h : Lp w wr b0 b4 Bw B7 n h9 kind dev lv vv N L lr) (hb : w.heap.size ≤ b0 ∧ b0 < b4 ∧ b4 < B7 ∧ B7 ≤ Bw) (ho : wx.ownsRow Bw 70 2 v2 (N + 1) (wv L2)) (hg : wr.grownBy wx vv.ownBlock) :
  Lp w (wx.setCell ⟨b4, 4, none⟩ v2) b0 b4 Bw B7 n h9 kind dev lv v2 (N + 1) L2 lr ∧ wx.cell? ⟨b4, 4, none⟩ = some vv ∧ wx.frozen? ⟨b4, 4, none⟩ = false := by
 have hf := own_far6 h.own
 have hf2 := own_far6 ho
 have hl := h.log.far
 have n4 : some b4 ≠ vv.ownBlock := fun e => by have := (hf b4 e.symm).1; omega
 have n0 : some b0 ≠ vv.ownBlock := fun e => by have := (hf b0 e.symm).1; omega
 have r1 : Row wx b4 25 #[.int .i64 ((n : Int) + 1), .string h9, .int .i64 kind, .int .i64 dev, vv, .string ⟨#[]⟩] := h.row.kept hg n4
 have gs := gb_set1 wx b4 4 v2
 have l1 : LR wx (· < w.heap.size) B7 lv lr := h.log.kept hg (by
  cases hv : lv.ownBlock with
  | none => exact .inl rfl
  | some i => exact .inr fun e => by have := (hf i e.symm).1; have := h.low i hv; omega) (fun g hg e => by have := (hf g e.symm).1; omega)
 refine ⟨⟨?_, r1.set_ 4 v2, ?_, ?_, ?_, h.low, Nat.le_trans h.siz (Nat.le_trans hg.size gs.size)⟩, r1.at_ (i := 4) rfl, r1.free 4⟩
 ·refine World.ownsRow.kept ho gs ?_
  cases hv : v2.ownBlock with
  | none => exact .inl rfl
  | some i => exact .inr fun e => by have := (hf2 i hv).1; have := Option.some.inj e; omega
 ·refine l1.kept gs ?_ (fun g hg e => by have := Option.some.inj e; omega)
  cases hv : lv.ownBlock with
  | none => exact .inl rfl
  | some i => exact .inr fun e => by have := (hl i hv).1; have := Option.some.inj e; omega
 ·exact (h.zer.kept hg n0).kept gs (by intro e; have := Option.some.inj e; omega)
 ·exact gb_new (gb_step h.gro hg fun i e => .inr (by have := (hf i e).1; omega)) gs (by omega)
theorem refMake_yes (s m : ByteArray) (A : Option Addr) (n c : Nat) (l : List Rc) (kind dev : Int) (w : World) (hl : LogL w A n l) (hn : n ≤ 1000000) (hc : n ≤ c) (hb : ∀ r ∈ l, r.wraps.length ≤ 1099511627776) (hs : s.size ≤ 1048576) (hm : m.size ≤ 1048576) (hk : deedE l kind dev = 0) :
  Calls Tryz.prog 13 #[.string s, .string m, .slice A n c, .int .i64 kind, .int .i64 dev] w (RMadeIs (nextR s m l kind dev) 0 w) := by
 obtain ⟨q, hq⟩ := nmd (inB l (n : Int) dev)
 obtain ⟨b0, hb0⟩ := nmd (w.heap.size)
 obtain ⟨W0, hW0⟩ := nmd (w.alloc (.cells #[.int .i64 0, .string ⟨#[]⟩, .int .i64 0, .int .i64 0, .slice none 0 0, .string ⟨#[]⟩, .int .i64 0] 36))
 have g0 : Gn w W0 := by rw [← hW0]; exact gb_alloc (gb_refl _ _) _
 have HZ0 : Hid (Row W0 b0 36 #[.int .i64 0, .string ⟨#[]⟩, .int .i64 0, .int .i64 0, .slice none 0 0, .string ⟨#[]⟩, .int .i64 0]) := by rw [← hW0, ← hb0]; exact Row.new _ _ _
 have HG0 := qj g0
 have Hb0 : Hid (w.heap.size ≤ b0) := by show _ ≤ _; omega
 have HI : Hid (Calls Tryz.prog 29 #[.slice A n c, .int .i64 (n : Int), .int .i64 dev] W0 fun x w' => x = .returned (.bool q) ∧ W0 = w') := by rw [← hq]; exact refIn_any A n c l (n : Int) dev W0 (hl.keep g0) (by omega)
 have HC : Hid (Calls Tryz.prog 31 #[.slice A n c] W0 (BoolIs (ChainR l) W0)) := refCheck_any A n c l W0 (hl.keep g0) hc hb
 have Hl : Hid (l.length = n) := hl.1
 have hq2 : inB l (l.length : Int) dev = q := by rw [hl.1]; exact hq
 have HQ := qj hq2
 have hlen : l.length = n := hl.1
 obtain ⟨hch, h40⟩ := deed_chain hk
 have hmay := hung_may hk
 obtain ⟨hna, hA, hB, _⟩ := deed_yes hk
 rw [hlen] at h40
 rw [hq2] at hA hB
 unfold DeedArg at hna
 obtain ⟨h9, hh9⟩ := nmd (lastH l)
 have h9z : n = 0 → h9 = ⟨#[]⟩ := fun h0 => by rw [← hh9, List.eq_nil_of_length_eq_zero (by omega : l.length = 0)]; rfl
 obtain ⟨R0, hR0⟩ := nmd (hung l kind dev)
 have f0 : R0.seq = (n : Int) + 1 := by rw [← hR0, ← hlen]; rfl
 have f1 : R0.prev = h9 := by rw [← hR0, ← hh9]; rfl
 have f2 : R0.kind = kind := by rw [← hR0]; rfl
 have f3 : R0.dev = dev := by rw [← hR0]; rfl
 have f4 : R0.wraps = [] := by rw [← hR0]; rfl
 have f5 : R0.tag = ⟨#[]⟩ := by rw [← hR0]; rfl
 rw [hR0] at hmay
 obtain ⟨LL, hLL⟩ := nmd (l ++ [R0])
 have hLLn : LL.length = n + 1 := by rw [← hLL, List.length_append, hlen]; rfl
 obtain ⟨R1, hR1⟩ := nmd (sealedR s m l kind dev)
 have r4 : R1.wraps = wrapsR s m R0 (memsU LL ((n : Int) + 1) 8) := by rw [← hR1, ← hLL, ← hR0, ← hlen]; rfl
 have r0 : R1.seq = (n : Int) + 1 := by rw [← hR1, ← hlen]; rfl
 have r1 : R1.prev = h9 := by rw [← hR1, ← hh9]; rfl
 have r2 : R1.kind = kind := by rw [← hR1]; rfl
 have r3 : R1.dev = dev := by rw [← hR1]; rfl
 have r5 : R1.tag = ⟨#[]⟩ := by rw [← hR1]; rfl
 obtain ⟨R2, hR2⟩ := nmd (nextR s m l kind dev)
 have t4 : R2.wraps = R1.wraps := by rw [← hR2, ← hR1]; rfl
 have t0 : R2.seq = (n : Int) + 1 := by rw [← hR2, ← hlen]; rfl
 have t1 : R2.prev = h9 := by rw [← hR2, ← hh9]; rfl
 have t2 : R2.kind = kind := by rw [← hR2]; rfl
 have t3 : R2.dev = dev := by rw [← hR2]; rfl
 have t5 : R2.tag = if n = 0 then ⟨#[]⟩ else tagR (Ky.epochB s (n : Int)) R1 := by rw [← hR2, ← hR1, ← hlen]; rfl
 rw [hR2]
 have HK : Hid (ChainR l) := hch
 have HLg : Hid (∀ W, Gn w W → LogL W A n l) := fun W hW => hl.keep hW
 have HLw : Hid (LogL w A n l) := hl
 have HHs : Hid (n ≠ 0 → ∃ r RA rc, (∀ W, Gn w W → ∃ g o, A = some ⟨g, o, none⟩ ∧ RecA W g (o + (n - 1) * 6) r RA rc) ∧ ∀ W, Gn w W → Calls Tryz.prog 33 #[.agg (recCs r RA rc)] W fun e w' => e = .returned (.string h9) ∧ Gn W w') := fun h0 => by
  obtain ⟨r, hr, hh⟩ := last_at2 hlen h0
  obtain ⟨g, o, rfl, hgl, RA, rc, z0, z1, z2, z3, z4, z5, hwl, hrc⟩ := log_at hl hr
  refine ⟨r, RA, rc, fun W hW => ⟨g, o, rfl, ?_⟩, fun W hW => ?_⟩
  ·have hb := hW.block g hgl (by simp)
   exact ⟨(World.cell?_of_block (a := ⟨g, _, none⟩) hb).trans z0, (World.cell?_of_block (a := ⟨g, _, none⟩) hb).trans z1, (World.cell?_of_block (a := ⟨g, _, none⟩) hb).trans z2, (World.cell?_of_block (a := ⟨g, _, none⟩) hb).trans z3, (World.cell?_of_block (a := ⟨g, _, none⟩) hb).trans z4, (World.cell?_of_block (a := ⟨g, _, none⟩) hb).trans z5⟩
  ·rw [← hh9, hh]
   exact refHash_any r RA rc W (hwl.keep hW) (hb r (List.mem_of_getElem? hr))
 have HIn : Hid (∀ A' c' (j : Int) W, LogL W A' (n + 1) LL → Calls Tryz.prog 29 #[.slice A' (n + 1) c', .int .i64 ((n : Int) + 1), .int .i64 j] W fun x w' => x = .returned (.bool (inB LL ((n : Int) + 1) j)) ∧ W = w') := fun A' c' j W h => refIn_any A' (n + 1) c' LL ((n : Int) + 1) j W h (by omega)
 have HOwA : Hid (∀ (j : Nat) W, j < 8 → Calls Tryz.prog 26 #[.string m, .int .i64 (j : Int)] W fun e w' => e = .returned (.string (Ky.ownB m (j : Int))) ∧ Gn W w') := fun j W hj => Ky.refOwn_any m (j : Int) W (by omega) (by omega) hm
 have HWrA : Hid (∀ (j : Nat) W, Calls Tryz.prog 42 #[.string (Ky.ownB m (j : Int))] W fun e w' => e = .returned (.string (Ky.wrapB (Ky.ownB m (j : Int)))) ∧ Gn W w') := fun j W => Ky.refWrap_any _ W (by rw [Ky.own_size]; decide)
 obtain ⟨N9, hN9⟩ := nmd (Ky.nonceB ((n : Int) + 1))
 have HNcA : Hid (∀ W, Calls Tryz.prog 43 #[.int .i64 ((n : Int) + 1)] W fun e w' => e = .returned (.string N9) ∧ Gn W w') := fun W => by rw [← hN9]; exact Ky.refNonce_any _ W
 obtain ⟨E9, hE9⟩ := nmd (Ky.epochB s ((n : Int) + 1))
 have HEpA : Hid (∀ W, Calls Tryz.prog 30 #[.string s, .int .i64 ((n : Int) + 1)] W fun e w' => e = .returned (.string E9) ∧ Gn W w') := fun W => by rw [← hE9]; exact Ky.refEpoch_any s _ W (by omega) (by omega) hs
 obtain ⟨H9, hH9⟩ := nmd (Mb.headB R0)
 have hH2 : H9.size ≤ 2000 := by rw [← hH9]; exact head_size R0
 have HHeA : Hid (∀ (j N : Nat) A' c' W, j ≤ 8 → (wrapsR s m R0 (memsU LL ((n : Int) + 1) j)).length = N → WL W A' N (wrapsR s m R0 (memsU LL ((n : Int) + 1) j)) → Calls Tryz.prog 44 #[.agg #[.int .i64 ((n : Int) + 1), .string h9, .int .i64 kind, .int .i64 dev, .slice A' N c', .string ⟨#[]⟩]] W fun e w' => e = .returned (.string H9) ∧ Gn W w') := fun j N A' c' W hj hN hw => by
  have h := refHead_any (withW R0 (wrapsR s m R0 (memsU LL ((n : Int) + 1) j))) A' c' W (by show WL W A' (wrapsR s m R0 (memsU LL ((n : Int) + 1) j)).length _; rw [hN]; exact hw) (by show (wrapsR s m R0 (memsU LL ((n : Int) + 1) j)).length ≤ _; rw [wraps_len]; have := memsU_len LL ((n : Int) + 1) j; omega)
  rw [head_part s m hmay LL ((n : Int) + 1) hj, hH9] at h
  have e0 : (withW R0 (wrapsR s m R0 (memsU LL ((n : Int) + 1) j))).wraps.length = N := hN
  try unfold recCs at h
  rw [e0] at h
  unfold withW at h
  simp only at h
  try unfold recCs at h
  rw [f0, f1, f2, f3, f5] at h
  exact h
 have HSeA : Hid (∀ (j : Nat) W, Calls Tryz.prog 41 #[.string (Ky.wrapB (Ky.ownB m (j : Int))), .string N9, .string H9, .string E9] W fun e w' => e = .returned (.string (sealR s m R0 (j : Int)).box) ∧ Gn W w') := fun j W => by
  rw [sealR_box, hH9, f0, hN9, hE9]; exact Bx.refSeal_any _ _ _ _ W (by omega)
 have HE7A : Hid (∀ W, Calls Tryz.prog 30 #[.string s, .int .i64 (n : Int)] W fun e w' => e = .returned (.string (Ky.epochB s (n : Int))) ∧ Gn W w') := fun W => Ky.refEpoch_any s (n : Int) W (by omega) (by omega) hs
 have HT7A : Hid (∀ A6 c6 k6 W, R1.wraps.length = k6 → WL W A6 k6 R1.wraps → Calls Tryz.prog 21 #[.string (Ky.epochB s (n : Int)), .agg #[.int .i64 ((n : Int) + 1), .string h9, .int .i64 kind, .int .i64 dev, .slice A6 k6 c6, .string ⟨#[]⟩]] W fun e w' => e = .returned (.string (tagR (Ky.epochB s (n : Int)) R1)) ∧ Gn W w') := fun A6 c6 k6 W hk h => by
  have h := refTag_any (Ky.epochB s (n : Int)) R1 A6 c6 W (by rw [hk]; exact h) (by rw [r4, wraps_len]; have := memsU_len LL ((n : Int) + 1) 8; omega) (by rw [epoch_size]; decide)
  try unfold recCs at h
  rw [r0, r1, r2, r3, r5, hk] at h
  exact h
 have HT0A : Hid (R2.seq = (n : Int) + 1 ∧ R2.prev = h9 ∧ R2.kind = kind ∧ R2.dev = dev ∧ R2.wraps = R1.wraps) := ⟨t0, t1, t2, t3, t4⟩
 have HR14 := qj r4
 have HT5 := qj t5
 have H9z := qj h9z
 have Hn40 := qj h40
 have Hcc := qj hc
 have HLLn := qj hLLn
 have Hll := qj hLL
 have HF0 : Hid (R0.seq = (n : Int) + 1 ∧ R0.prev = h9 ∧ R0.kind = kind ∧ R0.dev = dev ∧ R0.wraps = [] ∧ R0.tag = ⟨#[]⟩) := ⟨f0, f1, f2, f3, f4, f5⟩
 have ht1 : IntKind.i64.wrap ((n : Int) + 1) = (n : Int) + 1 := by rw [IntKind.wrap_i64]; omega
 have hm1 : decide (40 ≤ n) = false := dcF
 have hm2 : decide ((40 : Int) ≤ (n : Int)) = false := dcF
 have Hdv : Hid (0 ≤ dev ∧ dev < 8 ∧ (kind = 1 ∨ kind = 2) ∧ (n = 0 → kind = 1 ∧ dev = 0) ∧ ¬ (kind = 2 ∧ dev = 0) ∧ (kind = 1 → q = false) ∧ (kind = 2 → q = true)) := ⟨by omega, by omega, by omega, fun h0 => by omega, by omega, fun h1 => by cases q with | false => rfl | true => exact absurd ⟨h1, rfl⟩ hA, fun h1 => by cases q with | true => rfl | false => exact absurd ⟨h1, rfl⟩ hB⟩
 clear hl hc hb hs hm hk hq hq2 g0 hlen hch h40 hmay hna hA hB hh9 h9z hR0 f0 f1 f2 f3 f4 f5 hLL hLLn hR1 r0 r1 r2 r3 r4 r5 hR2 t0 t1 t2 t3 t4 t5 hN9 hE9 hH9 hH2 HLg
 generalize tagR (Ky.epochB s (n : Int)) R1 = T9 at *
 generalize Ky.epochB s (n : Int) = F9 at *
 go_enter Tryz.func13, Tryz.ntmps13
 go_upto_region 2 with fail
 clear hW0 hb0
 go_wp2_with fail
 refine HI.out.mono ?_
 rintro e _ ⟨rfl, rfl⟩
 go_upto_block 0 with fail
 go_cut [22, 63, 70, 78] (fun _ _ _ _ wx => Hid (Gn W0 wx))
 case first =>
  obtain ⟨hd0, hd8, hkk, hz0, hz2, hq1, hq2⟩ := Hdv.out
  have h40 := Hn40.out
  by_cases hn0 : n = 0
  ·obtain ⟨hk1, hz⟩ := hz0 hn0
   obtain rfl := hq1 hk1
   have e1 : (kind == 1) = true := eq_yes (by omega)
   have e1n : (kind != 1) = false := by rw [bne, e1]; rfl
   have e2 : (kind == 2) = false := eq_no (by omega)
   have e2n : (kind != 2) = true := by rw [bne, e2]; rfl
   have d1 : decide (dev < 0) = false := dcF
   have d2 : decide (8 ≤ dev) = false := dcF
   have l0 : ((n : Int) == 0) = true := eq_yes (by omega)
   have l0n : (n == 0) = true := by simpa using hn0
   have z1 : (dev == 0) = true := eq_yes hz
   have z1n : (dev != 0) = false := by rw [bne, z1]; rfl
   clear hd0 hd8 hkk hz0 hz2 hq1 hq2 hn0 hk1 hz h40
   go_wp2_with fail
   refine HC.out.mono ?_
   rintro e w2 hh
   obtain ⟨rfl, g2⟩ := hh.yes HK.out
   have Hg2 := qj g2
   clear hh g2
   go_wp2_with fail
   go_meet
   exact Hg2.out
  ·rcases hkk with hk1 | hk2
   ·obtain rfl := hq1 hk1
    have e1 : (kind == 1) = true := eq_yes (by omega)
    have e1n : (kind != 1) = false := by rw [bne, e1]; rfl
    have e2 : (kind == 2) = false := eq_no (by omega)
    have e2n : (kind != 2) = true := by rw [bne, e2]; rfl
    have d1 : decide (dev < 0) = false := dcF
    have d2 : decide (8 ≤ dev) = false := dcF
    have l0 : ((n : Int) == 0) = false := eq_no (by omega)
    have l0n : (n == 0) = false := by simpa using hn0
    clear hd0 hd8 hz0 hz2 hq1 hq2 hn0 hk1 h40
    go_wp2_with fail
    refine HC.out.mono ?_
    rintro e w2 hh
    obtain ⟨rfl, g2⟩ := hh.yes HK.out
    have Hg2 := qj g2
    clear hh g2
    go_wp2_with fail
    go_meet
    exact Hg2.out
   ·obtain rfl := hq2 hk2
    have hz : dev ≠ 0 := fun h => hz2 ⟨hk2, h⟩
    have e1 : (kind == 1) = false := eq_no (by omega)
    have e1n : (kind != 1) = true := by rw [bne, e1]; rfl
    have e2 : (kind == 2) = true := eq_yes (by omega)
    have e2n : (kind != 2) = false := by rw [bne, e2]; rfl
    have d1 : decide (dev < 0) = false := dcF
    have d2 : decide (8 ≤ dev) = false := dcF
    have l0 : ((n : Int) == 0) = false := eq_no (by omega)
    have l0n : (n == 0) = false := by simpa using hn0
    have z1 : (dev == 0) = false := eq_no hz
    have z1n : (dev != 0) = true := by rw [bne, z1]; rfl
    clear hd0 hd8 hz0 hz2 hq1 hq2 hn0 hk2 hz h40
    go_wp2_with fail
    refine HC.out.mono ?_
    rintro e w2 hh
    obtain ⟨rfl, g2⟩ := hh.yes HK.out
    have Hg2 := qj g2
    clear hh g2
    go_wp2_with fail
    go_meet
    exact Hg2.out
 case rest =>
  have HZ1 := qj (HZ0.out.kept hcut.out (by simp))
  have HG1 := qj (gb_none HG0.out hcut.out)
  clear hcut HC HZ0 HG0 HI hm1 hm2
  generalize wc = W1 at *
  obtain ⟨b4, hb4⟩ := nmd (W1.heap.size)
  obtain ⟨W4, hW4⟩ := nmd (W1.alloc (.cells #[.int .i64 ((n : Int) + 1), .string ⟨#[]⟩, .int .i64 kind, .int .i64 dev, .slice none 0 0, .string ⟨#[]⟩] 25))
  have HR4 : Hid (Row W4 b4 25 #[.int .i64 ((n : Int) + 1), .string ⟨#[]⟩, .int .i64 kind, .int .i64 dev, .slice none 0 0, .string ⟨#[]⟩]) := by rw [← hW4, ← hb4]; exact Row.new _ _ _
  have HZ4 : Hid (Row W4 b0 36 #[.int .i64 0, .string ⟨#[]⟩, .int .i64 0, .int .i64 0, .slice none 0 0, .string ⟨#[]⟩, .int .i64 0]) := by rw [← hW4]; exact HZ1.out.alloc _
  have HG4 : Hid (Gn w W4) := by rw [← hW4]; exact gb_alloc HG1.out _
  have HbA : Hid (w.heap.size ≤ b0 ∧ b0 < b4) := ⟨Hb0.out, by have := HZ1.out.lt; omega⟩
  have HW4 := qj hW4
  clear hW4
  go_upto_region 12 with fail
  rw [HW4.out]
  clear hb4 HW4 HZ1 HG1 Hb0
  go_upto_if 88 with fail
  go_cut [] (fun wx => Hid (Row wx b4 25 #[.int .i64 ((n : Int) + 1), .string h9, .int .i64 kind, .int .i64 dev, .slice none 0 0, .string ⟨#[]⟩]) ∧ Hid (Row wx b0 36 #[.int .i64 0, .string ⟨#[]⟩, .int .i64 0, .int .i64 0, .slice none 0 0, .string ⟨#[]⟩, .int .i64 0]) ∧ Hid (Gn w wx))
  case first =>
   by_cases hn0 : n = 0
   ·have d1 : decide (0 < n) = false := dcF
    have d2 : decide ((0 : Int) < (n : Int)) = false := dcF
    have He := H9z.out hn0
    clear hn0
    first | rw [d2] | rw [d1]
    go_wp2_with fail
    go_meet
    exact ⟨by rw [He]; exact HR4, HZ4, HG4⟩
   ·obtain ⟨r, RA, rc, hcell, hcall⟩ := HHs.out hn0
    obtain ⟨g, o, hAe, z0, z1, z2, z3, z4, z5⟩ := hcell W4 HG4.out
    have HCl := qj (hcall W4 HG4.out)
    subst hAe
    obtain ⟨m1, hm1⟩ := nmd (n - 1)
    rw [hm1] at z0 z1 z2 z3 z4 z5
    have d1 : decide (0 < n) = true := dcT
    have d2 : decide ((0 : Int) < (n : Int)) = true := dcT
    have t2 : IntKind.i64.wrap ((n : Int) - 1) = (m1 : Int) := by rw [IntKind.wrap_i64]; have := Hn40.out; omega
    have bk : (m1 : Int) < (n : Int) := by omega
    clear hn0 hm1 hcell hcall
    first | rw [d2] | rw [d1]
    go_wp2_with fail
    refine HCl.out.mono ?_
    rintro e w2 ⟨rfl, g2⟩
    have hr2 := HR4.out.kept g2 (by simp)
    have HZ2 := qj (HZ4.out.kept g2 (by simp))
    have HG2 := qj (gb_none HG4.out g2)
    have x1 : w2.cell? ⟨b4, 1, none⟩ = some (.string ⟨#[]⟩) := hr2.at_ (i := 1) rfl
    have f1 := hr2.free 1
    have HR2 := qj hr2
    clear z0 z1 z2 z3 z4 z5 g2 hr2 HCl
    go_wp2_with fail
    go_meet
    exact ⟨HR2.out.set_ 1 (.string h9), HZ2.out.kept (gb_set1 _ _ _ _) (by have := HbA.out; intro e; have := Option.some.inj e; omega), gb_new HG2.out (gb_set1 _ _ _ _) (by have := HbA.out; omega)⟩
  case rest =>
   obtain ⟨HR5, HZ5, HG5⟩ := hcut
   clear HR4 HZ4 HG4 HHs H9z
   generalize wc = W5 at *
   obtain ⟨v6, w6, hr6, hcp6, hg6⟩ := run_copyN (w0 := w) (w := W5.alloc (.cells #[] 25)) 22 (some ⟨W5.heap.size, 0, none⟩) A n c l HLw.out (gb_alloc HG5.out _) (by have := Hn40.out; omega) Hcc.out
   obtain ⟨B7, hB7⟩ := nmd ((W5.alloc (.cells #[] 25)).heap.size)
   rw [hB7] at hcp6
   have HB7 : Hid (b4 < B7 ∧ w.heap.size ≤ B7 ∧ B7 ≤ w6.heap.size) := ⟨by have h1 := HR5.out.lt; rw [← hB7, World.size_alloc]; omega, by rw [← hB7]; exact (gb_alloc HG5.out _).size, by rw [← hB7]; exact hg6.size⟩
   have HgA : Hid ((W5.alloc (.cells #[] 25)).grownBy w6 none) := hg6
   have HB7e := qj hB7
   have Hr6 := qj hr6
   have hgA0 := gb_alloc (gb_refl W5 none) (.cells #[] 25)
   have HR6 := qj ((HR5.out.kept hgA0 (by simp)).kept hg6 (by simp))
   have HcW : Hid (W5.grownBy (W5.alloc (.cells #[] 25)) none) := hgA0
   obtain ⟨X6, m6, c6, rfl⟩ := hcp6.slice
   have Hcp6 := qj hcp6
   clear hr6 hcp6 hg6 hB7 hgA0
   go_upto_region 15 with (at_builtin; go_must (refine Lib.wpList_append_run _ rfl (.tmp 96) (.tmp 97) 22 22 rfl _ _ rfl rfl _ _ Hr6.out ?_))
   have hrow7 : Row (w6.alloc (.cells #[.int .i64 ((n : Int) + 1), .string h9, .int .i64 kind, .int .i64 dev, .slice none 0 0, .string ⟨#[]⟩] 25)) w6.heap.size 25 #[.int .i64 ((n : Int) + 1), .string h9, .int .i64 kind, .int .i64 dev, .slice none 0 0, .string ⟨#[]⟩] := Row.new _ _ _
   have hrc7 : RecC0 (w6.alloc (.cells #[.int .i64 ((n : Int) + 1), .string h9, .int .i64 kind, .int .i64 dev, .slice none 0 0, .string ⟨#[]⟩] 25)) w6.heap.size R0 none 0 := by
    obtain ⟨f0, f1, f2, f3, f4, f5⟩ := HF0.out
    unfold RecC0
    rw [f0, f1, f2, f3, f4, f5]
    exact ⟨hrow7.at_ (i := 0) rfl, hrow7.at_ (i := 1) rfl, hrow7.at_ (i := 2) rfl, hrow7.at_ (i := 3) rfl, hrow7.at_ (i := 4) rfl, hrow7.at_ (i := 5) rfl⟩
   have hf4 : R0.wraps = [] := HF0.out.2.2.2.2.1
   obtain ⟨v8, w8, hr8, hlr8, hu8⟩ := run_moreN (w := w6.alloc (.cells #[.int .i64 ((n : Int) + 1), .string h9, .int .i64 kind, .int .i64 dev, .slice none 0 0, .string ⟨#[]⟩] 25)) 22 w.heap.size B7 (.slice X6 m6 c6) l (Hcp6.out.keep (gb_alloc (gb_refl _ _) _)) HB7.out.2.1 (by have := Hn40.out; rw [Hl.out]; omega) (by have := HB7.out.2.2; have := (gb_alloc (gb_refl w6 none) (.cells #[.int .i64 ((n : Int) + 1), .string h9, .int .i64 kind, .int .i64 dev, .slice none 0 0, .string ⟨#[]⟩] 25)).size; omega) w6.heap.size 1 R0 none 0 hrc7 (by rw [hf4]; exact WL.none _ _) (by rw [hf4]; exact Nat.le_refl _) (fun _ b hb => by cases hb)
   rw [Hll.out] at hlr8
   have hg8 := hu8 (W5.alloc (.cells #[] 25)) (Nat.le_of_eq HB7e.out) (gb_alloc HgA.out _)
   have hg8' : Gn W5 w8 := gb_none HcW.out hg8
   obtain ⟨A8, c8, rfl, _, _⟩ := hlr8.log
   rw [HLLn.out] at hr8 hlr8
   have Hr8 := qj hr8
   have hlow8 := hlr8.far
   obtain ⟨Bw, hBw⟩ := nmd (w8.heap.size)
   have HbB : Hid (w.heap.size ≤ b0 ∧ b0 < b4 ∧ b4 < B7 ∧ B7 ≤ Bw) := ⟨HbA.out.1, HbA.out.2, HB7.out.1, by rw [← hBw, ← HB7e.out]; exact hg8.size⟩
   have HLp : Hid (Lp w w8 b0 b4 Bw B7 n h9 kind dev (.slice A8 (n + 1) c8) (.slice none 0 0) 0 [] LL) := ⟨World.ownsRow_nil _ _ _ _, HR5.out.kept hg8' (by simp), hlr8, HZ5.out.kept hg8' (by simp), gb_none HG5.out hg8', fun i hi => by rw [← hBw]; exact (hlow8 i hi).2, Nat.le_of_eq hBw.symm⟩
   obtain ⟨y0, y1, y2, y3, y4, y5⟩ : w6.cell? ⟨b4, 0, none⟩ = some (.int .i64 ((n : Int) + 1)) ∧ w6.cell? ⟨b4, 1, none⟩ = some (.string h9) ∧ w6.cell? ⟨b4, 2, none⟩ = some (.int .i64 kind) ∧ w6.cell? ⟨b4, 3, none⟩ = some (.int .i64 dev) ∧ w6.cell? ⟨b4, 4, none⟩ = some (.slice none 0 0) ∧ w6.cell? ⟨b4, 5, none⟩ = some (.string ⟨#[]⟩) := ⟨HR6.out.at_ (i := 0) rfl, HR6.out.at_ (i := 1) rfl, HR6.out.at_ (i := 2) rfl, HR6.out.at_ (i := 3) rfl, HR6.out.at_ (i := 4) rfl, HR6.out.at_ (i := 5) rfl⟩
   clear hrow7 hrc7 hf4 hr8 hlr8 hu8 hg8 hg8' hlow8 hBw HR6 Hcp6 HgA HcW HB7e HR5 HZ5 HG5 HB7 Hr6 HLw Hcc
   go_upto_region 16 with (at_builtin; go_must (refine Lib.wpList_append_run _ rfl (.tmp 99) (.tmp 101) 22 22 rfl _ _ rfl rfl _ _ Hr8.out ?_))
   clear y0 y1 y2 y3 y4 y5 Hr8
   obtain ⟨i0, hi0, hz0, hz1, hz2⟩ := wrap_parts
   have Hi0 := qj hi0
   have Hz0 := qj hz0
   have Hz1 := qj hz1
   have Hz2 := qj hz2
   clear hi0 hz0 hz1 hz2
   go_wp2_with fail
   go_loopw [15] (fun iv wr => ∃ (j N : Nat) (vv : Value), j ≤ 8 ∧ iv = .int .i64 j ∧ Hid ((wrapsR s m R0 (memsU LL ((n : Int) + 1) j)).length = N) ∧ Hid (Lp w wr b0 b4 Bw B7 n h9 kind dev (.slice A8 (n + 1) c8) vv N (wrapsR s m R0 (memsU LL ((n : Int) + 1) j)) LL)) (fun iv _ => 8 - (intOf iv).toNat)
   case atStart => exact ⟨0, 0, _, by decide, rfl, rfl, HLp⟩
   case round =>
    obtain ⟨j, N, vv, hj, rfl, HN, HL⟩ := hrel
    have hlg : LogL wr A8 (n + 1) LL := by
     obtain ⟨A8', c8', e8, hl8, _⟩ := HL.out.log.log
     rw [HLLn.out] at hl8 e8
     cases e8; exact hl8
    obtain ⟨VA, Vc, rfl, hwl, hvc⟩ := own_wl HL.out.own HN.out
    by_cases hlt : j < 8
    ·have d1 : decide (j < 8) = true := decide_eq_true hlt
     have d2 : decide ((j : Int) < 8) = true := dcT
     have tj : IntKind.i64.wrap ((j : Int) + 1) = ((j + 1 : Nat) : Int) := by rw [IntKind.wrap_i64]; omega
     have HIj := qj (HIn.out A8 c8 (j : Int) wr hlg)
     have HlT := qj hlt
     have HWL := qj hwl
     have HN8 : Hid (N ≤ 8) := by have h1 := HN.out; rw [wraps_len] at h1; have h2 := memsU_len LL ((n : Int) + 1) j; show N ≤ 8; omega
     clear hlg hwl hvc hj hlt
     go_wp2_with fail
     refine HIj.out.mono ?_
     rintro e _ ⟨rfl, rfl⟩
     cases hq : inB LL ((n : Int) + 1) (j : Int) with
     | true =>
      have hnx := wrapsU_yes (s := s) (m := m) (r := R0) hq
      have hse := HSeA.out j
      rw [sealR_eta] at hnx
      obtain ⟨bx, hbx⟩ := nmd ((sealR s m R0 (j : Int)).box)
      rw [hbx] at hnx hse
      have HNx := qj hnx
      have HOw := qj fun W (_ : Gn wr W) => HOwA.out j W HlT.out
      have HWr := qj fun W (_ : Gn wr W) => HWrA.out j W
      have HNc := qj fun W (_ : Gn wr W) => HNcA.out W
      have HEp := qj fun W (_ : Gn wr W) => HEpA.out W
      have HSe := qj fun W (_ : Gn wr W) => hse W
      have HHe := qj fun W (hW : Gn wr W) => HHeA.out j N VA Vc W (Nat.le_of_lt HlT.out) HN.out (HWL.out.keep hW)
      have HY : Hid (∀ W, Gn wr W → W.cell? ⟨b4, 0, none⟩ = some (.int .i64 ((n : Int) + 1)) ∧ W.cell? ⟨b4, 1, none⟩ = some (.string h9) ∧ W.cell? ⟨b4, 2, none⟩ = some (.int .i64 kind) ∧ W.cell? ⟨b4, 3, none⟩ = some (.int .i64 dev) ∧ W.cell? ⟨b4, 4, none⟩ = some (.slice VA N Vc) ∧ W.cell? ⟨b4, 5, none⟩ = some (.string ⟨#[]⟩)) := fun W hW => by
       have h := HL.out.row.kept hW (by simp)
       exact ⟨h.at_ (i := 0) rfl, h.at_ (i := 1) rfl, h.at_ (i := 2) rfl, h.at_ (i := 3) rfl, h.at_ (i := 4) rfl, h.at_ (i := 5) rfl⟩
      obtain ⟨L0, hL0⟩ := nmd (wrapsR s m R0 (memsU LL ((n : Int) + 1) j))
      obtain ⟨L2, hL2⟩ := nmd (wrapsR s m R0 (memsU LL ((n : Int) + 1) (j + 1)))
      rw [hL0, hL2] at HNx
      rw [hL0] at HL HN
      have HL2 := qj hL2
      clear hnx hse hbx hq hL0 hL2 HIj
      generalize Ky.ownB m (j : Int) = O9 at *
      generalize Ky.wrapB O9 = P9 at *
      go_upto_region 20 with fail
      clear d1 d2
      refine th_go 19 ?_
      refine th_h 13 ?_
      apply th_is
      ·intro W f hW hE h0 K hK; have e112 := hE.of 0 112; clear hE h0; refine yes_f ?_; obtain ⟨y0, y1, y2, y3, y4, y5⟩ := HY.out W hW; go_simp; exact kK hK
      refine th_h 15 ?_
      refine th_h 1 ?_
      refine th_h 15 ?_
      apply th_is
      ·intro W f hW hE h0 K hK; have e115 := hE.of 1 115; have e116 := hE.of 0 116; clear hE h0; refine yes_f ?_; go_simp; exact ck (HOw.out W hW) hK
      apply th_is
      ·intro W f hW hE h0 K hK; have e117 := hE.of 0 117; clear hE h0; refine yes_f ?_; go_simp; exact ck (HWr.out W hW) hK
      refine th_h 13 ?_
      apply th_is
      ·intro W f hW hE h0 K hK; have e119 := hE.of 0 119; clear hE h0; refine yes_f ?_; obtain ⟨y0, y1, y2, y3, y4, y5⟩ := HY.out W hW; go_simp; exact kK hK
      apply th_is
      ·intro W f hW hE h0 K hK; have e120 := hE.of 0 120; clear hE h0; refine yes_f ?_; go_simp; exact ck (HNc.out W hW) hK
      apply th_is
      ·intro W f hW hE h0 K hK; have e13 := h0.of 13; clear hE h0; refine yes_f ?_; obtain ⟨y0, y1, y2, y3, y4, y5⟩ := HY.out W hW; go_simp; exact kK hK
      apply th_is
      ·intro W f hW hE h0 K hK; have e122 := hE.of 0 122; clear hE h0; refine yes_f ?_; go_simp; exact ck (HHe.out W hW) hK
      refine th_h 0 ?_
      refine th_h 13 ?_
      apply th_is
      ·intro W f hW hE h0 K hK; have e125 := hE.of 0 125; clear hE h0; refine yes_f ?_; obtain ⟨y0, y1, y2, y3, y4, y5⟩ := HY.out W hW; go_simp; exact kK hK
      apply th_is
      ·intro W f hW hE h0 K hK; have e124 := hE.of 2 124; have e126 := hE.of 0 126; clear hE h0; refine yes_f ?_; go_simp; exact ck (HEp.out W hW) hK
      apply th_is
      ·intro W f hW hE h0 K hK; have e118 := hE.of 9 118; have e121 := hE.of 6 121; have e123 := hE.of 4 123; have e127 := hE.of 0 127; clear hE h0; refine yes_f ?_; go_simp; exact ck (HSe.out W hW) hK
      apply th_is
      ·intro W f hW hE h0 K hK; have e114 := hE.of 14 114; have e128 := hE.of 0 128; clear hE h0; refine yes_f ?_; go_simp; exact kK hK
      apply th_at (V := boxW ⟨(j : Int), bx⟩) boxW_stays
      ·intro W f hW hE h0 K hK; have e129 := hE.of 0 129; clear hE h0; refine yes_f ?_; go_simp; exact hK _ _ (gb_alloc (gb_refl _ _) _) ⟨_, rfl, Row.new _ _ _⟩
      refine th_nil fun W f hW hA => ?_
      simp only [List.take_succ_cons, List.take_zero, List.drop_succ_cons, List.drop_zero, lexIn, Act.put, List.setIfInBounds_toArray, List.set_cons_zero, List.set_cons_succ]
      have e113 : f 113 = _ := hA 17 (some 113) _ rfl
      rw [e113]
      have e130 := hA 0 (some 130) _ rfl
      clear hA
      obtain ⟨b9, e130, hrow9⟩ := e130
      have HLW := qj (HL.out.keep hW)
      have HN1 := HN.out
      have HN88 := HN8.out
      refine wpList_append_own_at _ rfl (.tmp 113) (.tmp 130) 23 rfl Bw 70 i0 (.agg #[.int .i64 0, .string ⟨#[]⟩]) 2 24 Tryz.underlying23 Hi0.out Hz0.out Hz1.out Hz2.out rfl (by decide) (.slice VA N Vc) N (wv L0) rfl HLW.out.own ⟨b9, 0, none⟩ 1 1 (wv1 ⟨(j : Int), bx⟩) e130 rfl (one_list hrow9) (wv1_one _) (by simp only [maxLen]; omega) (by omega) HLW.out.siz fun v6 w6 own6 hg6 _ _ => ?_
      have own7 : w6.ownsRow Bw 70 2 v6 (N + 1) (wv L2) := by
       rw [HNx.out, wv_append]
       exact own6
      obtain ⟨hm1, hm2, hm3⟩ := HLW.out.more HbB.out own7 hg6
      obtain ⟨V6, n6, c6, rfl⟩ := own_sl own7
      have HLP := qj hm1
      clear own6 own7 hg6 hm1 hrow9
      go_wp2_with fail
      go_roundw
      case rel => exact ⟨j + 1, N + 1, _, HlT.out, by go_num, by rw [HL2.out, HNx.out, List.length_append, HN.out]; rfl, by rw [HL2.out]; exact HLP⟩
      case measure => simp [intOf]; have := HlT.out; omega
     | false =>
      have hno : memsU LL ((n : Int) + 1) (j + 1) = memsU LL ((n : Int) + 1) j := memsU_no hq
      have Hno := qj hno
      clear hq hno HIj
      go_wp2_with fail
      go_roundw
      case rel => exact ⟨j + 1, N, _, HlT.out, by go_num, by rw [Hno.out]; exact HN, by rw [Hno.out]; exact HL⟩
      case measure => simp [intOf]; have := HlT.out; omega
    ·obtain rfl : j = 8 := by omega
     have d1 : decide (((8 : Nat) : Int) < 8) = false := by decide
     obtain ⟨A6', c6', hv6, hw6, hc6, hf6⟩ := own_wl_far HL.out.own HN.out
     cases hv6
     have hR4 := HR14.out
     rw [← hR4] at hw6
     have hk6 : R1.wraps.length = N := by rw [hR4]; exact HN.out
     have HT0 : Hid (R2.seq = (n : Int) + 1 ∧ R2.prev = h9 ∧ R2.kind = kind ∧ R2.dev = dev ∧ R2.wraps = R1.wraps ∧ R1.wraps.length = N) := ⟨HT0A.out.1, HT0A.out.2.1, HT0A.out.2.2.1, HT0A.out.2.2.2.1, HT0A.out.2.2.2.2, hk6⟩
     have HT7 := qj fun W (hW : Gn wr W) => HT7A.out VA Vc N W hk6 (hw6.keep hW)
     have HE7 := qj fun W (_ : Gn wr W) => HE7A.out W
     have HWLw := qj hw6
     have Hc6 := qj hc6
     have Hf6 : Hid (∀ a, VA = some a → Bw ≤ a.block) := hf6
     have HR6 := qj HL.out.row
     have HZ6 := qj HL.out.zer
     have HG6 := qj HL.out.gro
     clear hlg hwl hvc hj hlt hw6 hc6 hf6 hR4 hk6 HIn HOwA HWrA HNcA HEpA HHeA HSeA HE7A HT7A HN HL HT0A HR14 HF0 Hll
     generalize R1.wraps = L9 at *
     by_cases hn0 : n = 0
     ·have d3 : decide (0 < n) = false := dcF
      have d4 : decide ((0 : Int) < (n : Int)) = false := dcF
      have HT6 : Hid (R2.tag = ⟨#[]⟩) := by show _ = _; rw [HT5.out, if_pos hn0]
      clear hn0 HT7 HE7
      have y0 : wr.cell? ⟨b4, 0, none⟩ = some (.int .i64 ((n : Int) + 1)) := (HR6.out).at_ (i := 0) rfl
      have y1 : wr.cell? ⟨b4, 1, none⟩ = some (.string h9) := (HR6.out).at_ (i := 1) rfl
      have y2 : wr.cell? ⟨b4, 2, none⟩ = some (.int .i64 kind) := (HR6.out).at_ (i := 2) rfl
      have y3 : wr.cell? ⟨b4, 3, none⟩ = some (.int .i64 dev) := (HR6.out).at_ (i := 3) rfl
      have y4 : wr.cell? ⟨b4, 4, none⟩ = some (.slice VA N Vc) := (HR6.out).at_ (i := 4) rfl
      have y5 : wr.cell? ⟨b4, 5, none⟩ = some (.string ⟨#[]⟩) := (HR6.out).at_ (i := 5) rfl
      have HSR : Hid (Row (((((((wr.setCell ⟨b0, 0, none⟩ (.int .i64 ((n : Int) + 1))).setCell ⟨b0, 1, none⟩ (.string h9)).setCell ⟨b0, 2, none⟩ (.int .i64 kind)).setCell ⟨b0, 3, none⟩ (.int .i64 dev)).setCell ⟨b0, 4, none⟩ (.slice VA N Vc)).setCell ⟨b0, 5, none⟩ (.string ⟨#[]⟩)).setCell ⟨b0, 6, none⟩ (.int .i64 0)) b0 36 #[.int .i64 ((n : Int) + 1), .string h9, .int .i64 kind, .int .i64 dev, .slice VA N Vc, .string ⟨#[]⟩, .int .i64 0]) := (((((((HZ6.out).set_ 0 (.int .i64 ((n : Int) + 1))).set_ 1 (.string h9)).set_ 2 (.int .i64 kind)).set_ 3 (.int .i64 dev)).set_ 4 (.slice VA N Vc)).set_ 5 (.string ⟨#[]⟩)).set_ 6 (.int .i64 0)
      have HSG : Hid (wr.grownBy (((((((wr.setCell ⟨b0, 0, none⟩ (.int .i64 ((n : Int) + 1))).setCell ⟨b0, 1, none⟩ (.string h9)).setCell ⟨b0, 2, none⟩ (.int .i64 kind)).setCell ⟨b0, 3, none⟩ (.int .i64 dev)).setCell ⟨b0, 4, none⟩ (.slice VA N Vc)).setCell ⟨b0, 5, none⟩ (.string ⟨#[]⟩)).setCell ⟨b0, 6, none⟩ (.int .i64 0)) (some b0)) := gb_then (gb_then (gb_then (gb_then (gb_then (gb_then (gb_set1 _ _ _ _) (gb_set1 _ _ _ _)) (gb_set1 _ _ _ _)) (gb_set1 _ _ _ _)) (gb_set1 _ _ _ _)) (gb_set1 _ _ _ _)) (gb_set1 _ _ _ _)
      obtain ⟨u0, u1, u2, u3, u4, u5, u6, p0, p1, p2, p3, p4, p5, p6⟩ := made_cells HZ6.out
      go_wp2_with fail
      obtain ⟨t0, t1, t2, t3, t4, t6⟩ := HT0.out
      exact bodyPost_ret (results_cell_row rfl _ _ b0 36 _ (0, 0) _ rfl HSR.out Tryz.underlying36 rfl (by kernel_rfl)) rfl (rmade_is t0 t1 t2 t3 t4 HT6.out t6 rfl (wl_kept HWLw.out HSG.out (fun _ a ha e => by have h1 := Hf6.out a ha; have h2 := Option.some.inj e; have := HbB.out; omega)) Hc6.out (fun a ha => by have h1 := Hf6.out a ha; have := HbB.out; omega) (gb_new HG6.out HSG.out HbB.out.1))
     ·have d3 : decide (0 < n) = true := dcT
      have d4 : decide ((0 : Int) < (n : Int)) = true := dcT
      have HT6 : Hid (R2.tag = T9) := by show _ = _; rw [HT5.out, if_neg hn0]
      have HY7 : Hid (∀ W, Gn wr W → W.cell? ⟨b4, 0, none⟩ = some (.int .i64 ((n : Int) + 1)) ∧ W.cell? ⟨b4, 1, none⟩ = some (.string h9) ∧ W.cell? ⟨b4, 2, none⟩ = some (.int .i64 kind) ∧ W.cell? ⟨b4, 3, none⟩ = some (.int .i64 dev) ∧ W.cell? ⟨b4, 4, none⟩ = some (.slice VA N Vc) ∧ W.cell? ⟨b4, 5, none⟩ = some (.string ⟨#[]⟩)) := fun W hW => by
       have h := HR6.out.kept hW (by simp)
       exact ⟨h.at_ (i := 0) rfl, h.at_ (i := 1) rfl, h.at_ (i := 2) rfl, h.at_ (i := 3) rfl, h.at_ (i := 4) rfl, h.at_ (i := 5) rfl⟩
      clear hn0
      go_upto_region 22 with fail
      clear d1 d3 d4
      refine tw_tail 6 ?_
      refine tw_h 0 ?_
      refine tw_h 11 ?_
      apply tw_xee 1 135 0 136
      ·intro W f hW ⟨e135, e136⟩ K hK; go_simp; exact ck (HE7.out W hW) hK
      apply tw_xh 13
      ·intro W f hW e13 K hK; obtain ⟨y0, y1, y2, y3, y4, y5⟩ := HY7.out W hW; go_simp; exact kK hK
      apply tw_xee 1 137 0 138
      ·intro W f hW ⟨e137, e138⟩ K hK; go_simp; exact ck (HT7.out W hW) hK
      refine tw_h 13 ?_
      refine tw_nil fun W f hW hA => ?_
      have e139 : f 139 = _ := hA 1 (some 139) _ rfl
      rw [e139]
      have e140 : f 140 = _ := hA 0 (some 140) _ rfl
      rw [e140]
      clear hA
      have hr5 := HR6.out.kept hW (by simp)
      have u5 : W.cell? ⟨b4, 5, none⟩ = some (.string ⟨#[]⟩) := hr5.at_ (i := 5) rfl
      have p5 := hr5.free 5
      have gs := gb_set1 W b4 5 (.string T9)
      obtain ⟨W8, hW8⟩ := nmd (W.setCell ⟨b4, 5, none⟩ (.string T9))
      have hr8 : Row (W.setCell ⟨b4, 5, none⟩ (.string T9)) b4 25 #[.int .i64 ((n : Int) + 1), .string h9, .int .i64 kind, .int .i64 dev, .slice VA N Vc, .string T9] := hr5.set_ 5 (.string T9)
      rw [hW8] at gs hr8
      have HR8 := qj hr8
      have HZ8 := qj ((HZ6.out.kept hW (by simp)).kept gs (by have := HbB.out; intro e; have := Option.some.inj e; omega))
      have HG8 : Hid (Gn w W8) := gb_new (gb_none HG6.out hW) gs (by have := HbB.out; omega)
      have HWL8 : Hid (WL W8 VA N L9) := wl_kept (HWLw.out.keep hW) gs fun _ a ha e => by have h1 := Hf6.out a ha; have h2 := Option.some.inj e; have := HbB.out; omega
      have HW8' := qj hW8
      clear hr5 gs hr8 hW hW8 HR6 HZ6 HG6 HWLw HY7 HE7 HT7
      rw [ends_is]
      go_simp
      rw [HW8'.out]
      clear u5 p5 HW8'
      have y0 : W8.cell? ⟨b4, 0, none⟩ = some (.int .i64 ((n : Int) + 1)) := (HR8.out).at_ (i := 0) rfl
      have y1 : W8.cell? ⟨b4, 1, none⟩ = some (.string h9) := (HR8.out).at_ (i := 1) rfl
      have y2 : W8.cell? ⟨b4, 2, none⟩ = some (.int .i64 kind) := (HR8.out).at_ (i := 2) rfl
      have y3 : W8.cell? ⟨b4, 3, none⟩ = some (.int .i64 dev) := (HR8.out).at_ (i := 3) rfl
      have y4 : W8.cell? ⟨b4, 4, none⟩ = some (.slice VA N Vc) := (HR8.out).at_ (i := 4) rfl
      have y5 : W8.cell? ⟨b4, 5, none⟩ = some (.string T9) := (HR8.out).at_ (i := 5) rfl
      have HSR : Hid (Row (((((((W8.setCell ⟨b0, 0, none⟩ (.int .i64 ((n : Int) + 1))).setCell ⟨b0, 1, none⟩ (.string h9)).setCell ⟨b0, 2, none⟩ (.int .i64 kind)).setCell ⟨b0, 3, none⟩ (.int .i64 dev)).setCell ⟨b0, 4, none⟩ (.slice VA N Vc)).setCell ⟨b0, 5, none⟩ (.string T9)).setCell ⟨b0, 6, none⟩ (.int .i64 0)) b0 36 #[.int .i64 ((n : Int) + 1), .string h9, .int .i64 kind, .int .i64 dev, .slice VA N Vc, .string T9, .int .i64 0]) := (((((((HZ8.out).set_ 0 (.int .i64 ((n : Int) + 1))).set_ 1 (.string h9)).set_ 2 (.int .i64 kind)).set_ 3 (.int .i64 dev)).set_ 4 (.slice VA N Vc)).set_ 5 (.string T9)).set_ 6 (.int .i64 0)
      have HSG : Hid (W8.grownBy (((((((W8.setCell ⟨b0, 0, none⟩ (.int .i64 ((n : Int) + 1))).setCell ⟨b0, 1, none⟩ (.string h9)).setCell ⟨b0, 2, none⟩ (.int .i64 kind)).setCell ⟨b0, 3, none⟩ (.int .i64 dev)).setCell ⟨b0, 4, none⟩ (.slice VA N Vc)).setCell ⟨b0, 5, none⟩ (.string T9)).setCell ⟨b0, 6, none⟩ (.int .i64 0)) (some b0)) := gb_then (gb_then (gb_then (gb_then (gb_then (gb_then (gb_set1 _ _ _ _) (gb_set1 _ _ _ _)) (gb_set1 _ _ _ _)) (gb_set1 _ _ _ _)) (gb_set1 _ _ _ _)) (gb_set1 _ _ _ _)) (gb_set1 _ _ _ _)
      obtain ⟨u0, u1, u2, u3, u4, u5, u6, p0, p1, p2, p3, p4, p5, p6⟩ := made_cells HZ8.out
      go_wp2_with fail
      obtain ⟨t0, t1, t2, t3, t4, t6⟩ := HT0.out
      exact bodyPost_ret (results_cell_row rfl _ _ b0 36 _ (0, 0) _ rfl HSR.out Tryz.underlying36 rfl (by kernel_rfl)) rfl (rmade_is t0 t1 t2 t3 t4 HT6.out t6 rfl (wl_kept HWL8.out HSG.out (fun _ a ha e => by have h1 := Hf6.out a ha; have h2 := Option.some.inj e; have := HbB.out; omega)) Hc6.out (fun a ha => by have h1 := Hf6.out a ha; have := HbB.out; omega) (gb_new HG8.out HSG.out HbB.out.1))
end Go.Proofs.YtpcjbjpofcdjeaaGreatDoor.Wc
