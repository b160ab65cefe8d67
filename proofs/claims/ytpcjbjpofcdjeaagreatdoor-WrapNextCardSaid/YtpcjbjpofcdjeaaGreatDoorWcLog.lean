/- The law's Log. Written by gen_wc6.py. -/
import Derived.Test.YtpcjbjpofcdjeaaGreatDoorWcRefM
import Derived.Test.YtpcjbjpofcdjeaaGreatDoorWcLogP
set_option linter.unusedVariables false
set_option maxHeartbeats 16000000
set_option maxRecDepth 100000
namespace Go.Proofs.YtpcjbjpofcdjeaaGreatDoor.Wc
open Go Go.RowKit Mm Td Vw Dt
open Mb Ro Hh We
attribute [local go_sem] Td.upon_value Td.upon_skip Td.upon_enter Td.upon_row Td.look_tmp Td.look_const Td.look_func Td.look_global
theorem made_rec (x0 x1 x2 x3 x4 x5 x6 : Value) (W : World) : (Instr.field 36 (.agg #[x0, x1, x2, x3, x4, x5, x6]) 0).run Tryz.prog W = .ok (.agg #[x0, x1, x2, x3, x4, x5]) W := by kernel_rfl
theorem refMake_any (s m : ByteArray) (A : Option Addr) (n c : Nat) (l : List Rc) (kind dev : Int) (w : World) (hl : LogL w A n l) (hn : n ≤ 1000000) (hc : n ≤ c) (hb : ∀ r ∈ l, r.wraps.length ≤ 1099511627776) (hs : s.size ≤ 1048576) (hm : m.size ≤ 1048576) :
  Calls Tryz.prog 13 #[.string s, .string m, .slice A n c, .int .i64 kind, .int .i64 dev] w (RMadeIs (madeR s m l kind dev) (deedE l kind dev) w) := by
 by_cases hk : deedE l kind dev = 0
 ·have e : madeR s m l kind dev = nextR s m l kind dev := if_pos hk
  rw [e, hk]
  exact refMake_yes s m A n c l kind dev w hl hn hc hb hs hm hk
 ·have e : madeR s m l kind dev = zeroR := if_neg hk
  rw [e]
  exact refMake_no s m A n c l kind dev w hl hn hc hb hk
theorem may_small {r : Rc} (h : MayR r) : r.wraps.length ≤ 8 ∧ ∀ x ∈ r.wraps, x.box.size ≤ 200 := ⟨rise_len h.2.2 h.2.1, fun x hx => (h.2.1 x hx).2.2⟩
theorem good_small {l : List Rc} (h : GoodR l) : ∀ r ∈ l, r.wraps.length ≤ 1099511627776 := fun r hr => by have := (may_small (good_may h hr)).1; omega
theorem lr_one {w : World} (r : Rc) (A : Option Addr) (c : Nat) (hw : WL w A r.wraps.length r.wraps) (hc : r.wraps.length ≤ c) : LR (w.alloc (.cells #[.int .i64 r.seq, .string r.prev, .int .i64 r.kind, .int .i64 r.dev, .slice A r.wraps.length c, .string r.tag] 25)) (fun g => some g ≠ some w.heap.size) w.heap.size (.slice (some ⟨w.heap.size, 0, none⟩) 1 1) [r] := by
 refine ⟨[⟨r, A, c⟩], rfl, ⟨rfl, .inr ⟨w.heap.size, 1, _, rfl, Nat.le_refl _, heap_alloc_new w _, Nat.le_refl _, by decide, rfl, rfl⟩⟩, fun x hx => ?_⟩
 rw [List.mem_singleton.1 hx]
 exact ⟨hw.keep (gb_alloc (gb_refl _ _) _), hc, fun h0 a ha e => by have h1 := wl_lt hw h0 a ha; have h2 := Option.some.inj e; omega⟩
def U8N (w : World) (a : Option Addr) (n : Nat) (ns : List Nat) : Prop := ns.length = n ∧ (0 < n → ∃ g o, a = some ⟨g, o, none⟩ ∧ g < w.heap.size ∧ ∀ (i x : Nat), ns[i]? = some x → x ≤ 255 ∧ w.cell? ⟨g, o + i, none⟩ = some (.int .u8 (x : Int)))
theorem U8N.keep {w w' : World} {a : Option Addr} {n : Nat} {ns : List Nat} (h : U8N w a n ns) (k : w.grownBy w' none) : U8N w' a n ns := ⟨h.1, fun h0 => by
 obtain ⟨g, o, e, hg, hc⟩ := h.2 h0
 exact ⟨g, o, e, Nat.lt_of_lt_of_le hg k.size, fun i x hx => ⟨(hc i x hx).1, (World.cell?_of_block (a := ⟨g, o + i, none⟩) (k.block g hg (by simp))).trans (hc i x hx).2⟩⟩⟩
theorem log17_any (s m : ByteArray) (a : Option Addr) (n c : Nat) (ns : List Nat) (w : World) (hs : s.size ≤ 1048576) (hm : m.size ≤ 1048576) (hu : U8N w a n ns) (hn : n ≤ 1099511627776) :
  Calls Tryz.prog 25 #[.string s, .string m, .slice a n c] w fun e w' => ∃ A c', e = .returned (.slice A (logK s m ns).length c') ∧ LogL w' A (logK s m ns).length (logK s m ns) ∧ (logK s m ns).length ≤ c' ∧ w.grownBy w' none := by
 have HU := Lib.hid hu
 have HF := Lib.hid (refMake_any s m none 0 0 [] 1 0 w (LogL.none _ _) (by decide) (by decide) (fun r hr => by cases hr) hs hm)
 have hfe : madeR s m [] 1 0 = firstK s m := if_pos first_deed
 rw [hfe, first_deed] at HF
 have HM : Hid (∀ A N c (l : List Rc) kind dev W, LogL W A N l → N ≤ 1000000 → N ≤ c → GoodR l → deedE l kind dev = 0 → Calls Tryz.prog 13 #[.string s, .string m, .slice A N c, .int .i64 kind, .int .i64 dev] W (RMadeIs (nextR s m l kind dev) 0 W)) := fun A N c l kind dev W hl h1 h2 h3 h4 => refMake_yes s m A N c l kind dev W hl h1 h2 (good_small h3) hs hm h4
 have Hn := Lib.hid hn
 have Hln : Hid (ns.length = n) := hu.1
 clear hs hm hu hn hfe
 go_enter Tryz.func25, Tryz.ntmps25
 go_wp2_with fail
 refine HF.out.mono ?_
 rintro e w1 ⟨A1, c1, rfl, hw1, hc1, hf1, g1⟩
 have hfr := made_rec
 have HL1 := Lib.hid (lr_one (firstK s m) A1 c1 hw1 hc1)
 have HG1 : Hid (w.grownBy (w1.alloc (.cells #[.int .i64 (firstK s m).seq, .string (firstK s m).prev, .int .i64 (firstK s m).kind, .int .i64 (firstK s m).dev, .slice A1 (firstK s m).wraps.length c1, .string (firstK s m).tag] 25)) none) := gb_alloc g1 _
 have HB1 : Hid (w.heap.size ≤ w1.heap.size) := g1.size
 clear hw1 hc1 hf1 g1 HF
 have HP0 : Hid (prefK s m ns 0 = [firstK s m]) := rfl
 have hsz1 : (w1.alloc (.cells #[.int .i64 (firstK s m).seq, .string (firstK s m).prev, .int .i64 (firstK s m).kind, .int .i64 (firstK s m).dev, .slice A1 (firstK s m).wraps.length c1, .string (firstK s m).tag] 25)).heap.size = w1.heap.size + 1 := World.size_alloc _ _
 generalize firstK s m = R1 at *
 go_wp2_with fail
 go_loopw [7, 8] (fun lv iv wr => ∃ k : Nat, k ≤ n ∧ k ≤ 7 ∧ iv = .int .i64 k ∧ Hid (LR wr (fun g => some g ≠ lv.ownBlock) w.heap.size lv (prefK s m ns k)) ∧ Hid (w.grownBy wr none)) (fun _ iv _ => n - (intOf iv).toNat)
 case atStart => exact ⟨0, Nat.zero_le _, by decide, rfl, by rw [HP0.out]; exact (HL1.out.low HB1.out), HG1⟩
 case round =>
  obtain ⟨k, hk, hk7, rfl, HL, HG⟩ := hrel
  obtain ⟨PL, hPL⟩ := nmd (prefK s m ns k)
  have hlen : PL.length = 1 + k := by rw [← hPL, pref_len, Hln.out]; omega
  have hch : ChainR PL := by rw [← hPL]; exact pref_chain s m ns k hk7
  obtain ⟨N, hN⟩ := nmd (PL.length)
  obtain ⟨A2, c2, hv, hlog, hle⟩ := HL.out.log
  rw [hPL] at HL hv hlog hle
  rw [hN] at hv hlog hle hlen
  subst hv
  have HCh := Lib.hid hch
  have HLg := Lib.hid hlog
  have HNl := Lib.hid hN
  by_cases hlt : k < n
  ·have d1 : decide (k < n) = true := decide_eq_true hlt
   have d2 : decide ((k : Int) < (n : Int)) = true := dcT
   by_cases h7 : k < 7
   ·have d3 : decide (N < 8) = true := dcT
    have d4 : decide ((N : Int) < 8) = true := dcT
    obtain ⟨ga, oa, rfl, hga, hcc⟩ := (HU.out.keep HG.out).2 (by omega)
    obtain ⟨x, hx⟩ : ∃ x, ns[k]? = some x := ⟨_, List.getElem?_eq_getElem (by rw [Hln.out]; exact hlt)⟩
    obtain ⟨hx255, z0⟩ := hcc k x hx
    obtain ⟨d9, hd9⟩ := nmd (devK x)
    have hdr := devK_range x
    rw [hd9] at hdr
    obtain ⟨y, hy⟩ := nmd (x % 4)
    have hdx : 1 + (y : Int) = d9 := by rw [← hd9, ← hy]; rfl
    have q1 : IntKind.i64.wrap (x : Int) = (x : Int) := by rw [IntKind.wrap_i64]; omega
    have q2 : (x : Int).tmod 4 = (y : Int) := by rw [Int.tmod_eq_emod_of_nonneg (by omega)]; omega
    have q3 : IntKind.i64.wrap (y : Int) = (y : Int) := by rw [IntKind.wrap_i64]; omega
    have q4 : IntKind.i64.wrap d9 = d9 := by rw [IntKind.wrap_i64]; omega
    have bk : (k : Int) < (n : Int) := by omega
    have tk : IntKind.i64.wrap ((k : Int) + 1) = ((k + 1 : Nat) : Int) := by rw [IntKind.wrap_i64]; omega
    obtain ⟨q, hq⟩ := nmd (inB PL (N : Int) d9)
    have HIn : Hid (Calls Tryz.prog 29 #[.slice A2 N c2, .int .i64 (N : Int), .int .i64 d9] wr fun x w' => x = .returned (.bool q) ∧ wr = w') := by rw [← hq]; exact refIn_any A2 N c2 PL (N : Int) d9 wr hlog (by omega)
    obtain ⟨kd, hkd⟩ := nmd (kindK PL d9)
    have Hkd : Hid ((q = true → kd = 2) ∧ (q = false → kd = 1)) := by
     refine ⟨fun h => ?_, fun h => ?_⟩
     ·rw [← hkd]; unfold kindK; rw [hN, hq, if_pos h]
     ·rw [← hkd]; unfold kindK; rw [hN, hq, if_neg (by rw [h]; decide)]
    have hnx : prefK s m ns (k + 1) = PL ++ [nextR s m PL (kindK PL d9) d9] := by
     rw [pref_next hx, hPL]; unfold nextK; rw [hd9]
    have hdd : deedE PL (kindK PL d9) d9 = 0 := next_deed hch (by omega) (by omega) (by omega)
    have HMk : Hid (Calls Tryz.prog 13 #[.string s, .string m, .slice A2 N c2, .int .i64 (kindK PL d9), .int .i64 d9] wr (RMadeIs (nextR s m PL (kindK PL d9) d9) 0 wr)) := HM.out A2 N c2 PL (kindK PL d9) d9 wr hlog (by omega) hle hch.2 hdd
    rw [hkd] at HMk hnx
    have HNx := Lib.hid hnx
    have Hk7 := Lib.hid h7
    have Hlt := Lib.hid hlt
    have HN9 : Hid (N = 1 + k) := hlen
    clear hlen hch hlog hle hga hcc hx hx255 hy hd9 hdr hq hkd hnx hdd hk hk7 hlt h7 hN hPL
    cases q with
    | true =>
          obtain rfl : kd = 2 := Hkd.out.1 rfl
          clear Hkd
          go_wp2_with fail
          refine HIn.out.mono ?_
          rintro e _ ⟨rfl, rfl⟩
          go_wp2_with fail
          refine HMk.out.mono ?_
          rintro e w2 ⟨A3, c3, rfl, hw3, hc3, hf3, g3⟩
          have hnb : ∀ a, A3 = some a → some a.block ≠ Value.ownBlock (.slice A2 N c2) := fun a ha e => by
           have h1 := hf3 a ha
           have h2 := HL.out.far a.block e.symm
           omega
          obtain ⟨RR, hRR⟩ := nmd (nextR s m PL 2 d9)
          rw [hRR] at hw3 hc3 HNx ⊢
          clear hRR hf3
          have HL2 : LR w2 (fun g => some g ≠ Value.ownBlock (.slice A2 N c2)) w.heap.size (.slice A2 N c2) PL := HL.out.keep g3
          have HG2 := Lib.hid (gb_none HG.out g3)
          have g4 := gb_alloc (gb_refl w2 none) (.cells #[.int .i64 RR.seq, .string RR.prev, .int .i64 RR.kind, .int .i64 RR.dev, .slice A3 RR.wraps.length c3, .string RR.tag] 25)
          obtain ⟨v5, w5, hr5, hl5, hg5, hob⟩ := run_rec (w := w2.alloc (.cells #[.int .i64 RR.seq, .string RR.prev, .int .i64 RR.kind, .int .i64 RR.dev, .slice A3 RR.wraps.length c3, .string RR.tag] 25)) 22 (fun g => some g ≠ Value.ownBlock (.slice A2 N c2) ∧ g < w2.heap.size + 1) w.heap.size (.slice A2 N c2) PL ((HL2.keep g4).more (fun g h1 h2 => ⟨h2, by rw [World.size_alloc] at h1; exact h1⟩)) (by have := HN9.out; have := HNl.out; have := Hk7.out; omega) (by rw [World.size_alloc]; have := HG2.out.size; omega) (fun g h => h.1) w2.heap.size 1 RR A3 c3 (rec_row (Row.new w2 _ _)) (hw3.keep g4) hc3 (fun h0 b hb => ⟨hnb b hb, by have := wl_lt hw3 h0 b hb; omega⟩)
          have HL6 : Hid (LR w5 (fun g => some g ≠ v5.ownBlock) w.heap.size v5 (PL ++ [RR])) := hl5.more fun g _ h => by
           rcases hob with h1 | h1
           ·rw [h1]; exact h.1
           ·rw [h1, World.size_alloc]; intro e; have := Option.some.inj e; have := h.2; omega
          have HG6 : Hid (w.grownBy w5 none) := gb_step (gb_none HG2.out g4) hg5 fun i e => .inr (HL.out.far i e).1
          have HR6 := Lib.hid hr5
          obtain ⟨V5, n5, c5, rfl⟩ := hl5.slice
          have hfr := made_rec
          clear hw3 hc3 g3 HL2 g4 hr5 hl5 hg5 hob hnb
          go_wp2_with (at_builtin; go_must (refine Lib.wpList_append_run _ rfl (.tmp 39) (.tmp 47) 22 22 rfl _ _ rfl rfl _ _ HR6.out ?_))
          go_roundw
          case rel => exact ⟨k + 1, Hlt.out, Hk7.out, by go_num, by rw [HNx.out]; exact HL6, HG6⟩
          case measure => simp [intOf]; have := Hlt.out; omega
    | false =>
          obtain rfl : kd = 1 := Hkd.out.2 rfl
          clear Hkd
          go_wp2_with fail
          refine HIn.out.mono ?_
          rintro e _ ⟨rfl, rfl⟩
          go_wp2_with fail
          refine HMk.out.mono ?_
          rintro e w2 ⟨A3, c3, rfl, hw3, hc3, hf3, g3⟩
          have hnb : ∀ a, A3 = some a → some a.block ≠ Value.ownBlock (.slice A2 N c2) := fun a ha e => by
           have h1 := hf3 a ha
           have h2 := HL.out.far a.block e.symm
           omega
          obtain ⟨RR, hRR⟩ := nmd (nextR s m PL 1 d9)
          rw [hRR] at hw3 hc3 HNx ⊢
          clear hRR hf3
          have HL2 : LR w2 (fun g => some g ≠ Value.ownBlock (.slice A2 N c2)) w.heap.size (.slice A2 N c2) PL := HL.out.keep g3
          have HG2 := Lib.hid (gb_none HG.out g3)
          have g4 := gb_alloc (gb_refl w2 none) (.cells #[.int .i64 RR.seq, .string RR.prev, .int .i64 RR.kind, .int .i64 RR.dev, .slice A3 RR.wraps.length c3, .string RR.tag] 25)
          obtain ⟨v5, w5, hr5, hl5, hg5, hob⟩ := run_rec (w := w2.alloc (.cells #[.int .i64 RR.seq, .string RR.prev, .int .i64 RR.kind, .int .i64 RR.dev, .slice A3 RR.wraps.length c3, .string RR.tag] 25)) 22 (fun g => some g ≠ Value.ownBlock (.slice A2 N c2) ∧ g < w2.heap.size + 1) w.heap.size (.slice A2 N c2) PL ((HL2.keep g4).more (fun g h1 h2 => ⟨h2, by rw [World.size_alloc] at h1; exact h1⟩)) (by have := HN9.out; have := HNl.out; have := Hk7.out; omega) (by rw [World.size_alloc]; have := HG2.out.size; omega) (fun g h => h.1) w2.heap.size 1 RR A3 c3 (rec_row (Row.new w2 _ _)) (hw3.keep g4) hc3 (fun h0 b hb => ⟨hnb b hb, by have := wl_lt hw3 h0 b hb; omega⟩)
          have HL6 : Hid (LR w5 (fun g => some g ≠ v5.ownBlock) w.heap.size v5 (PL ++ [RR])) := hl5.more fun g _ h => by
           rcases hob with h1 | h1
           ·rw [h1]; exact h.1
           ·rw [h1, World.size_alloc]; intro e; have := Option.some.inj e; have := h.2; omega
          have HG6 : Hid (w.grownBy w5 none) := gb_step (gb_none HG2.out g4) hg5 fun i e => .inr (HL.out.far i e).1
          have HR6 := Lib.hid hr5
          obtain ⟨V5, n5, c5, rfl⟩ := hl5.slice
          have hfr := made_rec
          clear hw3 hc3 g3 HL2 g4 hr5 hl5 hg5 hob hnb
          go_wp2_with (at_builtin; go_must (refine Lib.wpList_append_run _ rfl (.tmp 39) (.tmp 47) 22 22 rfl _ _ rfl rfl _ _ HR6.out ?_))
          go_roundw
          case rel => exact ⟨k + 1, Hlt.out, Hk7.out, by go_num, by rw [HNx.out]; exact HL6, HG6⟩
          case measure => simp [intOf]; have := Hlt.out; omega
   ·have d3 : decide (N < 8) = false := dcF
    have d4 : decide ((N : Int) < 8) = false := dcF
    have hfin : PL = logK s m ns := by rw [← hPL]; exact pref_all (.inl (by omega))
    rw [hfin] at hN hlog
    have HF9 : Hid (LogL wr A2 (logK s m ns).length (logK s m ns) ∧ (logK s m ns).length ≤ c2 ∧ N = (logK s m ns).length) := ⟨by rw [hN]; exact hlog, by rw [hN]; exact hle, hN.symm⟩
    clear hlen hch hlog hle hN hPL hfin hk hk7 hlt HL HCh HLg HNl
    go_wp2_with fail
    go_ret
    exact ⟨A2, c2, by rw [← HF9.out.2.2]; rfl, HF9.out.1, HF9.out.2.1, HG.out⟩
  ·have d1 : decide (k < n) = false := decide_eq_false hlt
   have d2 : decide ((k : Int) < (n : Int)) = false := dcF
   have hfin : PL = logK s m ns := by rw [← hPL]; exact pref_all (.inr ⟨hk7, by rw [Hln.out]; omega⟩)
   rw [hfin] at hN hlog
   have HF9 : Hid (LogL wr A2 (logK s m ns).length (logK s m ns) ∧ (logK s m ns).length ≤ c2 ∧ N = (logK s m ns).length) := ⟨by rw [hN]; exact hlog, by rw [hN]; exact hle, hN.symm⟩
   clear hlen hch hlog hle hN hPL hfin hk hk7 hlt HL HCh HLg HNl
   go_wp2_with fail
   go_ret
   exact ⟨A2, c2, by rw [← HF9.out.2.2]; rfl, HF9.out.1, HF9.out.2.1, HG.out⟩
end Go.Proofs.YtpcjbjpofcdjeaaGreatDoor.Wc
