/-
  Proved: whatever values of its parameters' types it is called with, deaddroplaw12.BufferAcks returns true, and each argument reads behind the call as it read before; the listed package-level variables being what the program's own text lays (the card ties them).
  Conditions: none but those of the card itself.
-/
import Derived.Test.YtbdpckphlagijaaDoorCards
import Derived.Test.YtbdpckphlagijaaDoorTie
import Derived.WalkKit
import Derived.ProofKit
import Derived.OpenShut
import Derived.ShutString
import Derived.Below
import Derived.ChangeOld
import Derived.Deep.DeepHandedRow
import Derived.LaidSub
import Derived.LaidHandle
import Derived.LaidLaws
import Derived.RowKitTokens
import Derived.Stop.LaidTwo
import Derived.Test.YtbdpckphlagijaaDoorBuLaw
import Derived.Test.YtbdpckphlagijaaDoorTdA
import Derived.Test.YtbdpckphlagijaaDoorSn
namespace Go.Proofs.YtbdpckphlagijaaDoor.bufferAcks
open Go.ChangeShapes Go.WideShapes Go.ChangeAt Go.RowKit
open Go.ChangeMaps (open_string shut_string)
open Go.Proofs.YtbdpckphlagijaaDoor.Mm Go.Proofs.YtbdpckphlagijaaDoor.Dt Go.Proofs.YtbdpckphlagijaaDoor.Td Go.Proofs.YtbdpckphlagijaaDoor.Er Go.Proofs.YtbdpckphlagijaaDoor.Bf Go.Proofs.YtbdpckphlagijaaDoor
set_option linter.unusedVariables false

theorem own : ownKnob Tryd.prog.godebug = none := by kernel_rfl
theorem laidOut : laidOutB Tryd.prog = true := by kernel_rfl
/-- What the walk is told of a slice of integers that came in. -/
def IsRow (k : IntKind) (w : World) (a : Option Addr) (len cap : Nat) (zs : List Int) : Prop :=
  (a = none ∧ len = 0 ∧ cap = 0 ∧ zs = []) ∨
  ∃ x, a = some x ∧ len ≤ cap ∧ cap ≤ maxLen ∧ zs.length = cap ∧ (∀ i, i < zs.length → w.cell? (x.add i) = some (.int k (zs.getD i 0))) ∧ ∀ n ∈ zs, (Lit.int k n).wf = true

attribute [local go_sem] Td.upon_value Td.upon_skip Td.upon_enter Td.upon_row Td.look_tmp Td.look_const Td.look_func Td.look_global
/-- What Ack makes of a buffer is another one of the same end. -/
theorem acks_fit {L : List St} (h : Fit L) (b : Bu) (hb : ∃ k, b.l = L.drop k) (m : Int) : (∃ k, (ackB b m).l = L.drop k) ∧ ∀ s ∈ (ackB b m).l, Lens s := by
  obtain ⟨k, hk⟩ := hb
  have e : (ackB b m).l = L.drop (k + ackN b m) := by show b.l.drop _ = _; rw [hk, List.drop_drop]
  refine ⟨⟨_, e⟩, fun s hs => ?_⟩
  rw [e] at hs
  exact h.lens s (List.mem_of_mem_drop hs)
/-- The furthest so far. -/
def mostK (ks : List Int) (q : Nat) : Int := (ks.take q).foldl (fun a k => max a (k % 40)) 0
theorem most_more {ks : List Int} {q : Nat} {x : Int} (hx : ks[q]? = some x) : mostK ks (q + 1) = max (mostK ks q) (x % 40) := by
  unfold mostK
  rw [List.take_add_one, hx, Option.toList_some, List.foldl_append]
  rfl
theorem most_in (ks : List Int) : ∀ q, 0 ≤ mostK ks q ∧ mostK ks q ≤ 39
  | 0 => ⟨Int.le_refl _, by show (0 : Int) ≤ 39; decide⟩
  | q + 1 => by
    have ih := most_in ks q
    cases hx : ks[q]? with
    | none =>
      have e : mostK ks (q + 1) = mostK ks q := by
        unfold mostK
        rw [List.take_add_one, hx, Option.toList_none, List.append_nil]
      rw [e]; exact ih
    | some x => rw [most_more hx]; omega
theorem first_in (b : Bu) (m : Int) : b.first ≤ (ackB b m).first ∧ (ackB b m).first ≤ b.first + (b.l.length : Int) := by
  have h : ackN b m ≤ b.l.length := Nat.min_le_right _ _
  show b.first ≤ b.first + (ackN b m : Int) ∧ b.first + (ackN b m : Int) ≤ b.first + (b.l.length : Int)
  omega

set_option maxHeartbeats 40000000 in
set_option maxRecDepth 100000 in
theorem walk (a0 : Option Addr) (len0 cap0 : Nat) (z0 : List Int) (a1 : Int) (a2 : Option Addr) (len2 cap2 : Nat) (z2 : List Int) (w : World) (w0 : IsRow .u8 w a0 len0 cap0 z0) (w1 : (Lit.int .u16 a1).wf = true) (w2 : IsRow .u8 w a2 len2 cap2 z2) (hE : Sn.Two w 0 1 ∧ Sn.Two w 0 2 ∧ Sn.Two w 1 2) :
    Calls Tryd.prog 4 #[.slice a0 len0 cap0, .int .u16 a1, .slice a2 len2 cap2] w fun e w' => e = .returned (.bool true) ∧ Below w.heap.size w w' := by
  obtain ⟨p0, p1⟩ : 0 ≤ a1 ∧ a1 ≤ 65535 := by
    have h1 : IntKind.u16.min = 0 := by decide
    have h2 : IntKind.u16.max = 65535 := by decide
    simp only [Lit.wf, h1, h2, Bool.and_eq_true, decide_eq_true_eq] at w1
    exact w1
  obtain ⟨hnl2, hl2, _⟩ := nl_of_row w2
  obtain ⟨ks, hks⟩ : ∃ ks, z2.take len2 = ks := ⟨_, rfl⟩
  rw [hks] at hnl2
  obtain ⟨hnl0, _, _⟩ := nl_of_row w0
  obtain ⟨K, hK⟩ : ∃ K, min (len0 / 2) 20 = K := ⟨_, rfl⟩
  obtain ⟨L, hL⟩ : ∃ L, (deltaK (z0.take len0) K).1 = L := ⟨_, rfl⟩
  obtain ⟨s, hs⟩ : ∃ s, (deltaK (z0.take len0) K).2 = s := ⟨_, rfl⟩
  obtain ⟨N, hN⟩ : ∃ N, L.length = N := ⟨_, rfl⟩
  have hN20 : N ≤ 20 := by have := deltaK_len (z0.take len0) K; rw [hL, hN] at this; omega
  have hfit : Fit L := by rw [← hL]; exact delta_fit _ (by omega)
  have hall : allS L = s := by rw [← hL, ← hs]; exact (deltaK_is _ K).2.2
  have HDel : Hid (Calls Tryd.prog 5 #[.slice a0 len0 cap0] w (DeltasIs L s w)) := by
    have h := deltas_any a0 len0 cap0 (z0.take len0) w hnl0
    rw [hK, hL, hs] at h
    exact h
  obtain ⟨ea, eb, hers⟩ := Ers.of hE.1
  have HErs : Hid (∀ W, w.grownBy W none → Ers W ea eb) := fun W hW => hers.keep hW
  have HN := Lib.hid hN20
  have HLen := Lib.hid hN
  have HFit := Lib.hid hfit
  have HAll := Lib.hid hall
  have HAw : Hid (∀ W, w.grownBy W none → Calls Tryd.prog 11 #[] W fun e w' => e = .returned (.bool true) ∧ W.grownBy w' none) := fun W hW => awake12_any ea eb W (HErs.out W hW)
  have HNum : Hid (0 ≤ a1 ∧ a1 ≤ 65535 ∧ N ≤ 20) := ⟨p0, p1, hN20⟩
  have HKs := Lib.hid hnl2
  have Ht0 : Hid (IntKind.i64.wrap a1 = a1) := by show _ = _; rw [IntKind.wrap_i64]; omega
  have Ht3 : Hid (IntKind.i64.wrap (a1 + (N : Int)) = a1 + (N : Int)) := by show _ = _; rw [IntKind.wrap_i64]; omega
  have Hlen2 := Lib.hid hl2
  clear hnl0 hK hL hs hN hN20 hfit hall hers hE w0 w1 w2 p0 p1 hnl2 hks hl2
  by_cases hmany : 30 < len2
  · have d1 : decide (30 < len2) = true := decide_eq_true hmany
    have d2 : decide ((30 : Int) < (len2 : Int)) = true := decide_eq_true (by omega)
    clear hmany
    go_enter Tryd.func4, Tryd.ntmps4
    go_wp2_with (go_at_call 11; refine (HAw.out _ (gb_refl _ _)).mono ?_; rintro e w7 ⟨rfl, g7⟩)
    go_ret
    exact ⟨rfl, gb_below g7 (Nat.le_refl _)⟩
  · have d1 : decide (30 < len2) = false := decide_eq_false hmany
    have d2 : decide ((30 : Int) < (len2 : Int)) = false := decide_eq_false (by omega)
    have Hl2 : Hid (len2 ≤ 30) := by show _ ≤ _; omega
    clear hmany
    go_enter Tryd.func4, Tryd.ntmps4
    go_upto_region 4 with (go_at_call 5; refine HDel.out.mono ?_; rintro e wq ⟨lv, Xs, xs, ys, Ys, us, vs, rfl, hlq, hsq, hcq, hdq, gq⟩; obtain ⟨lA, lm, lc, rfl⟩ := hlq.slice; obtain ⟨hbl, hlm⟩ := hlq.told; rw [HLen.out] at hlm; have hlm2 := hlm.symm; subst hlm2)
    obtain ⟨bs, hbs⟩ : ∃ bs, wq.heap.size = bs := ⟨_, rfl⟩
    rw [hbs]
    refine Td.named (fun W => w.grownBy W none ∧ Row W bs 28 #[.slice Xs xs ys, .slice Ys us vs] ∧ SL W Xs xs Ys us s ∧ BL W lA N lc L) ⟨gb_alloc gq _, by rw [← hbs]; exact Row.new _ _ _, hsq.keep (gb_alloc (gb_refl _ _) _), hbl.keep (gb_alloc (gb_refl _ _) _)⟩ ?_
    rintro W1 ⟨g3, r3, s3, l3⟩
    have HG : Hid (w.grownBy W1 none) := g3
    have HSs : Hid (∀ W, W1.grownBy W none → W.cell? ⟨bs, 0, none⟩ = some (.slice Xs xs ys) ∧ W.cell? ⟨bs, 1, none⟩ = some (.slice Ys us vs) ∧ SL W Xs xs Ys us s) := fun W hW => ⟨(r3.kept hW (by simp)).at_ (i := 0) rfl, (r3.kept hW (by simp)).at_ (i := 1) rfl, s3.keep hW⟩
    have HBL : Hid (∀ W, W1.grownBy W none → BL W lA N lc L) := fun W hW => l3.keep hW
    clear hbs hlq hsq hcq hdq gq g3 r3 s3 l3 hbl HDel
    have t0 := Ht0.out
    go_upto_region 5 with fail
    obtain ⟨b9, hb9⟩ : ∃ b9, W1.heap.size = b9 := ⟨_, rfl⟩
    rw [hb9]
    refine Td.named (fun W => W1.grownBy W none ∧ Row W b9 32 #[.int .i64 a1, .slice lA N lc]) ⟨gb_alloc (gb_refl _ _) _, by rw [← hb9]; exact Row.new _ _ _⟩ ?_
    rintro W2 ⟨g3, r3⟩
    have HGx := Lib.hid g3
    have HXb : Hid (∀ W, W2.grownBy W none → W.cell? ⟨b9, 0, none⟩ = some (.int .i64 a1) ∧ W.cell? ⟨b9, 1, none⟩ = some (.slice lA N lc) ∧ BL W lA N lc L) := fun W hW => ⟨(r3.kept hW (by simp)).at_ (i := 0) rfl, (r3.kept hW (by simp)).at_ (i := 1) rfl, HBL.out W (gb_none HGx.out hW)⟩
    replace HG : Hid (w.grownBy W2 none) := gb_none HG.out HGx.out
    clear hb9 g3 r3 HGx t0 d1 d2 HSs HBL
    obtain ⟨i0, i1, _⟩ := HXb.out W2 (gb_refl _ _)
    go_upto_region 6 with fail
    obtain ⟨bc, hbc⟩ : ∃ bc, W2.heap.size = bc := ⟨_, rfl⟩
    rw [hbc]
    have Hbc : Hid (W2.heap.size ≤ bc) := by show _ ≤ _; omega
    refine Td.named (fun W => W2.grownBy W none ∧ Row W bc 32 #[.int .i64 a1, .slice lA N lc]) ⟨gb_alloc (gb_refl _ _) _, by rw [← hbc]; exact Row.new _ _ _⟩ ?_
    rintro W3 ⟨g3, r3⟩
    have Hg3 := Lib.hid g3
    have Hr3 := Lib.hid r3
    clear hbc g3 r3 i0 i1
    go_wp2_with fail
    go_loopw [11, 12] (fun mv i wr => ∃ (q cn cc : Nat) (cA : Option Addr) (b : Bu), q ≤ len2 ∧ i = .int .i64 q ∧ mv = .int .i64 (mostK ks q) ∧ Hid (b = ackB ⟨a1, L⟩ (a1 + mostK ks q - 5)) ∧ Row wr bc 32 #[.int .i64 b.first, .slice cA cn cc] ∧ Hid (∀ W, wr.grownBy W none → BL W cA cn cc b.l) ∧ W2.grownBy wr none) (fun _ i _ => len2 - (intOf i).toNat)
    case atStart =>
      refine ⟨0, N, lc, lA, ⟨a1, L⟩, Nat.zero_le _, rfl, rfl, ?_, Hr3.out, fun W hW => (HXb.out W (gb_none Hg3.out hW)).2.2, Hg3.out⟩
      show _ = _
      rw [ack_none (by show a1 + (0 : Int) - 5 ≤ a1; omega)]
    case round =>
      obtain ⟨q, cn, cc, cA, b, hq, rfl, rfl, HBu, hr, Hbl, hg⟩ := hrel
      have HMost := Lib.hid (most_in ks q)
      by_cases hlt : q < len2
      · have d1 : decide (q < len2) = true := decide_eq_true hlt
        have d2 : decide ((q : Int) < (len2 : Int)) = true := decide_eq_true (by omega)
        have bq : (q : Int) < (len2 : Int) := by omega
        have Hlt := Lib.hid hlt
        have t8 : IntKind.i64.wrap ((q : Int) + 1) = ((q + 1 : Nat) : Int) := by rw [IntKind.wrap_i64]; have := Hl2.out; omega
        obtain ⟨x, hx⟩ : ∃ x, ks[q]? = some x := ⟨_, List.getElem?_eq_getElem (by rw [HKs.out.1]; exact hlt)⟩
        obtain ⟨x0, x1⟩ := HKs.out.2.2 x (List.mem_of_getElem? hx)
        obtain ⟨kg, ko, rfl, hkl, hkc⟩ := (HKs.out.keep (gb_none HG.out hg)).2.1 (by omega)
        have ck := hkc q x hx
        obtain ⟨y, hy⟩ : ∃ y, x % 40 = y := ⟨_, rfl⟩
        obtain ⟨M, hM⟩ : ∃ M, mostK ks q = M := ⟨_, rfl⟩
        have hnext := most_more hx
        rw [hy, hM] at hnext
        have hMi := HMost.out
        rw [hM] at hMi HBu ⊢
        have HNext := Lib.hid hnext
        have Ht1 : Hid (IntKind.i64.wrap x = x) := by show _ = _; rw [IntKind.wrap_i64]; omega
        have Ht2 : Hid (x.tmod 40 = y) := by show _ = _; rw [Int.tmod_eq_emod_of_nonneg x0, hy]
        have Ht4 : Hid (IntKind.i64.wrap y = y) := by show _ = _; rw [IntKind.wrap_i64]; omega
        have hy40 : 0 ≤ y ∧ y ≤ 39 := by omega
        obtain ⟨n1, hn1⟩ : ∃ n1, a1 + y = n1 := ⟨_, rfl⟩
        obtain ⟨n2, hn2⟩ : ∃ n2, n1 - 5 = n2 := ⟨_, rfl⟩
        have Ht5 : Hid (IntKind.i64.wrap (a1 + y) = n1) := by show _ = _; rw [IntKind.wrap_i64]; have := HNum.out; omega
        have Ht6 : Hid (IntKind.i64.wrap (n1 - 5) = n2) := by show _ = _; rw [IntKind.wrap_i64]; have := HNum.out; omega
        have hdrop := HBu.out
        have hb' : ackB b n2 = ackB ⟨a1, L⟩ (a1 + max M y - 5) := by
          rw [hdrop, ack_two, show max (a1 + M - 5) n2 = a1 + max M y - 5 by omega]
        have HB' := Lib.hid hb'
        have hbd : (∃ k, b.l = L.drop k) ∧ ∀ s ∈ b.l, Lens s := by rw [hdrop]; exact acks_fit HFit.out ⟨a1, L⟩ ⟨0, by rw [List.drop_zero]⟩ _
        have hfi := first_in ⟨a1, L⟩ (a1 + M - 5)
        rw [← hdrop] at hfi
        have hLN := HLen.out
        have hfi2 : a1 ≤ b.first ∧ b.first ≤ a1 + (N : Int) := ⟨hfi.1, by have := hfi.2; rw [show (⟨a1, L⟩ : Bu).l = L from rfl, hLN] at this; exact this⟩
        have hcn : cn ≤ 100000 := by
          have h := (Hbl.out wr (gb_refl _ _)).al.1
          obtain ⟨k, e⟩ := hbd.1
          rw [e, List.length_drop, hLN] at h
          have := HNum.out
          omega
        have HC : Hid (∀ W, wr.grownBy W none → Calls Tryd.prog 8 #[.agg #[.int .i64 b.first, .slice cA cn cc], .int .i64 n2] W (BufIs (ackB b n2).first (ackB b n2).l W)) := fun W hW => ack_any b.first n2 cA cn cc b.l ea eb W (Hbl.out W hW) hbd.2 (HErs.out W (gb_none HG.out (gb_none hg hW))) (by have := HNum.out; omega) (by have := HNum.out; omega) (by have := HNum.out; omega) hcn
        have z0 := hr.at_ (i := 0) rfl
        have z1 := hr.at_ (i := 1) rfl
        have HR := Lib.hid hr
        have Hg := Lib.hid hg
        have t1 := Ht1.out
        have t2 := Ht2.out
        have t4 := Ht4.out
        have t0 := Ht0.out
        have t5 := Ht5.out
        have t6 := Ht6.out
        have Hmx : Hid (max M y = mostK ks (q + 1)) := by show _ = _; rw [HNext.out]
        clear x0 x1 hkl hkc hx hy hM hnext hMi hy40 hn1 hn2 hdrop hb' hbd hfi hLN hfi2 hcn hr hg hq hlt HMost HNext
        go_wp2_with (go_at_call 8; refine (HC.out wr (gb_refl _ _)).mono ?_; rintro e w5 ⟨A5, m5, c5, rfl, hl5, g5⟩; have r5 := HR.out.kept g5 (by simp); have q0 := r5.free 0; have q1 := r5.free 1; have u0 := r5.at_ (i := 0) rfl; have u1 := r5.at_ (i := 1) rfl; have Hl5 := Lib.hid hl5; have Hg5 := Lib.hid g5; have Hr5 := Lib.hid r5; clear r5 hl5 g5)
        have k1 := gb_set1 w5 bc 0 (.int .i64 (ackB b n2).first)
        have y1 := Hr5.out.set_ 0 (.int .i64 (ackB b n2).first)
        have k2 := gb_set1 (w5.setCell ⟨bc, 0, none⟩ (.int .i64 (ackB b n2).first)) bc 1 (.slice A5 m5 c5)
        have hlt5 := HR.out.lt
        have hl6 := (Hl5.out.small k1 Hr5.out (Nat.le_refl 2) hlt5).small k2 y1 (Nat.le_refl 2) hlt5
        have HF : Hid _ := And.intro (y1.set_ 1 (.slice A5 m5 c5)) (And.intro hl6.told.1 (gb_new (gb_new (gb_none Hg.out Hg5.out) k1 Hbc.out) k2 Hbc.out))
        clear k1 y1 k2 hlt5 hl6
        go_roundw
        case rel => exact ⟨q + 1, m5, c5, A5, ackB b n2, by have := Hlt.out; omega, rfl, by rw [Hmx.out], (by show _ = _; rw [HB'.out, Hmx.out]), HF.out.1, fun W hW => HF.out.2.1.keep hW, HF.out.2.2⟩
        case measure => simp [intOf]; have := Hlt.out; omega
      · have hqn : len2 = q := by omega
        subst hqn
        have d1 : decide (len2 < len2) = false := by simp
        have d2 : decide ((len2 : Int) < (len2 : Int)) = false := by simp
        obtain ⟨M, hM⟩ : ∃ M, mostK ks len2 = M := ⟨_, rfl⟩
        have hMi := HMost.out
        rw [hM] at hMi HBu ⊢
        have hLN := HLen.out
        have hbe : b = ackB ⟨a1, L⟩ (a1 + M - 5) := HBu.out
        have hbd : (∃ k, b.l = L.drop k) ∧ ∀ s ∈ b.l, Lens s := by rw [hbe]; exact acks_fit HFit.out ⟨a1, L⟩ ⟨0, by rw [List.drop_zero]⟩ _
        have hfi := first_in ⟨a1, L⟩ (a1 + M - 5)
        have hend := ack_end ⟨a1, L⟩ (a1 + M - 5)
        rw [← hbe] at hfi hend
        rw [show (⟨a1, L⟩ : Bu).l = L from rfl, show (⟨a1, L⟩ : Bu).first = a1 from rfl, hLN] at hfi hend
        have hlc := (Hbl.out wr (gb_refl _ _)).al.1
        rw [hlc] at hend
        have hcn : cn ≤ 100000 := by have := HNum.out; omega
        obtain ⟨fF, hfF⟩ : ∃ fF, b.first = fF := ⟨_, rfl⟩
        obtain ⟨fL, hfL⟩ : ∃ fL, b.l = fL := ⟨_, rfl⟩
        obtain ⟨n1, hn1⟩ : ∃ n1, a1 + M = n1 := ⟨_, rfl⟩
        obtain ⟨n2, hn2⟩ : ∃ n2, n1 - 5 = n2 := ⟨_, rfl⟩
        have hbF : (ackB ⟨a1, L⟩ n2).first = fF ∧ (ackB ⟨a1, L⟩ n2).l = fL := by rw [← hn2, ← hn1, ← hbe]; exact ⟨hfF, hfL⟩
        have HAckD : Hid (∀ W, wr.grownBy W none → Calls Tryd.prog 8 #[.agg #[.int .i64 a1, .slice lA N lc], .int .i64 n2] W (BufIs fF fL W)) := fun W hW => by
          have h := ack_any a1 n2 lA N lc L ea eb W (HXb.out W (gb_none hg hW)).2.2 HFit.out.lens (HErs.out W (gb_none HG.out (gb_none hg hW))) (by have := HNum.out; omega) (by have := HNum.out; omega) (by have := HNum.out; omega) (by have := HNum.out; omega)
          rw [hbF.1, hbF.2] at h
          exact h
        rw [hfF] at hr hfi hend
        rw [hfL] at Hbl hbd hlc
        have HAck0 : Hid (∀ W, wr.grownBy W none → Calls Tryd.prog 8 #[.agg #[.int .i64 fF, .slice cA cn cc], .int .i64 0] W (BufIs fF fL W)) := fun W hW => by
          have h := ack_any fF 0 cA cn cc fL ea eb W (Hbl.out W hW) hbd.2 (HErs.out W (gb_none HG.out (gb_none hg hW))) (by have := HNum.out; omega) (by have := HNum.out; omega) (by decide) hcn
          rw [ack_none (show (0 : Int) ≤ (⟨fF, fL⟩ : Bu).first by show (0 : Int) ≤ fF; have := HNum.out; omega)] at h
          exact h
        have HfL : Hid (∀ s ∈ fL, Lens s) := hbd.2
        have Hfn := Lib.hid hcn
        have HfLn := Lib.hid hlc
        have Ht1 : Hid (IntKind.i64.wrap (a1 + M) = n1) := by show _ = _; rw [IntKind.wrap_i64]; have := HNum.out; omega
        have Ht2 : Hid (IntKind.i64.wrap (n1 - 5) = n2) := by show _ = _; rw [IntKind.wrap_i64]; have := HNum.out; omega
        have Ht5 : Hid (IntKind.i64.wrap (fF + (cn : Int)) = a1 + (N : Int)) := by show _ = _; rw [hend, IntKind.wrap_i64]; have := HNum.out; omega
        have HXc0 : Hid (∀ W, wr.grownBy W none → W.cell? ⟨bc, 0, none⟩ = some (.int .i64 fF) ∧ W.cell? ⟨bc, 1, none⟩ = some (.slice cA cn cc) ∧ BL W cA cn cc fL) := fun W hW => ⟨(hr.kept hW (by simp)).at_ (i := 0) rfl, (hr.kept hW (by simp)).at_ (i := 1) rfl, Hbl.out W hW⟩
        obtain ⟨i0, i1, _⟩ := HXb.out wr hg
        have Hg := Lib.hid hg
        have t0 := Ht0.out
        have t1 := Ht1.out
        have t2 := Ht2.out
        clear hMi hLN hbe hbd hfi hend hlc hcn hfF hfL hn1 hn2 hbF hr hg hq hlt HMost HBu Hbl hM
        go_upto_region 14 with (go_at_call 8; refine (HAckD.out wr (gb_refl _ _)).mono ?_; rintro e wq ⟨dA, dm, dc, rfl, hlq, gq⟩; obtain ⟨hdl, hdm⟩ := hlq.told; rw [HfLn.out] at hdm; have hdm2 := hdm.symm; subst hdm2)
        obtain ⟨bd, hbd⟩ : ∃ bd, wq.heap.size = bd := ⟨_, rfl⟩
        rw [hbd]
        refine Td.named (fun W => wr.grownBy W none ∧ Row W bd 32 #[.int .i64 fF, .slice dA cn dc] ∧ BL W dA cn dc fL) ⟨gb_alloc gq _, by rw [← hbd]; exact Row.new _ _ _, hdl.keep (gb_alloc (gb_refl _ _) _)⟩ ?_
        rintro W6 ⟨g6, r6, l6⟩
        have HXd : Hid (∀ W, W6.grownBy W none → W.cell? ⟨bd, 0, none⟩ = some (.int .i64 fF) ∧ W.cell? ⟨bd, 1, none⟩ = some (.slice dA cn dc) ∧ BL W dA cn dc fL) := fun W hW => ⟨(r6.kept hW (by simp)).at_ (i := 0) rfl, (r6.kept hW (by simp)).at_ (i := 1) rfl, l6.keep hW⟩
        have HXc : Hid (∀ W, W6.grownBy W none → W.cell? ⟨bc, 0, none⟩ = some (.int .i64 fF) ∧ W.cell? ⟨bc, 1, none⟩ = some (.slice cA cn cc) ∧ BL W cA cn cc fL) := fun W hW => HXc0.out W (gb_none g6 hW)
        replace HAck0 : Hid (∀ W, W6.grownBy W none → _) := fun W hW => HAck0.out W (gb_none g6 hW)
        replace HG : Hid (w.grownBy W6 none) := gb_none HG.out (gb_none Hg.out g6)
        clear hbd hdl gq hlq g6 r6 l6 HXc0 HAckD i0 i1 t0 t1 t2 d1 d2 Hg HXb
        by_cases hz : len2 = 0
        · have HZ : Hid (((len2 : Int) == 0) = true) := by show _ = _; rw [hz]; rfl
          clear hz
          apply wp_region_told (le := fun a b => a.grownBy b none) [isV _, isV _, isV _, isV _, isV _, isV _, isV _, isV _, isV _, isV _, bufLV 0 fF fL, isV _, isV _, isV _, isV _, isV _, isV _, isV _, isV _, isV _, isV _, isV _, isV _, isV _, isV _, isV _, isV _, isV _, isV _, isV _, isV _, isV _]
          case hn => rfl
          case hm => kernel_rfl
          case hB => kernel_rfl
          case ht => exact fun _ _ _ h k => gb_none h k
          case hw => exact gb_drew (gb_refl _ _)
          -- 0: more.go:24 move
          apply told_is
          · intro W f hW hE h0 K hK
            have e2 := h0 2 (by kernel_rfl)
            conv at e2 => rhs; whnf
            clear hE h0
            refine yes_of (want_free rfl) ?_
            go_simp; exact hK _ _ (gb_refl _ _) rfl
          -- 1: more.go:24 call
          apply told_is
          · intro W f hW hE h0 K hK
            have e58 : f 58 = _ := hE 0 58 _ rfl (by kernel_rfl)
            clear hE h0
            refine yes_of (want_free rfl) ?_
            go_simp; exact hK _ _ (gb_refl _ _) rfl
          -- 2: more.go:24 binOp
          apply told_is
          · intro W f hW hE h0 K hK
            have e59 : f 59 = _ := hE 0 59 _ rfl (by kernel_rfl)
            clear hE h0
            refine yes_of (want_free rfl) ?_
            have tz := HZ.out
            go_simp; exact hK _ _ (gb_refl _ _) rfl
          -- 3: more.go:24 move
          apply told_is
          · intro W f hW hE h0 K hK
            have e60 : f 60 = _ := hE 0 60 _ rfl (by kernel_rfl)
            clear hE h0
            refine yes_of (want_free rfl) ?_
            go_simp; exact hK _ _ (gb_refl _ _) rfl
          -- 4: more.go:24 load
          apply told_is
          · intro W f hW hE h0 K hK
            have e61 : f 61 = _ := hE 0 61 _ rfl (by kernel_rfl)
            clear hE h0
            refine no_of (want_no rfl rfl e61 rfl) ?_
            exact hK _ _ (gb_refl _ _) rfl
          -- 5: more.go:24 load
          apply told_is
          · intro W f hW hE h0 K hK
            have e61 : f 61 = _ := hE 1 61 _ rfl (by kernel_rfl)
            clear hE h0
            refine no_of (want_no rfl rfl e61 rfl) ?_
            exact hK _ _ (gb_refl _ _) rfl
          -- 6: more.go:24 call
          apply told_is
          · intro W f hW hE h0 K hK
            have e61 : f 61 = _ := hE 2 61 _ rfl (by kernel_rfl)
            clear hE h0
            refine no_of (want_no rfl rfl e61 rfl) ?_
            exact hK _ _ (gb_refl _ _) rfl
          -- 7: more.go:24 pick
          apply told_is
          · intro W f hW hE h0 K hK
            have e61 : f 61 = _ := hE 3 61 _ rfl (by kernel_rfl)
            have e64 : f 64 = _ := hE 0 64 _ rfl (by kernel_rfl)
            clear hE h0
            refine yes_of (want_free rfl) ?_
            go_simp; exact hK _ _ (gb_refl _ _) rfl
          -- 8: more.go:24 move
          apply told_is
          · intro W f hW hE h0 K hK
            have e65 : f 65 = _ := hE 0 65 _ rfl (by kernel_rfl)
            clear hE h0
            refine yes_of (want_free rfl) ?_
            go_simp; exact hK _ _ (gb_refl _ _) rfl
          -- 9: more.go:24 load
          apply told_is
          · intro W f hW hE h0 K hK
            have e10 := h0 10 (by kernel_rfl)
            conv at e10 => rhs; whnf
            have e66 : f 66 = _ := hE 0 66 _ rfl (by kernel_rfl)
            clear hE h0
            refine yes_of (want_yes rfl rfl e66) ?_
            obtain ⟨z0, z1, _⟩ := HXc.out W hW
            go_simp; exact hK _ _ (gb_refl _ _) rfl
          -- 10: more.go:24 call
          apply told_at bufLV_keep
          · intro W f hW hE h0 K hK
            have e67 : f 67 = _ := hE 0 67 _ rfl (by kernel_rfl)
            have e66 : f 66 = _ := hE 1 66 _ rfl (by kernel_rfl)
            clear hE h0
            refine yes_of (want_yes rfl rfl e66) ?_
            go_simp
            refine (HAck0.out W hW).mono ?_
            rintro e w1' ⟨A5, m5, c5, rfl, hl5, g5⟩
            exact ⟨_, rfl, hK _ _ g5 ⟨A5, m5, c5, rfl, hl5.low (Nat.zero_le _)⟩⟩
          -- 11: more.go:24 load
          apply told_is
          · intro W f hW hE h0 K hK
            have e10 := h0 10 (by kernel_rfl)
            conv at e10 => rhs; whnf
            have e66 : f 66 = _ := hE 2 66 _ rfl (by kernel_rfl)
            clear hE h0
            refine yes_of (want_yes rfl rfl e66) ?_
            obtain ⟨z0, z1, _⟩ := HXc.out W hW
            go_simp; exact hK _ _ (gb_refl _ _) rfl
          -- 12: more.go:24 call
          apply told_is
          · intro W f hW hE h0 K hK
            have e68 := hE 1 68 _ rfl (by kernel_rfl)
            have e69 : f 69 = _ := hE 0 69 _ rfl (by kernel_rfl)
            have e66 : f 66 = _ := hE 3 66 _ rfl (by kernel_rfl)
            clear hE h0
            refine yes_of (want_yes rfl rfl e66) ?_
            obtain ⟨A5, m5, c5, e68, hl5⟩ := e68
            obtain ⟨hb5, hm5⟩ := hl5.told
            rw [HfLn.out] at hm5
            have hm6 := hm5.symm
            subst hm6
            go_simp
            refine (same_buf fF A5 cA cn c5 cc fL W hb5.al (HXc.out W hW).2.2.al HfL.out Hfn.out).mono ?_
            rintro e w1' ⟨rfl, g'⟩
            exact ⟨_, rfl, hK _ _ g' rfl⟩
          -- 13: more.go:24 pick
          apply told_is
          · intro W f hW hE h0 K hK
            have e66 : f 66 = _ := hE 4 66 _ rfl (by kernel_rfl)
            have e70 : f 70 = _ := hE 0 70 _ rfl (by kernel_rfl)
            clear hE h0
            refine yes_of (want_free rfl) ?_
            go_simp; exact hK _ _ (gb_refl _ _) rfl
          -- 14: more.go:24 move
          apply told_is
          · intro W f hW hE h0 K hK
            have e71 : f 71 = _ := hE 0 71 _ rfl (by kernel_rfl)
            clear hE h0
            refine yes_of (want_free rfl) ?_
            go_simp; exact hK _ _ (gb_refl _ _) rfl
          -- 15: more.go:24 fieldAddr
          apply told_is
          · intro W f hW hE h0 K hK
            have e10 := h0 10 (by kernel_rfl)
            conv at e10 => rhs; whnf
            have e72 : f 72 = _ := hE 0 72 _ rfl (by kernel_rfl)
            clear hE h0
            refine yes_of (want_yes rfl rfl e72) ?_
            go_simp; exact hK _ _ (gb_refl _ _) rfl
          -- 16: more.go:24 load
          apply told_is
          · intro W f hW hE h0 K hK
            have e73 : f 73 = _ := hE 0 73 _ rfl (by kernel_rfl)
            have e72 : f 72 = _ := hE 1 72 _ rfl (by kernel_rfl)
            clear hE h0
            refine yes_of (want_yes rfl rfl e72) ?_
            obtain ⟨z0, z1, _⟩ := HXc.out W hW
            go_simp; exact hK _ _ (gb_refl _ _) rfl
          -- 17: more.go:24 fieldAddr
          apply told_is
          · intro W f hW hE h0 K hK
            have e10 := h0 10 (by kernel_rfl)
            conv at e10 => rhs; whnf
            have e72 : f 72 = _ := hE 2 72 _ rfl (by kernel_rfl)
            clear hE h0
            refine yes_of (want_yes rfl rfl e72) ?_
            go_simp; exact hK _ _ (gb_refl _ _) rfl
          -- 18: more.go:24 load
          apply told_is
          · intro W f hW hE h0 K hK
            have e75 : f 75 = _ := hE 0 75 _ rfl (by kernel_rfl)
            have e72 : f 72 = _ := hE 3 72 _ rfl (by kernel_rfl)
            clear hE h0
            refine yes_of (want_yes rfl rfl e72) ?_
            obtain ⟨z0, z1, _⟩ := HXc.out W hW
            go_simp; exact hK _ _ (gb_refl _ _) rfl
          -- 19: more.go:24 call
          apply told_is
          · intro W f hW hE h0 K hK
            have e76 : f 76 = _ := hE 0 76 _ rfl (by kernel_rfl)
            have e72 : f 72 = _ := hE 4 72 _ rfl (by kernel_rfl)
            clear hE h0
            refine yes_of (want_yes rfl rfl e72) ?_
            go_simp; exact hK _ _ (gb_refl _ _) rfl
          -- 20: more.go:24 binOp
          apply told_is
          · intro W f hW hE h0 K hK
            have e74 : f 74 = _ := hE 3 74 _ rfl (by kernel_rfl)
            have e77 : f 77 = _ := hE 0 77 _ rfl (by kernel_rfl)
            have e72 : f 72 = _ := hE 5 72 _ rfl (by kernel_rfl)
            clear hE h0
            refine yes_of (want_yes rfl rfl e72) ?_
            have t5 := Ht5.out
            go_simp; exact hK _ _ (gb_refl _ _) rfl
          -- 21: more.go:24 move
          apply told_is
          · intro W f hW hE h0 K hK
            have e1 := h0 1 (by kernel_rfl)
            conv at e1 => rhs; whnf
            have e72 : f 72 = _ := hE 6 72 _ rfl (by kernel_rfl)
            clear hE h0
            refine yes_of (want_yes rfl rfl e72) ?_
            go_simp; exact hK _ _ (gb_refl _ _) rfl
          -- 22: more.go:24 convert
          apply told_is
          · intro W f hW hE h0 K hK
            have e79 : f 79 = _ := hE 0 79 _ rfl (by kernel_rfl)
            have e72 : f 72 = _ := hE 7 72 _ rfl (by kernel_rfl)
            clear hE h0
            refine yes_of (want_yes rfl rfl e72) ?_
            have t0 := Ht0.out
            go_simp; exact hK _ _ (gb_refl _ _) rfl
          -- 23: more.go:24 move
          apply told_is
          · intro W f hW hE h0 K hK
            have e7 := h0 7 (by kernel_rfl)
            conv at e7 => rhs; whnf
            have e72 : f 72 = _ := hE 8 72 _ rfl (by kernel_rfl)
            clear hE h0
            refine yes_of (want_yes rfl rfl e72) ?_
            go_simp; exact hK _ _ (gb_refl _ _) rfl
          -- 24: more.go:24 call
          apply told_is
          · intro W f hW hE h0 K hK
            have e81 : f 81 = _ := hE 0 81 _ rfl (by kernel_rfl)
            have e72 : f 72 = _ := hE 9 72 _ rfl (by kernel_rfl)
            clear hE h0
            refine yes_of (want_yes rfl rfl e72) ?_
            go_simp; exact hK _ _ (gb_refl _ _) rfl
          -- 25: more.go:24 binOp
          apply told_is
          · intro W f hW hE h0 K hK
            have e80 : f 80 = _ := hE 2 80 _ rfl (by kernel_rfl)
            have e82 : f 82 = _ := hE 0 82 _ rfl (by kernel_rfl)
            have e72 : f 72 = _ := hE 10 72 _ rfl (by kernel_rfl)
            clear hE h0
            refine yes_of (want_yes rfl rfl e72) ?_
            have t5 := Ht3.out
            go_simp; exact hK _ _ (gb_refl _ _) rfl
          -- 26: more.go:24 binOp
          apply told_is
          · intro W f hW hE h0 K hK
            have e78 : f 78 = _ := hE 5 78 _ rfl (by kernel_rfl)
            have e83 : f 83 = _ := hE 0 83 _ rfl (by kernel_rfl)
            have e72 : f 72 = _ := hE 11 72 _ rfl (by kernel_rfl)
            clear hE h0
            refine yes_of (want_yes rfl rfl e72) ?_
            go_simp; exact hK _ _ (gb_refl _ _) rfl
          -- 27: more.go:24 pick
          apply told_is
          · intro W f hW hE h0 K hK
            have e72 : f 72 = _ := hE 12 72 _ rfl (by kernel_rfl)
            have e84 : f 84 = _ := hE 0 84 _ rfl (by kernel_rfl)
            clear hE h0
            refine yes_of (want_free rfl) ?_
            go_simp; exact hK _ _ (gb_refl _ _) rfl
          -- 28: more.go:24 move
          apply told_is
          · intro W f hW hE h0 K hK
            have e85 : f 85 = _ := hE 0 85 _ rfl (by kernel_rfl)
            clear hE h0
            refine yes_of (want_free rfl) ?_
            go_simp; exact hK _ _ (gb_refl _ _) rfl
          -- 29: more.go:24 call
          apply told_is
          · intro W f hW hE h0 K hK
            have e86 : f 86 = _ := hE 0 86 _ rfl (by kernel_rfl)
            clear hE h0
            refine yes_of (want_yes rfl rfl e86) ?_
            go_simp
            refine (HAw.out W (gb_none HG.out hW)).mono ?_
            rintro e w1' ⟨rfl, g'⟩
            exact ⟨_, rfl, hK _ _ g' rfl⟩
          -- 30: more.go:24 pick
          apply told_is
          · intro W f hW hE h0 K hK
            have e86 : f 86 = _ := hE 1 86 _ rfl (by kernel_rfl)
            have e87 : f 87 = _ := hE 0 87 _ rfl (by kernel_rfl)
            clear hE h0
            refine yes_of (want_free rfl) ?_
            go_simp; exact hK _ _ (gb_refl _ _) rfl
          -- 31: more.go:24 assign
          apply told_is
          · intro W f hW hE h0 K hK
            have e88 : f 88 = _ := hE 0 88 _ rfl (by kernel_rfl)
            clear hE h0
            refine yes_of (want_free rfl) ?_
            go_simp; exact hK _ _ (gb_refl _ _) rfl
          intro W f hW hA
          simp only [lexIn, Act.put, List.setIfInBounds_toArray, List.set_cons_zero, List.set_cons_succ]
          have e6 : f 6 = _ := hA 0 (some 6) _ rfl
          rw [e6]
          clear hA
          go_wp2_with fail
          go_ret
          exact ⟨rfl, gb_below (gb_none HG.out hW) (Nat.le_refl _)⟩
        · have HZ : Hid (((len2 : Int) == 0) = false) := by show _ = _; rw [beq_eq_false_iff_ne]; omega
          clear hz
          apply wp_region_told (le := fun a b => a.grownBy b none) [isV _, isV _, isV _, isV _, isV _, isV _, isV _, isV _, isV _, isV _, bufLV 0 fF fL, isV _, isV _, isV _, isV _, isV _, isV _, isV _, isV _, isV _, isV _, isV _, isV _, isV _, isV _, isV _, isV _, isV _, isV _, isV _, isV _, isV _]
          case hn => rfl
          case hm => kernel_rfl
          case hB => kernel_rfl
          case ht => exact fun _ _ _ h k => gb_none h k
          case hw => exact gb_drew (gb_refl _ _)
          -- 0: more.go:24 move
          apply told_is
          · intro W f hW hE h0 K hK
            have e2 := h0 2 (by kernel_rfl)
            conv at e2 => rhs; whnf
            clear hE h0
            refine yes_of (want_free rfl) ?_
            go_simp; exact hK _ _ (gb_refl _ _) rfl
          -- 1: more.go:24 call
          apply told_is
          · intro W f hW hE h0 K hK
            have e58 : f 58 = _ := hE 0 58 _ rfl (by kernel_rfl)
            clear hE h0
            refine yes_of (want_free rfl) ?_
            go_simp; exact hK _ _ (gb_refl _ _) rfl
          -- 2: more.go:24 binOp
          apply told_is
          · intro W f hW hE h0 K hK
            have e59 : f 59 = _ := hE 0 59 _ rfl (by kernel_rfl)
            clear hE h0
            refine yes_of (want_free rfl) ?_
            have tz := HZ.out
            go_simp; exact hK _ _ (gb_refl _ _) rfl
          -- 3: more.go:24 move
          apply told_is
          · intro W f hW hE h0 K hK
            have e60 : f 60 = _ := hE 0 60 _ rfl (by kernel_rfl)
            clear hE h0
            refine yes_of (want_free rfl) ?_
            go_simp; exact hK _ _ (gb_refl _ _) rfl
          -- 4: more.go:24 load
          apply told_is
          · intro W f hW hE h0 K hK
            have e10 := h0 10 (by kernel_rfl)
            conv at e10 => rhs; whnf
            have e61 : f 61 = _ := hE 0 61 _ rfl (by kernel_rfl)
            clear hE h0
            refine yes_of (want_yes rfl rfl e61) ?_
            obtain ⟨z0, z1, _⟩ := HXc.out W hW
            go_simp; exact hK _ _ (gb_refl _ _) rfl
          -- 5: more.go:24 load
          apply told_is
          · intro W f hW hE h0 K hK
            have e14 := h0 14 (by kernel_rfl)
            conv at e14 => rhs; whnf
            have e61 : f 61 = _ := hE 1 61 _ rfl (by kernel_rfl)
            clear hE h0
            refine yes_of (want_yes rfl rfl e61) ?_
            obtain ⟨z0, z1, _⟩ := HXd.out W hW
            go_simp; exact hK _ _ (gb_refl _ _) rfl
          -- 6: more.go:24 call
          apply told_is
          · intro W f hW hE h0 K hK
            have e62 : f 62 = _ := hE 1 62 _ rfl (by kernel_rfl)
            have e63 : f 63 = _ := hE 0 63 _ rfl (by kernel_rfl)
            have e61 : f 61 = _ := hE 2 61 _ rfl (by kernel_rfl)
            clear hE h0
            refine yes_of (want_yes rfl rfl e61) ?_
            go_simp
            refine (same_buf fF cA dA cn cc dc fL W (HXc.out W hW).2.2.al (HXd.out W hW).2.2.al HfL.out Hfn.out).mono ?_
            rintro e w1' ⟨rfl, g'⟩
            exact ⟨_, rfl, hK _ _ g' rfl⟩
          -- 7: more.go:24 pick
          apply told_is
          · intro W f hW hE h0 K hK
            have e61 : f 61 = _ := hE 3 61 _ rfl (by kernel_rfl)
            have e64 : f 64 = _ := hE 0 64 _ rfl (by kernel_rfl)
            clear hE h0
            refine yes_of (want_free rfl) ?_
            go_simp; exact hK _ _ (gb_refl _ _) rfl
          -- 8: more.go:24 move
          apply told_is
          · intro W f hW hE h0 K hK
            have e65 : f 65 = _ := hE 0 65 _ rfl (by kernel_rfl)
            clear hE h0
            refine yes_of (want_free rfl) ?_
            go_simp; exact hK _ _ (gb_refl _ _) rfl
          -- 9: more.go:24 load
          apply told_is
          · intro W f hW hE h0 K hK
            have e10 := h0 10 (by kernel_rfl)
            conv at e10 => rhs; whnf
            have e66 : f 66 = _ := hE 0 66 _ rfl (by kernel_rfl)
            clear hE h0
            refine yes_of (want_yes rfl rfl e66) ?_
            obtain ⟨z0, z1, _⟩ := HXc.out W hW
            go_simp; exact hK _ _ (gb_refl _ _) rfl
          -- 10: more.go:24 call
          apply told_at bufLV_keep
          · intro W f hW hE h0 K hK
            have e67 : f 67 = _ := hE 0 67 _ rfl (by kernel_rfl)
            have e66 : f 66 = _ := hE 1 66 _ rfl (by kernel_rfl)
            clear hE h0
            refine yes_of (want_yes rfl rfl e66) ?_
            go_simp
            refine (HAck0.out W hW).mono ?_
            rintro e w1' ⟨A5, m5, c5, rfl, hl5, g5⟩
            exact ⟨_, rfl, hK _ _ g5 ⟨A5, m5, c5, rfl, hl5.low (Nat.zero_le _)⟩⟩
          -- 11: more.go:24 load
          apply told_is
          · intro W f hW hE h0 K hK
            have e10 := h0 10 (by kernel_rfl)
            conv at e10 => rhs; whnf
            have e66 : f 66 = _ := hE 2 66 _ rfl (by kernel_rfl)
            clear hE h0
            refine yes_of (want_yes rfl rfl e66) ?_
            obtain ⟨z0, z1, _⟩ := HXc.out W hW
            go_simp; exact hK _ _ (gb_refl _ _) rfl
          -- 12: more.go:24 call
          apply told_is
          · intro W f hW hE h0 K hK
            have e68 := hE 1 68 _ rfl (by kernel_rfl)
            have e69 : f 69 = _ := hE 0 69 _ rfl (by kernel_rfl)
            have e66 : f 66 = _ := hE 3 66 _ rfl (by kernel_rfl)
            clear hE h0
            refine yes_of (want_yes rfl rfl e66) ?_
            obtain ⟨A5, m5, c5, e68, hl5⟩ := e68
            obtain ⟨hb5, hm5⟩ := hl5.told
            rw [HfLn.out] at hm5
            have hm6 := hm5.symm
            subst hm6
            go_simp
            refine (same_buf fF A5 cA cn c5 cc fL W hb5.al (HXc.out W hW).2.2.al HfL.out Hfn.out).mono ?_
            rintro e w1' ⟨rfl, g'⟩
            exact ⟨_, rfl, hK _ _ g' rfl⟩
          -- 13: more.go:24 pick
          apply told_is
          · intro W f hW hE h0 K hK
            have e66 : f 66 = _ := hE 4 66 _ rfl (by kernel_rfl)
            have e70 : f 70 = _ := hE 0 70 _ rfl (by kernel_rfl)
            clear hE h0
            refine yes_of (want_free rfl) ?_
            go_simp; exact hK _ _ (gb_refl _ _) rfl
          -- 14: more.go:24 move
          apply told_is
          · intro W f hW hE h0 K hK
            have e71 : f 71 = _ := hE 0 71 _ rfl (by kernel_rfl)
            clear hE h0
            refine yes_of (want_free rfl) ?_
            go_simp; exact hK _ _ (gb_refl _ _) rfl
          -- 15: more.go:24 fieldAddr
          apply told_is
          · intro W f hW hE h0 K hK
            have e10 := h0 10 (by kernel_rfl)
            conv at e10 => rhs; whnf
            have e72 : f 72 = _ := hE 0 72 _ rfl (by kernel_rfl)
            clear hE h0
            refine yes_of (want_yes rfl rfl e72) ?_
            go_simp; exact hK _ _ (gb_refl _ _) rfl
          -- 16: more.go:24 load
          apply told_is
          · intro W f hW hE h0 K hK
            have e73 : f 73 = _ := hE 0 73 _ rfl (by kernel_rfl)
            have e72 : f 72 = _ := hE 1 72 _ rfl (by kernel_rfl)
            clear hE h0
            refine yes_of (want_yes rfl rfl e72) ?_
            obtain ⟨z0, z1, _⟩ := HXc.out W hW
            go_simp; exact hK _ _ (gb_refl _ _) rfl
          -- 17: more.go:24 fieldAddr
          apply told_is
          · intro W f hW hE h0 K hK
            have e10 := h0 10 (by kernel_rfl)
            conv at e10 => rhs; whnf
            have e72 : f 72 = _ := hE 2 72 _ rfl (by kernel_rfl)
            clear hE h0
            refine yes_of (want_yes rfl rfl e72) ?_
            go_simp; exact hK _ _ (gb_refl _ _) rfl
          -- 18: more.go:24 load
          apply told_is
          · intro W f hW hE h0 K hK
            have e75 : f 75 = _ := hE 0 75 _ rfl (by kernel_rfl)
            have e72 : f 72 = _ := hE 3 72 _ rfl (by kernel_rfl)
            clear hE h0
            refine yes_of (want_yes rfl rfl e72) ?_
            obtain ⟨z0, z1, _⟩ := HXc.out W hW
            go_simp; exact hK _ _ (gb_refl _ _) rfl
          -- 19: more.go:24 call
          apply told_is
          · intro W f hW hE h0 K hK
            have e76 : f 76 = _ := hE 0 76 _ rfl (by kernel_rfl)
            have e72 : f 72 = _ := hE 4 72 _ rfl (by kernel_rfl)
            clear hE h0
            refine yes_of (want_yes rfl rfl e72) ?_
            go_simp; exact hK _ _ (gb_refl _ _) rfl
          -- 20: more.go:24 binOp
          apply told_is
          · intro W f hW hE h0 K hK
            have e74 : f 74 = _ := hE 3 74 _ rfl (by kernel_rfl)
            have e77 : f 77 = _ := hE 0 77 _ rfl (by kernel_rfl)
            have e72 : f 72 = _ := hE 5 72 _ rfl (by kernel_rfl)
            clear hE h0
            refine yes_of (want_yes rfl rfl e72) ?_
            have t5 := Ht5.out
            go_simp; exact hK _ _ (gb_refl _ _) rfl
          -- 21: more.go:24 move
          apply told_is
          · intro W f hW hE h0 K hK
            have e1 := h0 1 (by kernel_rfl)
            conv at e1 => rhs; whnf
            have e72 : f 72 = _ := hE 6 72 _ rfl (by kernel_rfl)
            clear hE h0
            refine yes_of (want_yes rfl rfl e72) ?_
            go_simp; exact hK _ _ (gb_refl _ _) rfl
          -- 22: more.go:24 convert
          apply told_is
          · intro W f hW hE h0 K hK
            have e79 : f 79 = _ := hE 0 79 _ rfl (by kernel_rfl)
            have e72 : f 72 = _ := hE 7 72 _ rfl (by kernel_rfl)
            clear hE h0
            refine yes_of (want_yes rfl rfl e72) ?_
            have t0 := Ht0.out
            go_simp; exact hK _ _ (gb_refl _ _) rfl
          -- 23: more.go:24 move
          apply told_is
          · intro W f hW hE h0 K hK
            have e7 := h0 7 (by kernel_rfl)
            conv at e7 => rhs; whnf
            have e72 : f 72 = _ := hE 8 72 _ rfl (by kernel_rfl)
            clear hE h0
            refine yes_of (want_yes rfl rfl e72) ?_
            go_simp; exact hK _ _ (gb_refl _ _) rfl
          -- 24: more.go:24 call
          apply told_is
          · intro W f hW hE h0 K hK
            have e81 : f 81 = _ := hE 0 81 _ rfl (by kernel_rfl)
            have e72 : f 72 = _ := hE 9 72 _ rfl (by kernel_rfl)
            clear hE h0
            refine yes_of (want_yes rfl rfl e72) ?_
            go_simp; exact hK _ _ (gb_refl _ _) rfl
          -- 25: more.go:24 binOp
          apply told_is
          · intro W f hW hE h0 K hK
            have e80 : f 80 = _ := hE 2 80 _ rfl (by kernel_rfl)
            have e82 : f 82 = _ := hE 0 82 _ rfl (by kernel_rfl)
            have e72 : f 72 = _ := hE 10 72 _ rfl (by kernel_rfl)
            clear hE h0
            refine yes_of (want_yes rfl rfl e72) ?_
            have t5 := Ht3.out
            go_simp; exact hK _ _ (gb_refl _ _) rfl
          -- 26: more.go:24 binOp
          apply told_is
          · intro W f hW hE h0 K hK
            have e78 : f 78 = _ := hE 5 78 _ rfl (by kernel_rfl)
            have e83 : f 83 = _ := hE 0 83 _ rfl (by kernel_rfl)
            have e72 : f 72 = _ := hE 11 72 _ rfl (by kernel_rfl)
            clear hE h0
            refine yes_of (want_yes rfl rfl e72) ?_
            go_simp; exact hK _ _ (gb_refl _ _) rfl
          -- 27: more.go:24 pick
          apply told_is
          · intro W f hW hE h0 K hK
            have e72 : f 72 = _ := hE 12 72 _ rfl (by kernel_rfl)
            have e84 : f 84 = _ := hE 0 84 _ rfl (by kernel_rfl)
            clear hE h0
            refine yes_of (want_free rfl) ?_
            go_simp; exact hK _ _ (gb_refl _ _) rfl
          -- 28: more.go:24 move
          apply told_is
          · intro W f hW hE h0 K hK
            have e85 : f 85 = _ := hE 0 85 _ rfl (by kernel_rfl)
            clear hE h0
            refine yes_of (want_free rfl) ?_
            go_simp; exact hK _ _ (gb_refl _ _) rfl
          -- 29: more.go:24 call
          apply told_is
          · intro W f hW hE h0 K hK
            have e86 : f 86 = _ := hE 0 86 _ rfl (by kernel_rfl)
            clear hE h0
            refine yes_of (want_yes rfl rfl e86) ?_
            go_simp
            refine (HAw.out W (gb_none HG.out hW)).mono ?_
            rintro e w1' ⟨rfl, g'⟩
            exact ⟨_, rfl, hK _ _ g' rfl⟩
          -- 30: more.go:24 pick
          apply told_is
          · intro W f hW hE h0 K hK
            have e86 : f 86 = _ := hE 1 86 _ rfl (by kernel_rfl)
            have e87 : f 87 = _ := hE 0 87 _ rfl (by kernel_rfl)
            clear hE h0
            refine yes_of (want_free rfl) ?_
            go_simp; exact hK _ _ (gb_refl _ _) rfl
          -- 31: more.go:24 assign
          apply told_is
          · intro W f hW hE h0 K hK
            have e88 : f 88 = _ := hE 0 88 _ rfl (by kernel_rfl)
            clear hE h0
            refine yes_of (want_free rfl) ?_
            go_simp; exact hK _ _ (gb_refl _ _) rfl
          intro W f hW hA
          simp only [lexIn, Act.put, List.setIfInBounds_toArray, List.set_cons_zero, List.set_cons_succ]
          have e6 : f 6 = _ := hA 0 (some 6) _ rfl
          rw [e6]
          clear hA
          go_wp2_with fail
          go_ret
          exact ⟨rfl, gb_below (gb_none HG.out hW) (Nat.le_refl _)⟩

theorem star : "*" ++ "errors.errorString" = "*errors.errorString" := by decide
theorem row_err (u : TypeId) (h : Tryd.prog.typeName? 3 u = some "*errors.errorString") : u = 109 :=
  typeName_ptr_named (nm := "errors.errorString") (by rw [star]; kernel_rfl) (by kernel_rfl) (by decide) u (by rw [star]; exact h)
theorem two0_1 {W : World} (h : laidMetH Tryd.prog Rows.bufferAcksRow.laid W) : Sn.Two W 0 1 := by
  have h4 : laidMet Tryd.prog [("deaddrop/buffer.errGone", Rows.laid_deaddrop_buffer_errGone), ("deaddrop/buffer.errYet", Rows.laid_deaddrop_buffer_errYet)] W := (laidMetH_iff.1 (laidMetH.filter (fun x => x.1 == "deaddrop/buffer.errGone" || x.1 == "deaddrop/buffer.errYet") h)).1
  obtain ⟨a0, a1, s0, s1, c0, c1, t0, t1, hv0, hv1, hc0, hs0, hz0, hc1, hs1, hz1, hne, hb0, hb1⟩ := laid_sentinels2 h4 (g0 := 0) (g1 := 1) (ti := 52) (by kernel_rfl) (by kernel_rfl) (by kernel_rfl) (by kernel_rfl) Tryd.underlying52 row_err Tryd.underlying109 Tryd.underlying135 rfl rfl Tryd.underlying9 (by kernel_rfl) (by kernel_rfl)
  exact ⟨a0, a1, c0, c1, t0, t1, by simpa using World.var?_cell (g := 0) (by kernel_rfl) hv0 0, by simpa using World.var?_cell (g := 1) (by kernel_rfl) hv1 0, hne, hb0, hb1⟩
theorem two0_2 {W : World} (h : laidMetH Tryd.prog Rows.bufferAcksRow.laid W) : Sn.Two W 0 2 := by
  have h4 : laidMet Tryd.prog [("deaddrop/buffer.errGone", Rows.laid_deaddrop_buffer_errGone), ("deaddrop/buffer.errFew", Rows.laid_deaddrop_buffer_errFew)] W := (laidMetH_iff.1 (laidMetH.filter (fun x => x.1 == "deaddrop/buffer.errGone" || x.1 == "deaddrop/buffer.errFew") h)).1
  obtain ⟨a0, a1, s0, s1, c0, c1, t0, t1, hv0, hv1, hc0, hs0, hz0, hc1, hs1, hz1, hne, hb0, hb1⟩ := laid_sentinels2 h4 (g0 := 0) (g1 := 2) (ti := 52) (by kernel_rfl) (by kernel_rfl) (by kernel_rfl) (by kernel_rfl) Tryd.underlying52 row_err Tryd.underlying109 Tryd.underlying135 rfl rfl Tryd.underlying9 (by kernel_rfl) (by kernel_rfl)
  exact ⟨a0, a1, c0, c1, t0, t1, by simpa using World.var?_cell (g := 0) (by kernel_rfl) hv0 0, by simpa using World.var?_cell (g := 2) (by kernel_rfl) hv1 0, hne, hb0, hb1⟩
theorem two1_2 {W : World} (h : laidMetH Tryd.prog Rows.bufferAcksRow.laid W) : Sn.Two W 1 2 := by
  have h4 : laidMet Tryd.prog [("deaddrop/buffer.errYet", Rows.laid_deaddrop_buffer_errYet), ("deaddrop/buffer.errFew", Rows.laid_deaddrop_buffer_errFew)] W := (laidMetH_iff.1 (laidMetH.filter (fun x => x.1 == "deaddrop/buffer.errYet" || x.1 == "deaddrop/buffer.errFew") h)).1
  obtain ⟨a0, a1, s0, s1, c0, c1, t0, t1, hv0, hv1, hc0, hs0, hz0, hc1, hs1, hz1, hne, hb0, hb1⟩ := laid_sentinels2 h4 (g0 := 1) (g1 := 2) (ti := 52) (by kernel_rfl) (by kernel_rfl) (by kernel_rfl) (by kernel_rfl) Tryd.underlying52 row_err Tryd.underlying109 Tryd.underlying135 rfl rfl Tryd.underlying9 (by kernel_rfl) (by kernel_rfl)
  exact ⟨a0, a1, c0, c1, t0, t1, by simpa using World.var?_cell (g := 1) (by kernel_rfl) hv0 0, by simpa using World.var?_cell (g := 2) (by kernel_rfl) hv1 0, hne, hb0, hb1⟩

set_option maxRecDepth 100000 in
theorem contract (H : Type) (enc : TypeId × Value → H) (W : World) (base : Nat) (args : Array Value) (ds gs : List (DataW H)) (before : List MemPlace)
    (hval0 : ∀ (j : Nat) t v, Tryd.f4.params[j]? = some t → args[j]? = some v → Value.okWide Tryd.prog W .any base t v)
    (hW : DataW.Whole enc Tryd.prog Tryd.f4.params.toList Rows.bufferAcksSpec.vars false W args.toList ds gs before) (hL : laidMetH Tryd.prog Rows.bufferAcksRow.laid W) :
    Calls Tryd.prog 4 args W fun e W' => ∃ v, e = .returned v ∧ Rows.bufferAcksSpec.post enc Tryd.prog Tryd.f4 false true false false W args v W' := by
  have hval : ∀ (j : Nat) t v, Tryd.f4.params[j]? = some t → args[j]? = some v → Value.okWide Tryd.prog W .any base t v := hval0
  have hW' := hW
  obtain ⟨p, q, hA0, hV, rfl, hfz, hnd⟩ := hW
  have hA : DataW.TrodAll enc Tryd.prog W 0 (fun _ => true) true Tryd.f4.params.toList args.toList ds p := hA0
  rw [Tryd.params4] at hA hval
  obtain ⟨v0, vs0, d0, ds0, p0, q0, hargs, rfl, rfl, h0, r0⟩ := trodAll_cons hA
  obtain ⟨v1, vs1, d1, ds1, p1, q1, rfl, rfl, rfl, h1, r1⟩ := trodAll_cons r0
  obtain ⟨v2, vs2, d2, ds2, p2, q2, rfl, rfl, rfl, h2, r2⟩ := trodAll_cons r1
  obtain ⟨rfl, rfl, rfl⟩ := trodAll_nil r2
  obtain rfl : args = #[v0, v1, v2] := by cases args; simp_all
  obtain ⟨rfl, rfl⟩ := trodVars_none hV
  have k0 := h0
  have lt0 : ∀ x ∈ p0, x.block < W.heap.size := by obtain ⟨m, hm⟩ := k0; exact DataW.trod_lt m _ _ _ hm
  obtain ⟨a0, len0, cap0, rfl⟩ := okWide_slice Tryd.underlying22 (hval 0 22 v0 rfl rfl)
  obtain ⟨z0, w0⟩ : ∃ zs, IsRow .u8 W a0 len0 cap0 zs := by
    obtain ⟨fuel, hf⟩ := h0
    rcases open_ints Tryd.underlying22 Tryd.underlying5 (by kernel_rfl) hf with ⟨hcs, _⟩ | ⟨x, l, c, zs, hcs, _, hl, hm, hz, _, hcell, hwz⟩
    · simp [Value.cells] at hcs
      obtain ⟨rfl, rfl, rfl⟩ := hcs
      exact ⟨[], .inl ⟨rfl, rfl, rfl, rfl⟩⟩
    · simp [Value.cells] at hcs
      obtain ⟨rfl, rfl, rfl⟩ := hcs
      exact ⟨zs, .inr ⟨_, rfl, hl, hm, by simpa using hz, hcell, hwz⟩⟩
  obtain ⟨a1, rfl, rfl, rfl, w1⟩ := open_int Tryd.underlying23 (hval 1 23 v1 rfl rfl) h1
  have k2 := h2
  have lt2 : ∀ x ∈ p2, x.block < W.heap.size := by obtain ⟨m, hm⟩ := k2; exact DataW.trod_lt m _ _ _ hm
  obtain ⟨a2, len2, cap2, rfl⟩ := okWide_slice Tryd.underlying22 (hval 2 22 v2 rfl rfl)
  obtain ⟨z2, w2⟩ : ∃ zs, IsRow .u8 W a2 len2 cap2 zs := by
    obtain ⟨fuel, hf⟩ := h2
    rcases open_ints Tryd.underlying22 Tryd.underlying5 (by kernel_rfl) hf with ⟨hcs, _⟩ | ⟨x, l, c, zs, hcs, _, hl, hm, hz, _, hcell, hwz⟩
    · simp [Value.cells] at hcs
      obtain ⟨rfl, rfl, rfl⟩ := hcs
      exact ⟨[], .inl ⟨rfl, rfl, rfl, rfl⟩⟩
    · simp [Value.cells] at hcs
      obtain ⟨rfl, rfl, rfl⟩ := hcs
      exact ⟨zs, .inr ⟨_, rfl, hl, hm, by simpa using hz, hcell, hwz⟩⟩
  clear hA0 hval0
  refine (walk a0 len0 cap0 z0 a1 a2 len2 cap2 z2 W w0 w1 w2 ⟨two0_1 hL, two0_2 hL, two1_2 hL⟩).mono fun e W' ⟨he, bel⟩ => ?_
  subst he
  exact ⟨_, rfl, _, _, _, [], _, [], hW', trodAll_mk1 (shut_bool Tryd.underlying4 _), (trodAll_cons_mk (Below.trod laidOut (by kernel_rfl) (of_decide_eq_true (by kernel_rfl)) k0 bel lt0) (trodAll_cons_mk (shut_int Tryd.underlying23 w1) (trodAll_cons_mk (Below.trod laidOut (by kernel_rfl) (of_decide_eq_true (by kernel_rfl)) k2 bel lt2) trodAll_mk0))), rfl, bel.frame _, fun h => by cases h⟩

def lay (cs : Array Value) : Obj → Obj
  | .cells _ t frozen => .cells cs t frozen
  | o => o
noncomputable def low : Nat := (World.holding Tryd.prog default ⟨#[], #[], []⟩).heap.size
noncomputable def laidWorld (os : Os) : World :=
  { World.holding Tryd.prog os ⟨#[.cells #[.string ⟨#[98, 101, 108, 111, 119, 32, 116, 104, 101, 32, 102, 105, 114, 115, 116, 32, 111, 110, 101]⟩] 135, .cells #[.string ⟨#[97, 98, 111, 118, 101, 32, 116, 104, 101, 32, 111, 110, 101, 32, 98, 101, 104, 105, 110, 100, 32, 116, 104, 101, 32, 108, 97, 115, 116]⟩] 135, .cells #[.string ⟨#[102, 101, 119, 101, 114, 32, 116, 104, 97, 110, 32, 110, 111, 110, 101]⟩] 135], #[], []⟩ with heap := ((((World.holding Tryd.prog os ⟨#[.cells #[.string ⟨#[98, 101, 108, 111, 119, 32, 116, 104, 101, 32, 102, 105, 114, 115, 116, 32, 111, 110, 101]⟩] 135, .cells #[.string ⟨#[97, 98, 111, 118, 101, 32, 116, 104, 101, 32, 111, 110, 101, 32, 98, 101, 104, 105, 110, 100, 32, 116, 104, 101, 32, 108, 97, 115, 116]⟩] 135, .cells #[.string ⟨#[102, 101, 119, 101, 114, 32, 116, 104, 97, 110, 32, 110, 111, 110, 101]⟩] 135], #[], []⟩).heap).modify 0 (lay #[.iface 109 (.pointer (some ⟨low, 0, none⟩))])).modify 1 (lay #[.iface 109 (.pointer (some ⟨low + 1, 0, none⟩))])).modify 2 (lay #[.iface 109 (.pointer (some ⟨low + 2, 0, none⟩))]) }
theorem laid_met (os : Os) : laidMet Tryd.prog Rows.bufferAcksRow.laid ((laidWorld os).forCall (fun _ _ => 0) ⟨#[], #[.slice none 0 0, .int .u16 0, .slice none 0 0], []⟩).memory :=
  laidMet_of_run' 8 (by kernel_rfl) (by kernel_rfl)
theorem reads (os : Os) {H : Type} (enc : TypeId × Value → H) : ∃ places, DataW.whole enc Tryd.prog ((laidWorld os).forCall (fun _ _ => 0) ⟨#[], #[.slice none 0 0, .int .u16 0, .slice none 0 0], []⟩).memory Tryd.f4.params.toList Rows.bufferAcksSpec.vars false (show Array Value from #[.slice none 0 0, .int .u16 0, .slice none 0 0]).toList 8 = some ([.nil, .lit (.int .u16 0), .nil], [], places) :=
  ⟨[], by kernel_rfl⟩

set_option maxRecDepth 100000 in
theorem lifted (os : Os) (started : os.Started) (H : Type) (enc : TypeId × Value → H) (F : Stop.Interp) :
    ReturnsInHanded {} Tryd.checked os 4 .any ((OpenSpec.ofChange Rows.bufferAcksSpec).preRow enc Tryd.prog Tryd.f4 Rows.bufferAcksRow.domain false Rows.bufferAcksRow.laid) (((OpenSpec.ofChange Rows.bufferAcksSpec).at F).post enc Tryd.prog Tryd.f4 false true false false) := by
  obtain ⟨places, hx⟩ := reads os enc
  refine returnsInHanded_of_row (C := Tryd.checked) (s := OpenSpec.ofChange Rows.bufferAcksSpec) own started (by kernel_rfl) Tryd.func4
    (witness_row_at (enc := enc) (C := Tryd.checked) false (laidWorld os) #[.slice none 0 0, .int .u16 0, .slice none 0 0] rfl (by kernel_rfl) (by kernel_rfl) (by kernel_rfl)
      (OpenSpec.preRow_of_cond 8 hx (by kernel_rfl) (fun k hk => by cases hk) (by kernel_rfl) (laid_met os))) ?_
  intro W base args ds gs before hval hW _ _ _ hL _ _
  exact contract H enc W base args ds gs before hval hW hL

theorem said : Rows.BufferAcksSaid :=
  OpenClaim.holds_of_cond 4 Tryd.f4 rfl rfl rfl rfl rfl rfl rfl ⟨rfl, rfl, rfl, rfl, rfl⟩ rfl rfl rfl rfl rfl (by kernel_rfl) Tryd.func4 (by kernel_rfl)
    (of_decide_eq_true (by kernel_rfl)) (by unfold Func.isWrapper; first | (rw [if_pos (by decide +kernel)]; kernel_rfl) | (rw [if_neg (by decide +kernel)]; exact ⟨rfl, rfl⟩))
    (fun os started H enc _ F => by rw [OpenClaim.pre_eq_preRow]; exact lifted os started H enc F)

theorem plain (f : FuncId) (fn : Func) (hf : Tryd.pinned.checked.prog.funcNamed "deaddrop/deaddroplaw12.BufferAcks" = some f) (hfn : Tryd.pinned.checked.prog.funcs[f]? = some fn) :
    true = Tryd.pinned.checked.prog.looks [] ∧ ∀ (j : Nat) t, fn.params[j]? = some t → Tryd.pinned.checked.prog.wantsStandIn t = false := by
  obtain rfl : f = 4 := Option.some.inj ((show Tryd.prog.funcNamed "deaddrop/deaddroplaw12.BufferAcks" = some 4 by kernel_rfl).symm.trans hf) |>.symm
  obtain rfl : fn = Tryd.f4 := (Option.some.inj (Tryd.func4.symm.trans hfn)).symm
  refine ⟨by kernel_rfl, fun j t ht => ?_⟩
  have hall : (Tryd.f4.params.toList.all fun u => !Tryd.prog.wantsStandIn u) = true := by kernel_rfl
  have hm : t ∈ Tryd.f4.params.toList := by simpa using Array.mem_of_getElem? ht
  exact (show Tryd.prog.wantsStandIn t = false by simpa using List.all_eq_true.1 hall t hm)

theorem card : Rows.BufferAcksCardSaid :=
  Claim7.holds_tied_plain_at .later [] _ _ _ _ said (fun _ h => by cases h) (by kernel_rfl) (fun _ h => by cases h) bufferAcks_row_tie rfl ⟨rfl, rfl⟩ (by kernel_rfl) rfl plain (by kernel_rfl)
#print axioms card
end Go.Proofs.YtbdpckphlagijaaDoor.bufferAcks
