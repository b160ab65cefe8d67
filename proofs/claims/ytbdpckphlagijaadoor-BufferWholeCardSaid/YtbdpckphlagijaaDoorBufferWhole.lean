/-
  Proved: whatever values of its parameters' types it is called with, deaddroplaw12.BufferWhole returns true, and each argument reads behind the call as it read before; the listed package-level variables being what the program's own text lays (the card ties them).
  Conditions: none but those of the card itself.
-/
import Derived.Test.YtbdpckphlagijaaDoorCards
import Derived.Test.YtbdpckphlagijaaDoorTie
import Derived.WalkKit
import Derived.ProofKit
import Derived.OpenShut
import Derived.ShutString
import Derived.Below
import Derived.ChangeOld
import Derived.Deep.DeepHandedRow
import Derived.LaidSub
import Derived.LaidHandle
import Derived.LaidLaws
import Derived.RowKitTokens
import Derived.Stop.LaidTwo
import Derived.Test.YtbdpckphlagijaaDoorBuLaw
import Derived.Test.YtbdpckphlagijaaDoorTdA
import Derived.Test.YtbdpckphlagijaaDoorSn
namespace Go.Proofs.YtbdpckphlagijaaDoor.bufferWhole
open Go.ChangeShapes Go.WideShapes Go.ChangeAt Go.RowKit
open Go.ChangeMaps (open_string shut_string)
open Go.Proofs.YtbdpckphlagijaaDoor.Mm Go.Proofs.YtbdpckphlagijaaDoor.Dt Go.Proofs.YtbdpckphlagijaaDoor.Td Go.Proofs.YtbdpckphlagijaaDoor.Er Go.Proofs.YtbdpckphlagijaaDoor.Bf Go.Proofs.YtbdpckphlagijaaDoor
set_option linter.unusedVariables false

theorem own : ownKnob Tryd.prog.godebug = none := by kernel_rfl
theorem laidOut : laidOutB Tryd.prog = true := by kernel_rfl
/-- What the walk is told of a slice of integers that came in. -/
def IsRow (k : IntKind) (w : World) (a : Option Addr) (len cap : Nat) (zs : List Int) : Prop :=
  (a = none ∧ len = 0 ∧ cap = 0 ∧ zs = []) ∨
  ∃ x, a = some x ∧ len ≤ cap ∧ cap ≤ maxLen ∧ zs.length = cap ∧ (∀ i, i < zs.length → w.cell? (x.add i) = some (.int k (zs.getD i 0))) ∧ ∀ n ∈ zs, (Lit.int k n).wf = true

attribute [local go_sem] Td.upon_value Td.upon_skip Td.upon_enter Td.upon_row Td.look_tmp Td.look_const Td.look_func Td.look_global

set_option maxHeartbeats 40000000 in
set_option maxRecDepth 100000 in
theorem walk (a0 : Option Addr) (len0 cap0 : Nat) (z0 : List Int) (a1 : Int) (a2 : Int) (w : World) (w0 : IsRow .u8 w a0 len0 cap0 z0) (w1 : (Lit.int .u16 a1).wf = true) (w2 : (Lit.int .u8 a2).wf = true) (hE : Sn.Two w 0 1 ∧ Sn.Two w 0 2 ∧ Sn.Two w 1 2) :
    Calls Tryd.prog 3 #[.slice a0 len0 cap0, .int .u16 a1, .int .u8 a2] w fun e w' => e = .returned (.bool true) ∧ Below w.heap.size w w' := by
  obtain ⟨p0, p1⟩ : 0 ≤ a1 ∧ a1 ≤ 65535 := by
    have h1 : IntKind.u16.min = 0 := by decide
    have h2 : IntKind.u16.max = 65535 := by decide
    simp only [Lit.wf, h1, h2, Bool.and_eq_true, decide_eq_true_eq] at w1
    exact w1
  obtain ⟨r0, r1⟩ : 0 ≤ a2 ∧ a2 ≤ 255 := by
    have h1 : IntKind.u8.min = 0 := by decide
    have h2 : IntKind.u8.max = 255 := by decide
    simp only [Lit.wf, h1, h2, Bool.and_eq_true, decide_eq_true_eq] at w2
    exact w2
  obtain ⟨hnl0, _, _⟩ := nl_of_row w0
  obtain ⟨K, hK⟩ : ∃ K, min (len0 / 2) 20 = K := ⟨_, rfl⟩
  obtain ⟨L, hL⟩ : ∃ L, (deltaK (z0.take len0) K).1 = L := ⟨_, rfl⟩
  obtain ⟨s, hs⟩ : ∃ s, (deltaK (z0.take len0) K).2 = s := ⟨_, rfl⟩
  obtain ⟨N, hN⟩ : ∃ N, L.length = N := ⟨_, rfl⟩
  have hN20 : N ≤ 20 := by have := deltaK_len (z0.take len0) K; rw [hL, hN] at this; omega
  have hfit : Fit L := by rw [← hL]; exact delta_fit _ (by omega)
  have hall : allS L = s := by rw [← hL, ← hs]; exact (deltaK_is _ K).2.2
  have HDel : Hid (Calls Tryd.prog 5 #[.slice a0 len0 cap0] w (DeltasIs L s w)) := by
    have h := deltas_any a0 len0 cap0 (z0.take len0) w hnl0
    rw [hK, hL, hs] at h
    exact h
  obtain ⟨ea, eb, hers⟩ := Ers.of hE.1
  have HErs : Hid (∀ W, w.grownBy W none → Ers W ea eb) := fun W hW => hers.keep hW
  have HN := Lib.hid hN20
  have HLen := Lib.hid hN
  have HFit := Lib.hid hfit
  have HAll := Lib.hid hall
  have HAw : Hid (∀ W, w.grownBy W none → Calls Tryd.prog 11 #[] W fun e w' => e = .returned (.bool true) ∧ W.grownBy w' none) := fun W hW => awake12_any ea eb W (HErs.out W hW)
  obtain ⟨k, hk⟩ : ∃ k : Nat, a2 % ((N : Int) + 1) = (k : Int) := ⟨(a2 % ((N : Int) + 1)).toNat, (Int.toNat_of_nonneg (Int.emod_nonneg _ (by omega))).symm⟩
  have hkN : k ≤ N := by have := Int.emod_lt_of_pos a2 (show (0 : Int) < (N : Int) + 1 by omega); omega
  obtain ⟨x1, hx1⟩ : ∃ x1, a1 + (k : Int) = x1 := ⟨_, rfl⟩
  obtain ⟨x2, hx2⟩ : ∃ x2, x1 - 1 = x2 := ⟨_, rfl⟩
  obtain ⟨x3, hx3⟩ : ∃ x3, a1 + (N : Int) = x3 := ⟨_, rfl⟩
  obtain ⟨x4, hx4⟩ : ∃ x4, x3 + 1 = x4 := ⟨_, rfl⟩
  obtain ⟨Sx, hSx⟩ : ∃ Sx, allS (L.take k) = Sx := ⟨_, rfl⟩
  obtain ⟨Sy, hSy⟩ : ∃ Sy, allS (L.drop k) = Sy := ⟨_, rfl⟩
  have Hjoin : Hid (joinS Sx Sy = s) := by show _ = _; rw [← hSx, ← hSy, two_parts hfit, hall]
  have HSSx : Hid (SS Sx) := by rw [← hSx]; exact allS_ss none_ss fun t ht => (hfit.1 t (List.mem_of_mem_take ht)).1
  have HSSy : Hid (SS Sy) := by rw [← hSy]; exact allS_ss none_ss fun t ht => (hfit.1 t (List.mem_of_mem_drop ht)).1
  have HZx : Hid (Lens Sx) := by have h := hfit.2 0 k; rw [List.drop_zero, hSx] at h; exact h
  have HZy : Hid (Lens Sy) := by have h := hfit.2 k N; rw [List.take_of_length_le (by rw [List.length_drop, hN]; omega), hSy] at h; exact h
  have HZs : Hid (Lens s) := by have h := hfit.2 0 N; rw [List.drop_zero, List.take_of_length_le (by omega), hall] at h; exact h
  have HZa := HZs
  have HZz := HZy
  have HvS : Hid (allS ((L.drop 0).take N) = s) := by show _ = _; rw [List.drop_zero, List.take_of_length_le (by omega)]; exact hall
  have HvX : Hid (allS ((L.drop 0).take k) = Sx) := by show _ = _; rw [List.drop_zero]; exact hSx
  have HvY : Hid (allS ((L.drop k).take 100) = Sy) := by show _ = _; rw [List.take_of_length_le (by rw [List.length_drop]; omega)]; exact hSy
  have HvZ : Hid (allS (((L.drop k).drop 0).take 100) = Sy) := by show _ = _; rw [List.drop_zero, List.take_of_length_le (by rw [List.length_drop]; omega)]; exact hSy
  have HAck : Hid ((ackB ⟨a1, L⟩ x1).first = x1 ∧ (ackB ⟨a1, L⟩ x1).l = L.drop k) := by
    have h := ackB_at (b := ⟨a1, L⟩) (k := k) (by show k ≤ L.length; omega)
    rw [show (⟨a1, L⟩ : Bu).first = a1 from rfl, hx1] at h
    rw [h]
    exact ⟨rfl, rfl⟩
  have HNum : Hid (0 ≤ a1 ∧ a1 ≤ 65535 ∧ k ≤ N ∧ N ≤ 20 ∧ x1 = a1 + (k : Int) ∧ x2 = x1 - 1 ∧ x3 = a1 + (N : Int) ∧ x4 = x3 + 1) := ⟨p0, p1, hkN, hN20, hx1.symm, hx2.symm, hx3.symm, hx4.symm⟩
  have Ht0 : Hid (IntKind.i64.wrap a1 = a1) := by show _ = _; rw [IntKind.wrap_i64]; omega
  have Ht1 : Hid (IntKind.i64.wrap (a1 + (k : Int)) = x1) := by show _ = _; rw [IntKind.wrap_i64]; omega
  have Ht2 : Hid (IntKind.i64.wrap (x1 - 1) = x2) := by show _ = _; rw [IntKind.wrap_i64]; omega
  have Ht3 : Hid (IntKind.i64.wrap (a1 + (N : Int)) = x3) := by show _ = _; rw [IntKind.wrap_i64]; omega
  have Ht4 : Hid (IntKind.i64.wrap (x3 + 1) = x4) := by show _ = _; rw [IntKind.wrap_i64]; omega
  have Ht5 : Hid (IntKind.i64.wrap ((N : Int) - (k : Int)) = ((N - k : Nat) : Int)) := by show _ = _; rw [IntKind.wrap_i64]; omega
  have Ht6 : Hid (IntKind.i64.wrap a2 = a2) := by show _ = _; rw [IntKind.wrap_i64]; omega
  have Ht7 : Hid (IntKind.i64.wrap ((N : Int) + 1) = (N : Int) + 1) := by show _ = _; rw [IntKind.wrap_i64]; omega
  have Ht8 : Hid (a2.tmod ((N : Int) + 1) = (k : Int)) := by show _ = _; rw [Int.tmod_eq_emod_of_nonneg r0, hk]
  have Ht9 : Hid (IntKind.i64.wrap (k : Int) = (k : Int)) := by show _ = _; rw [IntKind.wrap_i64]; omega
  have HNz : Hid (((N : Int) + 1 == 0) = false) := by show _ = _; rw [beq_eq_false_iff_ne]; omega
  clear hnl0 hK hL hs hN hN20 hfit hall hers hE w0 w1 w2 p0 p1 r0 r1 hk hkN hx1 hx2 hx3 hx4 hSx hSy
  go_enter Tryd.func3, Tryd.ntmps3
  go_upto_region 2 with (go_at_call 5; refine HDel.out.mono ?_; rintro e wq ⟨lv, Xs, xs, ys, Ys, us, vs, rfl, hlq, hsq, hcq, hdq, gq⟩; obtain ⟨lA, lm, lc, rfl⟩ := hlq.slice; obtain ⟨hbl, hlm⟩ := hlq.told; rw [HLen.out] at hlm; have hlm2 := hlm.symm; subst hlm2)
  obtain ⟨bs, hbs⟩ : ∃ bs, wq.heap.size = bs := ⟨_, rfl⟩
  rw [hbs]
  refine Td.named (fun W => w.grownBy W none ∧ Row W bs 28 #[.slice Xs xs ys, .slice Ys us vs] ∧ SL W Xs xs Ys us s ∧ BL W lA N lc L) ⟨gb_alloc gq _, by rw [← hbs]; exact Row.new _ _ _, hsq.keep (gb_alloc (gb_refl _ _) _), hbl.keep (gb_alloc (gb_refl _ _) _)⟩ ?_
  rintro W1 ⟨g3, r3, s3, l3⟩
  have HG : Hid (w.grownBy W1 none) := g3
  have HSs : Hid (∀ W, W1.grownBy W none → W.cell? ⟨bs, 0, none⟩ = some (.slice Xs xs ys) ∧ W.cell? ⟨bs, 1, none⟩ = some (.slice Ys us vs) ∧ SL W Xs xs Ys us s) := fun W hW => ⟨(r3.kept hW (by simp)).at_ (i := 0) rfl, (r3.kept hW (by simp)).at_ (i := 1) rfl, s3.keep hW⟩
  have HBL : Hid (∀ W, W1.grownBy W none → BL W lA N lc L) := fun W hW => l3.keep hW
  clear hbs hlq hsq hcq hdq gq g3 r3 s3 l3 hbl HDel
  have t0 := Ht0.out
  go_upto_region 3 with fail
  clear t0
  obtain ⟨b9, hb9⟩ : ∃ b9, W1.heap.size = b9 := ⟨_, rfl⟩
  rw [hb9]
  have Hb9 : Hid (W1.heap.size ≤ b9) := by show _ ≤ _; omega
  refine Td.named (fun W => W1.grownBy W none ∧ Row W b9 32 #[.int .i64 a1, .slice none 0 0]) ⟨gb_alloc (gb_refl _ _) _, by rw [← hb9]; exact Row.new _ _ _⟩ ?_
  rintro W2 ⟨g3, r3⟩
  have HGx := Lib.hid g3
  have HR9 := Lib.hid r3
  clear hb9 g3 r3
  go_wp2_with fail
  go_loopw [10] (fun i wr => ∃ (q bm bc : Nat) (bA : Option Addr), q ≤ N ∧ i = .int .i64 q ∧ Row wr b9 32 #[.int .i64 a1, .slice bA bm bc] ∧ LS wr (b9 + 1) (.slice bA bm bc) (L.take q) ∧ W1.grownBy wr none) (fun i _ => N - (intOf i).toNat)
  case atStart => exact ⟨0, 0, 0, none, Nat.zero_le _, rfl, HR9.out, LS.nil _ _, HGx.out⟩
  case round =>
    obtain ⟨q, bm, bc, bA, hq, rfl, hr, hl, hg⟩ := hrel
    by_cases hlt : q < N
    · have d1 : decide (q < N) = true := decide_eq_true hlt
      have d2 : decide ((q : Int) < (N : Int)) = true := decide_eq_true (by omega)
      have HBq : Hid ((q : Int) < (N : Int)) := by show _ < _; omega
      have Hlt := Lib.hid hlt
      have t8 : IntKind.i64.wrap ((q : Int) + 1) = ((q + 1 : Nat) : Int) := by rw [IntKind.wrap_i64]; have := HN.out; omega
      obtain ⟨t, ht⟩ : ∃ t, L[q]? = some t := ⟨_, List.getElem?_eq_getElem (by have := HLen.out; omega)⟩
      have hbl := HBL.out wr hg
      obtain ⟨lg, lo, rfl, _, _⟩ := hbl.al.2 (by omega)
      obtain ⟨A2, n2, c2, B2, m2, d2', hc2, hd2, hn2, hm2, hget⟩ := hbl.al.get ht
      have hsL := HFit.out.lens t (List.mem_of_getElem? ht)
      have Hnm : Hid (n2 ≤ 1000000 ∧ m2 ≤ 1000000) := by have := hsL.1; have := hsL.2; exact ⟨by omega, by omega⟩
      have HXq : Hid (∀ W, wr.grownBy W none → W.cell? ⟨lg, lo + q * 2, none⟩ = some (.slice A2 n2 c2) ∧ W.cell? ⟨lg, lo + q * 2 + 1, none⟩ = some (.slice B2 m2 d2') ∧ SL W A2 n2 B2 m2 t) := fun W hW => hget W hW
      have Hmore : Hid (L.take (q + 1) = L.take q ++ [t]) := by show _ = _; rw [List.take_add_one, ht]; rfl
      have HpL : Hid (∀ s ∈ L.take q, Lens s) := fun s hs => HFit.out.lens s (List.mem_of_mem_take hs)
      have Hmq : Hid (bm ≤ 100000) := by show _ ≤ _; have h := hl.told.2; rw [List.length_take] at h; have := HN.out; omega
      have HLq := Lib.hid hl
      have HR9 := Lib.hid hr
      have Hg := Lib.hid hg
      clear ht hbl hc2 hd2 hn2 hm2 hget hsL hl hr hg hq hlt
      go_upto_region 6 with fail
      clear d1 d2 t8
      apply wp_region_told_tail (le := fun a b => a.grownBy b none) 6 _ [isV _, isV _, isV _, isV _, isV _, bufLV (b9 + 1) a1 (L.take (q + 1))]
      case hL => rfl
      case hz => rfl
      case hLd => rfl
      case hLg => rfl
      case hLw => kernel_rfl
      case hlen => rfl
      case hn => rfl
      case hm => kernel_rfl
      case hB => kernel_rfl
      case ht => exact fun _ _ _ h k => gb_none h k
      case hw => exact gb_drew (gb_refl _ _)
      -- 0: law.go:57 load
      apply told_is
      · intro W f hW hE h0 K hK
        have e9 := h0 9 (by kernel_rfl)
        conv at e9 => rhs; whnf
        clear hE h0
        refine yes_of (want_free rfl) ?_
        have z0 := (HR9.out.kept hW (by simp)).at_ (i := 0) rfl
        have z1 := (HR9.out.kept hW (by simp)).at_ (i := 1) rfl
        go_simp; exact hK _ _ (gb_refl _ _) rfl
      -- 1: law.go:57 move
      apply told_is
      · intro W f hW hE h0 K hK
        have e7 := h0 7 (by kernel_rfl)
        conv at e7 => rhs; whnf
        clear hE h0
        refine yes_of (want_free rfl) ?_
        go_simp; exact hK _ _ (gb_refl _ _) rfl
      -- 2: law.go:57 move
      apply told_is
      · intro W f hW hE h0 K hK
        have e10 := h0 10 (by kernel_rfl)
        conv at e10 => rhs; whnf
        clear hE h0
        refine yes_of (want_free rfl) ?_
        go_simp; exact hK _ _ (gb_refl _ _) rfl
      -- 3: law.go:57 indexAddr
      apply told_is
      · intro W f hW hE h0 K hK
        have e40 : f 40 = _ := hE 1 40 _ rfl (by kernel_rfl)
        have e41 : f 41 = _ := hE 0 41 _ rfl (by kernel_rfl)
        clear hE h0
        refine yes_of (want_free rfl) ?_
        have b0 := HBq.out
        go_simp; exact hK _ _ (gb_refl _ _) rfl
      -- 4: law.go:57 load
      apply told_is
      · intro W f hW hE h0 K hK
        have e42 : f 42 = _ := hE 0 42 _ rfl (by kernel_rfl)
        clear hE h0
        refine yes_of (want_free rfl) ?_
        obtain ⟨c0, c1, _⟩ := HXq.out W hW
        go_simp; exact hK _ _ (gb_refl _ _) rfl
      -- 5: law.go:57 call
      apply told_at bufLV_keep
      · intro W f hW hE h0 K hK
        have e39 : f 39 = _ := hE 4 39 _ rfl (by kernel_rfl)
        have e43 : f 43 = _ := hE 0 43 _ rfl (by kernel_rfl)
        clear hE h0
        refine yes_of (want_free rfl) ?_
        go_simp
        refine (add_any a1 bA bm bc (L.take q) A2 B2 n2 c2 m2 d2' t W ((HLq.out.keep hW).told.1.al) HpL.out Hmq.out (HXq.out W hW).2.2 Hnm.out).mono ?_
        rintro e w1' ⟨A5, m5, c5, rfl, hl5, g5⟩
        exact ⟨_, rfl, hK _ _ g5 ⟨A5, m5, c5, rfl, (by rw [Hmore.out]; exact hl5.low (by have := (HR9.out.kept hW (by simp)).lt; omega))⟩⟩
      intro W f hW hA
      simp only [lexIn, Act.put, List.setIfInBounds_toArray, List.set_cons_zero, List.set_cons_succ]
      have e44 := hA 0 (some 44) _ rfl
      clear hA
      obtain ⟨A5, m5, c5, e44, hl5⟩ := e44
      rw [e44]
      have hr := HR9.out.kept hW (by simp)
      have q0 := hr.free 0
      have q1 := hr.free 1
      have u0 := hr.at_ (i := 0) rfl
      have u1 := hr.at_ (i := 1) rfl
      have g1 := gb_set1 W b9 0 (.int .i64 a1)
      have y1 := hr.set_ 0 (.int .i64 a1)
      have g2 := gb_set1 (W.setCell ⟨b9, 0, none⟩ (.int .i64 a1)) b9 1 (.slice A5 m5 c5)
      have Hy2 := Lib.hid (y1.set_ 1 (.slice A5 m5 c5))
      have Hl5 := Lib.hid ((hl5.small g1 hr (Nat.le_refl 2) (Nat.lt_succ_self b9)).small g2 y1 (Nat.le_refl 2) (Nat.lt_succ_self b9))
      have Hgg := Lib.hid (gb_new (gb_new (gb_none Hg.out hW) g1 Hb9.out) g2 Hb9.out)
      have t8 : IntKind.i64.wrap ((q : Int) + 1) = ((q + 1 : Nat) : Int) := by rw [IntKind.wrap_i64]; have := HN.out; have := Hlt.out; omega
      clear g1 g2 y1 hl5 hW
      rw [ends_is]
      go_simp
      clear q0 q1 u0 u1 hr
      go_wp2_with fail
      go_roundw
      case rel => exact ⟨q + 1, m5, c5, A5, by have := Hlt.out; omega, rfl, Hy2.out, Hl5.out, Hgg.out⟩
      case measure => simp [intOf]; have := Hlt.out; omega
    · have hqn : N = q := by omega
      subst hqn
      have d1 : decide (N < N) = false := by simp
      have d2 : decide ((N : Int) < (N : Int)) = false := by simp
      obtain ⟨hbl, hm⟩ := hl.told
      rw [List.take_of_length_le (by rw [HLen.out]; exact Nat.le_refl _)] at hbl hm
      rw [HLen.out] at hm
      have hm2 := hm.symm
      subst hm2
      have HG : Hid (w.grownBy wr none) := gb_none HG.out hg
      have HSs : Hid (∀ W, wr.grownBy W none → _) := fun W hW => HSs.out W (gb_none hg hW)
      have HBL : Hid (∀ W, wr.grownBy W none → BL W lA N lc L) := fun W hW => HBL.out W (gb_none hg hW)
      have HXb : Hid (∀ W, wr.grownBy W none → W.cell? ⟨b9, 0, none⟩ = some (.int .i64 a1) ∧ W.cell? ⟨b9, 1, none⟩ = some (.slice bA N bc) ∧ BL W bA N bc L) := fun W hW => ⟨(hr.kept hW (by simp)).at_ (i := 0) rfl, (hr.kept hW (by simp)).at_ (i := 1) rfl, hbl.keep hW⟩
      have t0 := Ht0.out
      have t6 := Ht6.out
      have t7 := Ht7.out
      have t8 := Ht8.out
      have t9 := Ht9.out
      have tz := HNz.out
      clear hr hl hg hbl hm hq hlt
      go_upto_region 8 with fail
      clear d1 d2 t6 t7 t8 t9 tz
      have HC : Hid (Calls Tryd.prog 7 #[.agg #[.int .i64 a1, .slice bA N bc], .int .i64 a1, .int .i64 (N : Int)] wr (SinceIs s wr)) := by
        have h := since_some a1 a1 N bA N bc 0 L ea eb wr (HXb.out wr (gb_refl _ _)).2.2 HFit.out (HErs.out wr HG.out) (by have := HNum.out; omega) (by have := HNum.out; omega) (by have := HNum.out; omega) (by have := HNum.out; omega) (by have := HNum.out; omega) (by have := HNum.out; omega)
        rw [HvS.out] at h
        exact h
      obtain ⟨i0, i1, _⟩ := HXb.out wr (gb_refl _ _)
      go_upto_region 9 with (go_at_call 7; refine HC.out.mono ?_; rintro e wq ⟨Xa, xa, ya, Ya, ua, va, rfl, hsq, hcq, hdq, gq⟩)
      obtain ⟨boa, hboa⟩ : ∃ boa, wq.heap.size = boa := ⟨_, rfl⟩
      rw [hboa]
      refine Td.named (fun W => wr.grownBy W none ∧ Row W boa 28 #[.slice Xa xa ya, .slice Ya ua va] ∧ SL W Xa xa Ya ua s) ⟨gb_alloc gq _, by rw [← hboa]; exact Row.new _ _ _, hsq.keep (gb_alloc (gb_refl _ _) _)⟩ ?_
      rintro W3 ⟨g3, r3, s3⟩
      have HGx : Hid (wr.grownBy W3 none) := g3
      have HSa : Hid (∀ W, W3.grownBy W none → W.cell? ⟨boa, 0, none⟩ = some (.slice Xa xa ya) ∧ W.cell? ⟨boa, 1, none⟩ = some (.slice Ya ua va) ∧ SL W Xa xa Ya ua s) := fun W hW => ⟨(r3.kept hW (by simp)).at_ (i := 0) rfl, (r3.kept hW (by simp)).at_ (i := 1) rfl, s3.keep hW⟩
      replace HSs : Hid (∀ W, W3.grownBy W none → _) := fun W hW => HSs.out W (gb_none HGx.out hW)
      replace HXb : Hid (∀ W, W3.grownBy W none → _) := fun W hW => HXb.out W (gb_none HGx.out hW)
      replace HBL : Hid (∀ W, W3.grownBy W none → _) := fun W hW => HBL.out W (gb_none HGx.out hW)
      replace HG : Hid (w.grownBy W3 none) := gb_none HG.out HGx.out
      clear hboa hsq hcq hdq gq g3 r3 s3 HC HGx i0 i1
      have HC : Hid (Calls Tryd.prog 7 #[.agg #[.int .i64 a1, .slice bA N bc], .int .i64 a1, .int .i64 (k : Int)] W3 (SinceIs Sx W3)) := by
        have h := since_some a1 a1 k bA N bc 0 L ea eb W3 (HXb.out W3 (gb_refl _ _)).2.2 HFit.out (HErs.out W3 HG.out) (by have := HNum.out; omega) (by have := HNum.out; omega) (by have := HNum.out; omega) (by have := HNum.out; omega) (by have := HNum.out; omega) (by have := HNum.out; omega)
        rw [HvX.out] at h
        exact h
      obtain ⟨i0, i1, _⟩ := HXb.out W3 (gb_refl _ _)
      go_upto_region 10 with (go_at_call 7; refine HC.out.mono ?_; rintro e wq ⟨Xx, xx, yx, Yx, ux, vx, rfl, hsq, hcq, hdq, gq⟩)
      obtain ⟨box, hbox⟩ : ∃ box, wq.heap.size = box := ⟨_, rfl⟩
      rw [hbox]
      refine Td.named (fun W => W3.grownBy W none ∧ Row W box 28 #[.slice Xx xx yx, .slice Yx ux vx] ∧ SL W Xx xx Yx ux Sx) ⟨gb_alloc gq _, by rw [← hbox]; exact Row.new _ _ _, hsq.keep (gb_alloc (gb_refl _ _) _)⟩ ?_
      rintro W4 ⟨g3, r3, s3⟩
      have HGx : Hid (W3.grownBy W4 none) := g3
      have HSx : Hid (∀ W, W4.grownBy W none → W.cell? ⟨box, 0, none⟩ = some (.slice Xx xx yx) ∧ W.cell? ⟨box, 1, none⟩ = some (.slice Yx ux vx) ∧ SL W Xx xx Yx ux Sx) := fun W hW => ⟨(r3.kept hW (by simp)).at_ (i := 0) rfl, (r3.kept hW (by simp)).at_ (i := 1) rfl, s3.keep hW⟩
      replace HSs : Hid (∀ W, W4.grownBy W none → _) := fun W hW => HSs.out W (gb_none HGx.out hW)
      replace HSa : Hid (∀ W, W4.grownBy W none → _) := fun W hW => HSa.out W (gb_none HGx.out hW)
      replace HXb : Hid (∀ W, W4.grownBy W none → _) := fun W hW => HXb.out W (gb_none HGx.out hW)
      replace HBL : Hid (∀ W, W4.grownBy W none → _) := fun W hW => HBL.out W (gb_none HGx.out hW)
      replace HG : Hid (w.grownBy W4 none) := gb_none HG.out HGx.out
      clear hbox hsq hcq hdq gq g3 r3 s3 HC HGx i0 i1
      have t1 := Ht1.out
      have HC : Hid (Calls Tryd.prog 7 #[.agg #[.int .i64 a1, .slice bA N bc], .int .i64 x1, .int .i64 100] W4 (SinceIs Sy W4)) := by
        have h := since_some a1 x1 100 bA N bc k L ea eb W4 (HXb.out W4 (gb_refl _ _)).2.2 HFit.out (HErs.out W4 HG.out) (by have := HNum.out; omega) (by have := HNum.out; omega) (by have := HNum.out; omega) (by have := HNum.out; omega) (by have := HNum.out; omega) (by have := HNum.out; omega)
        rw [HvY.out] at h
        exact h
      obtain ⟨i0, i1, _⟩ := HXb.out W4 (gb_refl _ _)
      go_upto_region 11 with (go_at_call 7; refine HC.out.mono ?_; rintro e wq ⟨Xy, xy, yy, Yy, uy, vy, rfl, hsq, hcq, hdq, gq⟩)
      obtain ⟨boy, hboy⟩ : ∃ boy, wq.heap.size = boy := ⟨_, rfl⟩
      rw [hboy]
      refine Td.named (fun W => W4.grownBy W none ∧ Row W boy 28 #[.slice Xy xy yy, .slice Yy uy vy] ∧ SL W Xy xy Yy uy Sy) ⟨gb_alloc gq _, by rw [← hboy]; exact Row.new _ _ _, hsq.keep (gb_alloc (gb_refl _ _) _)⟩ ?_
      rintro W5 ⟨g3, r3, s3⟩
      have HGx : Hid (W4.grownBy W5 none) := g3
      have HSy : Hid (∀ W, W5.grownBy W none → W.cell? ⟨boy, 0, none⟩ = some (.slice Xy xy yy) ∧ W.cell? ⟨boy, 1, none⟩ = some (.slice Yy uy vy) ∧ SL W Xy xy Yy uy Sy) := fun W hW => ⟨(r3.kept hW (by simp)).at_ (i := 0) rfl, (r3.kept hW (by simp)).at_ (i := 1) rfl, s3.keep hW⟩
      replace HSs : Hid (∀ W, W5.grownBy W none → _) := fun W hW => HSs.out W (gb_none HGx.out hW)
      replace HSa : Hid (∀ W, W5.grownBy W none → _) := fun W hW => HSa.out W (gb_none HGx.out hW)
      replace HSx : Hid (∀ W, W5.grownBy W none → _) := fun W hW => HSx.out W (gb_none HGx.out hW)
      replace HXb : Hid (∀ W, W5.grownBy W none → _) := fun W hW => HXb.out W (gb_none HGx.out hW)
      replace HBL : Hid (∀ W, W5.grownBy W none → _) := fun W hW => HBL.out W (gb_none HGx.out hW)
      replace HG : Hid (w.grownBy W5 none) := gb_none HG.out HGx.out
      clear hboy hsq hcq hdq gq g3 r3 s3 HC HGx i0 i1
      have HC : Hid (Calls Tryd.prog 8 #[.agg #[.int .i64 a1, .slice bA N bc], .int .i64 x1] W5 (BufIs x1 (L.drop k) W5)) := by
        have h := ack_any a1 x1 bA N bc L ea eb W5 (HXb.out W5 (gb_refl _ _)).2.2 HFit.out.lens (HErs.out W5 HG.out) (by have := HNum.out; omega) (by have := HNum.out; omega) (by have := HNum.out; omega) (by have := HNum.out; omega)
        rw [HAck.out.1, HAck.out.2] at h
        exact h
      obtain ⟨i0, i1, _⟩ := HXb.out W5 (gb_refl _ _)
      go_upto_region 12 with (go_at_call 8; refine HC.out.mono ?_; rintro e wq ⟨dA, dm, dc, rfl, hlq, gq⟩; obtain ⟨hdl, hdm⟩ := hlq.told; rw [List.length_drop, HLen.out] at hdm; subst hdm)
      obtain ⟨bd, hbd⟩ : ∃ bd, wq.heap.size = bd := ⟨_, rfl⟩
      rw [hbd]
      refine Td.named (fun W => W5.grownBy W none ∧ Row W bd 32 #[.int .i64 x1, .slice dA (N - k) dc] ∧ BL W dA (N - k) dc (L.drop k)) ⟨gb_alloc gq _, by rw [← hbd]; exact Row.new _ _ _, hdl.keep (gb_alloc (gb_refl _ _) _)⟩ ?_
      rintro W6 ⟨g3, r3, l3⟩
      have HGx : Hid (W5.grownBy W6 none) := g3
      have HXd : Hid (∀ W, W6.grownBy W none → W.cell? ⟨bd, 0, none⟩ = some (.int .i64 x1) ∧ W.cell? ⟨bd, 1, none⟩ = some (.slice dA (N - k) dc) ∧ BL W dA (N - k) dc (L.drop k)) := fun W hW => ⟨(r3.kept hW (by simp)).at_ (i := 0) rfl, (r3.kept hW (by simp)).at_ (i := 1) rfl, l3.keep hW⟩
      replace HSs : Hid (∀ W, W6.grownBy W none → _) := fun W hW => HSs.out W (gb_none HGx.out hW)
      replace HSa : Hid (∀ W, W6.grownBy W none → _) := fun W hW => HSa.out W (gb_none HGx.out hW)
      replace HSx : Hid (∀ W, W6.grownBy W none → _) := fun W hW => HSx.out W (gb_none HGx.out hW)
      replace HSy : Hid (∀ W, W6.grownBy W none → _) := fun W hW => HSy.out W (gb_none HGx.out hW)
      replace HXb : Hid (∀ W, W6.grownBy W none → _) := fun W hW => HXb.out W (gb_none HGx.out hW)
      replace HBL : Hid (∀ W, W6.grownBy W none → _) := fun W hW => HBL.out W (gb_none HGx.out hW)
      replace HG : Hid (w.grownBy W6 none) := gb_none HG.out HGx.out
      clear hbd hdl gq g3 r3 l3 HC HGx i0 i1 hlq
      have HC : Hid (Calls Tryd.prog 7 #[.agg #[.int .i64 x1, .slice dA (N - k) dc], .int .i64 x1, .int .i64 100] W6 (SinceIs Sy W6)) := by
        have h := since_some x1 x1 100 dA (N - k) dc 0 (L.drop k) ea eb W6 (HXd.out W6 (gb_refl _ _)).2.2 (HFit.out.drop k) (HErs.out W6 HG.out) (by have := HNum.out; omega) (by have := HNum.out; omega) (by have := HNum.out; omega) (by have := HNum.out; omega) (by have := HNum.out; omega) (by have := HNum.out; omega)
        rw [HvZ.out] at h
        exact h
      obtain ⟨i0, i1, _⟩ := HXd.out W6 (gb_refl _ _)
      go_upto_region 13 with (go_at_call 7; refine HC.out.mono ?_; rintro e wq ⟨Xz, xz, yz, Yz, uz, vz, rfl, hsq, hcq, hdq, gq⟩)
      obtain ⟨boz, hboz⟩ : ∃ boz, wq.heap.size = boz := ⟨_, rfl⟩
      rw [hboz]
      refine Td.named (fun W => W6.grownBy W none ∧ Row W boz 28 #[.slice Xz xz yz, .slice Yz uz vz] ∧ SL W Xz xz Yz uz Sy) ⟨gb_alloc gq _, by rw [← hboz]; exact Row.new _ _ _, hsq.keep (gb_alloc (gb_refl _ _) _)⟩ ?_
      rintro W7 ⟨g3, r3, s3⟩
      have HGx : Hid (W6.grownBy W7 none) := g3
      have HSz : Hid (∀ W, W7.grownBy W none → W.cell? ⟨boz, 0, none⟩ = some (.slice Xz xz yz) ∧ W.cell? ⟨boz, 1, none⟩ = some (.slice Yz uz vz) ∧ SL W Xz xz Yz uz Sy) := fun W hW => ⟨(r3.kept hW (by simp)).at_ (i := 0) rfl, (r3.kept hW (by simp)).at_ (i := 1) rfl, s3.keep hW⟩
      replace HSs : Hid (∀ W, W7.grownBy W none → _) := fun W hW => HSs.out W (gb_none HGx.out hW)
      replace HSa : Hid (∀ W, W7.grownBy W none → _) := fun W hW => HSa.out W (gb_none HGx.out hW)
      replace HSx : Hid (∀ W, W7.grownBy W none → _) := fun W hW => HSx.out W (gb_none HGx.out hW)
      replace HSy : Hid (∀ W, W7.grownBy W none → _) := fun W hW => HSy.out W (gb_none HGx.out hW)
      replace HXb : Hid (∀ W, W7.grownBy W none → _) := fun W hW => HXb.out W (gb_none HGx.out hW)
      replace HXd : Hid (∀ W, W7.grownBy W none → _) := fun W hW => HXd.out W (gb_none HGx.out hW)
      replace HBL : Hid (∀ W, W7.grownBy W none → _) := fun W hW => HBL.out W (gb_none HGx.out hW)
      replace HG : Hid (w.grownBy W7 none) := gb_none HG.out HGx.out
      clear hboz hsq hcq hdq gq g3 r3 s3 HC HGx i0 i1
      have t2 := Ht2.out
      have HC : Hid (Calls Tryd.prog 7 #[.agg #[.int .i64 x1, .slice dA (N - k) dc], .int .i64 x2, .int .i64 1] W7 fun e w' => e = .returned (.tuple #[.agg #[.slice none 0 0, .slice none 0 0], .bool false]) ∧ W7.grownBy w' none) := by
        exact since_none x1 x2 1 dA (N - k) dc ea eb W7 (HErs.out W7 HG.out) (by have := HNum.out; omega) (by have := HNum.out; omega) (by have := HNum.out; omega) (by have := HNum.out; omega) (by have := HNum.out; omega)
      obtain ⟨i0, i1, _⟩ := HXd.out W7 (gb_refl _ _)
      go_upto_region 14 with (go_at_call 7; refine HC.out.mono ?_; rintro e wq ⟨rfl, gq⟩)
      refine Td.named (fun W => W7.grownBy W none) (gb_alloc gq _) ?_
      rintro W8 g3
      have HGx : Hid (W7.grownBy W8 none) := g3
      replace HSs : Hid (∀ W, W8.grownBy W none → _) := fun W hW => HSs.out W (gb_none HGx.out hW)
      replace HSa : Hid (∀ W, W8.grownBy W none → _) := fun W hW => HSa.out W (gb_none HGx.out hW)
      replace HSx : Hid (∀ W, W8.grownBy W none → _) := fun W hW => HSx.out W (gb_none HGx.out hW)
      replace HSy : Hid (∀ W, W8.grownBy W none → _) := fun W hW => HSy.out W (gb_none HGx.out hW)
      replace HSz : Hid (∀ W, W8.grownBy W none → _) := fun W hW => HSz.out W (gb_none HGx.out hW)
      replace HXb : Hid (∀ W, W8.grownBy W none → _) := fun W hW => HXb.out W (gb_none HGx.out hW)
      replace HXd : Hid (∀ W, W8.grownBy W none → _) := fun W hW => HXd.out W (gb_none HGx.out hW)
      replace HBL : Hid (∀ W, W8.grownBy W none → _) := fun W hW => HBL.out W (gb_none HGx.out hW)
      replace HG : Hid (w.grownBy W8 none) := gb_none HG.out HGx.out
      clear gq g3 HC HGx i0 i1
      have t3 := Ht3.out
      have t4 := Ht4.out
      have HC : Hid (Calls Tryd.prog 7 #[.agg #[.int .i64 x1, .slice dA (N - k) dc], .int .i64 x4, .int .i64 1] W8 fun e w' => e = .returned (.tuple #[.agg #[.slice none 0 0, .slice none 0 0], .bool false]) ∧ W8.grownBy w' none) := by
        exact since_none x1 x4 1 dA (N - k) dc ea eb W8 (HErs.out W8 HG.out) (by have := HNum.out; omega) (by have := HNum.out; omega) (by have := HNum.out; omega) (by have := HNum.out; omega) (by have := HNum.out; omega)
      obtain ⟨i0, i1, _⟩ := HXd.out W8 (gb_refl _ _)
      go_upto_region 15 with (go_at_call 7; refine HC.out.mono ?_; rintro e wq ⟨rfl, gq⟩)
      refine Td.named (fun W => W8.grownBy W none) (gb_alloc gq _) ?_
      rintro W9 g3
      have HGx : Hid (W8.grownBy W9 none) := g3
      replace HSs : Hid (∀ W, W9.grownBy W none → _) := fun W hW => HSs.out W (gb_none HGx.out hW)
      replace HSa : Hid (∀ W, W9.grownBy W none → _) := fun W hW => HSa.out W (gb_none HGx.out hW)
      replace HSx : Hid (∀ W, W9.grownBy W none → _) := fun W hW => HSx.out W (gb_none HGx.out hW)
      replace HSy : Hid (∀ W, W9.grownBy W none → _) := fun W hW => HSy.out W (gb_none HGx.out hW)
      replace HSz : Hid (∀ W, W9.grownBy W none → _) := fun W hW => HSz.out W (gb_none HGx.out hW)
      replace HXb : Hid (∀ W, W9.grownBy W none → _) := fun W hW => HXb.out W (gb_none HGx.out hW)
      replace HXd : Hid (∀ W, W9.grownBy W none → _) := fun W hW => HXd.out W (gb_none HGx.out hW)
      replace HBL : Hid (∀ W, W9.grownBy W none → _) := fun W hW => HBL.out W (gb_none HGx.out hW)
      replace HG : Hid (w.grownBy W9 none) := gb_none HG.out HGx.out
      clear gq g3 HC HGx i0 i1
      clear t0 t1 t2 t3 t4
      apply wp_region_told (le := fun a b => a.grownBy b none) [isV _, isV _, isV _, isV _, isV _, isV _, isV _, isV _, isV _, isV _, isV _, isV _, isV _, isV _, isV _, isV _, isV _, isV _, isV _, isV _, isV _, isV _, isV _, isV _, isV _, isV _, stateV s, isV _, isV _, isV _, isV _, isV _, isV _, isV _, isV _, isV _, isV _, isV _, isV _, isV _, isV _, isV _, isV _, isV _, isV _, isV _, isV _, isV _, isV _, isV _, isV _, isV _, isV _, isV _, isV _, isV _, isV _, isV _, isV _, isV _, isV _, isV _, isV _, isV _, isV _, isV _]
      case hn => rfl
      case hm => kernel_rfl
      case hB => kernel_rfl
      case ht => exact fun _ _ _ h k => gb_none h k
      case hw => exact gb_drew (gb_refl _ _)
      -- 0: law.go:67 fieldAddr
      apply told_is
      · intro W f hW hE h0 K hK
        have e9 := h0 9 (by kernel_rfl)
        conv at e9 => rhs; whnf
        clear hE h0
        refine yes_of (want_free rfl) ?_
        go_simp; exact hK _ _ (gb_refl _ _) rfl
      -- 1: law.go:67 load
      apply told_is
      · intro W f hW hE h0 K hK
        have e113 : f 113 = _ := hE 0 113 _ rfl (by kernel_rfl)
        clear hE h0
        refine yes_of (want_free rfl) ?_
        obtain ⟨z0, z1, _⟩ := HXb.out W hW
        go_simp; exact hK _ _ (gb_refl _ _) rfl
      -- 2: law.go:67 call
      apply told_is
      · intro W f hW hE h0 K hK
        have e114 : f 114 = _ := hE 0 114 _ rfl (by kernel_rfl)
        clear hE h0
        refine yes_of (want_free rfl) ?_
        go_simp; exact hK _ _ (gb_refl _ _) rfl
      -- 3: law.go:67 move
      apply told_is
      · intro W f hW hE h0 K hK
        have e7 := h0 7 (by kernel_rfl)
        conv at e7 => rhs; whnf
        clear hE h0
        refine yes_of (want_free rfl) ?_
        go_simp; exact hK _ _ (gb_refl _ _) rfl
      -- 4: law.go:67 call
      apply told_is
      · intro W f hW hE h0 K hK
        have e116 : f 116 = _ := hE 0 116 _ rfl (by kernel_rfl)
        clear hE h0
        refine yes_of (want_free rfl) ?_
        go_simp; exact hK _ _ (gb_refl _ _) rfl
      -- 5: law.go:67 binOp
      apply told_is
      · intro W f hW hE h0 K hK
        have e115 : f 115 = _ := hE 2 115 _ rfl (by kernel_rfl)
        have e117 : f 117 = _ := hE 0 117 _ rfl (by kernel_rfl)
        clear hE h0
        refine yes_of (want_free rfl) ?_
        go_simp; exact hK _ _ (gb_refl _ _) rfl
      -- 6: law.go:67 move
      apply told_is
      · intro W f hW hE h0 K hK
        have e118 : f 118 = _ := hE 0 118 _ rfl (by kernel_rfl)
        clear hE h0
        refine yes_of (want_free rfl) ?_
        go_simp; exact hK _ _ (gb_refl _ _) rfl
      -- 7: law.go:67 move
      apply told_is
      · intro W f hW hE h0 K hK
        have e13 := h0 13 (by kernel_rfl)
        conv at e13 => rhs; whnf
        have e119 : f 119 = _ := hE 0 119 _ rfl (by kernel_rfl)
        clear hE h0
        refine yes_of (want_yes rfl rfl e119) ?_
        go_simp; exact hK _ _ (gb_refl _ _) rfl
      -- 8: law.go:67 pick
      apply told_is
      · intro W f hW hE h0 K hK
        have e119 : f 119 = _ := hE 1 119 _ rfl (by kernel_rfl)
        have e120 : f 120 = _ := hE 0 120 _ rfl (by kernel_rfl)
        clear hE h0
        refine yes_of (want_free rfl) ?_
        go_simp; exact hK _ _ (gb_refl _ _) rfl
      -- 9: law.go:67 move
      apply told_is
      · intro W f hW hE h0 K hK
        have e121 : f 121 = _ := hE 0 121 _ rfl (by kernel_rfl)
        clear hE h0
        refine yes_of (want_free rfl) ?_
        go_simp; exact hK _ _ (gb_refl _ _) rfl
      -- 10: law.go:67 load
      apply told_is
      · intro W f hW hE h0 K hK
        have e12 := h0 12 (by kernel_rfl)
        conv at e12 => rhs; whnf
        have e122 : f 122 = _ := hE 0 122 _ rfl (by kernel_rfl)
        clear hE h0
        refine yes_of (want_yes rfl rfl e122) ?_
        obtain ⟨z0, z1, _⟩ := HSa.out W hW
        go_simp; exact hK _ _ (gb_refl _ _) rfl
      -- 11: law.go:67 load
      apply told_is
      · intro W f hW hE h0 K hK
        have e8 := h0 8 (by kernel_rfl)
        conv at e8 => rhs; whnf
        have e122 : f 122 = _ := hE 1 122 _ rfl (by kernel_rfl)
        clear hE h0
        refine yes_of (want_yes rfl rfl e122) ?_
        obtain ⟨z0, z1, _⟩ := HSs.out W hW
        go_simp; exact hK _ _ (gb_refl _ _) rfl
      -- 12: law.go:67 call
      apply told_is
      · intro W f hW hE h0 K hK
        have e123 : f 123 = _ := hE 1 123 _ rfl (by kernel_rfl)
        have e124 : f 124 = _ := hE 0 124 _ rfl (by kernel_rfl)
        have e122 : f 122 = _ := hE 2 122 _ rfl (by kernel_rfl)
        clear hE h0
        refine yes_of (want_yes rfl rfl e122) ?_
        go_simp
        refine (refSameSt_any Xa Ya Xs Ys xa ya ua va xs ys us vs s s W (HSa.out W hW).2.2 (HSs.out W hW).2.2 (by have := (HSa.out W hW).2.2.1.1; have := (HSa.out W hW).2.2.2.1; have := HZa.out.1; have := HZa.out.2; have := (HSs.out W hW).2.2.1.1; have := (HSs.out W hW).2.2.2.1; have := HZs.out.1; have := HZs.out.2; omega) (by have := (HSa.out W hW).2.2.1.1; have := (HSa.out W hW).2.2.2.1; have := HZa.out.1; have := HZa.out.2; have := (HSs.out W hW).2.2.1.1; have := (HSs.out W hW).2.2.2.1; have := HZs.out.1; have := HZs.out.2; omega) (by have := (HSa.out W hW).2.2.1.1; have := (HSa.out W hW).2.2.2.1; have := HZa.out.1; have := HZa.out.2; have := (HSs.out W hW).2.2.1.1; have := (HSs.out W hW).2.2.2.1; have := HZs.out.1; have := HZs.out.2; omega) (by have := (HSa.out W hW).2.2.1.1; have := (HSa.out W hW).2.2.2.1; have := HZa.out.1; have := HZa.out.2; have := (HSs.out W hW).2.2.1.1; have := (HSs.out W hW).2.2.2.1; have := HZs.out.1; have := HZs.out.2; omega)).mono ?_
        intro e w1' hh; obtain ⟨he, g'⟩ := hh.yes rfl; subst he
        exact ⟨_, rfl, hK _ _ g' rfl⟩
      -- 13: law.go:67 pick
      apply told_is
      · intro W f hW hE h0 K hK
        have e122 : f 122 = _ := hE 3 122 _ rfl (by kernel_rfl)
        have e125 : f 125 = _ := hE 0 125 _ rfl (by kernel_rfl)
        clear hE h0
        refine yes_of (want_free rfl) ?_
        go_simp; exact hK _ _ (gb_refl _ _) rfl
      -- 14: law.go:67 move
      apply told_is
      · intro W f hW hE h0 K hK
        have e126 : f 126 = _ := hE 0 126 _ rfl (by kernel_rfl)
        clear hE h0
        refine yes_of (want_free rfl) ?_
        go_simp; exact hK _ _ (gb_refl _ _) rfl
      -- 15: law.go:67 move
      apply told_is
      · intro W f hW hE h0 K hK
        have e15 := h0 15 (by kernel_rfl)
        conv at e15 => rhs; whnf
        have e127 : f 127 = _ := hE 0 127 _ rfl (by kernel_rfl)
        clear hE h0
        refine yes_of (want_yes rfl rfl e127) ?_
        go_simp; exact hK _ _ (gb_refl _ _) rfl
      -- 16: law.go:67 pick
      apply told_is
      · intro W f hW hE h0 K hK
        have e127 : f 127 = _ := hE 1 127 _ rfl (by kernel_rfl)
        have e128 : f 128 = _ := hE 0 128 _ rfl (by kernel_rfl)
        clear hE h0
        refine yes_of (want_free rfl) ?_
        go_simp; exact hK _ _ (gb_refl _ _) rfl
      -- 17: law.go:67 move
      apply told_is
      · intro W f hW hE h0 K hK
        have e129 : f 129 = _ := hE 0 129 _ rfl (by kernel_rfl)
        clear hE h0
        refine yes_of (want_free rfl) ?_
        go_simp; exact hK _ _ (gb_refl _ _) rfl
      -- 18: law.go:67 move
      apply told_is
      · intro W f hW hE h0 K hK
        have e17 := h0 17 (by kernel_rfl)
        conv at e17 => rhs; whnf
        have e130 : f 130 = _ := hE 0 130 _ rfl (by kernel_rfl)
        clear hE h0
        refine yes_of (want_yes rfl rfl e130) ?_
        go_simp; exact hK _ _ (gb_refl _ _) rfl
      -- 19: law.go:67 pick
      apply told_is
      · intro W f hW hE h0 K hK
        have e130 : f 130 = _ := hE 1 130 _ rfl (by kernel_rfl)
        have e131 : f 131 = _ := hE 0 131 _ rfl (by kernel_rfl)
        clear hE h0
        refine yes_of (want_free rfl) ?_
        go_simp; exact hK _ _ (gb_refl _ _) rfl
      -- 20: law.go:67 move
      apply told_is
      · intro W f hW hE h0 K hK
        have e132 : f 132 = _ := hE 0 132 _ rfl (by kernel_rfl)
        clear hE h0
        refine yes_of (want_free rfl) ?_
        go_simp; exact hK _ _ (gb_refl _ _) rfl
      -- 21: law.go:67 move
      apply told_is
      · intro W f hW hE h0 K hK
        have e20 := h0 20 (by kernel_rfl)
        conv at e20 => rhs; whnf
        have e133 : f 133 = _ := hE 0 133 _ rfl (by kernel_rfl)
        clear hE h0
        refine yes_of (want_yes rfl rfl e133) ?_
        go_simp; exact hK _ _ (gb_refl _ _) rfl
      -- 22: law.go:67 pick
      apply told_is
      · intro W f hW hE h0 K hK
        have e133 : f 133 = _ := hE 1 133 _ rfl (by kernel_rfl)
        have e134 : f 134 = _ := hE 0 134 _ rfl (by kernel_rfl)
        clear hE h0
        refine yes_of (want_free rfl) ?_
        go_simp; exact hK _ _ (gb_refl _ _) rfl
      -- 23: law.go:67 move
      apply told_is
      · intro W f hW hE h0 K hK
        have e135 : f 135 = _ := hE 0 135 _ rfl (by kernel_rfl)
        clear hE h0
        refine yes_of (want_free rfl) ?_
        go_simp; exact hK _ _ (gb_refl _ _) rfl
      -- 24: law.go:67 load
      apply told_is
      · intro W f hW hE h0 K hK
        have e14 := h0 14 (by kernel_rfl)
        conv at e14 => rhs; whnf
        have e136 : f 136 = _ := hE 0 136 _ rfl (by kernel_rfl)
        clear hE h0
        refine yes_of (want_yes rfl rfl e136) ?_
        obtain ⟨z0, z1, _⟩ := HSx.out W hW
        go_simp; exact hK _ _ (gb_refl _ _) rfl
      -- 25: law.go:67 load
      apply told_is
      · intro W f hW hE h0 K hK
        have e16 := h0 16 (by kernel_rfl)
        conv at e16 => rhs; whnf
        have e136 : f 136 = _ := hE 1 136 _ rfl (by kernel_rfl)
        clear hE h0
        refine yes_of (want_yes rfl rfl e136) ?_
        obtain ⟨z0, z1, _⟩ := HSy.out W hW
        go_simp; exact hK _ _ (gb_refl _ _) rfl
      -- 26: law.go:67 call
      apply told_at stateV_stays
      · intro W f hW hE h0 K hK
        have e137 : f 137 = _ := hE 1 137 _ rfl (by kernel_rfl)
        have e138 : f 138 = _ := hE 0 138 _ rfl (by kernel_rfl)
        have e136 : f 136 = _ := hE 2 136 _ rfl (by kernel_rfl)
        clear hE h0
        refine yes_of (want_yes rfl rfl e136) ?_
        go_simp
        refine (refJoin_any Xx Yx Xy Yy xx yx ux vx xy yy uy vy Sx Sy W (HSx.out W hW).2.2 (HSy.out W hW).2.2 HSSx.out HSSy.out (by have := (HSx.out W hW).2.2.1.1; have := (HSx.out W hW).2.2.2.1; have := (HSy.out W hW).2.2.1.1; have := (HSy.out W hW).2.2.2.1; have := HZx.out.1; have := HZx.out.2; have := HZy.out.1; have := HZy.out.2; omega) (by have := (HSx.out W hW).2.2.1.1; have := (HSx.out W hW).2.2.2.1; have := (HSy.out W hW).2.2.1.1; have := (HSy.out W hW).2.2.2.1; have := HZx.out.1; have := HZx.out.2; have := HZy.out.1; have := HZy.out.2; omega) (by have := (HSx.out W hW).2.2.1.1; have := (HSx.out W hW).2.2.2.1; have := (HSy.out W hW).2.2.1.1; have := (HSy.out W hW).2.2.2.1; have := HZx.out.1; have := HZx.out.2; have := HZy.out.1; have := HZy.out.2; omega) (by have := (HSx.out W hW).2.2.1.1; have := (HSx.out W hW).2.2.2.1; have := (HSy.out W hW).2.2.1.1; have := (HSy.out W hW).2.2.2.1; have := HZx.out.1; have := HZx.out.2; have := HZy.out.1; have := HZy.out.2; omega)).mono ?_
        rw [Hjoin.out]
        rintro e w1' ⟨A2', n2', c2', B2', m2', d2', rfl, l1, l2, l3, g'⟩
        exact ⟨_, rfl, hK _ _ g' ⟨A2', n2', c2', B2', m2', d2', rfl, l1, l2, l3⟩⟩
      -- 27: law.go:67 load
      apply told_is
      · intro W f hW hE h0 K hK
        have e8 := h0 8 (by kernel_rfl)
        conv at e8 => rhs; whnf
        have e136 : f 136 = _ := hE 3 136 _ rfl (by kernel_rfl)
        clear hE h0
        refine yes_of (want_yes rfl rfl e136) ?_
        obtain ⟨z0, z1, _⟩ := HSs.out W hW
        go_simp; exact hK _ _ (gb_refl _ _) rfl
      -- 28: law.go:67 call
      apply told_is
      · intro W f hW hE h0 K hK
        have e139 := hE 1 139 _ rfl (by kernel_rfl)
        have e140 : f 140 = _ := hE 0 140 _ rfl (by kernel_rfl)
        have e136 : f 136 = _ := hE 4 136 _ rfl (by kernel_rfl)
        clear hE h0
        refine yes_of (want_yes rfl rfl e136) ?_
        obtain ⟨X139, x139, y139, Y139, u139, v139, e139, k1_139, k2_139, k3_139⟩ := e139
        go_simp
        refine (refSameSt_any X139 Y139 Xs Ys x139 y139 u139 v139 xs ys us vs s s W k1_139 (HSs.out W hW).2.2 (by have := k1_139.1.1; have := k1_139.2.1; have := HZs.out.1; have := HZs.out.2; have := (HSs.out W hW).2.2.1.1; have := (HSs.out W hW).2.2.2.1; have := HZs.out.1; have := HZs.out.2; omega) (by have := k1_139.1.1; have := k1_139.2.1; have := HZs.out.1; have := HZs.out.2; have := (HSs.out W hW).2.2.1.1; have := (HSs.out W hW).2.2.2.1; have := HZs.out.1; have := HZs.out.2; omega) (by have := k1_139.1.1; have := k1_139.2.1; have := HZs.out.1; have := HZs.out.2; have := (HSs.out W hW).2.2.1.1; have := (HSs.out W hW).2.2.2.1; have := HZs.out.1; have := HZs.out.2; omega) (by have := k1_139.1.1; have := k1_139.2.1; have := HZs.out.1; have := HZs.out.2; have := (HSs.out W hW).2.2.1.1; have := (HSs.out W hW).2.2.2.1; have := HZs.out.1; have := HZs.out.2; omega)).mono ?_
        intro e w1' hh; obtain ⟨he, g'⟩ := hh.yes rfl; subst he
        exact ⟨_, rfl, hK _ _ g' rfl⟩
      -- 29: law.go:67 pick
      apply told_is
      · intro W f hW hE h0 K hK
        have e136 : f 136 = _ := hE 5 136 _ rfl (by kernel_rfl)
        have e141 : f 141 = _ := hE 0 141 _ rfl (by kernel_rfl)
        clear hE h0
        refine yes_of (want_free rfl) ?_
        go_simp; exact hK _ _ (gb_refl _ _) rfl
      -- 30: law.go:67 move
      apply told_is
      · intro W f hW hE h0 K hK
        have e142 : f 142 = _ := hE 0 142 _ rfl (by kernel_rfl)
        clear hE h0
        refine yes_of (want_free rfl) ?_
        go_simp; exact hK _ _ (gb_refl _ _) rfl
      -- 31: law.go:67 load
      apply told_is
      · intro W f hW hE h0 K hK
        have e16 := h0 16 (by kernel_rfl)
        conv at e16 => rhs; whnf
        have e143 : f 143 = _ := hE 0 143 _ rfl (by kernel_rfl)
        clear hE h0
        refine yes_of (want_yes rfl rfl e143) ?_
        obtain ⟨z0, z1, _⟩ := HSy.out W hW
        go_simp; exact hK _ _ (gb_refl _ _) rfl
      -- 32: law.go:67 load
      apply told_is
      · intro W f hW hE h0 K hK
        have e19 := h0 19 (by kernel_rfl)
        conv at e19 => rhs; whnf
        have e143 : f 143 = _ := hE 1 143 _ rfl (by kernel_rfl)
        clear hE h0
        refine yes_of (want_yes rfl rfl e143) ?_
        obtain ⟨z0, z1, _⟩ := HSz.out W hW
        go_simp; exact hK _ _ (gb_refl _ _) rfl
      -- 33: law.go:67 call
      apply told_is
      · intro W f hW hE h0 K hK
        have e144 : f 144 = _ := hE 1 144 _ rfl (by kernel_rfl)
        have e145 : f 145 = _ := hE 0 145 _ rfl (by kernel_rfl)
        have e143 : f 143 = _ := hE 2 143 _ rfl (by kernel_rfl)
        clear hE h0
        refine yes_of (want_yes rfl rfl e143) ?_
        go_simp
        refine (refSameSt_any Xy Yy Xz Yz xy yy uy vy xz yz uz vz Sy Sy W (HSy.out W hW).2.2 (HSz.out W hW).2.2 (by have := (HSy.out W hW).2.2.1.1; have := (HSy.out W hW).2.2.2.1; have := HZy.out.1; have := HZy.out.2; have := (HSz.out W hW).2.2.1.1; have := (HSz.out W hW).2.2.2.1; have := HZz.out.1; have := HZz.out.2; omega) (by have := (HSy.out W hW).2.2.1.1; have := (HSy.out W hW).2.2.2.1; have := HZy.out.1; have := HZy.out.2; have := (HSz.out W hW).2.2.1.1; have := (HSz.out W hW).2.2.2.1; have := HZz.out.1; have := HZz.out.2; omega) (by have := (HSy.out W hW).2.2.1.1; have := (HSy.out W hW).2.2.2.1; have := HZy.out.1; have := HZy.out.2; have := (HSz.out W hW).2.2.1.1; have := (HSz.out W hW).2.2.2.1; have := HZz.out.1; have := HZz.out.2; omega) (by have := (HSy.out W hW).2.2.1.1; have := (HSy.out W hW).2.2.2.1; have := HZy.out.1; have := HZy.out.2; have := (HSz.out W hW).2.2.1.1; have := (HSz.out W hW).2.2.2.1; have := HZz.out.1; have := HZz.out.2; omega)).mono ?_
        intro e w1' hh; obtain ⟨he, g'⟩ := hh.yes rfl; subst he
        exact ⟨_, rfl, hK _ _ g' rfl⟩
      -- 34: law.go:67 pick
      apply told_is
      · intro W f hW hE h0 K hK
        have e143 : f 143 = _ := hE 3 143 _ rfl (by kernel_rfl)
        have e146 : f 146 = _ := hE 0 146 _ rfl (by kernel_rfl)
        clear hE h0
        refine yes_of (want_free rfl) ?_
        go_simp; exact hK _ _ (gb_refl _ _) rfl
      -- 35: law.go:67 move
      apply told_is
      · intro W f hW hE h0 K hK
        have e147 : f 147 = _ := hE 0 147 _ rfl (by kernel_rfl)
        clear hE h0
        refine yes_of (want_free rfl) ?_
        go_simp; exact hK _ _ (gb_refl _ _) rfl
      -- 36: law.go:67 move
      apply told_is
      · intro W f hW hE h0 K hK
        have e22 := h0 22 (by kernel_rfl)
        conv at e22 => rhs; whnf
        have e148 : f 148 = _ := hE 0 148 _ rfl (by kernel_rfl)
        clear hE h0
        refine yes_of (want_yes rfl rfl e148) ?_
        go_simp; exact hK _ _ (gb_refl _ _) rfl
      -- 37: law.go:67 unOp
      apply told_is
      · intro W f hW hE h0 K hK
        have e149 : f 149 = _ := hE 0 149 _ rfl (by kernel_rfl)
        have e148 : f 148 = _ := hE 1 148 _ rfl (by kernel_rfl)
        clear hE h0
        refine yes_of (want_yes rfl rfl e148) ?_
        go_simp; exact hK _ _ (gb_refl _ _) rfl
      -- 38: law.go:67 pick
      apply told_is
      · intro W f hW hE h0 K hK
        have e148 : f 148 = _ := hE 2 148 _ rfl (by kernel_rfl)
        have e150 : f 150 = _ := hE 0 150 _ rfl (by kernel_rfl)
        clear hE h0
        refine yes_of (want_free rfl) ?_
        go_simp; exact hK _ _ (gb_refl _ _) rfl
      -- 39: law.go:67 move
      apply told_is
      · intro W f hW hE h0 K hK
        have e151 : f 151 = _ := hE 0 151 _ rfl (by kernel_rfl)
        clear hE h0
        refine yes_of (want_free rfl) ?_
        go_simp; exact hK _ _ (gb_refl _ _) rfl
      -- 40: law.go:67 move
      apply told_is
      · intro W f hW hE h0 K hK
        have e24 := h0 24 (by kernel_rfl)
        conv at e24 => rhs; whnf
        have e152 : f 152 = _ := hE 0 152 _ rfl (by kernel_rfl)
        clear hE h0
        refine yes_of (want_yes rfl rfl e152) ?_
        go_simp; exact hK _ _ (gb_refl _ _) rfl
      -- 41: law.go:67 unOp
      apply told_is
      · intro W f hW hE h0 K hK
        have e153 : f 153 = _ := hE 0 153 _ rfl (by kernel_rfl)
        have e152 : f 152 = _ := hE 1 152 _ rfl (by kernel_rfl)
        clear hE h0
        refine yes_of (want_yes rfl rfl e152) ?_
        go_simp; exact hK _ _ (gb_refl _ _) rfl
      -- 42: law.go:67 pick
      apply told_is
      · intro W f hW hE h0 K hK
        have e152 : f 152 = _ := hE 2 152 _ rfl (by kernel_rfl)
        have e154 : f 154 = _ := hE 0 154 _ rfl (by kernel_rfl)
        clear hE h0
        refine yes_of (want_free rfl) ?_
        go_simp; exact hK _ _ (gb_refl _ _) rfl
      -- 43: law.go:67 move
      apply told_is
      · intro W f hW hE h0 K hK
        have e155 : f 155 = _ := hE 0 155 _ rfl (by kernel_rfl)
        clear hE h0
        refine yes_of (want_free rfl) ?_
        go_simp; exact hK _ _ (gb_refl _ _) rfl
      -- 44: law.go:67 fieldAddr
      apply told_is
      · intro W f hW hE h0 K hK
        have e18 := h0 18 (by kernel_rfl)
        conv at e18 => rhs; whnf
        have e156 : f 156 = _ := hE 0 156 _ rfl (by kernel_rfl)
        clear hE h0
        refine yes_of (want_yes rfl rfl e156) ?_
        go_simp; exact hK _ _ (gb_refl _ _) rfl
      -- 45: law.go:67 load
      apply told_is
      · intro W f hW hE h0 K hK
        have e157 : f 157 = _ := hE 0 157 _ rfl (by kernel_rfl)
        have e156 : f 156 = _ := hE 1 156 _ rfl (by kernel_rfl)
        clear hE h0
        refine yes_of (want_yes rfl rfl e156) ?_
        obtain ⟨z0, z1, _⟩ := HXd.out W hW
        go_simp; exact hK _ _ (gb_refl _ _) rfl
      -- 46: law.go:67 call
      apply told_is
      · intro W f hW hE h0 K hK
        have e158 : f 158 = _ := hE 0 158 _ rfl (by kernel_rfl)
        have e156 : f 156 = _ := hE 2 156 _ rfl (by kernel_rfl)
        clear hE h0
        refine yes_of (want_yes rfl rfl e156) ?_
        go_simp; exact hK _ _ (gb_refl _ _) rfl
      -- 47: law.go:67 move
      apply told_is
      · intro W f hW hE h0 K hK
        have e7 := h0 7 (by kernel_rfl)
        conv at e7 => rhs; whnf
        have e156 : f 156 = _ := hE 3 156 _ rfl (by kernel_rfl)
        clear hE h0
        refine yes_of (want_yes rfl rfl e156) ?_
        go_simp; exact hK _ _ (gb_refl _ _) rfl
      -- 48: law.go:67 call
      apply told_is
      · intro W f hW hE h0 K hK
        have e160 : f 160 = _ := hE 0 160 _ rfl (by kernel_rfl)
        have e156 : f 156 = _ := hE 4 156 _ rfl (by kernel_rfl)
        clear hE h0
        refine yes_of (want_yes rfl rfl e156) ?_
        go_simp; exact hK _ _ (gb_refl _ _) rfl
      -- 49: law.go:67 move
      apply told_is
      · intro W f hW hE h0 K hK
        have e11 := h0 11 (by kernel_rfl)
        conv at e11 => rhs; whnf
        have e156 : f 156 = _ := hE 5 156 _ rfl (by kernel_rfl)
        clear hE h0
        refine yes_of (want_yes rfl rfl e156) ?_
        go_simp; exact hK _ _ (gb_refl _ _) rfl
      -- 50: law.go:67 binOp
      apply told_is
      · intro W f hW hE h0 K hK
        have e161 : f 161 = _ := hE 1 161 _ rfl (by kernel_rfl)
        have e162 : f 162 = _ := hE 0 162 _ rfl (by kernel_rfl)
        have e156 : f 156 = _ := hE 6 156 _ rfl (by kernel_rfl)
        clear hE h0
        refine yes_of (want_yes rfl rfl e156) ?_
        have t5 := Ht5.out
        go_simp; exact hK _ _ (gb_refl _ _) rfl
      -- 51: law.go:67 binOp
      apply told_is
      · intro W f hW hE h0 K hK
        have e159 : f 159 = _ := hE 4 159 _ rfl (by kernel_rfl)
        have e163 : f 163 = _ := hE 0 163 _ rfl (by kernel_rfl)
        have e156 : f 156 = _ := hE 7 156 _ rfl (by kernel_rfl)
        clear hE h0
        refine yes_of (want_yes rfl rfl e156) ?_
        go_simp; exact hK _ _ (gb_refl _ _) rfl
      -- 52: law.go:67 pick
      apply told_is
      · intro W f hW hE h0 K hK
        have e156 : f 156 = _ := hE 8 156 _ rfl (by kernel_rfl)
        have e164 : f 164 = _ := hE 0 164 _ rfl (by kernel_rfl)
        clear hE h0
        refine yes_of (want_free rfl) ?_
        go_simp; exact hK _ _ (gb_refl _ _) rfl
      -- 53: law.go:67 move
      apply told_is
      · intro W f hW hE h0 K hK
        have e165 : f 165 = _ := hE 0 165 _ rfl (by kernel_rfl)
        clear hE h0
        refine yes_of (want_free rfl) ?_
        go_simp; exact hK _ _ (gb_refl _ _) rfl
      -- 54: law.go:67 fieldAddr
      apply told_is
      · intro W f hW hE h0 K hK
        have e18 := h0 18 (by kernel_rfl)
        conv at e18 => rhs; whnf
        have e166 : f 166 = _ := hE 0 166 _ rfl (by kernel_rfl)
        clear hE h0
        refine yes_of (want_yes rfl rfl e166) ?_
        go_simp; exact hK _ _ (gb_refl _ _) rfl
      -- 55: law.go:67 load
      apply told_is
      · intro W f hW hE h0 K hK
        have e167 : f 167 = _ := hE 0 167 _ rfl (by kernel_rfl)
        have e166 : f 166 = _ := hE 1 166 _ rfl (by kernel_rfl)
        clear hE h0
        refine yes_of (want_yes rfl rfl e166) ?_
        obtain ⟨z0, z1, _⟩ := HXd.out W hW
        go_simp; exact hK _ _ (gb_refl _ _) rfl
      -- 56: law.go:67 move
      apply told_is
      · intro W f hW hE h0 K hK
        have e1 := h0 1 (by kernel_rfl)
        conv at e1 => rhs; whnf
        have e166 : f 166 = _ := hE 2 166 _ rfl (by kernel_rfl)
        clear hE h0
        refine yes_of (want_yes rfl rfl e166) ?_
        go_simp; exact hK _ _ (gb_refl _ _) rfl
      -- 57: law.go:67 convert
      apply told_is
      · intro W f hW hE h0 K hK
        have e169 : f 169 = _ := hE 0 169 _ rfl (by kernel_rfl)
        have e166 : f 166 = _ := hE 3 166 _ rfl (by kernel_rfl)
        clear hE h0
        refine yes_of (want_yes rfl rfl e166) ?_
        have t0 := Ht0.out
        go_simp; exact hK _ _ (gb_refl _ _) rfl
      -- 58: law.go:67 move
      apply told_is
      · intro W f hW hE h0 K hK
        have e11 := h0 11 (by kernel_rfl)
        conv at e11 => rhs; whnf
        have e166 : f 166 = _ := hE 4 166 _ rfl (by kernel_rfl)
        clear hE h0
        refine yes_of (want_yes rfl rfl e166) ?_
        go_simp; exact hK _ _ (gb_refl _ _) rfl
      -- 59: law.go:67 binOp
      apply told_is
      · intro W f hW hE h0 K hK
        have e170 : f 170 = _ := hE 1 170 _ rfl (by kernel_rfl)
        have e171 : f 171 = _ := hE 0 171 _ rfl (by kernel_rfl)
        have e166 : f 166 = _ := hE 5 166 _ rfl (by kernel_rfl)
        clear hE h0
        refine yes_of (want_yes rfl rfl e166) ?_
        have t1 := Ht1.out
        go_simp; exact hK _ _ (gb_refl _ _) rfl
      -- 60: law.go:67 binOp
      apply told_is
      · intro W f hW hE h0 K hK
        have e168 : f 168 = _ := hE 4 168 _ rfl (by kernel_rfl)
        have e172 : f 172 = _ := hE 0 172 _ rfl (by kernel_rfl)
        have e166 : f 166 = _ := hE 6 166 _ rfl (by kernel_rfl)
        clear hE h0
        refine yes_of (want_yes rfl rfl e166) ?_
        go_simp; exact hK _ _ (gb_refl _ _) rfl
      -- 61: law.go:67 pick
      apply told_is
      · intro W f hW hE h0 K hK
        have e166 : f 166 = _ := hE 7 166 _ rfl (by kernel_rfl)
        have e173 : f 173 = _ := hE 0 173 _ rfl (by kernel_rfl)
        clear hE h0
        refine yes_of (want_free rfl) ?_
        go_simp; exact hK _ _ (gb_refl _ _) rfl
      -- 62: law.go:67 move
      apply told_is
      · intro W f hW hE h0 K hK
        have e174 : f 174 = _ := hE 0 174 _ rfl (by kernel_rfl)
        clear hE h0
        refine yes_of (want_free rfl) ?_
        go_simp; exact hK _ _ (gb_refl _ _) rfl
      -- 63: law.go:67 call
      apply told_is
      · intro W f hW hE h0 K hK
        have e175 : f 175 = _ := hE 0 175 _ rfl (by kernel_rfl)
        clear hE h0
        refine yes_of (want_yes rfl rfl e175) ?_
        go_simp
        refine (HAw.out W (gb_none HG.out hW)).mono ?_
        rintro e w1' ⟨rfl, g'⟩
        exact ⟨_, rfl, hK _ _ g' rfl⟩
      -- 64: law.go:67 pick
      apply told_is
      · intro W f hW hE h0 K hK
        have e175 : f 175 = _ := hE 1 175 _ rfl (by kernel_rfl)
        have e176 : f 176 = _ := hE 0 176 _ rfl (by kernel_rfl)
        clear hE h0
        refine yes_of (want_free rfl) ?_
        go_simp; exact hK _ _ (gb_refl _ _) rfl
      -- 65: law.go:67 assign
      apply told_is
      · intro W f hW hE h0 K hK
        have e177 : f 177 = _ := hE 0 177 _ rfl (by kernel_rfl)
        clear hE h0
        refine yes_of (want_free rfl) ?_
        go_simp; exact hK _ _ (gb_refl _ _) rfl
      intro W f hW hA
      simp only [List.append_eq, List.cons_append, List.nil_append, lexIn, Act.put, List.setIfInBounds_toArray, List.set_cons_zero, List.set_cons_succ]
      have e6 : f 6 = _ := hA 0 (some 6) _ rfl
      rw [e6]
      clear hA
      go_wp2_with fail
      go_ret
      exact ⟨rfl, gb_below (gb_none HG.out hW) (Nat.le_refl _)⟩

theorem star : "*" ++ "errors.errorString" = "*errors.errorString" := by decide
theorem row_err (u : TypeId) (h : Tryd.prog.typeName? 3 u = some "*errors.errorString") : u = 109 :=
  typeName_ptr_named (nm := "errors.errorString") (by rw [star]; kernel_rfl) (by kernel_rfl) (by decide) u (by rw [star]; exact h)
theorem two0_1 {W : World} (h : laidMetH Tryd.prog Rows.bufferWholeRow.laid W) : Sn.Two W 0 1 := by
  have h4 : laidMet Tryd.prog [("deaddrop/buffer.errGone", Rows.laid_deaddrop_buffer_errGone), ("deaddrop/buffer.errYet", Rows.laid_deaddrop_buffer_errYet)] W := (laidMetH_iff.1 (laidMetH.filter (fun x => x.1 == "deaddrop/buffer.errGone" || x.1 == "deaddrop/buffer.errYet") h)).1
  obtain ⟨a0, a1, s0, s1, c0, c1, t0, t1, hv0, hv1, hc0, hs0, hz0, hc1, hs1, hz1, hne, hb0, hb1⟩ := laid_sentinels2 h4 (g0 := 0) (g1 := 1) (ti := 52) (by kernel_rfl) (by kernel_rfl) (by kernel_rfl) (by kernel_rfl) Tryd.underlying52 row_err Tryd.underlying109 Tryd.underlying135 rfl rfl Tryd.underlying9 (by kernel_rfl) (by kernel_rfl)
  exact ⟨a0, a1, c0, c1, t0, t1, by simpa using World.var?_cell (g := 0) (by kernel_rfl) hv0 0, by simpa using World.var?_cell (g := 1) (by kernel_rfl) hv1 0, hne, hb0, hb1⟩
theorem two0_2 {W : World} (h : laidMetH Tryd.prog Rows.bufferWholeRow.laid W) : Sn.Two W 0 2 := by
  have h4 : laidMet Tryd.prog [("deaddrop/buffer.errGone", Rows.laid_deaddrop_buffer_errGone), ("deaddrop/buffer.errFew", Rows.laid_deaddrop_buffer_errFew)] W := (laidMetH_iff.1 (laidMetH.filter (fun x => x.1 == "deaddrop/buffer.errGone" || x.1 == "deaddrop/buffer.errFew") h)).1
  obtain ⟨a0, a1, s0, s1, c0, c1, t0, t1, hv0, hv1, hc0, hs0, hz0, hc1, hs1, hz1, hne, hb0, hb1⟩ := laid_sentinels2 h4 (g0 := 0) (g1 := 2) (ti := 52) (by kernel_rfl) (by kernel_rfl) (by kernel_rfl) (by kernel_rfl) Tryd.underlying52 row_err Tryd.underlying109 Tryd.underlying135 rfl rfl Tryd.underlying9 (by kernel_rfl) (by kernel_rfl)
  exact ⟨a0, a1, c0, c1, t0, t1, by simpa using World.var?_cell (g := 0) (by kernel_rfl) hv0 0, by simpa using World.var?_cell (g := 2) (by kernel_rfl) hv1 0, hne, hb0, hb1⟩
theorem two1_2 {W : World} (h : laidMetH Tryd.prog Rows.bufferWholeRow.laid W) : Sn.Two W 1 2 := by
  have h4 : laidMet Tryd.prog [("deaddrop/buffer.errYet", Rows.laid_deaddrop_buffer_errYet), ("deaddrop/buffer.errFew", Rows.laid_deaddrop_buffer_errFew)] W := (laidMetH_iff.1 (laidMetH.filter (fun x => x.1 == "deaddrop/buffer.errYet" || x.1 == "deaddrop/buffer.errFew") h)).1
  obtain ⟨a0, a1, s0, s1, c0, c1, t0, t1, hv0, hv1, hc0, hs0, hz0, hc1, hs1, hz1, hne, hb0, hb1⟩ := laid_sentinels2 h4 (g0 := 1) (g1 := 2) (ti := 52) (by kernel_rfl) (by kernel_rfl) (by kernel_rfl) (by kernel_rfl) Tryd.underlying52 row_err Tryd.underlying109 Tryd.underlying135 rfl rfl Tryd.underlying9 (by kernel_rfl) (by kernel_rfl)
  exact ⟨a0, a1, c0, c1, t0, t1, by simpa using World.var?_cell (g := 1) (by kernel_rfl) hv0 0, by simpa using World.var?_cell (g := 2) (by kernel_rfl) hv1 0, hne, hb0, hb1⟩

set_option maxRecDepth 100000 in
theorem contract (H : Type) (enc : TypeId × Value → H) (W : World) (base : Nat) (args : Array Value) (ds gs : List (DataW H)) (before : List MemPlace)
    (hval0 : ∀ (j : Nat) t v, Tryd.f3.params[j]? = some t → args[j]? = some v → Value.okWide Tryd.prog W .any base t v)
    (hW : DataW.Whole enc Tryd.prog Tryd.f3.params.toList Rows.bufferWholeSpec.vars false W args.toList ds gs before) (hL : laidMetH Tryd.prog Rows.bufferWholeRow.laid W) :
    Calls Tryd.prog 3 args W fun e W' => ∃ v, e = .returned v ∧ Rows.bufferWholeSpec.post enc Tryd.prog Tryd.f3 false true false false W args v W' := by
  have hval : ∀ (j : Nat) t v, Tryd.f3.params[j]? = some t → args[j]? = some v → Value.okWide Tryd.prog W .any base t v := hval0
  have hW' := hW
  obtain ⟨p, q, hA0, hV, rfl, hfz, hnd⟩ := hW
  have hA : DataW.TrodAll enc Tryd.prog W 0 (fun _ => true) true Tryd.f3.params.toList args.toList ds p := hA0
  rw [Tryd.params3] at hA hval
  obtain ⟨v0, vs0, d0, ds0, p0, q0, hargs, rfl, rfl, h0, r0⟩ := trodAll_cons hA
  obtain ⟨v1, vs1, d1, ds1, p1, q1, rfl, rfl, rfl, h1, r1⟩ := trodAll_cons r0
  obtain ⟨v2, vs2, d2, ds2, p2, q2, rfl, rfl, rfl, h2, r2⟩ := trodAll_cons r1
  obtain ⟨rfl, rfl, rfl⟩ := trodAll_nil r2
  obtain rfl : args = #[v0, v1, v2] := by cases args; simp_all
  obtain ⟨rfl, rfl⟩ := trodVars_none hV
  have k0 := h0
  have lt0 : ∀ x ∈ p0, x.block < W.heap.size := by obtain ⟨m, hm⟩ := k0; exact DataW.trod_lt m _ _ _ hm
  obtain ⟨a0, len0, cap0, rfl⟩ := okWide_slice Tryd.underlying22 (hval 0 22 v0 rfl rfl)
  obtain ⟨z0, w0⟩ : ∃ zs, IsRow .u8 W a0 len0 cap0 zs := by
    obtain ⟨fuel, hf⟩ := h0
    rcases open_ints Tryd.underlying22 Tryd.underlying5 (by kernel_rfl) hf with ⟨hcs, _⟩ | ⟨x, l, c, zs, hcs, _, hl, hm, hz, _, hcell, hwz⟩
    · simp [Value.cells] at hcs
      obtain ⟨rfl, rfl, rfl⟩ := hcs
      exact ⟨[], .inl ⟨rfl, rfl, rfl, rfl⟩⟩
    · simp [Value.cells] at hcs
      obtain ⟨rfl, rfl, rfl⟩ := hcs
      exact ⟨zs, .inr ⟨_, rfl, hl, hm, by simpa using hz, hcell, hwz⟩⟩
  obtain ⟨a1, rfl, rfl, rfl, w1⟩ := open_int Tryd.underlying23 (hval 1 23 v1 rfl rfl) h1
  obtain ⟨a2, rfl, rfl, rfl, w2⟩ := open_int Tryd.underlying5 (hval 2 5 v2 rfl rfl) h2
  clear hA0 hval0
  refine (walk a0 len0 cap0 z0 a1 a2 W w0 w1 w2 ⟨two0_1 hL, two0_2 hL, two1_2 hL⟩).mono fun e W' ⟨he, bel⟩ => ?_
  subst he
  exact ⟨_, rfl, _, _, _, [], _, [], hW', trodAll_mk1 (shut_bool Tryd.underlying4 _), (trodAll_cons_mk (Below.trod laidOut (by kernel_rfl) (of_decide_eq_true (by kernel_rfl)) k0 bel lt0) (trodAll_cons_mk (shut_int Tryd.underlying23 w1) (trodAll_cons_mk (shut_int Tryd.underlying5 w2) trodAll_mk0))), rfl, bel.frame _, fun h => by cases h⟩

def lay (cs : Array Value) : Obj → Obj
  | .cells _ t frozen => .cells cs t frozen
  | o => o
noncomputable def low : Nat := (World.holding Tryd.prog default ⟨#[], #[], []⟩).heap.size
noncomputable def laidWorld (os : Os) : World :=
  { World.holding Tryd.prog os ⟨#[.cells #[.string ⟨#[98, 101, 108, 111, 119, 32, 116, 104, 101, 32, 102, 105, 114, 115, 116, 32, 111, 110, 101]⟩] 135, .cells #[.string ⟨#[97, 98, 111, 118, 101, 32, 116, 104, 101, 32, 111, 110, 101, 32, 98, 101, 104, 105, 110, 100, 32, 116, 104, 101, 32, 108, 97, 115, 116]⟩] 135, .cells #[.string ⟨#[102, 101, 119, 101, 114, 32, 116, 104, 97, 110, 32, 110, 111, 110, 101]⟩] 135], #[], []⟩ with heap := ((((World.holding Tryd.prog os ⟨#[.cells #[.string ⟨#[98, 101, 108, 111, 119, 32, 116, 104, 101, 32, 102, 105, 114, 115, 116, 32, 111, 110, 101]⟩] 135, .cells #[.string ⟨#[97, 98, 111, 118, 101, 32, 116, 104, 101, 32, 111, 110, 101, 32, 98, 101, 104, 105, 110, 100, 32, 116, 104, 101, 32, 108, 97, 115, 116]⟩] 135, .cells #[.string ⟨#[102, 101, 119, 101, 114, 32, 116, 104, 97, 110, 32, 110, 111, 110, 101]⟩] 135], #[], []⟩).heap).modify 0 (lay #[.iface 109 (.pointer (some ⟨low, 0, none⟩))])).modify 1 (lay #[.iface 109 (.pointer (some ⟨low + 1, 0, none⟩))])).modify 2 (lay #[.iface 109 (.pointer (some ⟨low + 2, 0, none⟩))]) }
theorem laid_met (os : Os) : laidMet Tryd.prog Rows.bufferWholeRow.laid ((laidWorld os).forCall (fun _ _ => 0) ⟨#[], #[.slice none 0 0, .int .u16 0, .int .u8 0], []⟩).memory :=
  laidMet_of_run' 8 (by kernel_rfl) (by kernel_rfl)
theorem reads (os : Os) {H : Type} (enc : TypeId × Value → H) : ∃ places, DataW.whole enc Tryd.prog ((laidWorld os).forCall (fun _ _ => 0) ⟨#[], #[.slice none 0 0, .int .u16 0, .int .u8 0], []⟩).memory Tryd.f3.params.toList Rows.bufferWholeSpec.vars false (show Array Value from #[.slice none 0 0, .int .u16 0, .int .u8 0]).toList 8 = some ([.nil, .lit (.int .u16 0), .lit (.int .u8 0)], [], places) :=
  ⟨[], by kernel_rfl⟩

set_option maxRecDepth 100000 in
theorem lifted (os : Os) (started : os.Started) (H : Type) (enc : TypeId × Value → H) (F : Stop.Interp) :
    ReturnsInHanded {} Tryd.checked os 3 .any ((OpenSpec.ofChange Rows.bufferWholeSpec).preRow enc Tryd.prog Tryd.f3 Rows.bufferWholeRow.domain false Rows.bufferWholeRow.laid) (((OpenSpec.ofChange Rows.bufferWholeSpec).at F).post enc Tryd.prog Tryd.f3 false true false false) := by
  obtain ⟨places, hx⟩ := reads os enc
  refine returnsInHanded_of_row (C := Tryd.checked) (s := OpenSpec.ofChange Rows.bufferWholeSpec) own started (by kernel_rfl) Tryd.func3
    (witness_row_at (enc := enc) (C := Tryd.checked) false (laidWorld os) #[.slice none 0 0, .int .u16 0, .int .u8 0] rfl (by kernel_rfl) (by kernel_rfl) (by kernel_rfl)
      (OpenSpec.preRow_of_cond 8 hx (by kernel_rfl) (fun k hk => by cases hk) (by kernel_rfl) (laid_met os))) ?_
  intro W base args ds gs before hval hW _ _ _ hL _ _
  exact contract H enc W base args ds gs before hval hW hL

theorem said : Rows.BufferWholeSaid :=
  OpenClaim.holds_of_cond 3 Tryd.f3 rfl rfl rfl rfl rfl rfl rfl ⟨rfl, rfl, rfl, rfl, rfl⟩ rfl rfl rfl rfl rfl (by kernel_rfl) Tryd.func3 (by kernel_rfl)
    (of_decide_eq_true (by kernel_rfl)) (by unfold Func.isWrapper; first | (rw [if_pos (by decide +kernel)]; kernel_rfl) | (rw [if_neg (by decide +kernel)]; exact ⟨rfl, rfl⟩))
    (fun os started H enc _ F => by rw [OpenClaim.pre_eq_preRow]; exact lifted os started H enc F)

theorem plain (f : FuncId) (fn : Func) (hf : Tryd.pinned.checked.prog.funcNamed "deaddrop/deaddroplaw12.BufferWhole" = some f) (hfn : Tryd.pinned.checked.prog.funcs[f]? = some fn) :
    true = Tryd.pinned.checked.prog.looks [] ∧ ∀ (j : Nat) t, fn.params[j]? = some t → Tryd.pinned.checked.prog.wantsStandIn t = false := by
  obtain rfl : f = 3 := Option.some.inj ((show Tryd.prog.funcNamed "deaddrop/deaddroplaw12.BufferWhole" = some 3 by kernel_rfl).symm.trans hf) |>.symm
  obtain rfl : fn = Tryd.f3 := (Option.some.inj (Tryd.func3.symm.trans hfn)).symm
  refine ⟨by kernel_rfl, fun j t ht => ?_⟩
  have hall : (Tryd.f3.params.toList.all fun u => !Tryd.prog.wantsStandIn u) = true := by kernel_rfl
  have hm : t ∈ Tryd.f3.params.toList := by simpa using Array.mem_of_getElem? ht
  exact (show Tryd.prog.wantsStandIn t = false by simpa using List.all_eq_true.1 hall t hm)

theorem card : Rows.BufferWholeCardSaid :=
  Claim7.holds_tied_plain_at .later [] _ _ _ _ said (fun _ h => by cases h) (by kernel_rfl) (fun _ h => by cases h) bufferWhole_row_tie rfl ⟨rfl, rfl⟩ (by kernel_rfl) rfl plain (by kernel_rfl)
#print axioms card
end Go.Proofs.YtbdpckphlagijaaDoor.bufferWhole
