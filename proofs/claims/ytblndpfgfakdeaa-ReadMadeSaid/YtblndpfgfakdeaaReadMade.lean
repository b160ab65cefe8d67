/-
  Proved: whatever values of its parameters' types it is called with, deaddroplaw10.ReadMade returns true, and each argument reads behind the call as it read before.
  Conditions: none but those of the row itself.
-/
import Derived.Test.YtblndpfgfakdeaaRows
import Derived.WalkKit
import Derived.ProofKit
import Derived.OpenShut
import Derived.ShutString
import Derived.Test.YtblndpfgfakdeaaRdAll
import Derived.Test.YtblndpfgfakdeaaTold
import Derived.Deep.DeepCutAuto
import Derived.ChangeOld
import Derived.Below
namespace Go.Proofs.Ytblndpfgfakdeaa.readMade
open Go.ChangeShapes Go.WideShapes Go.ChangeAt Go.RowKit
open Go.ChangeMaps (open_string shut_string)
open Go.Proofs.Ytblndpfgfakdeaa.Mm Go.Proofs.Ytblndpfgfakdeaa.Dt Go.Proofs.Ytblndpfgfakdeaa.Td
set_option linter.unusedVariables false

theorem own : ownKnob Try.prog.godebug = none := by kernel_rfl
theorem laidOut : laidOutB Try.prog = true := by kernel_rfl
/-- What the walk is told of a slice of integers that came in. -/
def IsRow (k : IntKind) (w : World) (a : Option Addr) (len cap : Nat) (zs : List Int) : Prop :=
  (a = none ∧ len = 0 ∧ cap = 0 ∧ zs = []) ∨
  ∃ x, a = some x ∧ len ≤ cap ∧ cap ≤ maxLen ∧ zs.length = cap ∧ (∀ i, i < zs.length → w.cell? (x.add i) = some (.int k (zs.getD i 0))) ∧ ∀ n ∈ zs, (Lit.int k n).wf = true

attribute [local go_sem] Td.upon_value Td.upon_skip Td.upon_enter Td.upon_row Td.look_tmp Td.look_const Td.look_func Td.look_global
theorem gen_all {g : Grp} : ∀ {l : List St} {a : St}, Gen g a → (∀ s ∈ l, Gen g s) → Gen g (l.foldl joinS a)
  | [], _, h, _ => h
  | s :: l, a, h, hl => gen_all (l := l) (a := joinS a s) (.two _ _ h (hl s (by simp))) fun t ht => hl t (by simp [ht])
theorem gen_l {g : Grp} : ∀ s ∈ g.l, Gen g s := fun s hs => by
  unfold Grp.l at hs
  simp only [List.mem_cons, List.not_mem_nil, or_false] at hs
  rcases hs with rfl | rfl | rfl | rfl
  · exact Gen.one 0 (.inl rfl)
  · exact Gen.one 1 (.inr (.inl rfl))
  · exact Gen.one 2 (.inr (.inr (.inl rfl)))
  · exact Gen.one 3 (.inr (.inr (.inr rfl)))
theorem gen_lens {g : Grp} (h : Fine g 40) {s : St} (hs : Gen g s) : Lens s := by
  have h1 := (hs.low h).short (hs.may h (by omega))
  exact ⟨by omega, by omega⟩
theorem parts_grp {g : Grp} (h : Fine g 40) : Parts g.l ∧ ∀ k, Lens (allS (g.l.take k)) :=
  ⟨⟨fun s hs => ⟨(gen_l s hs).ss h, gen_lens h (gen_l s hs)⟩, fun i j _ => gen_lens h (gen_all .nothing fun s hs => gen_l s (List.mem_of_mem_drop (List.mem_of_mem_take hs)))⟩, fun k => gen_lens h (gen_all .nothing fun s hs => gen_l s (List.mem_of_mem_take hs))⟩
theorem texts_of {l : List Tx} {w w' : World} {e : Ending} {n : Nat} (h : Texts l w e w') (hn : l.length = n) : ∃ A c, e = .returned (.slice A n c) ∧ TL w' A n l ∧ n ≤ c ∧ w.grownBy w' none := by
  obtain ⟨A, c, h1, h2, h3, _, h5⟩ := h
  rw [hn] at h1 h2 h3
  exact ⟨A, c, h1, h2, h3, h5⟩
/-- Texts, as a slice's value. -/
def textsN (l : List Tx) (n : Nat) : Td.Spec := fun W v => ∃ A c, v = .slice A n c ∧ TL W A n l ∧ n ≤ c
theorem textsN_stays {l : List Tx} {n : Nat} : Stays (fun a b => a.grownBy b none) (textsN l n) := fun _ _ _ h ⟨A, c, e, h1, h2⟩ => ⟨A, c, e, h1.keep h, h2⟩
theorem find_gone {l : List Fc} {key : ByteArray} (h : ¬ tx key ∈ keysT l) (kind : Int) : findL l key kind = [] := by
  unfold findL
  rw [List.filter_eq_nil_iff]
  intro f hf hq
  refine h ((setT_mem _ _).2 (List.mem_map.2 ⟨f, hf, ?_⟩))
  rw [(of_decide_eq_true hq).1]
theorem items_gone {l : List Fc} {key : ByteArray} (h : ¬ tx key ∈ keysT l) (kind : Int) : itemsT l key kind = [] := by
  unfold itemsT; rw [find_gone h]; rfl
theorem count_gone {l : List Fc} {key : ByteArray} (h : ¬ tx key ∈ keysT l) : countT l key = 0 := by
  unfold countT; rw [find_gone h]; rfl

set_option maxHeartbeats 40000000 in
set_option maxRecDepth 100000 in
theorem walk (a0 : Option Addr) (len0 cap0 : Nat) (z0 : List Int) (a1 : Int) (a2 : Int) (w : World) (w0 : IsRow .u8 w a0 len0 cap0 z0) (w1 : (Lit.int .u8 a1).wf = true) (w2 : (Lit.int .u8 a2).wf = true) :
    Calls Try.prog 12 #[.slice a0 len0 cap0, .int .u8 a1, .int .u8 a2] w fun e w' => e = .returned (.bool true) ∧ Below w.heap.size w w' := by
  obtain ⟨x10, x11⟩ : 0 ≤ a1 ∧ a1 ≤ 255 := by
    have h1 : IntKind.u8.min = 0 := by decide
    have h2 : IntKind.u8.max = 255 := by decide
    simp only [Lit.wf, h1, h2, Bool.and_eq_true, decide_eq_true_eq] at w1
    exact w1
  obtain ⟨x20, x21⟩ : 0 ≤ a2 ∧ a2 ≤ 255 := by
    have h1 : IntKind.u8.min = 0 := by decide
    have h2 : IntKind.u8.max = 255 := by decide
    simp only [Lit.wf, h1, h2, Bool.and_eq_true, decide_eq_true_eq] at w2
    exact w2
  obtain ⟨hnl0, _, _⟩ := nl_of_row w0
  obtain ⟨g, hg0⟩ : ∃ g, apartK (z0.take len0) (min (len0 / 3) 40) = g := ⟨_, rfl⟩
  have hfine : Fine g 40 := by rw [← hg0]; exact (apartK_fine _ _ (Nat.min_le_right _ _)).more (Nat.min_le_right _ _)
  have HFine := Lib.hid hfine
  have HAp : Hid (∀ W, w.grownBy W none → Calls Try.prog 28 #[.slice a0 len0 cap0] W (Grps g W)) := fun W hW => by rw [← hg0]; exact apart9_any a0 len0 cap0 _ W (hnl0.keep hW)
  clear hnl0 hg0
  obtain ⟨tp, htp⟩ : ∃ tp, allS g.l = tp := ⟨_, rfl⟩
  have gen_tp : Gen g tp := by rw [← htp]; exact (all_above hfine).1
  have Hvtp : Hid (SS tp ∧ tp.seen.length ≤ 320 ∧ tp.facts.length ≤ 320) := by
    have h := (gen_tp.low hfine).short (gen_tp.may hfine (by omega))
    exact ⟨gen_tp.ss hfine, by omega, by omega⟩
  have HPl := Lib.hid (parts_grp hfine)
  have Htp := Lib.hid htp
  obtain ⟨iq, hiq⟩ : ∃ iq : Nat, a1 % 5 = (iq : Int) := ⟨(a1 % 5).toNat, by omega⟩
  have r1 : a1.tmod 5 = (iq : Int) := by rw [Int.tmod_eq_emod_of_nonneg x10, hiq]
  have r2 : IntKind.u8.wrap (iq : Int) = (iq : Int) := by rw [IntKind.wrap_u8']; omega
  obtain ⟨s, hs⟩ : ∃ s, (if iq < 4 then g.at_ (iq : Int) else tp) = s := ⟨_, rfl⟩
  have gen_s : Gen g s := by
    rw [← hs]
    split
    · rename_i h; exact .one _ (in4_nat h)
    · exact gen_tp
  have Hvs : Hid (s.seen.length ≤ 320 ∧ s.facts.length ≤ 320) := by
    have h := (gen_s.low hfine).short (gen_s.may hfine (by omega))
    exact ⟨by omega, by omega⟩
  have Hs := Lib.hid hs
  have Hr : Hid (a1.tmod 5 = (iq : Int) ∧ IntKind.u8.wrap (iq : Int) = (iq : Int)) := ⟨r1, r2⟩
  obtain ⟨rk, hrk⟩ : ∃ rk, a2 % 4 = rk := ⟨_, rfl⟩
  obtain ⟨kX, hkX⟩ : ∃ kX, 107 + rk = kX := ⟨_, rfl⟩
  have Hkw : Hid (a2.tmod 4 = rk ∧ IntKind.u8.wrap rk = rk ∧ IntKind.u8.wrap (107 + rk) = kX ∧ 0 ≤ kX ∧ kX < 256) := by
    refine ⟨by rw [Int.tmod_eq_emod_of_nonneg x20, hrk], ?_, ?_, by omega, by omega⟩
    · rw [IntKind.wrap_u8']; omega
    · rw [IntKind.wrap_u8']; omega
  clear hrk hkX
  clear htp hs gen_tp gen_s hfine x10 x11 x20 x21 w0 w1 w2 hiq r1 r2
  go_enter Try.func12, Try.ntmps12
  go_upto_region 2 with (first
    | (go_at_call 28; refine (HAp.out w (gb_refl _ _)).mono ?_; rintro e w1 ⟨gl, rfl, hgr, hgl, g1⟩; have HG1 := Lib.hid g1; have HGr := Lib.hid hgr; clear hgl g1 hgr)
    | (go_at_call 33; refine (refAll_any (some ⟨gl, 0, none⟩) 4 4 g.l w1 HGr.out.al HPl.out.1.1 (fun k _ => HPl.out.2 k) (by omega)).mono ?_; rw [Htp.out]; rintro e w2 ⟨A4, n4, c4, B4, m4, d4, rfl, hs4, hc4, hd4, g2⟩; have Hs4 := Lib.hid hs4; have HG1b := Lib.hid (gb_none HG1.out g2); clear hs4 hc4 hd4 g2))
  obtain ⟨bj, hbj⟩ : ∃ bj, w2.heap.size = bj := ⟨_, rfl⟩
  rw [hbj]
  refine Td.named (fun W => w.grownBy W none ∧ Row W bj 26 #[.slice A4 n4 c4, .slice B4 m4 d4] ∧ SL W A4 n4 B4 m4 tp ∧ w.heap.size ≤ bj) ⟨gb_alloc HG1b.out _, by rw [← hbj]; exact Row.new _ _ _, Hs4.out.keep (gb_alloc (gb_refl _ _) _), by rw [← hbj]; exact HG1b.out.size⟩ ?_
  rintro W1 ⟨hg1, hrow1, hs1, hbw⟩
  have HGw := Lib.hid hg1
  have HRow1 := Lib.hid hrow1
  have Hs1 := Lib.hid hs1
  have Hbw := Lib.hid hbw
  clear hbj hg1 hrow1 hs1 hbw HG1 HG1b HGr Hs4
  obtain ⟨r1, r2⟩ := Hr.out
  obtain ⟨qb, hqb⟩ : ∃ qb, decide (iq < 4) = qb := ⟨_, rfl⟩
  have hqb2 : decide ((iq : Int) < 4) = qb := by rw [← hqb]; exact decide_eq_decide.2 (by omega)
  have HQb : Hid (qb = true ↔ iq < 4) := by show _ ↔ _; rw [← hqb]; exact decide_eq_true_iff
  go_upto_if 20 with fail
  clear hqb hqb2
  go_cut [26] (fun _ wx => ∃ (A5 : Option Addr) (n5 c5 : Nat) (B5 : Option Addr) (m5 d5 : Nat), Row wx bj 26 #[.slice A5 n5 c5, .slice B5 m5 d5] ∧ SL wx A5 n5 B5 m5 s ∧ w.grownBy wx none)
  case first =>
    cases qb with
    | true =>
      have hq4 : iq < 4 := HQb.out.1 rfl
      have e3 : (iq : Int) < 4 := by omega
      have HsI : Hid (g.at_ (iq : Int) = s) := by have h := Hs.out; rw [if_pos hq4] at h; exact h
      have Hq4 := Lib.hid hq4
      clear hq4
      go_wp2_with (go_at_call 28; refine (HAp.out W1 HGw.out).mono ?_; rintro e w3 ⟨gm, rfl, hgr, hgl, g3⟩; obtain ⟨A5, n5, c5, B5, m5, d5, hx1, hx2, hx3, hx4, hget⟩ := hgr.get (i := iq) Hq4.out; clear hx1 hx2 hx3 hx4; rw [HsI.out] at hget; obtain ⟨q0, q1, hsl⟩ := hget w3 (gb_refl _ _); have Hsl := Lib.hid hsl; have hrow := HRow1.out.kept g3 (by simp); have HRw := Lib.hid hrow; have f0 := hrow.free 0; have f1 := hrow.free 1; have u0 := hrow.at_ (i := 0) rfl; have u1 := hrow.at_ (i := 1) rfl; have HG3 := Lib.hid (gb_none HGw.out g3); clear hgr hgl g3 hget hsl hrow)
      have y1 := gb_set1 w3 bj 0 (.slice A5 n5 c5)
      have x1 := HRw.out.set_ 0 (.slice A5 n5 c5)
      have y2 := gb_set1 (w3.setCell ⟨bj, 0, none⟩ (.slice A5 n5 c5)) bj 1 (.slice B5 m5 d5)
      go_meet
      exact ⟨A5, n5, c5, B5, m5, d5, x1.set_ 1 (.slice B5 m5 d5), sl_beside (sl_beside Hsl.out y1 HRw.out) y2 x1, gb_new (gb_new HG3.out y1 Hbw.out) y2 Hbw.out⟩
    | false =>
      have hq4 : ¬ iq < 4 := fun h => absurd (HQb.out.2 h) (by decide)
      have HsI : Hid (tp = s) := by have h := Hs.out; rw [if_neg hq4] at h; exact h
      clear hq4
      go_wp2_with fail
      go_meet
      exact ⟨A4, n4, c4, B4, m4, d4, HRow1.out, by rw [← HsI.out]; exact Hs1.out, HGw.out⟩
  case rest =>
  obtain ⟨A5, n5, c5, B5, m5, d5, hrow5, hs5, hg5⟩ := hcut
  have HG2 := Lib.hid hg5
  have HSs : Hid (∀ W, wc.grownBy W none → W.cell? ⟨bj, 0, none⟩ = some (.slice A5 n5 c5) ∧ W.cell? ⟨bj, 1, none⟩ = some (.slice B5 m5 d5) ∧ SL W A5 n5 B5 m5 s) := fun W hW => ⟨(hrow5.kept hW (by simp)).at_ (i := 0) rfl, (hrow5.kept hW (by simp)).at_ (i := 1) rfl, hs5.keep hW⟩
  have Hnm : Hid (m5 ≤ 100000 ∧ m5 ≤ 320) := by have h1 := hs5.2.1; have := Hvs.out; exact ⟨by omega, by omega⟩
  clear hrow5 hs5 hg5 r1 r2 HRow1 Hs1 HGw Hbw HAp HPl Htp Hs Hr
  obtain ⟨kw1, kw2, kw3, kw4, kw5⟩ := Hkw.out
  have hc1 := text_b1 kw4 kw5 (Row.new wc 5 #[.int .u8 kX])
  clear kw4 kw5
  go_upto_region 5 with fail
  clear kw1 kw2 kw3 hc1
  refine Td.named (fun W' => wc.grownBy W' none) (gb_alloc (gb_refl _ _) _) ?_
  intro W3 hg3
  have HG3 := Lib.hid hg3
  obtain ⟨ky, hky⟩ : ∃ ky, b1 kX = ky := ⟨_, rfl⟩
  rw [hky]
  obtain ⟨LK, hLK⟩ : ∃ LK, keysT s.facts = LK := ⟨_, rfl⟩
  obtain ⟨LT, hLT⟩ : ∃ LT, itemsT s.facts ky 1 = LT := ⟨_, rfl⟩
  obtain ⟨LM, hLM⟩ : ∃ LM, itemsT s.facts ky 2 = LM := ⟨_, rfl⟩
  obtain ⟨CT, hCT⟩ : ∃ CT, countT s.facts ky = CT := ⟨_, rfl⟩
  obtain ⟨nK, hnK⟩ : ∃ n, LK.length = n := ⟨_, rfl⟩
  obtain ⟨nT, hnT⟩ : ∃ n, LT.length = n := ⟨_, rfl⟩
  obtain ⟨nM, hnM⟩ : ∃ n, LM.length = n := ⟨_, rfl⟩
  have hnk320 : nK ≤ 320 := by
    have h1 := keysT_len s.facts
    have := Hvs.out
    rw [hLK, hnK] at h1
    omega
  have Hnn : Hid (nK ≤ 320 ∧ nT ≤ 320 ∧ nM ≤ 320) := by
    have h2 := itemsT_len s.facts ky 1
    have h3 := itemsT_len s.facts ky 2
    have := Hvs.out
    rw [hLT, hnT] at h2
    rw [hLM, hnM] at h3
    exact ⟨hnk320, by omega, by omega⟩
  have HLK := Lib.hid hLK
  have HLT := Lib.hid hLT
  have HLM := Lib.hid hLM
  have HCt := Lib.hid hCT
  have HnK := Lib.hid hnK
  have HnT := Lib.hid hnT
  have HnM := Lib.hid hnM
  obtain ⟨z0, z1, _⟩ := HSs.out W3 HG3.out
  clear hg3 hky Hkw hLK hLT hLM hCT hnK hnT hnM
  go_wp2_with (go_at_call 40; refine (pKeys_any A5 B5 n5 c5 m5 d5 s W3 (HSs.out W3 HG3.out).2.2 Hnm.out.1).mono ?_; rw [HLK.out]; intro e w4 hh; obtain ⟨AK, cK, rfl, hK1, hK2, g4⟩ := texts_of hh HnK.out; have HtK := Lib.hid hK1; have HG4 := Lib.hid (gb_none HG3.out g4); clear hh hK1 hK2 g4)
  clear z0 z1
  go_loopw [11, 10] (fun i u wr => ∃ (k : Nat) (q : Bool), k ≤ nK ∧ i = .int .i64 k ∧ u = .bool q ∧ Hid (q = true ↔ tx ky ∈ LK.take k) ∧ w4.grownBy wr none) (fun i _ _ => nK - (intOf i).toNat)
  case atStart => exact ⟨0, false, Nat.zero_le _, rfl, rfl, by show _ ↔ _; simp, gb_refl _ _⟩
  case round =>
    obtain ⟨k, q, hk, rfl, rfl, Hq, hg⟩ := hrel
    have Hg := Lib.hid hg
    by_cases hlt : k < nK
    · have d1 : decide (k < nK) = true := decide_eq_true hlt
      have d2 : decide ((k : Int) < (nK : Int)) = true := decide_eq_true (by omega)
      have bk : (k : Int) < (nK : Int) := by omega
      have Hlt := Lib.hid hlt
      obtain ⟨gk, ok, rfl, hgl, hcc⟩ := (HtK.out.keep hg).2 (by omega)
      obtain ⟨x, hx⟩ : ∃ x, LK[k]? = some x := ⟨_, List.getElem?_eq_getElem (by rw [HnK.out]; exact hlt)⟩
      have h0 := hcc k x hx
      obtain ⟨bx, ex, tX⟩ := tx_val x
      rw [ex] at h0
      have Hx : Hid (LK.take (k + 1) = LK.take k ++ [x]) := by show _ = _; rw [List.take_add_one, hx]; rfl
      clear hcc hx hgl hg ex
      cases q with
      | true =>
        have Hnext : Hid (true = true ↔ tx ky ∈ LK.take (k + 1)) := by
          show _ ↔ _
          rw [Hx.out, List.mem_append]
          exact ⟨fun _ => .inl (Hq.out.1 rfl), fun _ => rfl⟩
        clear tX
        go_wp2_with fail
        go_roundw
        case rel => exact ⟨k + 1, true, by have := Hlt.out; omega, by go_num, rfl, Hnext.out, Hg.out⟩
        case measure => simp [intOf]; have := Hlt.out; omega
      | false =>
        by_cases hxk : bx = ky
        · have t1 := str_eq hxk
          have Hnext : Hid (true = true ↔ tx ky ∈ LK.take (k + 1)) := by
            show _ ↔ _
            rw [Hx.out, List.mem_append]
            exact ⟨fun _ => .inr (by rw [← hxk, tX]; exact List.mem_singleton.2 rfl), fun _ => rfl⟩
          clear hxk tX
          go_wp2_with fail
          go_roundw
          case rel => exact ⟨k + 1, true, by have := Hlt.out; omega, by go_num, rfl, Hnext.out, Hg.out⟩
          case measure => simp [intOf]; have := Hlt.out; omega
        · have t1 := str_ne hxk
          have Hnext : Hid (false = true ↔ tx ky ∈ LK.take (k + 1)) := by
            show _ ↔ _
            rw [Hx.out, List.mem_append, List.mem_singleton]
            refine ⟨fun h => (by cases h), fun h => ?_⟩
            rcases h with h | h
            · exact Hq.out.2 h
            · exact absurd (tx_inj (tX.trans h.symm)) hxk
          clear hxk tX
          go_wp2_with fail
          go_roundw
          case rel => exact ⟨k + 1, false, by have := Hlt.out; omega, by go_num, rfl, Hnext.out, Hg.out⟩
          case measure => simp [intOf]; have := Hlt.out; omega
    · have d1 : decide (k < nK) = false := decide_eq_false hlt
      have d2 : decide ((k : Int) < (nK : Int)) = false := decide_eq_false (by omega)
      replace Hq : Hid (q = true ↔ tx ky ∈ LK) := by
        have h := Hq.out
        rwa [List.take_of_length_le (by rw [HnK.out]; omega)] at h
      have Hg6 := Lib.hid (gb_none HG4.out hg)
      replace HtK : Hid (TL wr AK nK LK) := HtK.out.keep hg
      clear hg hlt hk
      go_upto_region 11 with fail
      apply wp_region_told (le := fun a b => a.grownBy b none) [isV _, isV _, textsN LT nT, isV _, isV _, textsN LM nM, isV _, isV _, isV _, textsN LT nT, textsN LM nM, isV _]
      case hn => rfl
      case hm => kernel_rfl
      case hB => kernel_rfl
      case ht => exact fun _ _ _ h k => gb_none h k
      case hw => exact gb_drew (gb_refl _ _)
      -- 0: law.go:39 load
      apply told_is
      · intro W f hW hE h0 K hK
        have e7 := h0 7 (by kernel_rfl)
        conv at e7 => rhs; whnf
        clear hE h0
        refine yes_of (want_free rfl) ?_
        obtain ⟨z0, z1, _⟩ := HSs.out W (gb_none Hg6.out hW)
        go_simp; exact hK _ _ (gb_refl _ _) rfl
      -- 1: law.go:39 move
      apply told_is
      · intro W f hW hE h0 K hK
        have e8 := h0 8 (by kernel_rfl)
        conv at e8 => rhs; whnf
        clear hE h0
        refine yes_of (want_free rfl) ?_
        go_simp; exact hK _ _ (gb_refl _ _) rfl
      -- 2: law.go:39 call
      apply told_at textsN_stays
      · intro W f hW hE h0 K hK
        have e49 : f 49 = _ := hE 1 49 _ rfl (by kernel_rfl)
        have e50 : f 50 = _ := hE 0 50 _ rfl (by kernel_rfl)
        clear hE h0
        refine yes_of (want_free rfl) ?_
        go_simp
        refine (pTexts_any A5 B5 n5 c5 m5 d5 s ky W (HSs.out W (gb_none Hg6.out hW)).2.2 Hnm.out.1).mono ?_
        rw [HLT.out]
        intro e w1' hh; obtain ⟨A', c', rfl, h1, h2, g'⟩ := texts_of hh HnT.out
        exact ⟨_, rfl, hK _ _ g' ⟨A', c', rfl, h1, h2⟩⟩
      -- 3: law.go:39 load
      apply told_is
      · intro W f hW hE h0 K hK
        have e7 := h0 7 (by kernel_rfl)
        conv at e7 => rhs; whnf
        clear hE h0
        refine yes_of (want_free rfl) ?_
        obtain ⟨z0, z1, _⟩ := HSs.out W (gb_none Hg6.out hW)
        go_simp; exact hK _ _ (gb_refl _ _) rfl
      -- 4: law.go:39 move
      apply told_is
      · intro W f hW hE h0 K hK
        have e8 := h0 8 (by kernel_rfl)
        conv at e8 => rhs; whnf
        clear hE h0
        refine yes_of (want_free rfl) ?_
        go_simp; exact hK _ _ (gb_refl _ _) rfl
      -- 5: law.go:39 call
      apply told_at textsN_stays
      · intro W f hW hE h0 K hK
        have e52 : f 52 = _ := hE 1 52 _ rfl (by kernel_rfl)
        have e53 : f 53 = _ := hE 0 53 _ rfl (by kernel_rfl)
        clear hE h0
        refine yes_of (want_free rfl) ?_
        go_simp
        refine (pMembers_any A5 B5 n5 c5 m5 d5 s ky W (HSs.out W (gb_none Hg6.out hW)).2.2 Hnm.out.1).mono ?_
        rw [HLM.out]
        intro e w1' hh; obtain ⟨A', c', rfl, h1, h2, g'⟩ := texts_of hh HnM.out
        exact ⟨_, rfl, hK _ _ g' ⟨A', c', rfl, h1, h2⟩⟩
      -- 6: law.go:39 load
      apply told_is
      · intro W f hW hE h0 K hK
        have e7 := h0 7 (by kernel_rfl)
        conv at e7 => rhs; whnf
        clear hE h0
        refine yes_of (want_free rfl) ?_
        obtain ⟨z0, z1, _⟩ := HSs.out W (gb_none Hg6.out hW)
        go_simp; exact hK _ _ (gb_refl _ _) rfl
      -- 7: law.go:39 move
      apply told_is
      · intro W f hW hE h0 K hK
        have e8 := h0 8 (by kernel_rfl)
        conv at e8 => rhs; whnf
        clear hE h0
        refine yes_of (want_free rfl) ?_
        go_simp; exact hK _ _ (gb_refl _ _) rfl
      -- 8: law.go:39 call
      apply told_is
      · intro W f hW hE h0 K hK
        have e55 : f 55 = _ := hE 1 55 _ rfl (by kernel_rfl)
        have e56 : f 56 = _ := hE 0 56 _ rfl (by kernel_rfl)
        clear hE h0
        refine yes_of (want_free rfl) ?_
        go_simp
        refine (pCount_any A5 B5 n5 c5 m5 d5 s ky W (HSs.out W (gb_none Hg6.out hW)).2.2 Hnm.out.1).mono ?_
        rw [HCt.out]
        rintro e w1' ⟨rfl, g'⟩
        exact ⟨_, rfl, hK _ _ g' rfl⟩
      -- 9: law.go:39 assign
      apply told_at textsN_stays
      · intro W f hW hE h0 K hK
        have e51 := hE 6 51 _ rfl (by kernel_rfl)
        clear hE h0
        refine yes_of (want_free rfl) ?_
        obtain ⟨A', c', e51, h1, h2⟩ := e51
        go_simp
        exact hK _ _ (gb_refl _ _) ⟨A', c', rfl, h1, h2⟩
      -- 10: law.go:39 assign
      apply told_at textsN_stays
      · intro W f hW hE h0 K hK
        have e54 := hE 4 54 _ rfl (by kernel_rfl)
        clear hE h0
        refine yes_of (want_free rfl) ?_
        obtain ⟨A', c', e54, h1, h2⟩ := e54
        go_simp
        exact hK _ _ (gb_refl _ _) ⟨A', c', rfl, h1, h2⟩
      -- 11: law.go:39 assign
      apply told_is
      · intro W f hW hE h0 K hK
        have e57 : f 57 = _ := hE 2 57 _ rfl (by kernel_rfl)
        clear hE h0
        refine yes_of (want_free rfl) ?_
        go_simp; exact hK _ _ (gb_refl _ _) rfl
      intro W f hW hA
      simp only [lexIn, Act.put, List.setIfInBounds_toArray, List.set_cons_zero, List.set_cons_succ]
      have e12 := hA 2 (some 12) _ rfl
      obtain ⟨AT, cT, e12, hT1, hT2⟩ := e12
      rw [e12]
      have e13 := hA 1 (some 13) _ rfl
      obtain ⟨AM, cM, e13, hM1, hM2⟩ := e13
      rw [e13]
      have e14 : f 14 = _ := hA 0 (some 14) _ rfl
      rw [e14]
      clear hA
      have HtT := Lib.hid hT1
      have HtM := Lib.hid hM1
      have HG7 := Lib.hid (gb_none Hg6.out hW)
      have Hk7 := Lib.hid hW
      clear hT1 hT2 hM1 hM2 hW e12 e13 e14 d1 d2
      cases q with
      | true =>
        have t9 : True := trivial
        obtain ⟨v0, v1, _⟩ := HSs.out W HG7.out
        go_wp2_with (go_at_call 41; refine (refKeys_any A5 B5 n5 c5 m5 d5 s W (HSs.out W HG7.out).2.2 Hnm.out.1).mono ?_; rw [HLK.out]; intro e w8 hh; obtain ⟨A8, c8, rfl, h81, h82, g8⟩ := texts_of hh HnK.out; have Ht8 := Lib.hid h81; have HG8 := Lib.hid (gb_none HG7.out g8); have Hk8 := Lib.hid g8; clear hh h81 g8)
        go_wp2_with (go_at_call 39; refine (sameTexts_any AK A8 nK cK nK c8 LK LK w8 ((HtK.out.keep Hk7.out).keep Hk8.out) Ht8.out (by have := Hnn.out; omega) (by have := Hnn.out; omega)).mono ?_; intro e w9 hh; obtain ⟨he, g9⟩ := hh.yes rfl; subst he; have HG9 := Lib.hid (gb_none HG8.out g9); have Hk9 := Lib.hid (gb_none Hk8.out g9); clear hh g9; obtain ⟨v2, v3, _⟩ := HSs.out w9 HG9.out)
        go_wp2_with (go_at_call 43; refine (refItems_any A5 B5 n5 c5 m5 d5 s ky 1 w9 (HSs.out w9 HG9.out).2.2 Hnm.out.1).mono ?_; rw [HLT.out]; intro e w10 hh; obtain ⟨A10, c10, rfl, h101, h102, g10⟩ := texts_of hh HnT.out; have Ht10 := Lib.hid h101; have HG10 := Lib.hid (gb_none HG9.out g10); have Hk10 := Lib.hid (gb_none Hk9.out g10); clear hh h101 g10)
        go_wp2_with (go_at_call 39; refine (sameTexts_any AT A10 nT cT nT c10 LT LT w10 (HtT.out.keep Hk10.out) Ht10.out (by have := Hnn.out; omega) (by have := Hnn.out; omega)).mono ?_; intro e w11 hh; obtain ⟨he, g11⟩ := hh.yes rfl; subst he; have HG11 := Lib.hid (gb_none HG10.out g11); have Hk11 := Lib.hid (gb_none Hk10.out g11); clear hh g11; obtain ⟨v4, v5, _⟩ := HSs.out w11 HG11.out)
        go_wp2_with (go_at_call 43; refine (refItems_any A5 B5 n5 c5 m5 d5 s ky 2 w11 (HSs.out w11 HG11.out).2.2 Hnm.out.1).mono ?_; rw [HLM.out]; intro e w12 hh; obtain ⟨A12, c12, rfl, h121, h122, g12⟩ := texts_of hh HnM.out; have Ht12 := Lib.hid h121; have HG12 := Lib.hid (gb_none HG11.out g12); have Hk12 := Lib.hid (gb_none Hk11.out g12); clear hh h121 g12)
        go_wp2_with (go_at_call 39; refine (sameTexts_any AM A12 nM cM nM c12 LM LM w12 (HtM.out.keep Hk12.out) Ht12.out (by have := Hnn.out; omega) (by have := Hnn.out; omega)).mono ?_; intro e w13 hh; obtain ⟨he, g13⟩ := hh.yes rfl; subst he; have HG13 := Lib.hid (gb_none HG12.out g13); clear hh g13; obtain ⟨v6, v7, _⟩ := HSs.out w13 HG13.out)
        go_wp2_with (go_at_call 46; refine (refCount_any A5 B5 n5 c5 m5 d5 s ky w13 (HSs.out w13 HG13.out).2.2 Hnm.out.1).mono ?_; rw [HCt.out]; rintro e w14 ⟨rfl, g14⟩; have HG14 := Lib.hid (gb_none HG13.out g14); clear g14)
        go_wp2_with (go_at_call 38; refine (awake10_any _).mono ?_; rintro e w15 ⟨rfl, g15⟩)
        go_ret
        exact ⟨rfl, gb_below (gb_none HG2.out (gb_none HG14.out g15)) (Nat.le_refl _)⟩
      | false =>
        have hgone : ¬ tx ky ∈ keysT s.facts := by rw [HLK.out]; exact fun h => absurd (Hq.out.2 h) (by decide)
        have t1 : ((nT : Int) == 0) = true := by
          have h : LT = [] := by rw [← HLT.out]; exact items_gone hgone 1
          rw [← HnT.out, h]; rfl
        have t1n : (nT == 0) = true := by
          have h : LT = [] := by rw [← HLT.out]; exact items_gone hgone 1
          rw [← HnT.out, h]; rfl
        have t2 : ((nM : Int) == 0) = true := by
          have h : LM = [] := by rw [← HLM.out]; exact items_gone hgone 2
          rw [← HnM.out, h]; rfl
        have t2n : (nM == 0) = true := by
          have h : LM = [] := by rw [← HLM.out]; exact items_gone hgone 2
          rw [← HnM.out, h]; rfl
        have t3 : (CT == 0) = true := by
          have h : CT = 0 := by rw [← HCt.out]; exact count_gone hgone
          rw [h]; rfl
        clear hgone
        obtain ⟨v0, v1, _⟩ := HSs.out W HG7.out
        go_wp2_with (go_at_call 41; refine (refKeys_any A5 B5 n5 c5 m5 d5 s W (HSs.out W HG7.out).2.2 Hnm.out.1).mono ?_; rw [HLK.out]; intro e w8 hh; obtain ⟨A8, c8, rfl, h81, h82, g8⟩ := texts_of hh HnK.out; have Ht8 := Lib.hid h81; have HG8 := Lib.hid (gb_none HG7.out g8); have Hk8 := Lib.hid g8; clear hh h81 g8)
        go_wp2_with (go_at_call 39; refine (sameTexts_any AK A8 nK cK nK c8 LK LK w8 ((HtK.out.keep Hk7.out).keep Hk8.out) Ht8.out (by have := Hnn.out; omega) (by have := Hnn.out; omega)).mono ?_; intro e w9 hh; obtain ⟨he, g9⟩ := hh.yes rfl; subst he; have HG9 := Lib.hid (gb_none HG8.out g9); have Hk9 := Lib.hid (gb_none Hk8.out g9); clear hh g9; obtain ⟨v2, v3, _⟩ := HSs.out w9 HG9.out)
        go_wp2_with (go_at_call 43; refine (refItems_any A5 B5 n5 c5 m5 d5 s ky 1 w9 (HSs.out w9 HG9.out).2.2 Hnm.out.1).mono ?_; rw [HLT.out]; intro e w10 hh; obtain ⟨A10, c10, rfl, h101, h102, g10⟩ := texts_of hh HnT.out; have Ht10 := Lib.hid h101; have HG10 := Lib.hid (gb_none HG9.out g10); have Hk10 := Lib.hid (gb_none Hk9.out g10); clear hh h101 g10)
        go_wp2_with (go_at_call 39; refine (sameTexts_any AT A10 nT cT nT c10 LT LT w10 (HtT.out.keep Hk10.out) Ht10.out (by have := Hnn.out; omega) (by have := Hnn.out; omega)).mono ?_; intro e w11 hh; obtain ⟨he, g11⟩ := hh.yes rfl; subst he; have HG11 := Lib.hid (gb_none HG10.out g11); have Hk11 := Lib.hid (gb_none Hk10.out g11); clear hh g11; obtain ⟨v4, v5, _⟩ := HSs.out w11 HG11.out)
        go_wp2_with (go_at_call 43; refine (refItems_any A5 B5 n5 c5 m5 d5 s ky 2 w11 (HSs.out w11 HG11.out).2.2 Hnm.out.1).mono ?_; rw [HLM.out]; intro e w12 hh; obtain ⟨A12, c12, rfl, h121, h122, g12⟩ := texts_of hh HnM.out; have Ht12 := Lib.hid h121; have HG12 := Lib.hid (gb_none HG11.out g12); have Hk12 := Lib.hid (gb_none Hk11.out g12); clear hh h121 g12)
        go_wp2_with (go_at_call 39; refine (sameTexts_any AM A12 nM cM nM c12 LM LM w12 (HtM.out.keep Hk12.out) Ht12.out (by have := Hnn.out; omega) (by have := Hnn.out; omega)).mono ?_; intro e w13 hh; obtain ⟨he, g13⟩ := hh.yes rfl; subst he; have HG13 := Lib.hid (gb_none HG12.out g13); clear hh g13; obtain ⟨v6, v7, _⟩ := HSs.out w13 HG13.out)
        go_wp2_with (go_at_call 46; refine (refCount_any A5 B5 n5 c5 m5 d5 s ky w13 (HSs.out w13 HG13.out).2.2 Hnm.out.1).mono ?_; rw [HCt.out]; rintro e w14 ⟨rfl, g14⟩; have HG14 := Lib.hid (gb_none HG13.out g14); clear g14)
        go_wp2_with (go_at_call 38; refine (awake10_any _).mono ?_; rintro e w15 ⟨rfl, g15⟩)
        go_ret
        exact ⟨rfl, gb_below (gb_none HG2.out (gb_none HG14.out g15)) (Nat.le_refl _)⟩

set_option maxRecDepth 100000 in
theorem lifted (os : Os) (started : os.Started) (H : Type) (enc : TypeId × Value → H) :
    ReturnsInHanded {} Try.checked os 12 .any (Rows.readMadeSpec.pre6 enc Try.prog Try.f12 Rows.readMadeRow.domain false) (Rows.readMadeSpec.post enc Try.prog Try.f12 false true false false) := by
  refine returnsInHanded_of_change (C := Try.checked) own started (by kernel_rfl) Try.func12
    (ChangeSpec.witness6 (enc := enc) (C := Try.checked) false ⟨#[], #[.slice none 0 0, .int .u8 0, .int .u8 0], []⟩ 8 (by kernel_rfl) (by kernel_rfl) (by kernel_rfl) (by kernel_rfl)) ?_
  intro W base args ds gs before hval0 hW hcnd _
  have hval : ∀ (j : Nat) t v, Try.f12.params[j]? = some t → args[j]? = some v → Value.okWide Try.prog W .any base t v := hval0
  have hW' := hW
  obtain ⟨p, q, hA0, hV, rfl, hfz, hnd⟩ := hW
  have hA : DataW.TrodAll enc Try.prog W 0 (fun _ => true) true Try.f12.params.toList args.toList ds p := hA0
  rw [Try.params12] at hA hval
  obtain ⟨v0, vs0, d0, ds0, p0, q0, hargs, rfl, rfl, h0, r0⟩ := trodAll_cons hA
  obtain ⟨v1, vs1, d1, ds1, p1, q1, rfl, rfl, rfl, h1, r1⟩ := trodAll_cons r0
  obtain ⟨v2, vs2, d2, ds2, p2, q2, rfl, rfl, rfl, h2, r2⟩ := trodAll_cons r1
  obtain ⟨rfl, rfl, rfl⟩ := trodAll_nil r2
  obtain rfl : args = #[v0, v1, v2] := by cases args; simp_all
  obtain ⟨rfl, rfl⟩ := trodVars_none hV
  have k0 := h0
  have lt0 : ∀ x ∈ p0, x.block < W.heap.size := by obtain ⟨m, hm⟩ := k0; exact DataW.trod_lt m _ _ _ hm
  obtain ⟨a0, len0, cap0, rfl⟩ := okWide_slice Try.underlying22 (hval 0 22 v0 rfl rfl)
  obtain ⟨z0, w0⟩ : ∃ zs, IsRow .u8 W a0 len0 cap0 zs := by
    obtain ⟨fuel, hf⟩ := h0
    rcases open_ints Try.underlying22 Try.underlying5 (by kernel_rfl) hf with ⟨hcs, _⟩ | ⟨x, l, c, zs, hcs, _, hl, hm, hz, _, hcell, hwz⟩
    · simp [Value.cells] at hcs
      obtain ⟨rfl, rfl, rfl⟩ := hcs
      exact ⟨[], .inl ⟨rfl, rfl, rfl, rfl⟩⟩
    · simp [Value.cells] at hcs
      obtain ⟨rfl, rfl, rfl⟩ := hcs
      exact ⟨zs, .inr ⟨_, rfl, hl, hm, by simpa using hz, hcell, hwz⟩⟩
  obtain ⟨a1, rfl, rfl, rfl, w1⟩ := open_int Try.underlying5 (hval 1 5 v1 rfl rfl) h1
  obtain ⟨a2, rfl, rfl, rfl, w2⟩ := open_int Try.underlying5 (hval 2 5 v2 rfl rfl) h2
  clear hA0 hval0
  refine (walk a0 len0 cap0 z0 a1 a2 W w0 w1 w2).mono fun e W' ⟨he, bel⟩ => ?_
  subst he
  exact ⟨_, rfl, _, _, _, [], _, [], hW', trodAll_mk1 (shut_bool Try.underlying4 _), (trodAll_cons_mk (Below.trod laidOut (by kernel_rfl) (of_decide_eq_true (by kernel_rfl)) k0 bel lt0) (trodAll_cons_mk (shut_int Try.underlying5 w1) (trodAll_cons_mk (shut_int Try.underlying5 w2) trodAll_mk0))), rfl, bel.frame _, fun h => by cases h⟩

theorem over : Rows.readMadeRow.holds Try.pinned (OpenSpec.ofChange Rows.readMadeSpec) :=
  OpenClaim.holds_of_wide 12 Try.f12 rfl rfl rfl rfl rfl rfl rfl ⟨rfl, rfl, rfl, rfl, rfl⟩ rfl rfl rfl rfl rfl (by kernel_rfl) Try.func12 (by kernel_rfl)
    (of_decide_eq_true (by kernel_rfl)) (by unfold Func.isWrapper; first | (rw [if_pos (by decide +kernel)]; kernel_rfl) | (rw [if_neg (by decide +kernel)]; exact ⟨rfl, rfl⟩))
    (fun os started H enc _ => lifted os started H enc)

theorem proved : Rows.ReadMadeSaid := over
#print axioms proved
end Go.Proofs.Ytblndpfgfakdeaa.readMade
