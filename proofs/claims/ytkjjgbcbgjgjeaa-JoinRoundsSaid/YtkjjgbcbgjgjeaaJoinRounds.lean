/-
  Proved: whatever values of its parameters' types it is called with, deaddroplaw9.JoinRounds returns true, and each argument reads behind the call as it read before.
  Conditions: none but those of the row itself.
-/
import Derived.Test.YtkjjgbcbgjgjeaaRows
import Derived.WalkKit
import Derived.ProofKit
import Derived.OpenShut
import Derived.ShutString
import Derived.Test.YtkjjgbcbgjgjeaaJnB
import Derived.Test.YtkjjgbcbgjgjeaaTold
import Derived.Deep.DeepCutAuto
import Derived.ChangeOld
import Derived.Below
namespace Go.Proofs.Ytkjjgbcbgjgjeaa.joinRounds
open Go.ChangeShapes Go.WideShapes Go.ChangeAt Go.RowKit
open Go.ChangeMaps (open_string shut_string)
open Go.Proofs.Ytkjjgbcbgjgjeaa.Mm Go.Proofs.Ytkjjgbcbgjgjeaa.Dt Go.Proofs.Ytkjjgbcbgjgjeaa.Td
set_option linter.unusedVariables false

theorem own : ownKnob Try.prog.godebug = none := by kernel_rfl
theorem laidOut : laidOutB Try.prog = true := by kernel_rfl
/-- What the walk is told of a slice of integers that came in. -/
def IsRow (k : IntKind) (w : World) (a : Option Addr) (len cap : Nat) (zs : List Int) : Prop :=
  (a = none ∧ len = 0 ∧ cap = 0 ∧ zs = []) ∨
  ∃ x, a = some x ∧ len ≤ cap ∧ cap ≤ maxLen ∧ zs.length = cap ∧ (∀ i, i < zs.length → w.cell? (x.add i) = some (.int k (zs.getD i 0))) ∧ ∀ n ∈ zs, (Lit.int k n).wf = true

attribute [local go_sem] Td.upon_value Td.upon_skip Td.upon_enter Td.upon_row Td.look_tmp Td.look_const Td.look_func Td.look_global
theorem gen_all {g : Grp} : ∀ {l : List St} {a : St}, Gen g a → (∀ s ∈ l, Gen g s) → Gen g (l.foldl joinS a)
  | [], _, h, _ => h
  | s :: l, a, h, hl => gen_all (l := l) (a := joinS a s) (.two _ _ h (hl s (by simp))) fun t ht => hl t (by simp [ht])
theorem gen_l {g : Grp} : ∀ s ∈ g.l, Gen g s := fun s hs => by
  unfold Grp.l at hs
  simp only [List.mem_cons, List.not_mem_nil, or_false] at hs
  rcases hs with rfl | rfl | rfl | rfl
  · exact Gen.one 0 (.inl rfl)
  · exact Gen.one 1 (.inr (.inl rfl))
  · exact Gen.one 2 (.inr (.inr (.inl rfl)))
  · exact Gen.one 3 (.inr (.inr (.inr rfl)))
theorem gen_lens {g : Grp} (h : Fine g 40) {s : St} (hs : Gen g s) : Lens s := by
  have h1 := (hs.low h).short (hs.may h (by omega))
  exact ⟨by omega, by omega⟩
theorem parts_grp {g : Grp} (h : Fine g 40) : Parts g.l ∧ ∀ k, Lens (allS (g.l.take k)) :=
  ⟨⟨fun s hs => ⟨(gen_l s hs).ss h, gen_lens h (gen_l s hs)⟩, fun i j _ => gen_lens h (gen_all .nothing fun s hs => gen_l s (List.mem_of_mem_drop (List.mem_of_mem_take hs)))⟩, fun k => gen_lens h (gen_all .nothing fun s hs => gen_l s (List.mem_of_mem_take hs))⟩
/-- What is known of who is above whom, behind t steps round the ring. -/
def ringM : Nat → Nat → Nat → Bool
  | 0, i, j => i == j
  | t + 1, i, j => if j = (t + 1) % 4 then ringM t i j || ringM t i (t % 4) else ringM t i j
theorem ring_all : ∀ i, i < 4 → ∀ j, j < 4 → ringM 8 i j = true := by decide
/-- A group that came of another one by joins: each is above its own; and who else is known. -/
structure Came9 (g cur : Grp) (M : Nat → Nat → Bool) : Prop where
  gen : ∀ j : Nat, j < 4 → Gen g (cur.at_ (j : Int))
  above : ∀ i j : Nat, i < 4 → j < 4 → M i j = true → LeS (g.at_ (i : Int)) (cur.at_ (j : Int))
theorem came_start {g : Grp} (h : Fine g 40) : Came9 g g (ringM 0) := by
  refine ⟨fun j hj => .one _ (in4_nat hj), fun i j hi hj he => ?_⟩
  obtain rfl : i = j := by simpa [ringM] using he
  exact LeS.refl h (.one _ (in4_nat hi))
theorem came_join {g cur : Grp} {M N : Nat → Nat → Bool} (h : Fine g 40) (hc : Came9 g cur M) {d e : Nat} (hd : d < 4) (he : e < 4) (hN : ∀ i j, N i j = true → M i j = true ∨ (j = d ∧ M i e = true)) : Came9 g (cur.set_ (d : Int) (joinS (cur.at_ (d : Int)) (cur.at_ (e : Int)))) N := by
  have gd := hc.gen d hd
  have ge := hc.gen e he
  refine ⟨fun j hj => ?_, fun i j hi hj hn => ?_⟩
  · rw [Grp.at_set (in4_nat hd) (in4_nat hj)]
    split
    · exact .two _ _ gd ge
    · exact hc.gen j hj
  · rw [Grp.at_set (in4_nat hd) (in4_nat hj)]
    have gi : Gen g (g.at_ (i : Int)) := .one _ (in4_nat hi)
    split
    · rename_i hjd
      obtain rfl : j = d := by omega
      rcases hN i j hn with h1 | ⟨_, h1⟩
      · exact LeS.trans h gi gd (.two _ _ gd ge) (hc.above i j hi hj h1) (LeS.left h gd ge)
      · exact LeS.trans h gi ge (.two _ _ gd ge) (hc.above i e hi he h1) (LeS.right h gd ge)
    · rename_i hjd
      rcases hN i j hn with h1 | ⟨h1, _⟩
      · exact hc.above i j hi hj h1
      · exact absurd (by omega) hjd
theorem came_ring {g cur : Grp} {t : Nat} (h : Fine g 40) (hc : Came9 g cur (ringM t)) {d e : Nat} (hd : (t + 1) % 4 = d) (he : t % 4 = e) : Came9 g (cur.set_ (d : Int) (joinS (cur.at_ (d : Int)) (cur.at_ (e : Int)))) (ringM (t + 1)) := by
  refine came_join h hc (by omega) (by omega) fun i j hn => ?_
  rw [ringM] at hn
  split at hn
  · rename_i hj
    rw [Bool.or_eq_true] at hn
    rcases hn with h1 | h1
    · exact .inl h1
    · exact .inr ⟨by omega, by rw [← he]; exact h1⟩
  · exact .inl hn
theorem gr_beside {W : World} {gl : Nat} {cur : Grp} (h : GR W gl cur) {i : Nat} {A B X Y : Option Addr} {n c m d x u : Nat} {s : St} (hs : SL W X x Y u s) : SL ((W.setCell ⟨gl, i * 2, none⟩ (.slice A n c)).setCell ⟨gl, i * 2 + 1, none⟩ (.slice B m d)) X x Y u s := by
  obtain ⟨cs, hr, h8, ha⟩ := h
  have hall := GR.slices h8 ha
  refine sl_besideN (sl_besideN hs (gb_set1 _ _ _ _) hr hall) (gb_set1 _ _ _ _) (hr.set_ (i * 2) (.slice A n c)) fun j v hv => ?_
  rw [Array.getElem?_setIfInBounds] at hv
  split at hv
  · split at hv
    · exact ⟨A, n, c, (Option.some.inj hv).symm⟩
    · cases hv
  · exact hall j v hv
theorem came_top {g cur : Grp} (h : Fine g 40) (hc : Came9 g cur (ringM 8)) {j : Nat} (hj : j < 4) : cur.at_ (j : Int) = allS g.l := by
  refine top_is h (hc.gen j hj) (fun i hi => ?_) ((hc.gen j hj).under h)
  obtain ⟨n, rfl⟩ : ∃ n : Nat, i = (n : Int) := ⟨i.toNat, by unfold In4 at hi; omega⟩
  exact hc.above n j (by unfold In4 at hi; omega) hj (ring_all n (by unfold In4 at hi; omega) j hj)

set_option maxHeartbeats 40000000 in
set_option maxRecDepth 100000 in
theorem walk (a0 : Option Addr) (len0 cap0 : Nat) (z0 : List Int) (a1 : Option Addr) (len1 cap1 : Nat) (z1 : List Int) (w : World) (w0 : IsRow .u8 w a0 len0 cap0 z0) (w1 : IsRow .u8 w a1 len1 cap1 z1) :
    Calls Try.prog 10 #[.slice a0 len0 cap0, .slice a1 len1 cap1] w fun e w' => e = .returned (.bool true) ∧ Below w.heap.size w w' := by
  obtain ⟨hnl0, _, _⟩ := nl_of_row w0
  obtain ⟨g, hg0⟩ : ∃ g, apartK (z0.take len0) (min (len0 / 3) 40) = g := ⟨_, rfl⟩
  have hfine : Fine g 40 := by rw [← hg0]; exact (apartK_fine _ _ (Nat.min_le_right _ _)).more (Nat.min_le_right _ _)
  have HFine := Lib.hid hfine
  have HAp : Hid (∀ W, w.grownBy W none → Calls Try.prog 33 #[.slice a0 len0 cap0] W (Grps g W)) := fun W hW => by rw [← hg0]; exact apart9_any a0 len0 cap0 _ W (hnl0.keep hW)
  clear hnl0 hg0
  obtain ⟨hnl1, _, _⟩ := nl_of_row w1
  have Hnl1 := Lib.hid hnl1
  obtain ⟨tp, htp⟩ : ∃ tp, allS g.l = tp := ⟨_, rfl⟩
  have gen_tp : Gen g tp := by rw [← htp]; exact (all_above hfine).1
  have Hvtp : Hid (SS tp ∧ tp.seen.length ≤ 320 ∧ tp.facts.length ≤ 320) := by
    have h := (gen_tp.low hfine).short (gen_tp.may hfine (by omega))
    exact ⟨gen_tp.ss hfine, by omega, by omega⟩
  have Htp := Lib.hid htp
  have HPl := Lib.hid (parts_grp hfine)
  have Htt : Hid (joinS tp tp = tp) := gen_tp.self hfine
  have HLtt : Hid ((joinS tp tp).seen.length ≤ 100000 ∧ (joinS tp tp).facts.length ≤ 100000) := by have h := Hvtp.out; rw [Htt.out]; exact ⟨by omega, by omega⟩
  have Hcame := Lib.hid (came_start hfine)
  clear hnl1 htp gen_tp w0 w1 hfine
  go_enter Try.func10, Try.ntmps10
  by_cases h40 : 40 < len1
  · have d1 : decide (40 < len1) = true := decide_eq_true h40
    have d2 : decide ((40 : Int) < (len1 : Int)) = true := decide_eq_true (by omega)
    clear h40
    go_wp2_with (go_at_call 26; refine (awake9_any _).mono ?_; rintro e w7 ⟨rfl, g7⟩)
    go_ret
    exact ⟨rfl, gb_below g7 (Nat.le_refl _)⟩
  · have d1 : decide (40 < len1) = false := decide_eq_false h40
    have d2 : decide ((40 : Int) < (len1 : Int)) = false := decide_eq_false (by omega)
    have Hn40 : Hid (len1 ≤ 40) := by show len1 ≤ 40; omega
    clear h40
    go_upto_region 4 with (go_at_call 33; refine (HAp.out w (gb_refl _ _)).mono ?_; rintro e w1 ⟨gl, rfl, hgr, hgl, g1⟩)
    clear d1 d2
    go_upto_region 5 with (go_at_call 32; refine (refAll_any (some ⟨gl, 0, none⟩) 4 4 g.l w1 hgr.al HPl.out.1.1 (fun k _ => HPl.out.2 k) (by omega)).mono ?_; rw [Htp.out]; rintro e w3 ⟨Aw, nw, cw, Bw, mw, dw, rfl, hs, hc, hd, g3⟩)
    obtain ⟨hb, hhb⟩ : ∃ hb, w3.heap.size = hb := ⟨_, rfl⟩
    rw [hhb]
    have Hgl : Hid (w.heap.size ≤ gl) := hgl
    have Hne : Hid (some hb ≠ some gl) := fun e => by have h1 := (hgr.keep g3).lt; have h2 := Option.some.inj e; omega
    have HBw : Hid (nw ≤ 320 ∧ mw ≤ 320 ∧ nw ≤ cw ∧ mw ≤ dw) := by have h1 := hs.1.1; have h2 := hs.2.1; have := Hvtp.out; exact ⟨by omega, by omega, hc, hd⟩
    have HI : Hid _ := And.intro ((hgr.keep g3).keep (gb_alloc (gb_refl w3 none) (.cells #[.slice Aw nw cw, .slice Bw mw dw] 26))) (And.intro (Row.new w3 26 #[.slice Aw nw cw, .slice Bw mw dw]) (And.intro (hs.keep (gb_alloc (gb_refl w3 none) (.cells #[.slice Aw nw cw, .slice Bw mw dw] 26))) (gb_alloc (gb_none g1 g3) (.cells #[.slice Aw nw cw, .slice Bw mw dw] 26))))
    rw [hhb] at HI
    clear hhb hs hc hd g3 hgr hgl g1
    go_wp2_with fail
    go_loopw [7] (fun iv wr => ∃ (k : Nat) (cur : Grp), k ≤ len1 ∧ iv = .int .i64 k ∧ GR wr gl cur ∧ Hid (Came9 g cur (ringM 0)) ∧ Row wr hb 26 #[.slice Aw nw cw, .slice Bw mw dw] ∧ SL wr Aw nw Bw mw tp ∧ w.grownBy wr none) (fun iv _ => len1 - (intOf iv).toNat)
    case atStart => exact ⟨0, _, by omega, rfl, HI.out.1, Hcame.out, HI.out.2.1, HI.out.2.2.1, HI.out.2.2.2⟩
    case round =>
      clear HI
      obtain ⟨k, cur, hk, rfl, hG, hcm0, hrow, hsl, hg⟩ := hrel
      by_cases hlt : k < len1
      · have d1 : decide (k < len1) = true := decide_eq_true hlt
        have d2 : decide ((k : Int) < (len1 : Int)) = true := decide_eq_true (by omega)
        obtain ⟨x, hx⟩ : ∃ x, (z1.take len1)[k]? = some x := ⟨_, List.getElem?_eq_getElem (by rw [Hnl1.out.1]; exact hlt)⟩
        obtain ⟨gO, oO, ea, hgO, hcO⟩ := Hnl1.out.2.1 (by omega)
        obtain ⟨x0, x1⟩ := Hnl1.out.2.2 x (List.mem_of_getElem? hx)
        have hc0 := hcO k x hx
        have HCs : Hid (∀ W, wr.grownBy W none → W.cell? ⟨gO, oO + k, none⟩ = some (.int .u8 x)) := fun W hW => (World.cell?_of_block (a := ⟨gO, oO + k, none⟩) ((gb_none hg hW).block gO hgO (by simp))).trans hc0
        subst ea
        obtain ⟨dN, hdN⟩ : ∃ dN : Nat, x % 4 = (dN : Int) := ⟨(x % 4).toNat, by omega⟩
        obtain ⟨x4, hx4⟩ : ∃ x4, x / 4 = x4 := ⟨_, rfl⟩
        obtain ⟨eN, heN⟩ : ∃ eN : Nat, x4 % 4 = (eN : Int) := ⟨(x4 % 4).toNat, by omega⟩
        have hd4 : dN < 4 := by omega
        have he4 : eN < 4 := by omega
        have HBq : Hid ((k : Int) < (len1 : Int)) := by show _ < _; omega
        have Hx1 : Hid (x.tmod 4 = (dN : Int)) := by show _ = _; rw [Int.tmod_eq_emod_of_nonneg x0, hdN]
        have Hx2 : Hid (IntKind.u8.wrap (dN : Int) = (dN : Int)) := by show _ = _; rw [IntKind.wrap_u8']; omega
        have Hy1 : Hid (x.tdiv 4 = x4) := by show _ = _; rw [Int.tdiv_eq_ediv_of_nonneg x0, hx4]
        have Hy2 : Hid (IntKind.u8.wrap x4 = x4) := by show _ = _; rw [IntKind.wrap_u8']; omega
        have Hy3 : Hid (x4.tmod 4 = (eN : Int)) := by show _ = _; rw [Int.tmod_eq_emod_of_nonneg (by omega), heN]
        have Hy4 : Hid (IntKind.u8.wrap (eN : Int) = (eN : Int)) := by show _ = _; rw [IntKind.wrap_u8']; omega
        have Ht1 : Hid (IntKind.i64.wrap ((k : Int) + 1) = ((k + 1 : Nat) : Int)) := by show _ = _; rw [IntKind.wrap_i64]; have := Hn40.out; omega
        have Hlt := Lib.hid hlt
        have hcm := hcm0.out
        have Hrow := Lib.hid hrow
        have Hsl := Lib.hid hsl
        clear hrow hsl hcm0
        obtain ⟨A1, n1, cc1, B1, m1, dd1, hcd1, hmd1, hnl1, hml1, hD1⟩ := hG.get (i := dN) hd4
        obtain ⟨A4, n4, cc4, B4, m4, dd4, hcd4, hmd4, hnl4, hml4, hD4⟩ := hG.get (i := eN) he4
        have hln1 := gen_lens HFine.out (hcm.gen dN hd4)
        have hln4 := gen_lens HFine.out (hcm.gen eN he4)
        have HDd := Lib.hid hD1
        have HEe := Lib.hid hD4
        have HBd : Hid ((dN : Int) < 4 ∧ dN < 4 ∧ 0 ≤ (dN : Int)) := ⟨by omega, hd4, by omega⟩
        have HBe : Hid ((eN : Int) < 4 ∧ eN < 4 ∧ 0 ≤ (eN : Int)) := ⟨by omega, he4, by omega⟩
        have ss1 := (hcm.gen dN hd4).ss HFine.out
        have ss4 := (hcm.gen eN he4).ss HFine.out
        have HJn : Hid (∀ W, wr.grownBy W none → Calls Try.prog 28 #[.agg #[.slice A1 n1 cc1, .slice B1 m1 dd1], .agg #[.slice A4 n4 cc4, .slice B4 m4 dd4]] W (States (joinS (cur.at_ (dN : Int)) (cur.at_ (eN : Int))) W)) := fun W hW => pJoin_any A1 B1 A4 B4 n1 cc1 m1 dd1 n4 cc4 m4 dd4 _ _ W (HDd.out W hW).2.2 (HEe.out W hW).2.2 ss1 ss4 (by have := hln1.1; omega) (by have := hln1.2; omega) (by have := hln4.1; omega) (by have := hln4.2; omega) hmd1 hmd4 hcd4
        have HGR := Lib.hid hG
        have HCm := Lib.hid hcm
        have Hg := Lib.hid hg
        have HdN : Hid (dN < 4 ∧ eN < 4) := ⟨hd4, he4⟩
        clear hcd1 hmd1 hnl1 hml1 hD1 hcd4 hmd4 hnl4 hml4 hD4 hln1 hln4 ss1 ss4 hG hcm hg
        clear hk hlt hx hgO hcO hc0 x0 x1 hdN hx4 heN hd4 he4
        go_upto_region 8 with fail
        clear d1 d2
        apply wp_region_told_tail (le := fun a b => a.grownBy b none) 25 _ [isV _, isV _, isV _, isV _, isV _, isV _, isV _, isV _, isV _, isV _, isV _, isV _, isV _, isV _, isV _, isV _, isV _, isV _, isV _, isV _, isV _, isV _, isV _, stateV (joinS (cur.at_ (dN : Int)) (cur.at_ (eN : Int))), isV _]
        case hL => rfl
        case hz => rfl
        case hLd => rfl
        case hLg => rfl
        case hLw => kernel_rfl
        case hlen => rfl
        case hn => rfl
        case hm => kernel_rfl
        case hB => kernel_rfl
        case ht => exact fun _ _ _ h k => gb_none h k
        case hw => exact gb_drew (gb_refl _ _)
        -- 0: more.go:17 move
        apply told_is
        · intro W f hW hE h0 K hK
          have e5 := h0 5 (by kernel_rfl)
          conv at e5 => rhs; whnf
          clear hE h0
          refine yes_of (want_free rfl) ?_
          go_simp; exact hK _ _ (gb_refl _ _) rfl
        -- 1: more.go:17 move
        apply told_is
        · intro W f hW hE h0 K hK
          have e1 := h0 1 (by kernel_rfl)
          conv at e1 => rhs; whnf
          clear hE h0
          refine yes_of (want_free rfl) ?_
          go_simp; exact hK _ _ (gb_refl _ _) rfl
        -- 2: more.go:17 move
        apply told_is
        · intro W f hW hE h0 K hK
          have e7 := h0 7 (by kernel_rfl)
          conv at e7 => rhs; whnf
          clear hE h0
          refine yes_of (want_free rfl) ?_
          go_simp; exact hK _ _ (gb_refl _ _) rfl
        -- 3: more.go:17 indexAddr
        apply told_is
        · intro W f hW hE h0 K hK
          have e26 : f 26 = _ := hE 1 26 _ rfl (by kernel_rfl)
          have e27 : f 27 = _ := hE 0 27 _ rfl (by kernel_rfl)
          clear hE h0
          refine yes_of (want_free rfl) ?_
          have b0 := HBq.out
          go_simp; exact hK _ _ (gb_refl _ _) rfl
        -- 4: more.go:17 load
        apply told_is
        · intro W f hW hE h0 K hK
          have e28 : f 28 = _ := hE 0 28 _ rfl (by kernel_rfl)
          clear hE h0
          refine yes_of (want_free rfl) ?_
          have c0 := HCs.out W hW
          go_simp; exact hK _ _ (gb_refl _ _) rfl
        -- 5: more.go:17 binOp
        apply told_is
        · intro W f hW hE h0 K hK
          have e29 : f 29 = _ := hE 0 29 _ rfl (by kernel_rfl)
          clear hE h0
          refine yes_of (want_free rfl) ?_
          have t1 := Hx1.out; have t2 := Hx2.out
          go_simp; exact hK _ _ (gb_refl _ _) rfl
        -- 6: more.go:17 move
        apply told_is
        · intro W f hW hE h0 K hK
          have e5 := h0 5 (by kernel_rfl)
          conv at e5 => rhs; whnf
          clear hE h0
          refine yes_of (want_free rfl) ?_
          go_simp; exact hK _ _ (gb_refl _ _) rfl
        -- 7: more.go:17 move
        apply told_is
        · intro W f hW hE h0 K hK
          have e1 := h0 1 (by kernel_rfl)
          conv at e1 => rhs; whnf
          clear hE h0
          refine yes_of (want_free rfl) ?_
          go_simp; exact hK _ _ (gb_refl _ _) rfl
        -- 8: more.go:17 move
        apply told_is
        · intro W f hW hE h0 K hK
          have e7 := h0 7 (by kernel_rfl)
          conv at e7 => rhs; whnf
          clear hE h0
          refine yes_of (want_free rfl) ?_
          go_simp; exact hK _ _ (gb_refl _ _) rfl
        -- 9: more.go:17 indexAddr
        apply told_is
        · intro W f hW hE h0 K hK
          have e32 : f 32 = _ := hE 1 32 _ rfl (by kernel_rfl)
          have e33 : f 33 = _ := hE 0 33 _ rfl (by kernel_rfl)
          clear hE h0
          refine yes_of (want_free rfl) ?_
          have b0 := HBq.out
          go_simp; exact hK _ _ (gb_refl _ _) rfl
        -- 10: more.go:17 load
        apply told_is
        · intro W f hW hE h0 K hK
          have e34 : f 34 = _ := hE 0 34 _ rfl (by kernel_rfl)
          clear hE h0
          refine yes_of (want_free rfl) ?_
          have c0 := HCs.out W hW
          go_simp; exact hK _ _ (gb_refl _ _) rfl
        -- 11: more.go:17 binOp
        apply told_is
        · intro W f hW hE h0 K hK
          have e35 : f 35 = _ := hE 0 35 _ rfl (by kernel_rfl)
          clear hE h0
          refine yes_of (want_free rfl) ?_
          have t1 := Hx1.out; have t2 := Hx2.out
          go_simp; exact hK _ _ (gb_refl _ _) rfl
        -- 12: more.go:17 indexAddr
        apply told_is
        · intro W f hW hE h0 K hK
          have e31 : f 31 = _ := hE 5 31 _ rfl (by kernel_rfl)
          have e36 : f 36 = _ := hE 0 36 _ rfl (by kernel_rfl)
          clear hE h0
          refine yes_of (want_free rfl) ?_
          obtain ⟨b0, b1, b2⟩ := HBd.out
          go_simp; exact hK _ _ (gb_refl _ _) rfl
        -- 13: more.go:17 load
        apply told_is
        · intro W f hW hE h0 K hK
          have e37 : f 37 = _ := hE 0 37 _ rfl (by kernel_rfl)
          clear hE h0
          refine yes_of (want_free rfl) ?_
          obtain ⟨z0, z1, _⟩ := HDd.out W hW
          go_simp; exact hK _ _ (gb_refl _ _) rfl
        -- 14: more.go:17 move
        apply told_is
        · intro W f hW hE h0 K hK
          have e5 := h0 5 (by kernel_rfl)
          conv at e5 => rhs; whnf
          clear hE h0
          refine yes_of (want_free rfl) ?_
          go_simp; exact hK _ _ (gb_refl _ _) rfl
        -- 15: more.go:17 move
        apply told_is
        · intro W f hW hE h0 K hK
          have e1 := h0 1 (by kernel_rfl)
          conv at e1 => rhs; whnf
          clear hE h0
          refine yes_of (want_free rfl) ?_
          go_simp; exact hK _ _ (gb_refl _ _) rfl
        -- 16: more.go:17 move
        apply told_is
        · intro W f hW hE h0 K hK
          have e7 := h0 7 (by kernel_rfl)
          conv at e7 => rhs; whnf
          clear hE h0
          refine yes_of (want_free rfl) ?_
          go_simp; exact hK _ _ (gb_refl _ _) rfl
        -- 17: more.go:17 indexAddr
        apply told_is
        · intro W f hW hE h0 K hK
          have e40 : f 40 = _ := hE 1 40 _ rfl (by kernel_rfl)
          have e41 : f 41 = _ := hE 0 41 _ rfl (by kernel_rfl)
          clear hE h0
          refine yes_of (want_free rfl) ?_
          have b0 := HBq.out
          go_simp; exact hK _ _ (gb_refl _ _) rfl
        -- 18: more.go:17 load
        apply told_is
        · intro W f hW hE h0 K hK
          have e42 : f 42 = _ := hE 0 42 _ rfl (by kernel_rfl)
          clear hE h0
          refine yes_of (want_free rfl) ?_
          have c0 := HCs.out W hW
          go_simp; exact hK _ _ (gb_refl _ _) rfl
        -- 19: more.go:17 binOp
        apply told_is
        · intro W f hW hE h0 K hK
          have e43 : f 43 = _ := hE 0 43 _ rfl (by kernel_rfl)
          clear hE h0
          refine yes_of (want_free rfl) ?_
          have t1 := Hy1.out; have t2 := Hy2.out
          go_simp; exact hK _ _ (gb_refl _ _) rfl
        -- 20: more.go:17 binOp
        apply told_is
        · intro W f hW hE h0 K hK
          have e44 : f 44 = _ := hE 0 44 _ rfl (by kernel_rfl)
          clear hE h0
          refine yes_of (want_free rfl) ?_
          have t1 := Hy3.out; have t2 := Hy4.out
          go_simp; exact hK _ _ (gb_refl _ _) rfl
        -- 21: more.go:17 indexAddr
        apply told_is
        · intro W f hW hE h0 K hK
          have e39 : f 39 = _ := hE 6 39 _ rfl (by kernel_rfl)
          have e45 : f 45 = _ := hE 0 45 _ rfl (by kernel_rfl)
          clear hE h0
          refine yes_of (want_free rfl) ?_
          obtain ⟨b0, b1, b2⟩ := HBe.out
          go_simp; exact hK _ _ (gb_refl _ _) rfl
        -- 22: more.go:17 load
        apply told_is
        · intro W f hW hE h0 K hK
          have e46 : f 46 = _ := hE 0 46 _ rfl (by kernel_rfl)
          clear hE h0
          refine yes_of (want_free rfl) ?_
          obtain ⟨z0, z1, _⟩ := HEe.out W hW
          go_simp; exact hK _ _ (gb_refl _ _) rfl
        -- 23: more.go:17 call
        apply told_at stateV_stays
        · intro W f hW hE h0 K hK
          have e38 : f 38 = _ := hE 9 38 _ rfl (by kernel_rfl)
          have e47 : f 47 = _ := hE 0 47 _ rfl (by kernel_rfl)
          clear hE h0
          refine yes_of (want_free rfl) ?_
          go_simp
          refine (HJn.out W hW).mono ?_
          rintro e w1' ⟨A2, n2, c2, B2, m2, d2, rfl, h1, h2, h3, g'⟩
          exact ⟨_, rfl, hK _ _ g' ⟨A2, n2, c2, B2, m2, d2, rfl, h1, h2, h3⟩⟩
        -- 24: more.go:17 indexAddr
        apply told_is
        · intro W f hW hE h0 K hK
          have e25 : f 25 = _ := hE 23 25 _ rfl (by kernel_rfl)
          have e30 : f 30 = _ := hE 18 30 _ rfl (by kernel_rfl)
          clear hE h0
          refine yes_of (want_free rfl) ?_
          obtain ⟨b0, b1, b2⟩ := HBd.out
          go_simp; exact hK _ _ (gb_refl _ _) rfl
        intro W f hW hA
        simp only [lexIn, Act.put, List.setIfInBounds_toArray, List.set_cons_zero, List.set_cons_succ]
        have e48 := hA 1 (some 48) _ rfl
        have e49 : f 49 = _ := hA 0 (some 49) _ rfl
        rw [e49]
        clear hA
        obtain ⟨A3, n3, c3, B3, m3, d3, e48, hs3, hc3, hd3⟩ := e48
        rw [e48]
        have HGw : Hid (GR W gl cur) := HGR.out.keep hW
        obtain ⟨z0, z1, _⟩ := HDd.out W hW
        have q0 := HGw.out.free (dN * 2)
        have q1 := HGw.out.free (dN * 2 + 1)
        have HP : Hid (GR ((W.setCell ⟨gl, dN * 2, none⟩ (.slice A3 n3 c3)).setCell ⟨gl, dN * 2 + 1, none⟩ (.slice B3 m3 d3)) gl (cur.set_ (dN : Int) (joinS (cur.at_ (dN : Int)) (cur.at_ (eN : Int))))) := HGw.out.put HdN.out.1 hs3 hc3 hd3
        have Hgn : Hid (w.grownBy ((W.setCell ⟨gl, dN * 2, none⟩ (.slice A3 n3 c3)).setCell ⟨gl, dN * 2 + 1, none⟩ (.slice B3 m3 d3)) none) := gb_new (gb_none Hg.out hW) (GR.grown _ _ _ _ _) Hgl.out
        have Hrn : Hid (Row ((W.setCell ⟨gl, dN * 2, none⟩ (.slice A3 n3 c3)).setCell ⟨gl, dN * 2 + 1, none⟩ (.slice B3 m3 d3)) hb 26 #[.slice Aw nw cw, .slice Bw mw dw]) := (Hrow.out.kept hW (by simp)).kept (GR.grown _ _ _ _ _) Hne.out
        have Hsn : Hid (SL ((W.setCell ⟨gl, dN * 2, none⟩ (.slice A3 n3 c3)).setCell ⟨gl, dN * 2 + 1, none⟩ (.slice B3 m3 d3)) Aw nw Bw mw tp) := gr_beside HGw.out (Hsl.out.keep hW)
        have Hcn : Hid _ := came_join (N := ringM 0) HFine.out HCm.out HdN.out.1 HdN.out.2 (fun i j h => .inl h)
        clear hs3 hc3 hd3 hW
        rw [ends_is]
        go_simp
        clear q0 q1 z0 z1
        have t1 := Ht1.out
        go_wp2_with fail
        go_roundw
        case rel => exact ⟨k + 1, _, by have := Hlt.out; omega, rfl, HP.out, Hcn.out, Hrn.out, Hsn.out, Hgn.out⟩
        case measure => simp [intOf]; have := Hlt.out; omega
      · have hkn : k = len1 := by omega
        subst hkn
        have d1 : decide (k < k) = false := by simp
        have d2 : decide ((k : Int) < (k : Int)) = false := by simp
        have HI : Hid _ := And.intro hG (And.intro hcm0.out (And.intro hrow (And.intro hsl hg)))
        clear hk hlt hG hcm0 hrow hsl hg
        go_wp2_with fail
        clear d1 d2
        go_loopw [8] (fun kv wr => ∃ (kk : Nat) (cur : Grp), kk ≤ 2 ∧ kv = .int .i64 kk ∧ GR wr gl cur ∧ Hid (Came9 g cur (ringM (4 * kk))) ∧ Row wr hb 26 #[.slice Aw nw cw, .slice Bw mw dw] ∧ SL wr Aw nw Bw mw tp ∧ w.grownBy wr none) (fun kv _ => 2 - (intOf kv).toNat)
        case atStart => exact ⟨0, _, by omega, rfl, HI.out.1, HI.out.2.1, HI.out.2.2.1, HI.out.2.2.2.1, HI.out.2.2.2.2⟩
        case round =>
          clear HI
          obtain ⟨kk, cur, hkk, rfl, hG, hcm0, hrow, hsl, hg⟩ := hrel
          by_cases hk2 : kk < 2
          · have d1 : decide (kk < 2) = true := decide_eq_true hk2
            have d2 : decide ((kk : Int) < 2) = true := decide_eq_true (by omega)
            have HI : Hid _ := And.intro hG (And.intro hcm0.out (And.intro hrow (And.intro hsl hg)))
            have Hk2 := Lib.hid hk2
            clear hkk hk2 hG hcm0 hrow hsl hg
            go_wp2_with fail
            clear d1 d2
            go_loopw [9] (fun iv wr => ∃ (ii : Nat) (cur : Grp), ii ≤ 4 ∧ iv = .int .i64 ii ∧ GR wr gl cur ∧ Hid (Came9 g cur (ringM (4 * kk + ii))) ∧ Row wr hb 26 #[.slice Aw nw cw, .slice Bw mw dw] ∧ SL wr Aw nw Bw mw tp ∧ w.grownBy wr none) (fun iv _ => 4 - (intOf iv).toNat)
            case atStart => exact ⟨0, _, by omega, rfl, HI.out.1, HI.out.2.1, HI.out.2.2.1, HI.out.2.2.2.1, HI.out.2.2.2.2⟩
            case round =>
              clear HI
              obtain ⟨ii, cur, hii, rfl, hG, hcm0, hrow, hsl, hg⟩ := hrel
              by_cases hi4 : ii < 4
              · have d1 : decide (ii < 4) = true := decide_eq_true hi4
                have d2 : decide ((ii : Int) < 4) = true := decide_eq_true (by omega)
                obtain ⟨dN, hdN⟩ : ∃ dN : Nat, (ii + 1) % 4 = dN := ⟨_, rfl⟩
                obtain ⟨eN, heN⟩ : ∃ eN : Nat, ii = eN := ⟨_, rfl⟩
                have hd4 : dN < 4 := by omega
                have he4 : eN < 4 := by omega
                have Hx1 : Hid (IntKind.i64.wrap ((eN : Int) + 1) = ((eN + 1 : Nat) : Int)) := by show _ = _; rw [IntKind.wrap_i64]; omega
                have Hx2 : Hid (((eN : Int) + 1).tmod 4 = (dN : Int) ∧ IntKind.i64.wrap (dN : Int) = (dN : Int)) := by refine ⟨?_, ?_⟩; rw [Int.tmod_eq_emod_of_nonneg (by omega)]; omega; rw [IntKind.wrap_i64]; omega
                have Ht1 : Hid (IntKind.i64.wrap ((eN : Int) + 1) = ((eN + 1 : Nat) : Int)) := Hx1.out
                have Hmod : Hid ((4 * kk + eN + 1) % 4 = dN ∧ (4 * kk + eN) % 4 = eN) := ⟨by omega, by omega⟩
                subst heN
                have Hi4 := Lib.hid hi4
                have hcm := hcm0.out
                have Hrow := Lib.hid hrow
                have Hsl := Lib.hid hsl
                clear hrow hsl hcm0
                obtain ⟨A1, n1, cc1, B1, m1, dd1, hcd1, hmd1, hnl1, hml1, hD1⟩ := hG.get (i := dN) hd4
                obtain ⟨A4, n4, cc4, B4, m4, dd4, hcd4, hmd4, hnl4, hml4, hD4⟩ := hG.get (i := ii) he4
                have hln1 := gen_lens HFine.out (hcm.gen dN hd4)
                have hln4 := gen_lens HFine.out (hcm.gen ii he4)
                have HDd := Lib.hid hD1
                have HEe := Lib.hid hD4
                have HBd : Hid ((dN : Int) < 4 ∧ dN < 4 ∧ 0 ≤ (dN : Int)) := ⟨by omega, hd4, by omega⟩
                have HBe : Hid ((ii : Int) < 4 ∧ ii < 4 ∧ 0 ≤ (ii : Int)) := ⟨by omega, he4, by omega⟩
                have ss1 := (hcm.gen dN hd4).ss HFine.out
                have ss4 := (hcm.gen ii he4).ss HFine.out
                have HJn : Hid (∀ W, wr.grownBy W none → Calls Try.prog 28 #[.agg #[.slice A1 n1 cc1, .slice B1 m1 dd1], .agg #[.slice A4 n4 cc4, .slice B4 m4 dd4]] W (States (joinS (cur.at_ (dN : Int)) (cur.at_ (ii : Int))) W)) := fun W hW => pJoin_any A1 B1 A4 B4 n1 cc1 m1 dd1 n4 cc4 m4 dd4 _ _ W (HDd.out W hW).2.2 (HEe.out W hW).2.2 ss1 ss4 (by have := hln1.1; omega) (by have := hln1.2; omega) (by have := hln4.1; omega) (by have := hln4.2; omega) hmd1 hmd4 hcd4
                have HGR := Lib.hid hG
                have HCm := Lib.hid hcm
                have Hg := Lib.hid hg
                have HdN : Hid (dN < 4 ∧ ii < 4) := ⟨hd4, he4⟩
                clear hcd1 hmd1 hnl1 hml1 hD1 hcd4 hmd4 hnl4 hml4 hD4 hln1 hln4 ss1 ss4 hG hcm hg
                clear hii hi4 hdN hd4 he4
                go_upto_region 15 with fail
                clear d1 d2
                apply wp_region_told_tail (le := fun a b => a.grownBy b none) 16 _ [isV _, isV _, isV _, isV _, isV _, isV _, isV _, isV _, isV _, isV _, isV _, isV _, isV _, isV _, stateV (joinS (cur.at_ (dN : Int)) (cur.at_ (ii : Int))), isV _]
                case hL => rfl
                case hz => rfl
                case hLd => rfl
                case hLg => rfl
                case hLw => kernel_rfl
                case hlen => rfl
                case hn => rfl
                case hm => kernel_rfl
                case hB => kernel_rfl
                case ht => exact fun _ _ _ h k => gb_none h k
                case hw => exact gb_drew (gb_refl _ _)
                -- 0: more.go:21 move
                apply told_is
                · intro W f hW hE h0 K hK
                  have e5 := h0 5 (by kernel_rfl)
                  conv at e5 => rhs; whnf
                  clear hE h0
                  refine yes_of (want_free rfl) ?_
                  go_simp; exact hK _ _ (gb_refl _ _) rfl
                -- 1: more.go:21 move
                apply told_is
                · intro W f hW hE h0 K hK
                  have e9 := h0 9 (by kernel_rfl)
                  conv at e9 => rhs; whnf
                  clear hE h0
                  refine yes_of (want_free rfl) ?_
                  go_simp; exact hK _ _ (gb_refl _ _) rfl
                -- 2: more.go:21 binOp
                apply told_is
                · intro W f hW hE h0 K hK
                  have e59 : f 59 = _ := hE 0 59 _ rfl (by kernel_rfl)
                  clear hE h0
                  refine yes_of (want_free rfl) ?_
                  have t1 := Hx1.out
                  go_simp; exact hK _ _ (gb_refl _ _) rfl
                -- 3: more.go:21 binOp
                apply told_is
                · intro W f hW hE h0 K hK
                  have e60 : f 60 = _ := hE 0 60 _ rfl (by kernel_rfl)
                  clear hE h0
                  refine yes_of (want_free rfl) ?_
                  obtain ⟨t1, t2⟩ := Hx2.out
                  go_simp; exact hK _ _ (gb_refl _ _) rfl
                -- 4: more.go:21 move
                apply told_is
                · intro W f hW hE h0 K hK
                  have e5 := h0 5 (by kernel_rfl)
                  conv at e5 => rhs; whnf
                  clear hE h0
                  refine yes_of (want_free rfl) ?_
                  go_simp; exact hK _ _ (gb_refl _ _) rfl
                -- 5: more.go:21 move
                apply told_is
                · intro W f hW hE h0 K hK
                  have e9 := h0 9 (by kernel_rfl)
                  conv at e9 => rhs; whnf
                  clear hE h0
                  refine yes_of (want_free rfl) ?_
                  go_simp; exact hK _ _ (gb_refl _ _) rfl
                -- 6: more.go:21 binOp
                apply told_is
                · intro W f hW hE h0 K hK
                  have e63 : f 63 = _ := hE 0 63 _ rfl (by kernel_rfl)
                  clear hE h0
                  refine yes_of (want_free rfl) ?_
                  have t1 := Hx1.out
                  go_simp; exact hK _ _ (gb_refl _ _) rfl
                -- 7: more.go:21 binOp
                apply told_is
                · intro W f hW hE h0 K hK
                  have e64 : f 64 = _ := hE 0 64 _ rfl (by kernel_rfl)
                  clear hE h0
                  refine yes_of (want_free rfl) ?_
                  obtain ⟨t1, t2⟩ := Hx2.out
                  go_simp; exact hK _ _ (gb_refl _ _) rfl
                -- 8: more.go:21 indexAddr
                apply told_is
                · intro W f hW hE h0 K hK
                  have e62 : f 62 = _ := hE 3 62 _ rfl (by kernel_rfl)
                  have e65 : f 65 = _ := hE 0 65 _ rfl (by kernel_rfl)
                  clear hE h0
                  refine yes_of (want_free rfl) ?_
                  obtain ⟨b0, b1, b2⟩ := HBd.out
                  go_simp; exact hK _ _ (gb_refl _ _) rfl
                -- 9: more.go:21 load
                apply told_is
                · intro W f hW hE h0 K hK
                  have e66 : f 66 = _ := hE 0 66 _ rfl (by kernel_rfl)
                  clear hE h0
                  refine yes_of (want_free rfl) ?_
                  obtain ⟨z0, z1, _⟩ := HDd.out W hW
                  go_simp; exact hK _ _ (gb_refl _ _) rfl
                -- 10: more.go:21 move
                apply told_is
                · intro W f hW hE h0 K hK
                  have e5 := h0 5 (by kernel_rfl)
                  conv at e5 => rhs; whnf
                  clear hE h0
                  refine yes_of (want_free rfl) ?_
                  go_simp; exact hK _ _ (gb_refl _ _) rfl
                -- 11: more.go:21 move
                apply told_is
                · intro W f hW hE h0 K hK
                  have e9 := h0 9 (by kernel_rfl)
                  conv at e9 => rhs; whnf
                  clear hE h0
                  refine yes_of (want_free rfl) ?_
                  go_simp; exact hK _ _ (gb_refl _ _) rfl
                -- 12: more.go:21 indexAddr
                apply told_is
                · intro W f hW hE h0 K hK
                  have e68 : f 68 = _ := hE 1 68 _ rfl (by kernel_rfl)
                  have e69 : f 69 = _ := hE 0 69 _ rfl (by kernel_rfl)
                  clear hE h0
                  refine yes_of (want_free rfl) ?_
                  obtain ⟨b0, b1, b2⟩ := HBe.out
                  go_simp; exact hK _ _ (gb_refl _ _) rfl
                -- 13: more.go:21 load
                apply told_is
                · intro W f hW hE h0 K hK
                  have e70 : f 70 = _ := hE 0 70 _ rfl (by kernel_rfl)
                  clear hE h0
                  refine yes_of (want_free rfl) ?_
                  obtain ⟨z0, z1, _⟩ := HEe.out W hW
                  go_simp; exact hK _ _ (gb_refl _ _) rfl
                -- 14: more.go:21 call
                apply told_at stateV_stays
                · intro W f hW hE h0 K hK
                  have e67 : f 67 = _ := hE 4 67 _ rfl (by kernel_rfl)
                  have e71 : f 71 = _ := hE 0 71 _ rfl (by kernel_rfl)
                  clear hE h0
                  refine yes_of (want_free rfl) ?_
                  go_simp
                  refine (HJn.out W hW).mono ?_
                  rintro e w1' ⟨A2, n2, c2, B2, m2, d2, rfl, h1, h2, h3, g'⟩
                  exact ⟨_, rfl, hK _ _ g' ⟨A2, n2, c2, B2, m2, d2, rfl, h1, h2, h3⟩⟩
                -- 15: more.go:21 indexAddr
                apply told_is
                · intro W f hW hE h0 K hK
                  have e58 : f 58 = _ := hE 14 58 _ rfl (by kernel_rfl)
                  have e61 : f 61 = _ := hE 11 61 _ rfl (by kernel_rfl)
                  clear hE h0
                  refine yes_of (want_free rfl) ?_
                  obtain ⟨b0, b1, b2⟩ := HBd.out
                  go_simp; exact hK _ _ (gb_refl _ _) rfl
                intro W f hW hA
                simp only [lexIn, Act.put, List.setIfInBounds_toArray, List.set_cons_zero, List.set_cons_succ]
                have e72 := hA 1 (some 72) _ rfl
                have e73 : f 73 = _ := hA 0 (some 73) _ rfl
                rw [e73]
                clear hA
                obtain ⟨A3, n3, c3, B3, m3, d3, e72, hs3, hc3, hd3⟩ := e72
                rw [e72]
                have HGw : Hid (GR W gl cur) := HGR.out.keep hW
                obtain ⟨z0, z1, _⟩ := HDd.out W hW
                have q0 := HGw.out.free (dN * 2)
                have q1 := HGw.out.free (dN * 2 + 1)
                have HP : Hid (GR ((W.setCell ⟨gl, dN * 2, none⟩ (.slice A3 n3 c3)).setCell ⟨gl, dN * 2 + 1, none⟩ (.slice B3 m3 d3)) gl (cur.set_ (dN : Int) (joinS (cur.at_ (dN : Int)) (cur.at_ (ii : Int))))) := HGw.out.put HdN.out.1 hs3 hc3 hd3
                have Hgn : Hid (w.grownBy ((W.setCell ⟨gl, dN * 2, none⟩ (.slice A3 n3 c3)).setCell ⟨gl, dN * 2 + 1, none⟩ (.slice B3 m3 d3)) none) := gb_new (gb_none Hg.out hW) (GR.grown _ _ _ _ _) Hgl.out
                have Hrn : Hid (Row ((W.setCell ⟨gl, dN * 2, none⟩ (.slice A3 n3 c3)).setCell ⟨gl, dN * 2 + 1, none⟩ (.slice B3 m3 d3)) hb 26 #[.slice Aw nw cw, .slice Bw mw dw]) := (Hrow.out.kept hW (by simp)).kept (GR.grown _ _ _ _ _) Hne.out
                have Hsn : Hid (SL ((W.setCell ⟨gl, dN * 2, none⟩ (.slice A3 n3 c3)).setCell ⟨gl, dN * 2 + 1, none⟩ (.slice B3 m3 d3)) Aw nw Bw mw tp) := gr_beside HGw.out (Hsl.out.keep hW)
                have Hcn : Hid _ := came_ring (t := 4 * kk + ii) HFine.out HCm.out Hmod.out.1 Hmod.out.2
                clear hs3 hc3 hd3 hW
                rw [ends_is]
                go_simp
                clear q0 q1 z0 z1
                have t1 := Ht1.out
                go_wp2_with fail
                go_roundw
                case rel => exact ⟨ii + 1, _, by have := Hi4.out; omega, rfl, HP.out, Hcn.out, Hrn.out, Hsn.out, Hgn.out⟩
                case measure => simp [intOf]; have := Hi4.out; omega
              · have hii4 : ii = 4 := by omega
                subst hii4
                have t2 : IntKind.i64.wrap ((kk : Int) + 1) = ((kk + 1 : Nat) : Int) := by rw [IntKind.wrap_i64]; have := Hk2.out; omega
                have HI : Hid _ := And.intro hG (And.intro hcm0.out (And.intro hrow (And.intro hsl hg)))
                clear hii hi4 hG hcm0 hrow hsl hg
                go_wp2_with fail
                go_roundw
                case rel => exact ⟨kk + 1, _, by have := Hk2.out; omega, rfl, HI.out.1, HI.out.2.1, HI.out.2.2.1, HI.out.2.2.2.1, HI.out.2.2.2.2⟩
                case measure => simp [intOf]; have := Hk2.out; omega
          · have hkk2 : kk = 2 := by omega
            subst hkk2
            have HI : Hid _ := And.intro hG (And.intro hcm0.out (And.intro hrow (And.intro hsl hg)))
            have Htop : Hid (∀ j : Nat, j < 4 → cur.at_ (j : Int) = tp) := fun j hj => by rw [← Htp.out]; exact came_top HFine.out hcm0.out hj
            clear hkk hk2 hG hcm0 hrow hsl hg
            go_wp2_with fail
            go_loopw [10] (fun iv wr' => ∃ ii : Nat, ii ≤ 4 ∧ iv = .int .i64 ii ∧ wr.grownBy wr' none) (fun iv _ => 4 - (intOf iv).toNat)
            case atStart => exact ⟨0, by omega, rfl, gb_refl _ _⟩
            case round =>
              obtain ⟨dN, hii, rfl, hg⟩ := hrel
              by_cases hd4 : dN < 4
              · have d1 : decide (dN < 4) = true := decide_eq_true hd4
                have d2 : decide ((dN : Int) < 4) = true := decide_eq_true (by omega)
                have ht := Htop.out dN hd4
                obtain ⟨A1, n1, cc1, B1, m1, dd1, hcd1, hmd1, hnl1, hml1, hD1⟩ := (HI.out.1.keep hg).get (i := dN) hd4
                rw [ht] at hnl1 hml1 hD1
                have HDd := Lib.hid hD1
                have HBd : Hid ((dN : Int) < 4 ∧ dN < 4 ∧ 0 ≤ (dN : Int)) := ⟨by omega, hd4, by omega⟩
                have Hb19 : Hid (n1 ≤ 320 ∧ m1 ≤ 320 ∧ n1 ≤ cc1 ∧ m1 ≤ dd1 ∧ nw ≤ 320 ∧ mw ≤ 320 ∧ nw ≤ cw ∧ mw ≤ dw) := by have h1 := Hvtp.out; have h2 := HBw.out; exact ⟨by omega, by omega, hcd1, hmd1, h2⟩
                have Hg := Lib.hid hg
                have Hd4 := Lib.hid hd4
                have t1 : IntKind.i64.wrap ((dN : Int) + 1) = ((dN + 1 : Nat) : Int) := by rw [IntKind.wrap_i64]; omega
                have Ht1 := Lib.hid t1
                clear hii hd4 ht hcd1 hmd1 hnl1 hml1 hD1 hg t1
                go_upto_region 19 with fail
                clear d1 d2
                apply wp_region_told (le := fun a b => a.grownBy b none) [isV _, isV _, isV _, isV _, isV _, isV _, isV _, isV _, isV _, isV _, isV _, isV _, isV _, isV _, isV _, isV _, isV _, isV _, isV _, isV _, isV _, isV _, isV _, isV _, isV _]
                case hn => rfl
                case hm => kernel_rfl
                case hB => kernel_rfl
                case ht => exact fun _ _ _ h k => gb_none h k
                case hw => exact gb_drew (gb_refl _ _)
                -- 0: more.go:25 move
                apply told_is
                · intro W f hW hE h0 K hK
                  have e5 := h0 5 (by kernel_rfl)
                  conv at e5 => rhs; whnf
                  clear hE h0
                  refine yes_of (want_free rfl) ?_
                  go_simp; exact hK _ _ (gb_refl _ _) rfl
                -- 1: more.go:25 move
                apply told_is
                · intro W f hW hE h0 K hK
                  have e10 := h0 10 (by kernel_rfl)
                  conv at e10 => rhs; whnf
                  clear hE h0
                  refine yes_of (want_free rfl) ?_
                  go_simp; exact hK _ _ (gb_refl _ _) rfl
                -- 2: more.go:25 indexAddr
                apply told_is
                · intro W f hW hE h0 K hK
                  have e78 : f 78 = _ := hE 1 78 _ rfl (by kernel_rfl)
                  have e79 : f 79 = _ := hE 0 79 _ rfl (by kernel_rfl)
                  clear hE h0
                  refine yes_of (want_free rfl) ?_
                  obtain ⟨b0, b1, b2⟩ := HBd.out
                  go_simp; exact hK _ _ (gb_refl _ _) rfl
                -- 3: more.go:25 load
                apply told_is
                · intro W f hW hE h0 K hK
                  have e80 : f 80 = _ := hE 0 80 _ rfl (by kernel_rfl)
                  clear hE h0
                  refine yes_of (want_free rfl) ?_
                  obtain ⟨z0, z1, _⟩ := HDd.out W hW
                  go_simp; exact hK _ _ (gb_refl _ _) rfl
                -- 4: more.go:25 load
                apply told_is
                · intro W f hW hE h0 K hK
                  have e6 := h0 6 (by kernel_rfl)
                  conv at e6 => rhs; whnf
                  clear hE h0
                  refine yes_of (want_free rfl) ?_
                  have z0 := (HI.out.2.2.1.kept (gb_none Hg.out hW) (by simp)).at_ (i := 0) rfl
                  have z1 := (HI.out.2.2.1.kept (gb_none Hg.out hW) (by simp)).at_ (i := 1) rfl
                  go_simp; exact hK _ _ (gb_refl _ _) rfl
                -- 5: more.go:25 call
                apply told_is
                · intro W f hW hE h0 K hK
                  have e81 : f 81 = _ := hE 1 81 _ rfl (by kernel_rfl)
                  have e82 : f 82 = _ := hE 0 82 _ rfl (by kernel_rfl)
                  clear hE h0
                  refine yes_of (want_free rfl) ?_
                  go_simp
                  refine (refSameSt_any A1 B1 Aw Bw n1 cc1 m1 dd1 nw cw mw dw tp tp W (HDd.out W hW).2.2 (HI.out.2.2.2.1.keep (gb_none Hg.out hW)) (by have := Hb19.out; omega) (by have := Hb19.out; omega) (by have := Hb19.out; omega) (by have := Hb19.out; omega)).mono ?_
                  intro e w1' hh; obtain ⟨he, g'⟩ := hh.yes rfl; subst he
                  exact ⟨_, rfl, hK _ _ g' rfl⟩
                -- 6: more.go:25 unOp
                apply told_is
                · intro W f hW hE h0 K hK
                  have e83 : f 83 = _ := hE 0 83 _ rfl (by kernel_rfl)
                  clear hE h0
                  refine yes_of (want_free rfl) ?_
                  go_simp; exact hK _ _ (gb_refl _ _) rfl
                -- 7: more.go:25 move
                apply told_is
                · intro W f hW hE h0 K hK
                  have e84 : f 84 = _ := hE 0 84 _ rfl (by kernel_rfl)
                  clear hE h0
                  refine yes_of (want_free rfl) ?_
                  go_simp; exact hK _ _ (gb_refl _ _) rfl
                -- 8: more.go:25 move
                apply told_is
                · intro W f hW hE h0 K hK
                  have e5 := h0 5 (by kernel_rfl)
                  conv at e5 => rhs; whnf
                  have e85 : f 85 = _ := hE 0 85 _ rfl (by kernel_rfl)
                  clear hE h0
                  refine yes_of (want_yes rfl rfl e85) ?_
                  go_simp; exact hK _ _ (gb_refl _ _) rfl
                -- 9: more.go:25 move
                apply told_is
                · intro W f hW hE h0 K hK
                  have e10 := h0 10 (by kernel_rfl)
                  conv at e10 => rhs; whnf
                  have e85 : f 85 = _ := hE 1 85 _ rfl (by kernel_rfl)
                  clear hE h0
                  refine yes_of (want_yes rfl rfl e85) ?_
                  go_simp; exact hK _ _ (gb_refl _ _) rfl
                -- 10: more.go:25 indexAddr
                apply told_is
                · intro W f hW hE h0 K hK
                  have e86 : f 86 = _ := hE 1 86 _ rfl (by kernel_rfl)
                  have e87 : f 87 = _ := hE 0 87 _ rfl (by kernel_rfl)
                  have e85 : f 85 = _ := hE 2 85 _ rfl (by kernel_rfl)
                  clear hE h0
                  refine yes_of (want_yes rfl rfl e85) ?_
                  obtain ⟨b0, b1, b2⟩ := HBd.out
                  go_simp; exact hK _ _ (gb_refl _ _) rfl
                -- 11: more.go:25 load
                apply told_is
                · intro W f hW hE h0 K hK
                  have e88 : f 88 = _ := hE 0 88 _ rfl (by kernel_rfl)
                  have e85 : f 85 = _ := hE 3 85 _ rfl (by kernel_rfl)
                  clear hE h0
                  refine yes_of (want_yes rfl rfl e85) ?_
                  obtain ⟨z0, z1, _⟩ := HDd.out W hW
                  go_simp; exact hK _ _ (gb_refl _ _) rfl
                -- 12: more.go:25 load
                apply told_is
                · intro W f hW hE h0 K hK
                  have e6 := h0 6 (by kernel_rfl)
                  conv at e6 => rhs; whnf
                  have e85 : f 85 = _ := hE 4 85 _ rfl (by kernel_rfl)
                  clear hE h0
                  refine yes_of (want_yes rfl rfl e85) ?_
                  have z0 := (HI.out.2.2.1.kept (gb_none Hg.out hW) (by simp)).at_ (i := 0) rfl
                  have z1 := (HI.out.2.2.1.kept (gb_none Hg.out hW) (by simp)).at_ (i := 1) rfl
                  go_simp; exact hK _ _ (gb_refl _ _) rfl
                -- 13: more.go:25 call
                apply told_is
                · intro W f hW hE h0 K hK
                  have e89 : f 89 = _ := hE 1 89 _ rfl (by kernel_rfl)
                  have e90 : f 90 = _ := hE 0 90 _ rfl (by kernel_rfl)
                  have e85 : f 85 = _ := hE 5 85 _ rfl (by kernel_rfl)
                  clear hE h0
                  refine yes_of (want_yes rfl rfl e85) ?_
                  go_simp
                  refine (pLe_any A1 B1 Aw Bw n1 cc1 m1 dd1 nw cw mw dw tp tp W (HDd.out W hW).2.2 (HI.out.2.2.2.1.keep (gb_none Hg.out hW)) Hvtp.out.1 Hvtp.out.1 (by have := Hb19.out; omega) (by have := Hb19.out; omega) (by have := Hb19.out; omega) (by have := Hb19.out; omega) (by have := Hb19.out; omega) (by have := Hb19.out; omega) (by have := Hb19.out; omega) HLtt.out).mono ?_
                  intro e w1' hh; obtain ⟨he, g'⟩ := hh.yes Htt.out; subst he
                  exact ⟨_, rfl, hK _ _ g' rfl⟩
                -- 14: more.go:25 unOp
                apply told_is
                · intro W f hW hE h0 K hK
                  have e91 : f 91 = _ := hE 0 91 _ rfl (by kernel_rfl)
                  have e85 : f 85 = _ := hE 6 85 _ rfl (by kernel_rfl)
                  clear hE h0
                  refine yes_of (want_yes rfl rfl e85) ?_
                  go_simp; exact hK _ _ (gb_refl _ _) rfl
                -- 15: more.go:25 pick
                apply told_is
                · intro W f hW hE h0 K hK
                  have e85 : f 85 = _ := hE 7 85 _ rfl (by kernel_rfl)
                  have e92 : f 92 = _ := hE 0 92 _ rfl (by kernel_rfl)
                  clear hE h0
                  refine yes_of (want_free rfl) ?_
                  go_simp; exact hK _ _ (gb_refl _ _) rfl
                -- 16: more.go:25 move
                apply told_is
                · intro W f hW hE h0 K hK
                  have e93 : f 93 = _ := hE 0 93 _ rfl (by kernel_rfl)
                  clear hE h0
                  refine yes_of (want_free rfl) ?_
                  go_simp; exact hK _ _ (gb_refl _ _) rfl
                -- 17: more.go:25 load
                apply told_is
                · intro W f hW hE h0 K hK
                  have e6 := h0 6 (by kernel_rfl)
                  conv at e6 => rhs; whnf
                  have e94 : f 94 = _ := hE 0 94 _ rfl (by kernel_rfl)
                  clear hE h0
                  refine yes_of (want_yes rfl rfl e94) ?_
                  have z0 := (HI.out.2.2.1.kept (gb_none Hg.out hW) (by simp)).at_ (i := 0) rfl
                  have z1 := (HI.out.2.2.1.kept (gb_none Hg.out hW) (by simp)).at_ (i := 1) rfl
                  go_simp; exact hK _ _ (gb_refl _ _) rfl
                -- 18: more.go:25 move
                apply told_is
                · intro W f hW hE h0 K hK
                  have e5 := h0 5 (by kernel_rfl)
                  conv at e5 => rhs; whnf
                  have e94 : f 94 = _ := hE 1 94 _ rfl (by kernel_rfl)
                  clear hE h0
                  refine yes_of (want_yes rfl rfl e94) ?_
                  go_simp; exact hK _ _ (gb_refl _ _) rfl
                -- 19: more.go:25 move
                apply told_is
                · intro W f hW hE h0 K hK
                  have e10 := h0 10 (by kernel_rfl)
                  conv at e10 => rhs; whnf
                  have e94 : f 94 = _ := hE 2 94 _ rfl (by kernel_rfl)
                  clear hE h0
                  refine yes_of (want_yes rfl rfl e94) ?_
                  go_simp; exact hK _ _ (gb_refl _ _) rfl
                -- 20: more.go:25 indexAddr
                apply told_is
                · intro W f hW hE h0 K hK
                  have e96 : f 96 = _ := hE 1 96 _ rfl (by kernel_rfl)
                  have e97 : f 97 = _ := hE 0 97 _ rfl (by kernel_rfl)
                  have e94 : f 94 = _ := hE 3 94 _ rfl (by kernel_rfl)
                  clear hE h0
                  refine yes_of (want_yes rfl rfl e94) ?_
                  obtain ⟨b0, b1, b2⟩ := HBd.out
                  go_simp; exact hK _ _ (gb_refl _ _) rfl
                -- 21: more.go:25 load
                apply told_is
                · intro W f hW hE h0 K hK
                  have e98 : f 98 = _ := hE 0 98 _ rfl (by kernel_rfl)
                  have e94 : f 94 = _ := hE 4 94 _ rfl (by kernel_rfl)
                  clear hE h0
                  refine yes_of (want_yes rfl rfl e94) ?_
                  obtain ⟨z0, z1, _⟩ := HDd.out W hW
                  go_simp; exact hK _ _ (gb_refl _ _) rfl
                -- 22: more.go:25 call
                apply told_is
                · intro W f hW hE h0 K hK
                  have e95 : f 95 = _ := hE 4 95 _ rfl (by kernel_rfl)
                  have e99 : f 99 = _ := hE 0 99 _ rfl (by kernel_rfl)
                  have e94 : f 94 = _ := hE 5 94 _ rfl (by kernel_rfl)
                  clear hE h0
                  refine yes_of (want_yes rfl rfl e94) ?_
                  go_simp
                  refine (pLe_any Aw Bw A1 B1 nw cw mw dw n1 cc1 m1 dd1 tp tp W (HI.out.2.2.2.1.keep (gb_none Hg.out hW)) (HDd.out W hW).2.2 Hvtp.out.1 Hvtp.out.1 (by have := Hb19.out; omega) (by have := Hb19.out; omega) (by have := Hb19.out; omega) (by have := Hb19.out; omega) (by have := Hb19.out; omega) (by have := Hb19.out; omega) (by have := Hb19.out; omega) HLtt.out).mono ?_
                  intro e w1' hh; obtain ⟨he, g'⟩ := hh.yes Htt.out; subst he
                  exact ⟨_, rfl, hK _ _ g' rfl⟩
                -- 23: more.go:25 unOp
                apply told_is
                · intro W f hW hE h0 K hK
                  have e100 : f 100 = _ := hE 0 100 _ rfl (by kernel_rfl)
                  have e94 : f 94 = _ := hE 6 94 _ rfl (by kernel_rfl)
                  clear hE h0
                  refine yes_of (want_yes rfl rfl e94) ?_
                  go_simp; exact hK _ _ (gb_refl _ _) rfl
                -- 24: more.go:25 pick
                apply told_is
                · intro W f hW hE h0 K hK
                  have e94 : f 94 = _ := hE 7 94 _ rfl (by kernel_rfl)
                  have e101 : f 101 = _ := hE 0 101 _ rfl (by kernel_rfl)
                  clear hE h0
                  refine yes_of (want_free rfl) ?_
                  go_simp; exact hK _ _ (gb_refl _ _) rfl
                intro W f hW hA
                simp only [lexIn, Act.put, List.setIfInBounds_toArray, List.set_cons_zero, List.set_cons_succ]
                have e102 : f 102 = _ := hA 0 (some 102) _ rfl
                rw [e102]
                clear hA
                have t1 := Ht1.out
                go_wp2_with fail
                go_roundw
                case rel => exact ⟨dN + 1, by have := Hd4.out; omega, rfl, gb_none Hg.out hW⟩
                case measure => simp [intOf]; have := Hd4.out; omega
              · have hdd : dN = 4 := by omega
                subst hdd
                have Hg := Lib.hid hg
                clear hii hd4 hg
                go_wp2_with (go_at_call 26; refine (awake9_any _).mono ?_; rintro e w7 ⟨rfl, g7⟩)
                go_ret
                exact ⟨rfl, gb_below (gb_none (gb_none HI.out.2.2.2.2 Hg.out) g7) (Nat.le_refl _)⟩

set_option maxRecDepth 100000 in
theorem lifted (os : Os) (started : os.Started) (H : Type) (enc : TypeId × Value → H) :
    ReturnsInHanded {} Try.checked os 10 .any (Rows.joinRoundsSpec.pre6 enc Try.prog Try.f10 Rows.joinRoundsRow.domain false) (Rows.joinRoundsSpec.post enc Try.prog Try.f10 false true false false) := by
  refine returnsInHanded_of_change (C := Try.checked) own started (by kernel_rfl) Try.func10
    (ChangeSpec.witness6 (enc := enc) (C := Try.checked) false ⟨#[], #[.slice none 0 0, .slice none 0 0], []⟩ 8 (by kernel_rfl) (by kernel_rfl) (by kernel_rfl) (by kernel_rfl)) ?_
  intro W base args ds gs before hval0 hW hcnd _
  have hval : ∀ (j : Nat) t v, Try.f10.params[j]? = some t → args[j]? = some v → Value.okWide Try.prog W .any base t v := hval0
  have hW' := hW
  obtain ⟨p, q, hA0, hV, rfl, hfz, hnd⟩ := hW
  have hA : DataW.TrodAll enc Try.prog W 0 (fun _ => true) true Try.f10.params.toList args.toList ds p := hA0
  rw [Try.params10] at hA hval
  obtain ⟨v0, vs0, d0, ds0, p0, q0, hargs, rfl, rfl, h0, r0⟩ := trodAll_cons hA
  obtain ⟨v1, vs1, d1, ds1, p1, q1, rfl, rfl, rfl, h1, r1⟩ := trodAll_cons r0
  obtain ⟨rfl, rfl, rfl⟩ := trodAll_nil r1
  obtain rfl : args = #[v0, v1] := by cases args; simp_all
  obtain ⟨rfl, rfl⟩ := trodVars_none hV
  have k0 := h0
  have lt0 : ∀ x ∈ p0, x.block < W.heap.size := by obtain ⟨m, hm⟩ := k0; exact DataW.trod_lt m _ _ _ hm
  obtain ⟨a0, len0, cap0, rfl⟩ := okWide_slice Try.underlying22 (hval 0 22 v0 rfl rfl)
  obtain ⟨z0, w0⟩ : ∃ zs, IsRow .u8 W a0 len0 cap0 zs := by
    obtain ⟨fuel, hf⟩ := h0
    rcases open_ints Try.underlying22 Try.underlying5 (by kernel_rfl) hf with ⟨hcs, _⟩ | ⟨x, l, c, zs, hcs, _, hl, hm, hz, _, hcell, hwz⟩
    · simp [Value.cells] at hcs
      obtain ⟨rfl, rfl, rfl⟩ := hcs
      exact ⟨[], .inl ⟨rfl, rfl, rfl, rfl⟩⟩
    · simp [Value.cells] at hcs
      obtain ⟨rfl, rfl, rfl⟩ := hcs
      exact ⟨zs, .inr ⟨_, rfl, hl, hm, by simpa using hz, hcell, hwz⟩⟩
  have k1 := h1
  have lt1 : ∀ x ∈ p1, x.block < W.heap.size := by obtain ⟨m, hm⟩ := k1; exact DataW.trod_lt m _ _ _ hm
  obtain ⟨a1, len1, cap1, rfl⟩ := okWide_slice Try.underlying22 (hval 1 22 v1 rfl rfl)
  obtain ⟨z1, w1⟩ : ∃ zs, IsRow .u8 W a1 len1 cap1 zs := by
    obtain ⟨fuel, hf⟩ := h1
    rcases open_ints Try.underlying22 Try.underlying5 (by kernel_rfl) hf with ⟨hcs, _⟩ | ⟨x, l, c, zs, hcs, _, hl, hm, hz, _, hcell, hwz⟩
    · simp [Value.cells] at hcs
      obtain ⟨rfl, rfl, rfl⟩ := hcs
      exact ⟨[], .inl ⟨rfl, rfl, rfl, rfl⟩⟩
    · simp [Value.cells] at hcs
      obtain ⟨rfl, rfl, rfl⟩ := hcs
      exact ⟨zs, .inr ⟨_, rfl, hl, hm, by simpa using hz, hcell, hwz⟩⟩
  clear hA0 hval0
  refine (walk a0 len0 cap0 z0 a1 len1 cap1 z1 W w0 w1).mono fun e W' ⟨he, bel⟩ => ?_
  subst he
  exact ⟨_, rfl, _, _, _, [], _, [], hW', trodAll_mk1 (shut_bool Try.underlying4 _), (trodAll_cons_mk (Below.trod laidOut (by kernel_rfl) (of_decide_eq_true (by kernel_rfl)) k0 bel lt0) (trodAll_cons_mk (Below.trod laidOut (by kernel_rfl) (of_decide_eq_true (by kernel_rfl)) k1 bel lt1) trodAll_mk0)), rfl, bel.frame _, fun h => by cases h⟩

theorem over : Rows.joinRoundsRow.holds Try.pinned (OpenSpec.ofChange Rows.joinRoundsSpec) :=
  OpenClaim.holds_of_wide 10 Try.f10 rfl rfl rfl rfl rfl rfl rfl ⟨rfl, rfl, rfl, rfl, rfl⟩ rfl rfl rfl rfl rfl (by kernel_rfl) Try.func10 (by kernel_rfl)
    (of_decide_eq_true (by kernel_rfl)) (by unfold Func.isWrapper; first | (rw [if_pos (by decide +kernel)]; kernel_rfl) | (rw [if_neg (by decide +kernel)]; exact ⟨rfl, rfl⟩))
    (fun os started H enc _ => lifted os started H enc)

theorem proved : Rows.JoinRoundsSaid := over
#print axioms proved
end Go.Proofs.Ytkjjgbcbgjgjeaa.joinRounds
