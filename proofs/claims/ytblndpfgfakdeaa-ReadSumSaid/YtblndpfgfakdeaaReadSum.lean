/-
  Proved: whatever values of its parameters' types it is called with, deaddroplaw10.ReadSum returns true, and each argument reads behind the call as it read before.
  Conditions: none but those of the row itself.
-/
import Derived.Test.YtblndpfgfakdeaaRows
import Derived.WalkKit
import Derived.ProofKit
import Derived.OpenShut
import Derived.ShutString
import Derived.Test.YtblndpfgfakdeaaRdAll
import Derived.Test.YtblndpfgfakdeaaTold
import Derived.ChangeOld
import Derived.Below
namespace Go.Proofs.Ytblndpfgfakdeaa.readSum
open Go.ChangeShapes Go.WideShapes Go.ChangeAt Go.RowKit
open Go.ChangeMaps (open_string shut_string)
open Go.Proofs.Ytblndpfgfakdeaa.Mm Go.Proofs.Ytblndpfgfakdeaa.Dt Go.Proofs.Ytblndpfgfakdeaa.Td
set_option linter.unusedVariables false

theorem own : ownKnob Try.prog.godebug = none := by kernel_rfl
theorem laidOut : laidOutB Try.prog = true := by kernel_rfl
/-- What the walk is told of a slice of integers that came in. -/
def IsRow (k : IntKind) (w : World) (a : Option Addr) (len cap : Nat) (zs : List Int) : Prop :=
  (a = none ∧ len = 0 ∧ cap = 0 ∧ zs = []) ∨
  ∃ x, a = some x ∧ len ≤ cap ∧ cap ≤ maxLen ∧ zs.length = cap ∧ (∀ i, i < zs.length → w.cell? (x.add i) = some (.int k (zs.getD i 0))) ∧ ∀ n ∈ zs, (Lit.int k n).wf = true

attribute [local go_sem] Td.upon_value Td.upon_skip Td.upon_enter Td.upon_row Td.look_tmp Td.look_const Td.look_func Td.look_global
theorem gen_all {g : Grp} : ∀ {l : List St} {a : St}, Gen g a → (∀ s ∈ l, Gen g s) → Gen g (l.foldl joinS a)
  | [], _, h, _ => h
  | s :: l, a, h, hl => gen_all (l := l) (a := joinS a s) (.two _ _ h (hl s (by simp))) fun t ht => hl t (by simp [ht])
theorem gen_l {g : Grp} : ∀ s ∈ g.l, Gen g s := fun s hs => by
  unfold Grp.l at hs
  simp only [List.mem_cons, List.not_mem_nil, or_false] at hs
  rcases hs with rfl | rfl | rfl | rfl
  · exact Gen.one 0 (.inl rfl)
  · exact Gen.one 1 (.inr (.inl rfl))
  · exact Gen.one 2 (.inr (.inr (.inl rfl)))
  · exact Gen.one 3 (.inr (.inr (.inr rfl)))
theorem gen_lens {g : Grp} (h : Fine g 40) {s : St} (hs : Gen g s) : Lens s := by
  have h1 := (hs.low h).short (hs.may h (by omega))
  exact ⟨by omega, by omega⟩
theorem parts_grp {g : Grp} (h : Fine g 40) : Parts g.l ∧ ∀ k, Lens (allS (g.l.take k)) :=
  ⟨⟨fun s hs => ⟨(gen_l s hs).ss h, gen_lens h (gen_l s hs)⟩, fun i j _ => gen_lens h (gen_all .nothing fun s hs => gen_l s (List.mem_of_mem_drop (List.mem_of_mem_take hs)))⟩, fun k => gen_lens h (gen_all .nothing fun s hs => gen_l s (List.mem_of_mem_take hs))⟩

set_option maxHeartbeats 40000000 in
set_option maxRecDepth 100000 in
theorem walk (a0 : Option Addr) (len0 cap0 : Nat) (z0 : List Int) (a1 : Int) (w : World) (w0 : IsRow .u8 w a0 len0 cap0 z0) (w1 : (Lit.int .u8 a1).wf = true) :
    Calls Try.prog 14 #[.slice a0 len0 cap0, .int .u8 a1] w fun e w' => e = .returned (.bool true) ∧ Below w.heap.size w w' := by
  obtain ⟨x10, x11⟩ : 0 ≤ a1 ∧ a1 ≤ 255 := by
    have h1 : IntKind.u8.min = 0 := by decide
    have h2 : IntKind.u8.max = 255 := by decide
    simp only [Lit.wf, h1, h2, Bool.and_eq_true, decide_eq_true_eq] at w1
    exact w1
  obtain ⟨hnl0, _, _⟩ := nl_of_row w0
  obtain ⟨g, hg0⟩ : ∃ g, apartK (z0.take len0) (min (len0 / 3) 40) = g := ⟨_, rfl⟩
  have hfine : Fine g 40 := by rw [← hg0]; exact (apartK_fine _ _ (Nat.min_le_right _ _)).more (Nat.min_le_right _ _)
  have HFine := Lib.hid hfine
  have HAp : Hid (∀ W, w.grownBy W none → Calls Try.prog 28 #[.slice a0 len0 cap0] W (Grps g W)) := fun W hW => by rw [← hg0]; exact apart9_any a0 len0 cap0 _ W (hnl0.keep hW)
  clear hnl0 hg0
  have gen_qa : Gen g (g.at_ 1) := .one 1 (.inr (.inl rfl))
  have gen_qb : Gen g (g.at_ 2) := .one 2 (.inr (.inr (.inl rfl)))
  obtain ⟨qa, hqa⟩ : ∃ qa, g.at_ 1 = qa := ⟨_, rfl⟩
  obtain ⟨qb, hqb⟩ : ∃ qb, g.at_ 2 = qb := ⟨_, rfl⟩
  rw [hqa] at gen_qa
  rw [hqb] at gen_qb
  have gen_qa : Gen g qa := gen_qa
  have Hvqa : Hid (SS qa ∧ qa.seen.length ≤ 320 ∧ qa.facts.length ≤ 320) := by
    have h := (gen_qa.low hfine).short (gen_qa.may hfine (by omega))
    exact ⟨gen_qa.ss hfine, by omega, by omega⟩
  have gen_qb : Gen g qb := gen_qb
  have Hvqb : Hid (SS qb ∧ qb.seen.length ≤ 320 ∧ qb.facts.length ≤ 320) := by
    have h := (gen_qb.low hfine).short (gen_qb.may hfine (by omega))
    exact ⟨gen_qb.ss hfine, by omega, by omega⟩
  obtain ⟨tp, htp⟩ : ∃ tp, allS g.l = tp := ⟨_, rfl⟩
  have gen_tp : Gen g tp := by rw [← htp]; exact (all_above hfine).1
  have Hvtp : Hid (SS tp ∧ tp.seen.length ≤ 320 ∧ tp.facts.length ≤ 320) := by
    have h := (gen_tp.low hfine).short (gen_tp.may hfine (by omega))
    exact ⟨gen_tp.ss hfine, by omega, by omega⟩
  obtain ⟨jn, hjn⟩ : ∃ jn, joinS qa qb = jn := ⟨_, rfl⟩
  have gen_jn : Gen g jn := by rw [← hjn]; exact .two _ _ gen_qa gen_qb
  have Hvjn : Hid (SS jn ∧ jn.seen.length ≤ 320 ∧ jn.facts.length ≤ 320) := by
    have h := (gen_jn.low hfine).short (gen_jn.may hfine (by omega))
    exact ⟨gen_jn.ss hfine, by omega, by omega⟩
  obtain ⟨s, hs⟩ : ∃ s, joinS tp jn = s := ⟨_, rfl⟩
  have gen_s : Gen g s := by rw [← hs]; exact .two _ _ gen_tp gen_jn
  have Hvs : Hid (SS s ∧ s.seen.length ≤ 320 ∧ s.facts.length ≤ 320) := by
    have h := (gen_s.low hfine).short (gen_s.may hfine (by omega))
    exact ⟨gen_s.ss hfine, by omega, by omega⟩
  have Hself : Hid (joinS s s = s) := gen_s.self hfine
  have Htp := Lib.hid htp
  have Hjn := Lib.hid hjn
  have Hs := Lib.hid hs
  have HPl := Lib.hid (parts_grp hfine)
  obtain ⟨rk, hrk⟩ : ∃ rk, a1 % 3 = rk := ⟨_, rfl⟩
  obtain ⟨kX, hkX⟩ : ∃ kX, 107 + rk = kX := ⟨_, rfl⟩
  have Hkw : Hid (a1.tmod 3 = rk ∧ IntKind.u8.wrap rk = rk ∧ IntKind.u8.wrap (107 + rk) = kX ∧ 0 ≤ kX ∧ kX < 256) := by
    refine ⟨by rw [Int.tmod_eq_emod_of_nonneg x10, hrk], ?_, ?_, by omega, by omega⟩
    · rw [IntKind.wrap_u8']; omega
    · rw [IntKind.wrap_u8']; omega
  clear hrk hkX
  clear htp hjn hs gen_qa gen_qb gen_tp gen_jn gen_s hfine x10 x11 w0 w1
  go_enter Try.func14, Try.ntmps14
  go_upto_region 2 with (go_at_call 28; refine (HAp.out w (gb_refl _ _)).mono ?_; rintro e w1 ⟨gl, rfl, hgr, hgl, g1⟩)
  have HG1 := Lib.hid g1
  have HGr := Lib.hid hgr
  obtain ⟨Xqa, xqa, yqa, Yqa, uqa, vqa, hcqa, hdqa, hnqa, hmqa, hgetqa⟩ := hgr.get (i := 1) (by omega)
  rw [show g.at_ ((1 : Nat) : Int) = qa from hqa] at hnqa hmqa hgetqa
  have HQqa := Lib.hid hgetqa
  have HBqa : Hid (xqa ≤ 320 ∧ uqa ≤ 320) := by have := Hvqa.out; exact ⟨by omega, by omega⟩
  clear hcqa hdqa hnqa hmqa hgetqa
  obtain ⟨Xqb, xqb, yqb, Yqb, uqb, vqb, hcqb, hdqb, hnqb, hmqb, hgetqb⟩ := hgr.get (i := 2) (by omega)
  rw [show g.at_ ((2 : Nat) : Int) = qb from hqb] at hnqb hmqb hgetqb
  have HQqb := Lib.hid hgetqb
  have HBqb : Hid (xqb ≤ 320 ∧ uqb ≤ 320) := by have := Hvqb.out; exact ⟨by omega, by omega⟩
  clear hcqb hdqb hnqb hmqb hgetqb
  clear hgl g1 hgr hqa hqb
  apply wp_region_told_tail (le := fun a b => a.grownBy b none) 11 _ [isV _, stateV tp, isV _, isV _, isV _, isV _, isV _, isV _, stateV jn, stateV s, newB w1.heap.size 26 #[.slice none 0 0, .slice none 0 0]]
  case hL => rfl
  case hz => rfl
  case hLd => rfl
  case hLg => rfl
  case hLw => kernel_rfl
  case hlen => rfl
  case hn => rfl
  case hm => kernel_rfl
  case hB => kernel_rfl
  case ht => exact fun _ _ _ h k => gb_none h k
  case hw => exact gb_drew (gb_refl _ _)
  -- 0: more.go:12 move
  apply told_is
  · intro W f hW hE h0 K hK
    have e5 := h0 5 (by kernel_rfl)
    conv at e5 => rhs; whnf
    clear hE h0
    refine yes_of (want_free rfl) ?_
    go_simp; exact hK _ _ (gb_refl _ _) rfl
  -- 1: more.go:12 call
  apply told_at stateV_stays
  · intro W f hW hE h0 K hK
    have e12 : f 12 = _ := hE 0 12 _ rfl (by kernel_rfl)
    clear hE h0
    refine yes_of (want_free rfl) ?_
    go_simp
    refine (refAll_any (some ⟨gl, 0, none⟩) 4 4 g.l W (HGr.out.keep hW).al HPl.out.1.1 (fun k _ => HPl.out.2 k) (by omega)).mono ?_
    rw [Htp.out]
    rintro e w1' ⟨A2', n2', c2', B2', m2', d2', rfl, l1, l2, l3, g'⟩
    exact ⟨_, rfl, hK _ _ g' ⟨A2', n2', c2', B2', m2', d2', rfl, l1, l2, l3⟩⟩
  -- 2: more.go:12 move
  apply told_is
  · intro W f hW hE h0 K hK
    have e5 := h0 5 (by kernel_rfl)
    conv at e5 => rhs; whnf
    clear hE h0
    refine yes_of (want_free rfl) ?_
    go_simp; exact hK _ _ (gb_refl _ _) rfl
  -- 3: more.go:12 indexAddr
  apply told_is
  · intro W f hW hE h0 K hK
    have e14 : f 14 = _ := hE 0 14 _ rfl (by kernel_rfl)
    clear hE h0
    refine yes_of (want_free rfl) ?_
    go_simp; exact hK _ _ (gb_refl _ _) rfl
  -- 4: more.go:12 load
  apply told_is
  · intro W f hW hE h0 K hK
    have e15 : f 15 = _ := hE 0 15 _ rfl (by kernel_rfl)
    clear hE h0
    refine yes_of (want_free rfl) ?_
    obtain ⟨z0, z1, _⟩ := HQqa.out W hW
    go_simp; exact hK _ _ (gb_refl _ _) rfl
  -- 5: more.go:12 move
  apply told_is
  · intro W f hW hE h0 K hK
    have e5 := h0 5 (by kernel_rfl)
    conv at e5 => rhs; whnf
    clear hE h0
    refine yes_of (want_free rfl) ?_
    go_simp; exact hK _ _ (gb_refl _ _) rfl
  -- 6: more.go:12 indexAddr
  apply told_is
  · intro W f hW hE h0 K hK
    have e17 : f 17 = _ := hE 0 17 _ rfl (by kernel_rfl)
    clear hE h0
    refine yes_of (want_free rfl) ?_
    go_simp; exact hK _ _ (gb_refl _ _) rfl
  -- 7: more.go:12 load
  apply told_is
  · intro W f hW hE h0 K hK
    have e18 : f 18 = _ := hE 0 18 _ rfl (by kernel_rfl)
    clear hE h0
    refine yes_of (want_free rfl) ?_
    obtain ⟨z0, z1, _⟩ := HQqb.out W hW
    go_simp; exact hK _ _ (gb_refl _ _) rfl
  -- 8: more.go:12 call
  apply told_at stateV_stays
  · intro W f hW hE h0 K hK
    have e16 : f 16 = _ := hE 3 16 _ rfl (by kernel_rfl)
    have e19 : f 19 = _ := hE 0 19 _ rfl (by kernel_rfl)
    clear hE h0
    refine yes_of (want_free rfl) ?_
    go_simp
    refine (refJoin_any Xqa Yqa Xqb Yqb xqa yqa uqa vqa xqb yqb uqb vqb qa qb W (HQqa.out W hW).2.2 (HQqb.out W hW).2.2 Hvqa.out.1 Hvqb.out.1 (by have := HBqa.out; have := HBqb.out; omega) (by have := HBqa.out; have := HBqb.out; omega) (by have := HBqa.out; have := HBqb.out; omega) (by have := HBqa.out; have := HBqb.out; omega)).mono ?_
    rw [Hjn.out]
    rintro e w1' ⟨A2', n2', c2', B2', m2', d2', rfl, l1, l2, l3, g'⟩
    exact ⟨_, rfl, hK _ _ g' ⟨A2', n2', c2', B2', m2', d2', rfl, l1, l2, l3⟩⟩
  -- 9: more.go:12 call
  apply told_at stateV_stays
  · intro W f hW hE h0 K hK
    have e13 := hE 7 13 _ rfl (by kernel_rfl)
    have e20 := hE 0 20 _ rfl (by kernel_rfl)
    clear hE h0
    refine yes_of (want_free rfl) ?_
    obtain ⟨X5, x5, y5, Y5, u5, v5, e13, k1, k2, k3⟩ := e13
    obtain ⟨X6, x6, y6, Y6, u6, v6, e20, j1, j2, j3⟩ := e20
    have b1 := k1.1.1; have b2 := k1.2.1; have b3 := j1.1.1; have b4 := j1.2.1; have b5 := Hvtp.out; have b6 := Hvjn.out
    go_simp
    refine (refJoin_any X5 Y5 X6 Y6 x5 y5 u5 v5 x6 y6 u6 v6 tp jn W k1 j1 Hvtp.out.1 Hvjn.out.1 (by omega) (by omega) (by omega) (by omega)).mono ?_
    rw [Hs.out]
    rintro e w1' ⟨A2', n2', c2', B2', m2', d2', rfl, l1, l2, l3, g'⟩
    exact ⟨_, rfl, hK _ _ g' ⟨A2', n2', c2', B2', m2', d2', rfl, l1, l2, l3⟩⟩
  -- 10: more.go:12 alloc
  apply told_at newB_stays
  · intro W f hW hE h0 K hK
    clear hE h0
    refine yes_of (want_free rfl) ?_
    go_simp
    exact hK _ _ (gb_alloc (gb_refl _ _) _) ⟨_, rfl, hW.size, Row.new _ _ _⟩
  intro W f hW hA
  simp only [lexIn, Act.put, List.setIfInBounds_toArray, List.set_cons_zero, List.set_cons_succ]
  have e21 := hA 1 (some 21) _ rfl
  have e6 := hA 0 (some 6) _ rfl
  clear hA
  obtain ⟨A4, n4, c4, B4, m4, d4, e21, hs4, hc4, hd4⟩ := e21
  obtain ⟨bj, e6, hbj, hrow⟩ := e6
  rw [e21, e6]
  have q0 := hrow.free 0
  have q1 := hrow.free 1
  have u0 := hrow.at_ (i := 0) rfl
  have u1 := hrow.at_ (i := 1) rfl
  have g1 := gb_set1 W bj 0 (.slice A4 n4 c4)
  have x1 := hrow.set_ 0 (.slice A4 n4 c4)
  have g2 := gb_set1 (W.setCell ⟨bj, 0, none⟩ (.slice A4 n4 c4)) bj 1 (.slice B4 m4 d4)
  have Hx2 := Lib.hid (x1.set_ 1 (.slice B4 m4 d4))
  have Hs4 := Lib.hid (sl_beside (sl_beside hs4 g1 hrow) g2 x1)
  have Hgg := Lib.hid (gb_none HG1.out (gb_new (gb_new hW g1 hbj) g2 hbj))
  have Hnm : Hid (n4 ≤ 320 ∧ m4 ≤ 320) := by have h1 := hs4.1.1; have h2 := hs4.2.1; have h3 := Hvs.out; exact ⟨by omega, by omega⟩
  clear g1 g2 x1 hs4 hc4 hd4 hW hbj
  rw [ends_is]
  go_simp
  clear q0 q1 u0 u1 hrow
  go_upto_region 3 with fail
  refine Td.named (fun W' => w.grownBy W' none ∧ Row W' bj 26 #[.slice A4 n4 c4, .slice B4 m4 d4] ∧ SL W' A4 n4 B4 m4 s) ⟨Hgg.out, Hx2.out, Hs4.out⟩ ?_
  rintro W2 ⟨hg2, hrow2, hs2⟩
  have HG2 := Lib.hid hg2
  have HSs : Hid (∀ W, W2.grownBy W none → W.cell? ⟨bj, 0, none⟩ = some (.slice A4 n4 c4) ∧ W.cell? ⟨bj, 1, none⟩ = some (.slice B4 m4 d4) ∧ SL W A4 n4 B4 m4 s) := fun W hW => ⟨(hrow2.kept hW (by simp)).at_ (i := 0) rfl, (hrow2.kept hW (by simp)).at_ (i := 1) rfl, hs2.keep hW⟩
  clear hg2 hrow2 hs2 Hgg Hx2 Hs4 HGr HAp HPl Htp Hjn Hs Hvqa Hvqb Hvtp Hvjn HQqa HQqb HBqa HBqb HG1
  obtain ⟨kw1, kw2, kw3, kw4, kw5⟩ := Hkw.out
  have hc1 := text_b1 kw4 kw5 (Row.new W2 5 #[.int .u8 kX])
  clear kw4 kw5
  go_upto_region 4 with fail
  clear kw1 kw2 kw3 hc1
  refine Td.named (fun W' => W2.grownBy W' none) (gb_alloc (gb_refl _ _) _) ?_
  intro W3 hg3
  have HG3 := Lib.hid hg3
  obtain ⟨ky, hky⟩ : ∃ ky, b1 kX = ky := ⟨_, rfl⟩
  rw [hky]
  obtain ⟨l, hl⟩ : ∃ l, s.facts = l := ⟨_, rfl⟩
  have hnm2 : m4 ≤ 320 := Hnm.out.2
  have Hll : Hid (l.length = m4) := by show _ = _; rw [← hl]; exact (HSs.out W2 (gb_refl _ _)).2.2.2.1
  have Hl := Lib.hid hl
  clear hg3 hky hl Hkw
  go_wp2_with fail
  go_loopw [9, 8] (fun i u wr => ∃ (k : Nat) (T : Int), k ≤ m4 ∧ i = .int .i64 k ∧ u = .int .i64 T ∧ Hid (T = sumW (findL (l.take k) ky 3)) ∧ W3.grownBy wr none) (fun i _ _ => m4 - (intOf i).toNat)
  case atStart => exact ⟨0, 0, Nat.zero_le _, rfl, rfl, by show _ = _; rfl, gb_refl _ _⟩
  case round =>
    obtain ⟨k, T0, hk, rfl, rfl, HT0, hg⟩ := hrel
    have Hg := Lib.hid hg
    obtain ⟨y0, y1, hsl⟩ := HSs.out wr (gb_none HG3.out hg)
    by_cases hlt : k < m4
    · have d1 : decide (k < m4) = true := decide_eq_true hlt
      have d2 : decide ((k : Int) < (m4 : Int)) = true := decide_eq_true (by omega)
      have bk : (k : Int) < (m4 : Int) := by omega
      have Hlt := Lib.hid hlt
      have hfl := hsl.2
      rw [Hl.out] at hfl
      obtain ⟨gf, of_, rfl, hgl, hcc⟩ := hfl.2 (by omega)
      obtain ⟨x, hx⟩ : ∃ x, l[k]? = some x := ⟨_, List.getElem?_eq_getElem (by rw [Hll.out]; exact hlt)⟩
      obtain ⟨h0, h1, h2, h3, h4, h5⟩ := hcc k x hx
      have hmore := find_more hx ky 3
      have Hm := Lib.hid hmore
      clear hcc hx hgl hg hfl hsl hmore h0 h1 h4
      by_cases hkey : x.key = ky
      · have t1 := str_eq hkey
        by_cases hk3 : x.kind = 3
        · have t2 : (x.kind == 3) = true := by rw [hk3]; rfl
          obtain ⟨T, hT⟩ : ∃ T, IntKind.i64.wrap (T0 + x.v) = T := ⟨_, rfl⟩
          have HT : Hid (T = sumW (findL (l.take (k + 1)) ky 3)) := by
            show _ = _
            rw [Hm.out, if_pos ⟨hkey, .inr hk3⟩, ← hT, HT0.out]; exact (sumW_more _ _).symm
          clear hkey hk3
          go_wp2_with fail
          go_roundw
          case rel => exact ⟨k + 1, T, by have := Hlt.out; omega, by go_num, by first | rfl | rw [hT], HT.out, Hg.out⟩
          case measure => simp [intOf]; have := Hlt.out; omega
        · have t2 : (x.kind == 3) = false := by rw [beq_eq_false_iff_ne]; exact hk3
          have HT : Hid (T0 = sumW (findL (l.take (k + 1)) ky 3)) := by
            show _ = _
            rw [Hm.out, if_neg (fun h => h.2.elim (by decide) hk3)]; exact HT0.out
          clear hkey hk3
          go_wp2_with fail
          go_roundw
          case rel => exact ⟨k + 1, T0, by have := Hlt.out; omega, by go_num, by first | rfl, HT.out, Hg.out⟩
          case measure => simp [intOf]; have := Hlt.out; omega
      · have t1 := str_ne hkey
        have HT : Hid (T0 = sumW (findL (l.take (k + 1)) ky 3)) := by
          show _ = _
          rw [Hm.out, if_neg (fun h => hkey h.1)]; exact HT0.out
        clear hkey
        go_wp2_with fail
        go_roundw
        case rel => exact ⟨k + 1, T0, by have := Hlt.out; omega, by go_num, by first | rfl, HT.out, Hg.out⟩
        case measure => simp [intOf]; have := Hlt.out; omega
    · have hkn : k = m4 := by omega
      have d1 : decide (k < m4) = false := decide_eq_false hlt
      have d2 : decide ((k : Int) < (m4 : Int)) = false := decide_eq_false (by omega)
      have HCt : Hid (countT s.facts ky = T0) := by
        show _ = _
        unfold countT
        rw [HT0.out, Hl.out, List.take_of_length_le (by rw [Hll.out, hkn]; exact Nat.le_refl _)]
      have Hm1 : Hid (m4 ≤ 100000 ∧ n4 ≤ 10000 ∧ m4 ≤ 10000) := by have := Hnm.out; exact ⟨by omega, by omega, by omega⟩
      clear hsl hg hlt hkn hk
      go_wp2_with (go_at_call 45; refine (pCount_any A4 B4 n4 c4 m4 d4 s ky wr (HSs.out wr (gb_none HG3.out Hg.out)).2.2 Hm1.out.1).mono ?_; rw [HCt.out]; rintro e w4 ⟨rfl, g4⟩; have Hg4 := Lib.hid (gb_none HG3.out (gb_none Hg.out g4)); clear g4; obtain ⟨v0, v1, _⟩ := HSs.out w4 Hg4.out)
      go_wp2_with (go_at_call 30; refine (refJoin_any A4 B4 A4 B4 n4 c4 m4 d4 n4 c4 m4 d4 s s w4 (HSs.out w4 Hg4.out).2.2 (HSs.out w4 Hg4.out).2.2 Hvs.out.1 Hvs.out.1 Hm1.out.2.1 Hm1.out.2.2 Hm1.out.2.1 Hm1.out.2.2).mono ?_; rw [Hself.out]; rintro e w5 ⟨A5, n5, c5, B5, m5, d5, rfl, hs5, hc5, hd5, g5⟩; have Hs5 := Lib.hid hs5; have Hm5 : Hid (m5 ≤ 100000) := (by show _ ≤ _; have h1 := hs5.2.1; have := Hvs.out; omega); have Hg5 := Lib.hid (gb_none Hg4.out g5); clear hs5 hc5 hd5 g5)
      go_wp2_with (go_at_call 45; refine (pCount_any A5 B5 n5 c5 m5 d5 s ky w5 Hs5.out Hm5.out).mono ?_; rw [HCt.out]; rintro e w6 ⟨rfl, g6⟩; have Hg6 := Lib.hid (gb_none Hg5.out g6); clear g6)
      go_wp2_with (go_at_call 38; refine (awake10_any _).mono ?_; rintro e w7 ⟨rfl, g7⟩)
      go_ret
      exact ⟨rfl, gb_below (gb_none HG2.out (gb_none Hg6.out g7)) (Nat.le_refl _)⟩

set_option maxRecDepth 100000 in
theorem lifted (os : Os) (started : os.Started) (H : Type) (enc : TypeId × Value → H) :
    ReturnsInHanded {} Try.checked os 14 .any (Rows.readSumSpec.pre6 enc Try.prog Try.f14 Rows.readSumRow.domain false) (Rows.readSumSpec.post enc Try.prog Try.f14 false true false false) := by
  refine returnsInHanded_of_change (C := Try.checked) own started (by kernel_rfl) Try.func14
    (ChangeSpec.witness6 (enc := enc) (C := Try.checked) false ⟨#[], #[.slice none 0 0, .int .u8 0], []⟩ 8 (by kernel_rfl) (by kernel_rfl) (by kernel_rfl) (by kernel_rfl)) ?_
  intro W base args ds gs before hval0 hW hcnd _
  have hval : ∀ (j : Nat) t v, Try.f14.params[j]? = some t → args[j]? = some v → Value.okWide Try.prog W .any base t v := hval0
  have hW' := hW
  obtain ⟨p, q, hA0, hV, rfl, hfz, hnd⟩ := hW
  have hA : DataW.TrodAll enc Try.prog W 0 (fun _ => true) true Try.f14.params.toList args.toList ds p := hA0
  rw [Try.params14] at hA hval
  obtain ⟨v0, vs0, d0, ds0, p0, q0, hargs, rfl, rfl, h0, r0⟩ := trodAll_cons hA
  obtain ⟨v1, vs1, d1, ds1, p1, q1, rfl, rfl, rfl, h1, r1⟩ := trodAll_cons r0
  obtain ⟨rfl, rfl, rfl⟩ := trodAll_nil r1
  obtain rfl : args = #[v0, v1] := by cases args; simp_all
  obtain ⟨rfl, rfl⟩ := trodVars_none hV
  have k0 := h0
  have lt0 : ∀ x ∈ p0, x.block < W.heap.size := by obtain ⟨m, hm⟩ := k0; exact DataW.trod_lt m _ _ _ hm
  obtain ⟨a0, len0, cap0, rfl⟩ := okWide_slice Try.underlying22 (hval 0 22 v0 rfl rfl)
  obtain ⟨z0, w0⟩ : ∃ zs, IsRow .u8 W a0 len0 cap0 zs := by
    obtain ⟨fuel, hf⟩ := h0
    rcases open_ints Try.underlying22 Try.underlying5 (by kernel_rfl) hf with ⟨hcs, _⟩ | ⟨x, l, c, zs, hcs, _, hl, hm, hz, _, hcell, hwz⟩
    · simp [Value.cells] at hcs
      obtain ⟨rfl, rfl, rfl⟩ := hcs
      exact ⟨[], .inl ⟨rfl, rfl, rfl, rfl⟩⟩
    · simp [Value.cells] at hcs
      obtain ⟨rfl, rfl, rfl⟩ := hcs
      exact ⟨zs, .inr ⟨_, rfl, hl, hm, by simpa using hz, hcell, hwz⟩⟩
  obtain ⟨a1, rfl, rfl, rfl, w1⟩ := open_int Try.underlying5 (hval 1 5 v1 rfl rfl) h1
  clear hA0 hval0
  refine (walk a0 len0 cap0 z0 a1 W w0 w1).mono fun e W' ⟨he, bel⟩ => ?_
  subst he
  exact ⟨_, rfl, _, _, _, [], _, [], hW', trodAll_mk1 (shut_bool Try.underlying4 _), (trodAll_cons_mk (Below.trod laidOut (by kernel_rfl) (of_decide_eq_true (by kernel_rfl)) k0 bel lt0) (trodAll_cons_mk (shut_int Try.underlying5 w1) trodAll_mk0)), rfl, bel.frame _, fun h => by cases h⟩

theorem over : Rows.readSumRow.holds Try.pinned (OpenSpec.ofChange Rows.readSumSpec) :=
  OpenClaim.holds_of_wide 14 Try.f14 rfl rfl rfl rfl rfl rfl rfl ⟨rfl, rfl, rfl, rfl, rfl⟩ rfl rfl rfl rfl rfl (by kernel_rfl) Try.func14 (by kernel_rfl)
    (of_decide_eq_true (by kernel_rfl)) (by unfold Func.isWrapper; first | (rw [if_pos (by decide +kernel)]; kernel_rfl) | (rw [if_neg (by decide +kernel)]; exact ⟨rfl, rfl⟩))
    (fun os started H enc _ => lifted os started H enc)

theorem proved : Rows.ReadSumSaid := over
#print axioms proved
end Go.Proofs.Ytblndpfgfakdeaa.readSum
