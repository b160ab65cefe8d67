/-
  Proved: whatever values of its parameters' types it is called with, deaddroplaw9.JoinMade returns true, and each argument reads behind the call as it read before.
  Conditions: none but those of the row itself.
-/
import Derived.Test.YtkjjgbcbgjgjeaaRows
import Derived.WalkKit
import Derived.ProofKit
import Derived.OpenShut
import Derived.ShutString
import Derived.Test.YtkjjgbcbgjgjeaaJnB
import Derived.Test.YtkjjgbcbgjgjeaaTold
import Derived.Deep.DeepCutAuto
import Derived.Deep.RegionHeld3
import Derived.Deep.DrawnRows
import Derived.ChangeOld
import Derived.Below
namespace Go.Proofs.Ytkjjgbcbgjgjeaa.joinMade
open Go.ChangeShapes Go.WideShapes Go.ChangeAt Go.RowKit
open Go.ChangeMaps (open_string shut_string)
open Go.Proofs.Ytkjjgbcbgjgjeaa.Mm Go.Proofs.Ytkjjgbcbgjgjeaa.Dt Go.Proofs.Ytkjjgbcbgjgjeaa.Td
set_option linter.unusedVariables false

theorem own : ownKnob Try.prog.godebug = none := by kernel_rfl
theorem laidOut : laidOutB Try.prog = true := by kernel_rfl
/-- What the walk is told of a slice of integers that came in. -/
def IsRow (k : IntKind) (w : World) (a : Option Addr) (len cap : Nat) (zs : List Int) : Prop :=
  (a = none ∧ len = 0 ∧ cap = 0 ∧ zs = []) ∨
  ∃ x, a = some x ∧ len ≤ cap ∧ cap ≤ maxLen ∧ zs.length = cap ∧ (∀ i, i < zs.length → w.cell? (x.add i) = some (.int k (zs.getD i 0))) ∧ ∀ n ∈ zs, (Lit.int k n).wf = true

attribute [local go_sem] Td.upon_value Td.upon_skip Td.upon_enter Td.upon_row Td.look_tmp Td.look_const Td.look_func Td.look_global
theorem rows2 (w1 : World) (X Y : Array Value) (t : TypeId) : Row (((w1.alloc (.cells X t)).alloc (.cells Y t)).drew) w1.heap.size t X ∧ Row (((w1.alloc (.cells X t)).alloc (.cells Y t)).drew) (w1.heap.size + 1) t Y := by
  have h1 := Row.new (w1.alloc (.cells X t)) t Y
  rw [World.size_alloc] at h1
  exact ⟨((Row.new w1 t X).alloc _).drew, h1.drew⟩
theorem rows3 (w1 : World) (X Y Z : Array Value) (t : TypeId) : Row ((((w1.alloc (.cells X t)).alloc (.cells Y t)).alloc (.cells Z t)).drew) w1.heap.size t X ∧ Row ((((w1.alloc (.cells X t)).alloc (.cells Y t)).alloc (.cells Z t)).drew) (w1.heap.size + 1) t Y ∧ Row ((((w1.alloc (.cells X t)).alloc (.cells Y t)).alloc (.cells Z t)).drew) (w1.heap.size + 1 + 1) t Z := by
  have h1 := Row.new (w1.alloc (.cells X t)) t Y
  have h2 := Row.new ((w1.alloc (.cells X t)).alloc (.cells Y t)) t Z
  rw [World.size_alloc] at h1
  rw [World.size_alloc, World.size_alloc] at h2
  exact ⟨((((Row.new w1 t X).alloc _).alloc _).drew), ((h1.alloc _).drew), h2.drew⟩
theorem gen_all {g : Grp} : ∀ {l : List St} {a : St}, Gen g a → (∀ s ∈ l, Gen g s) → Gen g (l.foldl joinS a)
  | [], _, h, _ => h
  | s :: l, a, h, hl => gen_all (l := l) (a := joinS a s) (.two _ _ h (hl s (by simp))) fun t ht => hl t (by simp [ht])
theorem gen_l {g : Grp} : ∀ s ∈ g.l, Gen g s := fun s hs => by
  unfold Grp.l at hs
  simp only [List.mem_cons, List.not_mem_nil, or_false] at hs
  rcases hs with rfl | rfl | rfl | rfl
  · exact Gen.one 0 (.inl rfl)
  · exact Gen.one 1 (.inr (.inl rfl))
  · exact Gen.one 2 (.inr (.inr (.inl rfl)))
  · exact Gen.one 3 (.inr (.inr (.inr rfl)))
theorem gen_lens {g : Grp} (h : Fine g 40) {s : St} (hs : Gen g s) : Lens s := by
  have h1 := (hs.low h).short (hs.may h (by omega))
  exact ⟨by omega, by omega⟩
theorem parts_grp {g : Grp} (h : Fine g 40) : Parts g.l ∧ ∀ k, Lens (allS (g.l.take k)) :=
  ⟨⟨fun s hs => ⟨(gen_l s hs).ss h, gen_lens h (gen_l s hs)⟩, fun i j _ => gen_lens h (gen_all .nothing fun s hs => gen_l s (List.mem_of_mem_drop (List.mem_of_mem_take hs)))⟩, fun k => gen_lens h (gen_all .nothing fun s hs => gen_l s (List.mem_of_mem_take hs))⟩

set_option maxHeartbeats 40000000 in
set_option maxRecDepth 100000 in
theorem walk (a0 : Option Addr) (len0 cap0 : Nat) (z0 : List Int) (a1 : Int) (a2 : Int) (w : World) (w0 : IsRow .u8 w a0 len0 cap0 z0) (w1 : (Lit.int .u8 a1).wf = true) (w2 : (Lit.int .u8 a2).wf = true) :
    Calls Try.prog 7 #[.slice a0 len0 cap0, .int .u8 a1, .int .u8 a2] w fun e w' => e = .returned (.bool true) ∧ Below w.heap.size w w' := by
  obtain ⟨x10, x11⟩ : 0 ≤ a1 ∧ a1 ≤ 255 := by
    have h1 : IntKind.u8.min = 0 := by decide
    have h2 : IntKind.u8.max = 255 := by decide
    simp only [Lit.wf, h1, h2, Bool.and_eq_true, decide_eq_true_eq] at w1
    exact w1
  obtain ⟨x20, x21⟩ : 0 ≤ a2 ∧ a2 ≤ 255 := by
    have h1 : IntKind.u8.min = 0 := by decide
    have h2 : IntKind.u8.max = 255 := by decide
    simp only [Lit.wf, h1, h2, Bool.and_eq_true, decide_eq_true_eq] at w2
    exact w2
  obtain ⟨hnl0, _, _⟩ := nl_of_row w0
  obtain ⟨g, hg0⟩ : ∃ g, apartK (z0.take len0) (min (len0 / 3) 40) = g := ⟨_, rfl⟩
  have hfine : Fine g 40 := by rw [← hg0]; exact (apartK_fine _ _ (Nat.min_le_right _ _)).more (Nat.min_le_right _ _)
  have HFine := Lib.hid hfine
  have HAp : Hid (∀ W, w.grownBy W none → Calls Try.prog 33 #[.slice a0 len0 cap0] W (Grps g W)) := fun W hW => by rw [← hg0]; exact apart9_any a0 len0 cap0 _ W (hnl0.keep hW)
  clear hnl0 hg0
  obtain ⟨ia, hia⟩ : ∃ ia : Nat, a1 % 4 = (ia : Int) := ⟨(a1 % 4).toNat, by omega⟩
  have hla : ia < 4 := by omega
  have Hia := Lib.hid hla
  have ra1 : a1.tmod 4 = (ia : Int) := by rw [Int.tmod_eq_emod_of_nonneg (by omega), hia]
  have ra2 : IntKind.u8.wrap (ia : Int) = (ia : Int) := by rw [IntKind.wrap_u8']; omega
  have ra3 : (ia : Int) < 4 := by omega
  obtain ⟨ib, hib⟩ : ∃ ib : Nat, a2 % 4 = (ib : Int) := ⟨(a2 % 4).toNat, by omega⟩
  have hlb : ib < 4 := by omega
  have Hib := Lib.hid hlb
  have rb1 : a2.tmod 4 = (ib : Int) := by rw [Int.tmod_eq_emod_of_nonneg (by omega), hib]
  have rb2 : IntKind.u8.wrap (ib : Int) = (ib : Int) := by rw [IntKind.wrap_u8']; omega
  have rb3 : (ib : Int) < 4 := by omega
  obtain ⟨a, ha⟩ : ∃ a, g.at_ (ia : Int) = a := ⟨_, rfl⟩
  have gen_a : Gen g a := by rw [← ha]; exact .one _ (in4_nat Hia.out)
  have Hva : Hid (SS a ∧ a.seen.length ≤ 320 ∧ a.facts.length ≤ 320) := by
    have h := (gen_a.low hfine).short (gen_a.may hfine (by omega))
    exact ⟨gen_a.ss hfine, by omega, by omega⟩
  obtain ⟨b, hb⟩ : ∃ b, g.at_ (ib : Int) = b := ⟨_, rfl⟩
  have gen_b : Gen g b := by rw [← hb]; exact .one _ (in4_nat Hib.out)
  have Hvb : Hid (SS b ∧ b.seen.length ≤ 320 ∧ b.facts.length ≤ 320) := by
    have h := (gen_b.low hfine).short (gen_b.may hfine (by omega))
    exact ⟨gen_b.ss hfine, by omega, by omega⟩
  obtain ⟨j, hj⟩ : ∃ j, joinS a b = j := ⟨_, rfl⟩
  have gen_j : Gen g j := by rw [← hj]; exact .two _ _ gen_a gen_b
  have Hvj : Hid (SS j ∧ j.seen.length ≤ 320 ∧ j.facts.length ≤ 320) := by
    have h := (gen_j.low hfine).short (gen_j.may hfine (by omega))
    exact ⟨gen_j.ss hfine, by omega, by omega⟩
  have Hj := Lib.hid hj
  obtain ⟨tp, htp⟩ : ∃ tp, allS g.l = tp := ⟨_, rfl⟩
  have gen_tp : Gen g tp := by rw [← htp]; exact (all_above hfine).1
  have Hvtp : Hid (SS tp ∧ tp.seen.length ≤ 320 ∧ tp.facts.length ≤ 320) := by
    have h := (gen_tp.low hfine).short (gen_tp.may hfine (by omega))
    exact ⟨gen_tp.ss hfine, by omega, by omega⟩
  have Htp := Lib.hid htp
  have HPl := Lib.hid (parts_grp hfine)
  have Hba : Hid (joinS b a = j) := by show _ = _; rw [← hj]; exact (gen_b.comm hfine gen_a)
  have Hja : Hid (joinS j a = j) := by show _ = _; rw [← hj]; exact LeS.left hfine gen_a gen_b
  have Hjb : Hid (joinS j b = j) := by show _ = _; rw [← hj]; exact LeS.right hfine gen_a gen_b
  have HMay : Hid (MayS j) := gen_j.may hfine (by omega)
  obtain ⟨bl, hbl⟩ := asB (j = b)
  have Hbl := Lib.hid hbl
  have HLeab : Hid ((joinS b a).seen.length ≤ 100000 ∧ (joinS b a).facts.length ≤ 100000) := by have h := gen_lens hfine (Gen.two _ _ gen_b gen_a); exact ⟨Nat.le_trans h.1 (by omega), Nat.le_trans h.2 (by omega)⟩
  have HLeaj : Hid ((joinS j a).seen.length ≤ 100000 ∧ (joinS j a).facts.length ≤ 100000) := by have h := gen_lens hfine (Gen.two _ _ gen_j gen_a); exact ⟨Nat.le_trans h.1 (by omega), Nat.le_trans h.2 (by omega)⟩
  have HLebj : Hid ((joinS j b).seen.length ≤ 100000 ∧ (joinS j b).facts.length ≤ 100000) := by have h := gen_lens hfine (Gen.two _ _ gen_j gen_b); exact ⟨Nat.le_trans h.1 (by omega), Nat.le_trans h.2 (by omega)⟩
  clear hj htp hbl gen_a gen_b gen_j gen_tp hfine x10 x11 x20 x21 w0 w1 w2 hia hib hla hlb
  go_enter Try.func7, Try.ntmps7
  go_upto_region 2 with (go_at_call 33; refine (HAp.out w (gb_refl _ _)).mono ?_; rintro e w1 ⟨gl, rfl, hgr, hgl, g1⟩)
  have HG1 := Lib.hid g1
  clear hgl g1
  have HGr0 := Lib.hid hgr
  obtain ⟨Xa, xa, ya, Ya, ua, va, hca, hda, hna, hma, hgeta⟩ := hgr.get (i := ia) Hia.out
  rw [show g.at_ ((ia : Nat) : Int) = a from ha] at hna hma hgeta
  have HQa := Lib.hid hgeta
  have HBa : Hid (xa ≤ 320 ∧ ua ≤ 320 ∧ xa ≤ ya ∧ ua ≤ va) := by have := Hva.out; exact ⟨by omega, by omega, hca, hda⟩
  obtain ⟨pa0, pa1, _⟩ := hgeta w1 (gb_refl _ _)
  obtain ⟨Xb, xb, yb, Yb, ub, vb, hcb, hdb, hnb, hmb, hgetb⟩ := hgr.get (i := ib) Hib.out
  rw [show g.at_ ((ib : Nat) : Int) = b from hb] at hnb hmb hgetb
  have HQb := Lib.hid hgetb
  have HBb : Hid (xb ≤ 320 ∧ ub ≤ 320 ∧ xb ≤ yb ∧ ub ≤ vb) := by have := Hvb.out; exact ⟨by omega, by omega, hcb, hdb⟩
  obtain ⟨pb0, pb1, _⟩ := hgetb w1 (gb_refl _ _)
  have HSX : Hid (∀ w' : World, w1.grownBy w' none → w'.cell? ⟨gl, ia * 2, none⟩ = some (.slice Xa xa ya) ∧ w'.cell? ⟨gl, ia * 2 + 1, none⟩ = some (.slice Ya ua va) ∧ w'.cell? ⟨gl, ib * 2, none⟩ = some (.slice Xb xb yb) ∧ w'.cell? ⟨gl, ib * 2 + 1, none⟩ = some (.slice Yb ub vb)) := fun W hW => ⟨(HQa.out W hW).1, (HQa.out W hW).2.1, (HQb.out W hW).1, (HQb.out W hW).2.1⟩
  clear hca hda hna hma hgeta hcb hdb hnb hmb hgetb
  go_upto_region 2 with fail
  go_cut [8, 9] (fun q0 q1 wx => ∃ b0 b1 : Nat, q0 = .pointer (some ⟨b0, 0, none⟩) ∧ q1 = .pointer (some ⟨b1, 0, none⟩) ∧ Row wx b0 26 #[.slice Xa xa ya, .slice Ya ua va] ∧ Row wx b1 26 #[.slice Xb xb yb, .slice Yb ub vb] ∧ w1.grownBy wx none)
  case first =>
    go_region_held3 (fun w' => w'.cell? ⟨gl, ia * 2, none⟩ = some (.slice Xa xa ya) ∧ w'.cell? ⟨gl, ia * 2 + 1, none⟩ = some (.slice Ya ua va) ∧ w'.cell? ⟨gl, ib * 2, none⟩ = some (.slice Xb xb yb) ∧ w'.cell? ⟨gl, ib * 2 + 1, none⟩ = some (.slice Yb ub vb)) (first | (with_reducible exact HSX.out _ (gb_drew (gb_refl _ _))) | (with_reducible exact HSX.out _ (gb_drew (gb_alloc (gb_refl _ _) _))) | (with_reducible exact HSX.out _ (gb_drew (gb_alloc (gb_alloc (gb_refl _ _) _) _))) | go_keep) (fail)
    all_goals (try go_wp2_with fail)
    all_goals go_meet
    all_goals first
      | exact ⟨_, _, rfl, rfl, (rows2 _ _ _ _).1, (rows2 _ _ _ _).2, gb_drew (gb_alloc (gb_alloc (gb_refl _ _) _) _)⟩
      | exact ⟨_, _, rfl, rfl, (rows2 _ _ _ _).2, (rows2 _ _ _ _).1, gb_drew (gb_alloc (gb_alloc (gb_refl _ _) _) _)⟩
  case rest =>
  obtain ⟨b0, b1, rfl, rfl, hra, hrb, hg2⟩ := hcut
  clear pa0 pa1 pb0 pb1 HSX ra1 ra2 ra3 rb1 rb2 rb3
  have HGr : Hid (∀ W, wc.grownBy W none → GR W gl g) := fun W hW => HGr0.out.keep (gb_none hg2 hW)
  have HG2 : Hid (w.grownBy wc none) := gb_none HG1.out hg2
  have HSa : Hid (∀ W, wc.grownBy W none → W.cell? ⟨b0, 0, none⟩ = some (.slice Xa xa ya) ∧ W.cell? ⟨b0, 1, none⟩ = some (.slice Ya ua va) ∧ SL W Xa xa Ya ua a) := fun W hW => ⟨(hra.kept hW (by simp)).at_ (i := 0) rfl, (hra.kept hW (by simp)).at_ (i := 1) rfl, (HQa.out W (gb_none hg2 hW)).2.2⟩
  have HSb : Hid (∀ W, wc.grownBy W none → W.cell? ⟨b1, 0, none⟩ = some (.slice Xb xb yb) ∧ W.cell? ⟨b1, 1, none⟩ = some (.slice Yb ub vb) ∧ SL W Xb xb Yb ub b) := fun W hW => ⟨(hrb.kept hW (by simp)).at_ (i := 0) rfl, (hrb.kept hW (by simp)).at_ (i := 1) rfl, (HQb.out W (gb_none hg2 hW)).2.2⟩
  clear hra hrb hg2
  obtain ⟨ia0, ia1, _⟩ := HSa.out wc (gb_refl _ _)
  obtain ⟨ib0, ib1, _⟩ := HSb.out wc (gb_refl _ _)
  have HJn : Hid (Calls Try.prog 28 #[.agg #[.slice Xa xa ya, .slice Ya ua va], .agg #[.slice Xb xb yb, .slice Yb ub vb]] wc (States j wc)) := by
    have h := pJoin_any Xa Ya Xb Yb xa ya ua va xb yb ub vb a b wc (HSa.out wc (gb_refl _ _)).2.2 (HSb.out wc (gb_refl _ _)).2.2 Hva.out.1 Hvb.out.1 (by have := HBa.out; have := HBb.out; omega) (by have := HBa.out; have := HBb.out; omega) (by have := HBa.out; have := HBb.out; omega) (by have := HBa.out; have := HBb.out; omega) (by have := HBa.out; have := HBb.out; omega) (by have := HBa.out; have := HBb.out; omega) (by have := HBa.out; have := HBb.out; omega)
    rw [Hj.out] at h
    exact h
  go_upto_region 4 with (go_at_call 28; refine HJn.out.mono ?_; rintro e w3 ⟨Xj, xj, yj, Yj, uj, vj, rfl, hs, hc, hd, g3⟩)
  obtain ⟨bj, hbj⟩ : ∃ bj, w3.heap.size = bj := ⟨_, rfl⟩
  rw [hbj]
  refine Td.named (fun W => wc.grownBy W none ∧ Row W bj 26 #[.slice Xj xj yj, .slice Yj uj vj] ∧ SL W Xj xj Yj uj j) ⟨gb_alloc g3 _, by rw [← hbj]; exact Row.new _ _ _, hs.keep (gb_alloc (gb_refl _ _) _)⟩ ?_
  rintro W3 ⟨hg3, hrow3, hs3⟩
  have HBj : Hid (xj ≤ 320 ∧ uj ≤ 320 ∧ xj ≤ yj ∧ uj ≤ vj) := by have h1 := hs3.1.1; have h2 := hs3.2.1; have := Hvj.out; exact ⟨by omega, by omega, hc, hd⟩
  have HSj : Hid (∀ W, W3.grownBy W none → W.cell? ⟨bj, 0, none⟩ = some (.slice Xj xj yj) ∧ W.cell? ⟨bj, 1, none⟩ = some (.slice Yj uj vj) ∧ SL W Xj xj Yj uj j) := fun W hW => ⟨(hrow3.kept hW (by simp)).at_ (i := 0) rfl, (hrow3.kept hW (by simp)).at_ (i := 1) rfl, hs3.keep hW⟩
  have HGx : Hid (wc.grownBy W3 none) := hg3
  replace HSa : Hid (∀ W, W3.grownBy W none → _) := fun W hW => HSa.out W (gb_none HGx.out hW)
  replace HSb : Hid (∀ W, W3.grownBy W none → _) := fun W hW => HSb.out W (gb_none HGx.out hW)
  replace HGr : Hid (∀ W, W3.grownBy W none → _) := fun W hW => HGr.out W (gb_none HGx.out hW)
  replace HG2 : Hid (w.grownBy W3 none) := gb_none HG2.out HGx.out
  clear hbj hs hc hd g3 hg3 hrow3 hs3 HJn HGx ia0 ia1 ib0 ib1
  apply wp_region_told (le := fun a b => a.grownBy b none) [isV _, isV _, isV _, stateV j, isV _, isV _, isV _, isV _, isV _, isV _, isV _, isV _, isV _, isV _, isV _, stateV j, isV _, isV _, isV _, isV _, isV _, isV _, isV _, isV _, isV _, isV _, isV _, isV _, isV _, isV _, isV _, isV _, stateV tp, isV _, stateV tp, isV _, isV _, isV _, isV _, isV _, isV _]
  case hn => rfl
  case hm => kernel_rfl
  case hB => kernel_rfl
  case ht => exact fun _ _ _ h k => gb_none h k
  case hw => exact gb_drew (gb_refl _ _)
  -- 0: law.go:48 load
  apply told_is
  · intro W f hW hE h0 K hK
    have e10 := h0 10 (by kernel_rfl)
    conv at e10 => rhs; whnf
    clear hE h0
    refine yes_of (want_free rfl) ?_
    obtain ⟨z0, z1, _⟩ := HSj.out W hW
    go_simp; exact hK _ _ (gb_refl _ _) rfl
  -- 1: law.go:48 load
  apply told_is
  · intro W f hW hE h0 K hK
    have e8 := h0 8 (by kernel_rfl)
    conv at e8 => rhs; whnf
    clear hE h0
    refine yes_of (want_free rfl) ?_
    obtain ⟨z0, z1, _⟩ := HSa.out W hW
    go_simp; exact hK _ _ (gb_refl _ _) rfl
  -- 2: law.go:48 load
  apply told_is
  · intro W f hW hE h0 K hK
    have e9 := h0 9 (by kernel_rfl)
    conv at e9 => rhs; whnf
    clear hE h0
    refine yes_of (want_free rfl) ?_
    obtain ⟨z0, z1, _⟩ := HSb.out W hW
    go_simp; exact hK _ _ (gb_refl _ _) rfl
  -- 3: law.go:48 call
  apply told_at stateV_stays
  · intro W f hW hE h0 K hK
    have e27 : f 27 = _ := hE 1 27 _ rfl (by kernel_rfl)
    have e28 : f 28 = _ := hE 0 28 _ rfl (by kernel_rfl)
    clear hE h0
    refine yes_of (want_free rfl) ?_
    go_simp
    refine (refJoin_any Xa Ya Xb Yb xa ya ua va xb yb ub vb a b W (HSa.out W hW).2.2 (HSb.out W hW).2.2 Hva.out.1 Hvb.out.1 (by have := HBa.out; have := HBb.out; omega) (by have := HBa.out; have := HBb.out; omega) (by have := HBa.out; have := HBb.out; omega) (by have := HBa.out; have := HBb.out; omega)).mono ?_
    rw [Hj.out]
    rintro e w1' ⟨A2', n2', c2', B2', m2', d2', rfl, l1, l2, l3, g'⟩
    exact ⟨_, rfl, hK _ _ g' ⟨A2', n2', c2', B2', m2', d2', rfl, l1, l2, l3⟩⟩
  -- 4: law.go:48 call
  apply told_is
  · intro W f hW hE h0 K hK
    have e26 : f 26 = _ := hE 3 26 _ rfl (by kernel_rfl)
    have e29 := hE 0 29 _ rfl (by kernel_rfl)
    clear hE h0
    refine yes_of (want_free rfl) ?_
    obtain ⟨X29, x29, y29, Y29, u29, v29, e29, k1_29, k2_29, k3_29⟩ := e29
    go_simp
    refine (refSameSt_any Xj Yj X29 Y29 xj yj uj vj x29 y29 u29 v29 j j W (HSj.out W hW).2.2 k1_29 (by have := HBj.out; have := k1_29.1.1; have := k1_29.2.1; have := Hvj.out; omega) (by have := HBj.out; have := k1_29.1.1; have := k1_29.2.1; have := Hvj.out; omega) (by have := HBj.out; have := k1_29.1.1; have := k1_29.2.1; have := Hvj.out; omega) (by have := HBj.out; have := k1_29.1.1; have := k1_29.2.1; have := Hvj.out; omega)).mono ?_
    intro e w1' hh; obtain ⟨he, g'⟩ := hh.yes rfl; subst he
    exact ⟨_, rfl, hK _ _ g' rfl⟩
  -- 5: law.go:48 move
  apply told_is
  · intro W f hW hE h0 K hK
    have e30 : f 30 = _ := hE 0 30 _ rfl (by kernel_rfl)
    clear hE h0
    refine yes_of (want_free rfl) ?_
    go_simp; exact hK _ _ (gb_refl _ _) rfl
  -- 6: law.go:48 load
  apply told_is
  · intro W f hW hE h0 K hK
    have e10 := h0 10 (by kernel_rfl)
    conv at e10 => rhs; whnf
    have e31 : f 31 = _ := hE 0 31 _ rfl (by kernel_rfl)
    clear hE h0
    refine yes_of (want_yes rfl rfl e31) ?_
    obtain ⟨z0, z1, _⟩ := HSj.out W hW
    go_simp; exact hK _ _ (gb_refl _ _) rfl
  -- 7: law.go:48 call
  apply told_is
  · intro W f hW hE h0 K hK
    have e32 : f 32 = _ := hE 0 32 _ rfl (by kernel_rfl)
    have e31 : f 31 = _ := hE 1 31 _ rfl (by kernel_rfl)
    clear hE h0
    refine yes_of (want_yes rfl rfl e31) ?_
    go_simp
    refine (refMayS_any Xj Yj xj yj uj vj j W (HSj.out W hW).2.2 (by have := HBj.out; omega) (by have := HBj.out; omega)).mono ?_
    intro e w1' hh; obtain ⟨he, g'⟩ := hh.yes HMay.out; subst he
    exact ⟨_, rfl, hK _ _ g' rfl⟩
  -- 8: law.go:48 pick
  apply told_is
  · intro W f hW hE h0 K hK
    have e31 : f 31 = _ := hE 2 31 _ rfl (by kernel_rfl)
    have e33 : f 33 = _ := hE 0 33 _ rfl (by kernel_rfl)
    clear hE h0
    refine yes_of (want_free rfl) ?_
    go_simp; exact hK _ _ (gb_refl _ _) rfl
  -- 9: law.go:48 move
  apply told_is
  · intro W f hW hE h0 K hK
    have e34 : f 34 = _ := hE 0 34 _ rfl (by kernel_rfl)
    clear hE h0
    refine yes_of (want_free rfl) ?_
    go_simp; exact hK _ _ (gb_refl _ _) rfl
  -- 10: law.go:48 load
  apply told_is
  · intro W f hW hE h0 K hK
    have e8 := h0 8 (by kernel_rfl)
    conv at e8 => rhs; whnf
    have e35 : f 35 = _ := hE 0 35 _ rfl (by kernel_rfl)
    clear hE h0
    refine yes_of (want_yes rfl rfl e35) ?_
    obtain ⟨z0, z1, _⟩ := HSa.out W hW
    go_simp; exact hK _ _ (gb_refl _ _) rfl
  -- 11: law.go:48 load
  apply told_is
  · intro W f hW hE h0 K hK
    have e9 := h0 9 (by kernel_rfl)
    conv at e9 => rhs; whnf
    have e35 : f 35 = _ := hE 1 35 _ rfl (by kernel_rfl)
    clear hE h0
    refine yes_of (want_yes rfl rfl e35) ?_
    obtain ⟨z0, z1, _⟩ := HSb.out W hW
    go_simp; exact hK _ _ (gb_refl _ _) rfl
  -- 12: law.go:48 call
  apply told_is
  · intro W f hW hE h0 K hK
    have e36 : f 36 = _ := hE 1 36 _ rfl (by kernel_rfl)
    have e37 : f 37 = _ := hE 0 37 _ rfl (by kernel_rfl)
    have e35 : f 35 = _ := hE 2 35 _ rfl (by kernel_rfl)
    clear hE h0
    refine yes_of (want_yes rfl rfl e35) ?_
    go_simp
    refine (pLe_any Xa Ya Xb Yb xa ya ua va xb yb ub vb a b W (HSa.out W hW).2.2 (HSb.out W hW).2.2 Hva.out.1 Hvb.out.1 (by have := HBa.out; have := HBb.out; omega) (by have := HBa.out; have := HBb.out; omega) (by have := HBa.out; have := HBb.out; omega) (by have := HBa.out; have := HBb.out; omega) (by have := HBa.out; have := HBb.out; omega) (by have := HBa.out; have := HBb.out; omega) (by have := HBa.out; have := HBb.out; omega) HLeab.out).mono ?_
    rw [Hba.out]
    intro e w1' hh; obtain ⟨he, g'⟩ := hh.is Hbl.out; subst he
    exact ⟨_, rfl, hK _ _ g' rfl⟩
  -- 13: law.go:48 load
  apply told_is
  · intro W f hW hE h0 K hK
    have e9 := h0 9 (by kernel_rfl)
    conv at e9 => rhs; whnf
    have e35 : f 35 = _ := hE 3 35 _ rfl (by kernel_rfl)
    clear hE h0
    refine yes_of (want_yes rfl rfl e35) ?_
    obtain ⟨z0, z1, _⟩ := HSb.out W hW
    go_simp; exact hK _ _ (gb_refl _ _) rfl
  -- 14: law.go:48 load
  apply told_is
  · intro W f hW hE h0 K hK
    have e8 := h0 8 (by kernel_rfl)
    conv at e8 => rhs; whnf
    have e35 : f 35 = _ := hE 4 35 _ rfl (by kernel_rfl)
    clear hE h0
    refine yes_of (want_yes rfl rfl e35) ?_
    obtain ⟨z0, z1, _⟩ := HSa.out W hW
    go_simp; exact hK _ _ (gb_refl _ _) rfl
  -- 15: law.go:48 call
  apply told_at stateV_stays
  · intro W f hW hE h0 K hK
    have e39 : f 39 = _ := hE 1 39 _ rfl (by kernel_rfl)
    have e40 : f 40 = _ := hE 0 40 _ rfl (by kernel_rfl)
    have e35 : f 35 = _ := hE 5 35 _ rfl (by kernel_rfl)
    clear hE h0
    refine yes_of (want_yes rfl rfl e35) ?_
    go_simp
    refine (refJoin_any Xb Yb Xa Ya xb yb ub vb xa ya ua va b a W (HSb.out W hW).2.2 (HSa.out W hW).2.2 Hvb.out.1 Hva.out.1 (by have := HBb.out; have := HBa.out; omega) (by have := HBb.out; have := HBa.out; omega) (by have := HBb.out; have := HBa.out; omega) (by have := HBb.out; have := HBa.out; omega)).mono ?_
    rw [Hba.out]
    rintro e w1' ⟨A2', n2', c2', B2', m2', d2', rfl, l1, l2, l3, g'⟩
    exact ⟨_, rfl, hK _ _ g' ⟨A2', n2', c2', B2', m2', d2', rfl, l1, l2, l3⟩⟩
  -- 16: law.go:48 load
  apply told_is
  · intro W f hW hE h0 K hK
    have e9 := h0 9 (by kernel_rfl)
    conv at e9 => rhs; whnf
    have e35 : f 35 = _ := hE 6 35 _ rfl (by kernel_rfl)
    clear hE h0
    refine yes_of (want_yes rfl rfl e35) ?_
    obtain ⟨z0, z1, _⟩ := HSb.out W hW
    go_simp; exact hK _ _ (gb_refl _ _) rfl
  -- 17: law.go:48 call
  apply told_is
  · intro W f hW hE h0 K hK
    have e41 := hE 1 41 _ rfl (by kernel_rfl)
    have e42 : f 42 = _ := hE 0 42 _ rfl (by kernel_rfl)
    have e35 : f 35 = _ := hE 7 35 _ rfl (by kernel_rfl)
    clear hE h0
    refine yes_of (want_yes rfl rfl e35) ?_
    obtain ⟨X41, x41, y41, Y41, u41, v41, e41, k1_41, k2_41, k3_41⟩ := e41
    go_simp
    refine (refSameSt_any X41 Y41 Xb Yb x41 y41 u41 v41 xb yb ub vb j b W k1_41 (HSb.out W hW).2.2 (by have := k1_41.1.1; have := k1_41.2.1; have := Hvj.out; have := HBb.out; omega) (by have := k1_41.1.1; have := k1_41.2.1; have := Hvj.out; have := HBb.out; omega) (by have := k1_41.1.1; have := k1_41.2.1; have := Hvj.out; have := HBb.out; omega) (by have := k1_41.1.1; have := k1_41.2.1; have := Hvj.out; have := HBb.out; omega)).mono ?_
    intro e w1' hh; obtain ⟨he, g'⟩ := hh.is Hbl.out; subst he
    exact ⟨_, rfl, hK _ _ g' rfl⟩
  -- 18: law.go:48 binOp
  apply told_is
  · intro W f hW hE h0 K hK
    have e38 : f 38 = _ := hE 5 38 _ rfl (by kernel_rfl)
    have e43 : f 43 = _ := hE 0 43 _ rfl (by kernel_rfl)
    have e35 : f 35 = _ := hE 8 35 _ rfl (by kernel_rfl)
    clear hE h0
    refine yes_of (want_yes rfl rfl e35) ?_
    cases bl
    all_goals (go_simp; exact hK _ _ (gb_refl _ _) rfl)
  -- 19: law.go:48 pick
  apply told_is
  · intro W f hW hE h0 K hK
    have e35 : f 35 = _ := hE 9 35 _ rfl (by kernel_rfl)
    have e44 : f 44 = _ := hE 0 44 _ rfl (by kernel_rfl)
    clear hE h0
    refine yes_of (want_free rfl) ?_
    go_simp; exact hK _ _ (gb_refl _ _) rfl
  -- 20: law.go:48 move
  apply told_is
  · intro W f hW hE h0 K hK
    have e45 : f 45 = _ := hE 0 45 _ rfl (by kernel_rfl)
    clear hE h0
    refine yes_of (want_free rfl) ?_
    go_simp; exact hK _ _ (gb_refl _ _) rfl
  -- 21: law.go:48 load
  apply told_is
  · intro W f hW hE h0 K hK
    have e8 := h0 8 (by kernel_rfl)
    conv at e8 => rhs; whnf
    have e46 : f 46 = _ := hE 0 46 _ rfl (by kernel_rfl)
    clear hE h0
    refine yes_of (want_yes rfl rfl e46) ?_
    obtain ⟨z0, z1, _⟩ := HSa.out W hW
    go_simp; exact hK _ _ (gb_refl _ _) rfl
  -- 22: law.go:48 load
  apply told_is
  · intro W f hW hE h0 K hK
    have e10 := h0 10 (by kernel_rfl)
    conv at e10 => rhs; whnf
    have e46 : f 46 = _ := hE 1 46 _ rfl (by kernel_rfl)
    clear hE h0
    refine yes_of (want_yes rfl rfl e46) ?_
    obtain ⟨z0, z1, _⟩ := HSj.out W hW
    go_simp; exact hK _ _ (gb_refl _ _) rfl
  -- 23: law.go:48 call
  apply told_is
  · intro W f hW hE h0 K hK
    have e47 : f 47 = _ := hE 1 47 _ rfl (by kernel_rfl)
    have e48 : f 48 = _ := hE 0 48 _ rfl (by kernel_rfl)
    have e46 : f 46 = _ := hE 2 46 _ rfl (by kernel_rfl)
    clear hE h0
    refine yes_of (want_yes rfl rfl e46) ?_
    go_simp
    refine (pLe_any Xa Ya Xj Yj xa ya ua va xj yj uj vj a j W (HSa.out W hW).2.2 (HSj.out W hW).2.2 Hva.out.1 Hvj.out.1 (by have := HBa.out; have := HBj.out; omega) (by have := HBa.out; have := HBj.out; omega) (by have := HBa.out; have := HBj.out; omega) (by have := HBa.out; have := HBj.out; omega) (by have := HBa.out; have := HBj.out; omega) (by have := HBa.out; have := HBj.out; omega) (by have := HBa.out; have := HBj.out; omega) HLeaj.out).mono ?_
    intro e w1' hh; obtain ⟨he, g'⟩ := hh.yes Hja.out; subst he
    exact ⟨_, rfl, hK _ _ g' rfl⟩
  -- 24: law.go:48 pick
  apply told_is
  · intro W f hW hE h0 K hK
    have e46 : f 46 = _ := hE 3 46 _ rfl (by kernel_rfl)
    have e49 : f 49 = _ := hE 0 49 _ rfl (by kernel_rfl)
    clear hE h0
    refine yes_of (want_free rfl) ?_
    go_simp; exact hK _ _ (gb_refl _ _) rfl
  -- 25: law.go:48 move
  apply told_is
  · intro W f hW hE h0 K hK
    have e50 : f 50 = _ := hE 0 50 _ rfl (by kernel_rfl)
    clear hE h0
    refine yes_of (want_free rfl) ?_
    go_simp; exact hK _ _ (gb_refl _ _) rfl
  -- 26: law.go:48 load
  apply told_is
  · intro W f hW hE h0 K hK
    have e9 := h0 9 (by kernel_rfl)
    conv at e9 => rhs; whnf
    have e51 : f 51 = _ := hE 0 51 _ rfl (by kernel_rfl)
    clear hE h0
    refine yes_of (want_yes rfl rfl e51) ?_
    obtain ⟨z0, z1, _⟩ := HSb.out W hW
    go_simp; exact hK _ _ (gb_refl _ _) rfl
  -- 27: law.go:48 load
  apply told_is
  · intro W f hW hE h0 K hK
    have e10 := h0 10 (by kernel_rfl)
    conv at e10 => rhs; whnf
    have e51 : f 51 = _ := hE 1 51 _ rfl (by kernel_rfl)
    clear hE h0
    refine yes_of (want_yes rfl rfl e51) ?_
    obtain ⟨z0, z1, _⟩ := HSj.out W hW
    go_simp; exact hK _ _ (gb_refl _ _) rfl
  -- 28: law.go:48 call
  apply told_is
  · intro W f hW hE h0 K hK
    have e52 : f 52 = _ := hE 1 52 _ rfl (by kernel_rfl)
    have e53 : f 53 = _ := hE 0 53 _ rfl (by kernel_rfl)
    have e51 : f 51 = _ := hE 2 51 _ rfl (by kernel_rfl)
    clear hE h0
    refine yes_of (want_yes rfl rfl e51) ?_
    go_simp
    refine (pLe_any Xb Yb Xj Yj xb yb ub vb xj yj uj vj b j W (HSb.out W hW).2.2 (HSj.out W hW).2.2 Hvb.out.1 Hvj.out.1 (by have := HBb.out; have := HBj.out; omega) (by have := HBb.out; have := HBj.out; omega) (by have := HBb.out; have := HBj.out; omega) (by have := HBb.out; have := HBj.out; omega) (by have := HBb.out; have := HBj.out; omega) (by have := HBb.out; have := HBj.out; omega) (by have := HBb.out; have := HBj.out; omega) HLebj.out).mono ?_
    intro e w1' hh; obtain ⟨he, g'⟩ := hh.yes Hjb.out; subst he
    exact ⟨_, rfl, hK _ _ g' rfl⟩
  -- 29: law.go:48 pick
  apply told_is
  · intro W f hW hE h0 K hK
    have e51 : f 51 = _ := hE 3 51 _ rfl (by kernel_rfl)
    have e54 : f 54 = _ := hE 0 54 _ rfl (by kernel_rfl)
    clear hE h0
    refine yes_of (want_free rfl) ?_
    go_simp; exact hK _ _ (gb_refl _ _) rfl
  -- 30: law.go:48 move
  apply told_is
  · intro W f hW hE h0 K hK
    have e55 : f 55 = _ := hE 0 55 _ rfl (by kernel_rfl)
    clear hE h0
    refine yes_of (want_free rfl) ?_
    go_simp; exact hK _ _ (gb_refl _ _) rfl
  -- 31: law.go:48 move
  apply told_is
  · intro W f hW hE h0 K hK
    have e7 := h0 7 (by kernel_rfl)
    conv at e7 => rhs; whnf
    have e56 : f 56 = _ := hE 0 56 _ rfl (by kernel_rfl)
    clear hE h0
    refine yes_of (want_yes rfl rfl e56) ?_
    go_simp; exact hK _ _ (gb_refl _ _) rfl
  -- 32: law.go:48 call
  apply told_at stateV_stays
  · intro W f hW hE h0 K hK
    have e57 : f 57 = _ := hE 0 57 _ rfl (by kernel_rfl)
    have e56 : f 56 = _ := hE 1 56 _ rfl (by kernel_rfl)
    clear hE h0
    refine yes_of (want_yes rfl rfl e56) ?_
    go_simp
    refine (pAll_any 4 (some ⟨gl, 0, none⟩) 4 g.l W (HGr.out W hW).al HPl.out.1 (by omega) (by omega)).mono ?_
    rw [Htp.out]
    rintro e w1' ⟨A2', n2', c2', B2', m2', d2', rfl, l1, l2, l3, g'⟩
    exact ⟨_, rfl, hK _ _ g' ⟨A2', n2', c2', B2', m2', d2', rfl, l1, l2, l3⟩⟩
  -- 33: law.go:48 move
  apply told_is
  · intro W f hW hE h0 K hK
    have e7 := h0 7 (by kernel_rfl)
    conv at e7 => rhs; whnf
    have e56 : f 56 = _ := hE 2 56 _ rfl (by kernel_rfl)
    clear hE h0
    refine yes_of (want_yes rfl rfl e56) ?_
    go_simp; exact hK _ _ (gb_refl _ _) rfl
  -- 34: law.go:48 call
  apply told_at stateV_stays
  · intro W f hW hE h0 K hK
    have e59 : f 59 = _ := hE 0 59 _ rfl (by kernel_rfl)
    have e56 : f 56 = _ := hE 3 56 _ rfl (by kernel_rfl)
    clear hE h0
    refine yes_of (want_yes rfl rfl e56) ?_
    go_simp
    refine (refAll_any (some ⟨gl, 0, none⟩) 4 4 g.l W (HGr.out W hW).al HPl.out.1.1 (fun k _ => HPl.out.2 k) (by omega)).mono ?_
    rw [Htp.out]
    rintro e w1' ⟨A2', n2', c2', B2', m2', d2', rfl, l1, l2, l3, g'⟩
    exact ⟨_, rfl, hK _ _ g' ⟨A2', n2', c2', B2', m2', d2', rfl, l1, l2, l3⟩⟩
  -- 35: law.go:48 call
  apply told_is
  · intro W f hW hE h0 K hK
    have e58 := hE 2 58 _ rfl (by kernel_rfl)
    have e60 := hE 0 60 _ rfl (by kernel_rfl)
    have e56 : f 56 = _ := hE 4 56 _ rfl (by kernel_rfl)
    clear hE h0
    refine yes_of (want_yes rfl rfl e56) ?_
    obtain ⟨X58, x58, y58, Y58, u58, v58, e58, k1_58, k2_58, k3_58⟩ := e58
    obtain ⟨X60, x60, y60, Y60, u60, v60, e60, k1_60, k2_60, k3_60⟩ := e60
    go_simp
    refine (refSameSt_any X58 Y58 X60 Y60 x58 y58 u58 v58 x60 y60 u60 v60 tp tp W k1_58 k1_60 (by have := k1_58.1.1; have := k1_58.2.1; have := Hvtp.out; have := k1_60.1.1; have := k1_60.2.1; have := Hvtp.out; omega) (by have := k1_58.1.1; have := k1_58.2.1; have := Hvtp.out; have := k1_60.1.1; have := k1_60.2.1; have := Hvtp.out; omega) (by have := k1_58.1.1; have := k1_58.2.1; have := Hvtp.out; have := k1_60.1.1; have := k1_60.2.1; have := Hvtp.out; omega) (by have := k1_58.1.1; have := k1_58.2.1; have := Hvtp.out; have := k1_60.1.1; have := k1_60.2.1; have := Hvtp.out; omega)).mono ?_
    intro e w1' hh; obtain ⟨he, g'⟩ := hh.yes rfl; subst he
    exact ⟨_, rfl, hK _ _ g' rfl⟩
  -- 36: law.go:48 pick
  apply told_is
  · intro W f hW hE h0 K hK
    have e56 : f 56 = _ := hE 5 56 _ rfl (by kernel_rfl)
    have e61 : f 61 = _ := hE 0 61 _ rfl (by kernel_rfl)
    clear hE h0
    refine yes_of (want_free rfl) ?_
    go_simp; exact hK _ _ (gb_refl _ _) rfl
  -- 37: law.go:48 move
  apply told_is
  · intro W f hW hE h0 K hK
    have e62 : f 62 = _ := hE 0 62 _ rfl (by kernel_rfl)
    clear hE h0
    refine yes_of (want_free rfl) ?_
    go_simp; exact hK _ _ (gb_refl _ _) rfl
  -- 38: law.go:48 call
  apply told_is
  · intro W f hW hE h0 K hK
    have e63 : f 63 = _ := hE 0 63 _ rfl (by kernel_rfl)
    clear hE h0
    refine yes_of (want_yes rfl rfl e63) ?_
    go_simp
    refine (awake9_any _).mono ?_
    rintro e w1' ⟨rfl, g'⟩
    exact ⟨_, rfl, hK _ _ g' rfl⟩
  -- 39: law.go:48 pick
  apply told_is
  · intro W f hW hE h0 K hK
    have e63 : f 63 = _ := hE 1 63 _ rfl (by kernel_rfl)
    have e64 : f 64 = _ := hE 0 64 _ rfl (by kernel_rfl)
    clear hE h0
    refine yes_of (want_free rfl) ?_
    go_simp; exact hK _ _ (gb_refl _ _) rfl
  -- 40: law.go:48 assign
  apply told_is
  · intro W f hW hE h0 K hK
    have e65 : f 65 = _ := hE 0 65 _ rfl (by kernel_rfl)
    clear hE h0
    refine yes_of (want_free rfl) ?_
    go_simp; exact hK _ _ (gb_refl _ _) rfl
  intro W f hW hA
  simp only [lexIn, Act.put, List.setIfInBounds_toArray, List.set_cons_zero, List.set_cons_succ]
  have e6 : f 6 = _ := hA 0 (some 6) _ rfl
  rw [e6]
  clear hA
  go_wp2_with fail
  go_ret
  exact ⟨rfl, gb_below (gb_none HG2.out hW) (Nat.le_refl _)⟩

set_option maxRecDepth 100000 in
theorem lifted (os : Os) (started : os.Started) (H : Type) (enc : TypeId × Value → H) :
    ReturnsInHanded {} Try.checked os 7 .any (Rows.joinMadeSpec.pre6 enc Try.prog Try.f7 Rows.joinMadeRow.domain false) (Rows.joinMadeSpec.post enc Try.prog Try.f7 false true false false) := by
  refine returnsInHanded_of_change (C := Try.checked) own started (by kernel_rfl) Try.func7
    (ChangeSpec.witness6 (enc := enc) (C := Try.checked) false ⟨#[], #[.slice none 0 0, .int .u8 0, .int .u8 0], []⟩ 8 (by kernel_rfl) (by kernel_rfl) (by kernel_rfl) (by kernel_rfl)) ?_
  intro W base args ds gs before hval0 hW hcnd _
  have hval : ∀ (j : Nat) t v, Try.f7.params[j]? = some t → args[j]? = some v → Value.okWide Try.prog W .any base t v := hval0
  have hW' := hW
  obtain ⟨p, q, hA0, hV, rfl, hfz, hnd⟩ := hW
  have hA : DataW.TrodAll enc Try.prog W 0 (fun _ => true) true Try.f7.params.toList args.toList ds p := hA0
  rw [Try.params7] at hA hval
  obtain ⟨v0, vs0, d0, ds0, p0, q0, hargs, rfl, rfl, h0, r0⟩ := trodAll_cons hA
  obtain ⟨v1, vs1, d1, ds1, p1, q1, rfl, rfl, rfl, h1, r1⟩ := trodAll_cons r0
  obtain ⟨v2, vs2, d2, ds2, p2, q2, rfl, rfl, rfl, h2, r2⟩ := trodAll_cons r1
  obtain ⟨rfl, rfl, rfl⟩ := trodAll_nil r2
  obtain rfl : args = #[v0, v1, v2] := by cases args; simp_all
  obtain ⟨rfl, rfl⟩ := trodVars_none hV
  have k0 := h0
  have lt0 : ∀ x ∈ p0, x.block < W.heap.size := by obtain ⟨m, hm⟩ := k0; exact DataW.trod_lt m _ _ _ hm
  obtain ⟨a0, len0, cap0, rfl⟩ := okWide_slice Try.underlying22 (hval 0 22 v0 rfl rfl)
  obtain ⟨z0, w0⟩ : ∃ zs, IsRow .u8 W a0 len0 cap0 zs := by
    obtain ⟨fuel, hf⟩ := h0
    rcases open_ints Try.underlying22 Try.underlying5 (by kernel_rfl) hf with ⟨hcs, _⟩ | ⟨x, l, c, zs, hcs, _, hl, hm, hz, _, hcell, hwz⟩
    · simp [Value.cells] at hcs
      obtain ⟨rfl, rfl, rfl⟩ := hcs
      exact ⟨[], .inl ⟨rfl, rfl, rfl, rfl⟩⟩
    · simp [Value.cells] at hcs
      obtain ⟨rfl, rfl, rfl⟩ := hcs
      exact ⟨zs, .inr ⟨_, rfl, hl, hm, by simpa using hz, hcell, hwz⟩⟩
  obtain ⟨a1, rfl, rfl, rfl, w1⟩ := open_int Try.underlying5 (hval 1 5 v1 rfl rfl) h1
  obtain ⟨a2, rfl, rfl, rfl, w2⟩ := open_int Try.underlying5 (hval 2 5 v2 rfl rfl) h2
  clear hA0 hval0
  refine (walk a0 len0 cap0 z0 a1 a2 W w0 w1 w2).mono fun e W' ⟨he, bel⟩ => ?_
  subst he
  exact ⟨_, rfl, _, _, _, [], _, [], hW', trodAll_mk1 (shut_bool Try.underlying4 _), (trodAll_cons_mk (Below.trod laidOut (by kernel_rfl) (of_decide_eq_true (by kernel_rfl)) k0 bel lt0) (trodAll_cons_mk (shut_int Try.underlying5 w1) (trodAll_cons_mk (shut_int Try.underlying5 w2) trodAll_mk0))), rfl, bel.frame _, fun h => by cases h⟩

theorem over : Rows.joinMadeRow.holds Try.pinned (OpenSpec.ofChange Rows.joinMadeSpec) :=
  OpenClaim.holds_of_wide 7 Try.f7 rfl rfl rfl rfl rfl rfl rfl ⟨rfl, rfl, rfl, rfl, rfl⟩ rfl rfl rfl rfl rfl (by kernel_rfl) Try.func7 (by kernel_rfl)
    (of_decide_eq_true (by kernel_rfl)) (by unfold Func.isWrapper; first | (rw [if_pos (by decide +kernel)]; kernel_rfl) | (rw [if_neg (by decide +kernel)]; exact ⟨rfl, rfl⟩))
    (fun os started H enc _ => lifted os started H enc)

theorem proved : Rows.JoinMadeSaid := over
#print axioms proved
end Go.Proofs.Ytkjjgbcbgjgjeaa.joinMade
