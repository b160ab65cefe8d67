/-
  Proved: whatever values of its parameters' types it is called with, deaddroplaw9.JoinLaws returns true, and each argument reads behind the call as it read before.
  Conditions: none but those of the row itself.
-/
import Derived.Test.YtkjjgbcbgjgjeaaRows
import Derived.WalkKit
import Derived.ProofKit
import Derived.OpenShut
import Derived.ShutString
import Derived.Test.YtkjjgbcbgjgjeaaJnB
import Derived.Test.YtkjjgbcbgjgjeaaTold
import Derived.Deep.DeepCutAuto
import Derived.Deep.RegionHeld3
import Derived.Deep.DrawnRows
import Derived.ChangeOld
import Derived.Below
namespace Go.Proofs.Ytkjjgbcbgjgjeaa.joinLaws
open Go.ChangeShapes Go.WideShapes Go.ChangeAt Go.RowKit
open Go.ChangeMaps (open_string shut_string)
open Go.Proofs.Ytkjjgbcbgjgjeaa.Mm Go.Proofs.Ytkjjgbcbgjgjeaa.Dt Go.Proofs.Ytkjjgbcbgjgjeaa.Td
set_option linter.unusedVariables false

theorem own : ownKnob Try.prog.godebug = none := by kernel_rfl
theorem laidOut : laidOutB Try.prog = true := by kernel_rfl
/-- What the walk is told of a slice of integers that came in. -/
def IsRow (k : IntKind) (w : World) (a : Option Addr) (len cap : Nat) (zs : List Int) : Prop :=
  (a = none ∧ len = 0 ∧ cap = 0 ∧ zs = []) ∨
  ∃ x, a = some x ∧ len ≤ cap ∧ cap ≤ maxLen ∧ zs.length = cap ∧ (∀ i, i < zs.length → w.cell? (x.add i) = some (.int k (zs.getD i 0))) ∧ ∀ n ∈ zs, (Lit.int k n).wf = true

attribute [local go_sem] Td.upon_value Td.upon_skip Td.upon_enter Td.upon_row Td.look_tmp Td.look_const Td.look_func Td.look_global
theorem rows2 (w1 : World) (X Y : Array Value) (t : TypeId) : Row (((w1.alloc (.cells X t)).alloc (.cells Y t)).drew) w1.heap.size t X ∧ Row (((w1.alloc (.cells X t)).alloc (.cells Y t)).drew) (w1.heap.size + 1) t Y := by
  have h1 := Row.new (w1.alloc (.cells X t)) t Y
  rw [World.size_alloc] at h1
  exact ⟨((Row.new w1 t X).alloc _).drew, h1.drew⟩
theorem rows3 (w1 : World) (X Y Z : Array Value) (t : TypeId) : Row ((((w1.alloc (.cells X t)).alloc (.cells Y t)).alloc (.cells Z t)).drew) w1.heap.size t X ∧ Row ((((w1.alloc (.cells X t)).alloc (.cells Y t)).alloc (.cells Z t)).drew) (w1.heap.size + 1) t Y ∧ Row ((((w1.alloc (.cells X t)).alloc (.cells Y t)).alloc (.cells Z t)).drew) (w1.heap.size + 1 + 1) t Z := by
  have h1 := Row.new (w1.alloc (.cells X t)) t Y
  have h2 := Row.new ((w1.alloc (.cells X t)).alloc (.cells Y t)) t Z
  rw [World.size_alloc] at h1
  rw [World.size_alloc, World.size_alloc] at h2
  exact ⟨((((Row.new w1 t X).alloc _).alloc _).drew), ((h1.alloc _).drew), h2.drew⟩

set_option maxHeartbeats 40000000 in
set_option maxRecDepth 100000 in
theorem walk (a0 : Option Addr) (len0 cap0 : Nat) (z0 : List Int) (w : World) (w0 : IsRow .u8 w a0 len0 cap0 z0) :
    Calls Try.prog 8 #[.slice a0 len0 cap0] w fun e w' => e = .returned (.bool true) ∧ Below w.heap.size w w' := by
  obtain ⟨hnl0, _, _⟩ := nl_of_row w0
  obtain ⟨g, hg0⟩ : ∃ g, apartK (z0.take len0) (min (len0 / 3) 40) = g := ⟨_, rfl⟩
  have hfine : Fine g 40 := by rw [← hg0]; exact (apartK_fine _ _ (Nat.min_le_right _ _)).more (Nat.min_le_right _ _)
  have HFine := Lib.hid hfine
  have HAp : Hid (∀ W, w.grownBy W none → Calls Try.prog 33 #[.slice a0 len0 cap0] W (Grps g W)) := fun W hW => by rw [← hg0]; exact apart9_any a0 len0 cap0 _ W (hnl0.keep hW)
  clear hnl0 hg0
  obtain ⟨a, ha⟩ : ∃ a, g.at_ 0 = a := ⟨_, rfl⟩
  have gen_a : Gen g a := by rw [← ha]; exact .one 0 (by unfold In4; omega)
  have Hva : Hid (SS a ∧ a.seen.length ≤ 320 ∧ a.facts.length ≤ 320) := by
    have h := (gen_a.low hfine).short (gen_a.may hfine (by omega))
    exact ⟨gen_a.ss hfine, by omega, by omega⟩
  obtain ⟨b, hb⟩ : ∃ b, g.at_ 1 = b := ⟨_, rfl⟩
  have gen_b : Gen g b := by rw [← hb]; exact .one 1 (by unfold In4; omega)
  have Hvb : Hid (SS b ∧ b.seen.length ≤ 320 ∧ b.facts.length ≤ 320) := by
    have h := (gen_b.low hfine).short (gen_b.may hfine (by omega))
    exact ⟨gen_b.ss hfine, by omega, by omega⟩
  obtain ⟨c, hc⟩ : ∃ c, g.at_ 2 = c := ⟨_, rfl⟩
  have gen_c : Gen g c := by rw [← hc]; exact .one 2 (by unfold In4; omega)
  have Hvc : Hid (SS c ∧ c.seen.length ≤ 320 ∧ c.facts.length ≤ 320) := by
    have h := (gen_c.low hfine).short (gen_c.may hfine (by omega))
    exact ⟨gen_c.ss hfine, by omega, by omega⟩
  obtain ⟨ab, hab⟩ : ∃ ab, joinS a b = ab := ⟨_, rfl⟩
  have gen_ab : Gen g ab := by rw [← hab]; exact .two _ _ gen_a gen_b
  have Hvab : Hid (SS ab ∧ ab.seen.length ≤ 320 ∧ ab.facts.length ≤ 320) := by
    have h := (gen_ab.low hfine).short (gen_ab.may hfine (by omega))
    exact ⟨gen_ab.ss hfine, by omega, by omega⟩
  have Hab := Lib.hid hab
  obtain ⟨bc, hbc⟩ : ∃ bc, joinS b c = bc := ⟨_, rfl⟩
  have gen_bc : Gen g bc := by rw [← hbc]; exact .two _ _ gen_b gen_c
  have Hvbc : Hid (SS bc ∧ bc.seen.length ≤ 320 ∧ bc.facts.length ≤ 320) := by
    have h := (gen_bc.low hfine).short (gen_bc.may hfine (by omega))
    exact ⟨gen_bc.ss hfine, by omega, by omega⟩
  have Hbc := Lib.hid hbc
  obtain ⟨abc, habc⟩ : ∃ abc, joinS ab c = abc := ⟨_, rfl⟩
  have gen_abc : Gen g abc := by rw [← habc]; exact .two _ _ gen_ab gen_c
  have Hvabc : Hid (SS abc ∧ abc.seen.length ≤ 320 ∧ abc.facts.length ≤ 320) := by
    have h := (gen_abc.low hfine).short (gen_abc.may hfine (by omega))
    exact ⟨gen_abc.ss hfine, by omega, by omega⟩
  have Habc := Lib.hid habc
  have Hba : Hid (joinS b a = ab) := by show _ = _; rw [← hab]; exact (gen_b.comm hfine gen_a)
  have Ha_bc : Hid (joinS a bc = abc) := by show _ = _; rw [← habc, ← hab, ← hbc]; exact (gen_a.assoc hfine gen_b gen_c).symm
  have Haba : Hid (joinS ab a = ab) := by show _ = _; rw [← hab]; exact join_more (gen_a.ss hfine) (gen_b.ss hfine) (gen_a.agree hfine gen_b)
  have Haa : Hid (joinS a a = a) := gen_a.self hfine
  clear hab hbc habc gen_ab gen_bc gen_abc gen_a gen_b gen_c hfine
  go_enter Try.func8, Try.ntmps8
  go_upto_region 2 with (go_at_call 33; refine (HAp.out w (gb_refl _ _)).mono ?_; rintro e w1 ⟨gl, rfl, hgr, hgl, g1⟩)
  have HG1 := Lib.hid g1
  clear hgl g1
  obtain ⟨Xa, xa, ya, Ya, ua, va, hca, hda, hna, hma, hgeta⟩ := hgr.get (i := 0) (by omega)
  rw [show g.at_ ((0 : Nat) : Int) = a from ha] at hna hma hgeta
  have HQa := Lib.hid hgeta
  have HBa : Hid (xa ≤ 320 ∧ ua ≤ 320 ∧ xa ≤ ya ∧ ua ≤ va) := by have := Hva.out; exact ⟨by omega, by omega, hca, hda⟩
  obtain ⟨pa0, pa1, _⟩ := hgeta w1 (gb_refl _ _)
  obtain ⟨Xb, xb, yb, Yb, ub, vb, hcb, hdb, hnb, hmb, hgetb⟩ := hgr.get (i := 1) (by omega)
  rw [show g.at_ ((1 : Nat) : Int) = b from hb] at hnb hmb hgetb
  have HQb := Lib.hid hgetb
  have HBb : Hid (xb ≤ 320 ∧ ub ≤ 320 ∧ xb ≤ yb ∧ ub ≤ vb) := by have := Hvb.out; exact ⟨by omega, by omega, hcb, hdb⟩
  obtain ⟨pb0, pb1, _⟩ := hgetb w1 (gb_refl _ _)
  obtain ⟨Xc, xc, yc, Yc, uc, vc, hcc, hdc, hnc, hmc, hgetc⟩ := hgr.get (i := 2) (by omega)
  rw [show g.at_ ((2 : Nat) : Int) = c from hc] at hnc hmc hgetc
  have HQc := Lib.hid hgetc
  have HBc : Hid (xc ≤ 320 ∧ uc ≤ 320 ∧ xc ≤ yc ∧ uc ≤ vc) := by have := Hvc.out; exact ⟨by omega, by omega, hcc, hdc⟩
  obtain ⟨pc0, pc1, _⟩ := hgetc w1 (gb_refl _ _)
  have HSX : Hid (∀ w' : World, w1.grownBy w' none → w'.cell? ⟨gl, 0, none⟩ = some (.slice Xa xa ya) ∧ w'.cell? ⟨gl, 1, none⟩ = some (.slice Ya ua va) ∧ w'.cell? ⟨gl, 2, none⟩ = some (.slice Xb xb yb) ∧ w'.cell? ⟨gl, 3, none⟩ = some (.slice Yb ub vb) ∧ w'.cell? ⟨gl, 4, none⟩ = some (.slice Xc xc yc) ∧ w'.cell? ⟨gl, 5, none⟩ = some (.slice Yc uc vc)) := fun W hW => ⟨(HQa.out W hW).1, (HQa.out W hW).2.1, (HQb.out W hW).1, (HQb.out W hW).2.1, (HQc.out W hW).1, (HQc.out W hW).2.1⟩
  clear hca hda hna hma hgeta hcb hdb hnb hmb hgetb hcc hdc hnc hmc hgetc
  go_upto_region 2 with fail
  go_cut [4, 5, 6] (fun q0 q1 q2 wx => ∃ b0 b1 b2 : Nat, q0 = .pointer (some ⟨b0, 0, none⟩) ∧ q1 = .pointer (some ⟨b1, 0, none⟩) ∧ q2 = .pointer (some ⟨b2, 0, none⟩) ∧ Row wx b0 26 #[.slice Xa xa ya, .slice Ya ua va] ∧ Row wx b1 26 #[.slice Xb xb yb, .slice Yb ub vb] ∧ Row wx b2 26 #[.slice Xc xc yc, .slice Yc uc vc] ∧ w1.grownBy wx none)
  case first =>
    go_region_held3 (fun w' => w'.cell? ⟨gl, 0, none⟩ = some (.slice Xa xa ya) ∧ w'.cell? ⟨gl, 1, none⟩ = some (.slice Ya ua va) ∧ w'.cell? ⟨gl, 2, none⟩ = some (.slice Xb xb yb) ∧ w'.cell? ⟨gl, 3, none⟩ = some (.slice Yb ub vb) ∧ w'.cell? ⟨gl, 4, none⟩ = some (.slice Xc xc yc) ∧ w'.cell? ⟨gl, 5, none⟩ = some (.slice Yc uc vc)) (first | (with_reducible exact HSX.out _ (gb_drew (gb_refl _ _))) | (with_reducible exact HSX.out _ (gb_drew (gb_alloc (gb_refl _ _) _))) | (with_reducible exact HSX.out _ (gb_drew (gb_alloc (gb_alloc (gb_refl _ _) _) _))) | (with_reducible exact HSX.out _ (gb_drew (gb_alloc (gb_alloc (gb_alloc (gb_refl _ _) _) _) _))) | go_keep) (fail)
    all_goals (try go_wp2_with fail)
    all_goals go_meet
    all_goals first
      | exact ⟨_, _, _, rfl, rfl, rfl, (rows3 _ _ _ _ _).1, (rows3 _ _ _ _ _).2.1, (rows3 _ _ _ _ _).2.2, gb_drew (gb_alloc (gb_alloc (gb_alloc (gb_refl _ _) _) _) _)⟩
      | exact ⟨_, _, _, rfl, rfl, rfl, (rows3 _ _ _ _ _).1, (rows3 _ _ _ _ _).2.2, (rows3 _ _ _ _ _).2.1, gb_drew (gb_alloc (gb_alloc (gb_alloc (gb_refl _ _) _) _) _)⟩
      | exact ⟨_, _, _, rfl, rfl, rfl, (rows3 _ _ _ _ _).2.1, (rows3 _ _ _ _ _).1, (rows3 _ _ _ _ _).2.2, gb_drew (gb_alloc (gb_alloc (gb_alloc (gb_refl _ _) _) _) _)⟩
      | exact ⟨_, _, _, rfl, rfl, rfl, (rows3 _ _ _ _ _).2.1, (rows3 _ _ _ _ _).2.2, (rows3 _ _ _ _ _).1, gb_drew (gb_alloc (gb_alloc (gb_alloc (gb_refl _ _) _) _) _)⟩
      | exact ⟨_, _, _, rfl, rfl, rfl, (rows3 _ _ _ _ _).2.2, (rows3 _ _ _ _ _).1, (rows3 _ _ _ _ _).2.1, gb_drew (gb_alloc (gb_alloc (gb_alloc (gb_refl _ _) _) _) _)⟩
      | exact ⟨_, _, _, rfl, rfl, rfl, (rows3 _ _ _ _ _).2.2, (rows3 _ _ _ _ _).2.1, (rows3 _ _ _ _ _).1, gb_drew (gb_alloc (gb_alloc (gb_alloc (gb_refl _ _) _) _) _)⟩
  case rest =>
  obtain ⟨b0, b1, b2, rfl, rfl, rfl, hra, hrb, hrc, hg2⟩ := hcut
  clear pa0 pa1 pb0 pb1 pc0 pc1 HSX
  have HG2 : Hid (w.grownBy wc none) := gb_none HG1.out hg2
  have HSa : Hid (∀ W, wc.grownBy W none → W.cell? ⟨b0, 0, none⟩ = some (.slice Xa xa ya) ∧ W.cell? ⟨b0, 1, none⟩ = some (.slice Ya ua va) ∧ SL W Xa xa Ya ua a) := fun W hW => ⟨(hra.kept hW (by simp)).at_ (i := 0) rfl, (hra.kept hW (by simp)).at_ (i := 1) rfl, (HQa.out W (gb_none hg2 hW)).2.2⟩
  have HSb : Hid (∀ W, wc.grownBy W none → W.cell? ⟨b1, 0, none⟩ = some (.slice Xb xb yb) ∧ W.cell? ⟨b1, 1, none⟩ = some (.slice Yb ub vb) ∧ SL W Xb xb Yb ub b) := fun W hW => ⟨(hrb.kept hW (by simp)).at_ (i := 0) rfl, (hrb.kept hW (by simp)).at_ (i := 1) rfl, (HQb.out W (gb_none hg2 hW)).2.2⟩
  have HSc : Hid (∀ W, wc.grownBy W none → W.cell? ⟨b2, 0, none⟩ = some (.slice Xc xc yc) ∧ W.cell? ⟨b2, 1, none⟩ = some (.slice Yc uc vc) ∧ SL W Xc xc Yc uc c) := fun W hW => ⟨(hrc.kept hW (by simp)).at_ (i := 0) rfl, (hrc.kept hW (by simp)).at_ (i := 1) rfl, (HQc.out W (gb_none hg2 hW)).2.2⟩
  clear hra hrb hrc hg2
  obtain ⟨ia0, ia1, _⟩ := HSa.out wc (gb_refl _ _)
  obtain ⟨ib0, ib1, _⟩ := HSb.out wc (gb_refl _ _)
  have HJn : Hid (Calls Try.prog 28 #[.agg #[.slice Xa xa ya, .slice Ya ua va], .agg #[.slice Xb xb yb, .slice Yb ub vb]] wc (States ab wc)) := by
    have h := pJoin_any Xa Ya Xb Yb xa ya ua va xb yb ub vb a b wc (HSa.out wc (gb_refl _ _)).2.2 (HSb.out wc (gb_refl _ _)).2.2 Hva.out.1 Hvb.out.1 (by have := HBa.out; have := HBb.out; omega) (by have := HBa.out; have := HBb.out; omega) (by have := HBa.out; have := HBb.out; omega) (by have := HBa.out; have := HBb.out; omega) (by have := HBa.out; have := HBb.out; omega) (by have := HBa.out; have := HBb.out; omega) (by have := HBa.out; have := HBb.out; omega)
    rw [Hab.out] at h
    exact h
  go_upto_region 4 with (go_at_call 28; refine HJn.out.mono ?_; rintro e w3 ⟨Xab, xab, yab, Yab, uab, vab, rfl, hs, hc, hd, g3⟩)
  obtain ⟨bj, hbj⟩ : ∃ bj, w3.heap.size = bj := ⟨_, rfl⟩
  rw [hbj]
  refine Td.named (fun W => wc.grownBy W none ∧ Row W bj 26 #[.slice Xab xab yab, .slice Yab uab vab] ∧ SL W Xab xab Yab uab ab) ⟨gb_alloc g3 _, by rw [← hbj]; exact Row.new _ _ _, hs.keep (gb_alloc (gb_refl _ _) _)⟩ ?_
  rintro W3 ⟨hg3, hrow3, hs3⟩
  have HBab : Hid (xab ≤ 320 ∧ uab ≤ 320 ∧ xab ≤ yab ∧ uab ≤ vab) := by have h1 := hs3.1.1; have h2 := hs3.2.1; have := Hvab.out; exact ⟨by omega, by omega, hc, hd⟩
  have HSab : Hid (∀ W, W3.grownBy W none → W.cell? ⟨bj, 0, none⟩ = some (.slice Xab xab yab) ∧ W.cell? ⟨bj, 1, none⟩ = some (.slice Yab uab vab) ∧ SL W Xab xab Yab uab ab) := fun W hW => ⟨(hrow3.kept hW (by simp)).at_ (i := 0) rfl, (hrow3.kept hW (by simp)).at_ (i := 1) rfl, hs3.keep hW⟩
  have HGx : Hid (wc.grownBy W3 none) := hg3
  replace HSa : Hid (∀ W, W3.grownBy W none → _) := fun W hW => HSa.out W (gb_none HGx.out hW)
  replace HSb : Hid (∀ W, W3.grownBy W none → _) := fun W hW => HSb.out W (gb_none HGx.out hW)
  replace HSc : Hid (∀ W, W3.grownBy W none → _) := fun W hW => HSc.out W (gb_none HGx.out hW)
  replace HG2 : Hid (w.grownBy W3 none) := gb_none HG2.out HGx.out
  clear hbj hs hc hd g3 hg3 hrow3 hs3 HJn HGx ia0 ia1 ib0 ib1
  apply wp_region_told (le := fun a b => a.grownBy b none) [isV _, isV _, isV _, stateV ab, isV _, isV _, isV _, isV _, stateV abc, isV _, isV _, isV _, stateV bc, stateV abc, isV _, isV _, isV _, isV _, isV _, stateV ab, isV _, isV _, isV _, isV _, isV _, isV _, stateV a, isV _, isV _, isV _, isV _, isV _, isV _, isV _]
  case hn => rfl
  case hm => kernel_rfl
  case hB => kernel_rfl
  case ht => exact fun _ _ _ h k => gb_none h k
  case hw => exact gb_drew (gb_refl _ _)
  -- 0: law.go:56 load
  apply told_is
  · intro W f hW hE h0 K hK
    have e7 := h0 7 (by kernel_rfl)
    conv at e7 => rhs; whnf
    clear hE h0
    refine yes_of (want_free rfl) ?_
    obtain ⟨z0, z1, _⟩ := HSab.out W hW
    go_simp; exact hK _ _ (gb_refl _ _) rfl
  -- 1: law.go:56 load
  apply told_is
  · intro W f hW hE h0 K hK
    have e5 := h0 5 (by kernel_rfl)
    conv at e5 => rhs; whnf
    clear hE h0
    refine yes_of (want_free rfl) ?_
    obtain ⟨z0, z1, _⟩ := HSb.out W hW
    go_simp; exact hK _ _ (gb_refl _ _) rfl
  -- 2: law.go:56 load
  apply told_is
  · intro W f hW hE h0 K hK
    have e4 := h0 4 (by kernel_rfl)
    conv at e4 => rhs; whnf
    clear hE h0
    refine yes_of (want_free rfl) ?_
    obtain ⟨z0, z1, _⟩ := HSa.out W hW
    go_simp; exact hK _ _ (gb_refl _ _) rfl
  -- 3: law.go:56 call
  apply told_at stateV_stays
  · intro W f hW hE h0 K hK
    have e23 : f 23 = _ := hE 1 23 _ rfl (by kernel_rfl)
    have e24 : f 24 = _ := hE 0 24 _ rfl (by kernel_rfl)
    clear hE h0
    refine yes_of (want_free rfl) ?_
    go_simp
    refine (pJoin_any Xb Yb Xa Ya xb yb ub vb xa ya ua va b a W (HSb.out W hW).2.2 (HSa.out W hW).2.2 Hvb.out.1 Hva.out.1 (by have := HBb.out; have := HBa.out; omega) (by have := HBb.out; have := HBa.out; omega) (by have := HBb.out; have := HBa.out; omega) (by have := HBb.out; have := HBa.out; omega) (by have := HBb.out; have := HBa.out; omega) (by have := HBb.out; have := HBa.out; omega) (by have := HBb.out; have := HBa.out; omega)).mono ?_
    rw [Hba.out]
    rintro e w1' ⟨A2', n2', c2', B2', m2', d2', rfl, l1, l2, l3, g'⟩
    exact ⟨_, rfl, hK _ _ g' ⟨A2', n2', c2', B2', m2', d2', rfl, l1, l2, l3⟩⟩
  -- 4: law.go:56 call
  apply told_is
  · intro W f hW hE h0 K hK
    have e22 : f 22 = _ := hE 3 22 _ rfl (by kernel_rfl)
    have e25 := hE 0 25 _ rfl (by kernel_rfl)
    clear hE h0
    refine yes_of (want_free rfl) ?_
    obtain ⟨X25, x25, y25, Y25, u25, v25, e25, k1_25, k2_25, k3_25⟩ := e25
    go_simp
    refine (refSameSt_any Xab Yab X25 Y25 xab yab uab vab x25 y25 u25 v25 ab ab W (HSab.out W hW).2.2 k1_25 (by have := HBab.out; have := k1_25.1.1; have := k1_25.2.1; have := Hvab.out; omega) (by have := HBab.out; have := k1_25.1.1; have := k1_25.2.1; have := Hvab.out; omega) (by have := HBab.out; have := k1_25.1.1; have := k1_25.2.1; have := Hvab.out; omega) (by have := HBab.out; have := k1_25.1.1; have := k1_25.2.1; have := Hvab.out; omega)).mono ?_
    intro e w1' hh; obtain ⟨he, g'⟩ := hh.yes rfl; subst he
    exact ⟨_, rfl, hK _ _ g' rfl⟩
  -- 5: law.go:56 move
  apply told_is
  · intro W f hW hE h0 K hK
    have e26 : f 26 = _ := hE 0 26 _ rfl (by kernel_rfl)
    clear hE h0
    refine yes_of (want_free rfl) ?_
    go_simp; exact hK _ _ (gb_refl _ _) rfl
  -- 6: law.go:56 load
  apply told_is
  · intro W f hW hE h0 K hK
    have e7 := h0 7 (by kernel_rfl)
    conv at e7 => rhs; whnf
    have e27 : f 27 = _ := hE 0 27 _ rfl (by kernel_rfl)
    clear hE h0
    refine yes_of (want_yes rfl rfl e27) ?_
    obtain ⟨z0, z1, _⟩ := HSab.out W hW
    go_simp; exact hK _ _ (gb_refl _ _) rfl
  -- 7: law.go:56 load
  apply told_is
  · intro W f hW hE h0 K hK
    have e6 := h0 6 (by kernel_rfl)
    conv at e6 => rhs; whnf
    have e27 : f 27 = _ := hE 1 27 _ rfl (by kernel_rfl)
    clear hE h0
    refine yes_of (want_yes rfl rfl e27) ?_
    obtain ⟨z0, z1, _⟩ := HSc.out W hW
    go_simp; exact hK _ _ (gb_refl _ _) rfl
  -- 8: law.go:56 call
  apply told_at stateV_stays
  · intro W f hW hE h0 K hK
    have e28 : f 28 = _ := hE 1 28 _ rfl (by kernel_rfl)
    have e29 : f 29 = _ := hE 0 29 _ rfl (by kernel_rfl)
    have e27 : f 27 = _ := hE 2 27 _ rfl (by kernel_rfl)
    clear hE h0
    refine yes_of (want_yes rfl rfl e27) ?_
    go_simp
    refine (pJoin_any Xab Yab Xc Yc xab yab uab vab xc yc uc vc ab c W (HSab.out W hW).2.2 (HSc.out W hW).2.2 Hvab.out.1 Hvc.out.1 (by have := HBab.out; have := HBc.out; omega) (by have := HBab.out; have := HBc.out; omega) (by have := HBab.out; have := HBc.out; omega) (by have := HBab.out; have := HBc.out; omega) (by have := HBab.out; have := HBc.out; omega) (by have := HBab.out; have := HBc.out; omega) (by have := HBab.out; have := HBc.out; omega)).mono ?_
    rw [Habc.out]
    rintro e w1' ⟨A2', n2', c2', B2', m2', d2', rfl, l1, l2, l3, g'⟩
    exact ⟨_, rfl, hK _ _ g' ⟨A2', n2', c2', B2', m2', d2', rfl, l1, l2, l3⟩⟩
  -- 9: law.go:56 load
  apply told_is
  · intro W f hW hE h0 K hK
    have e4 := h0 4 (by kernel_rfl)
    conv at e4 => rhs; whnf
    have e27 : f 27 = _ := hE 3 27 _ rfl (by kernel_rfl)
    clear hE h0
    refine yes_of (want_yes rfl rfl e27) ?_
    obtain ⟨z0, z1, _⟩ := HSa.out W hW
    go_simp; exact hK _ _ (gb_refl _ _) rfl
  -- 10: law.go:56 load
  apply told_is
  · intro W f hW hE h0 K hK
    have e5 := h0 5 (by kernel_rfl)
    conv at e5 => rhs; whnf
    have e27 : f 27 = _ := hE 4 27 _ rfl (by kernel_rfl)
    clear hE h0
    refine yes_of (want_yes rfl rfl e27) ?_
    obtain ⟨z0, z1, _⟩ := HSb.out W hW
    go_simp; exact hK _ _ (gb_refl _ _) rfl
  -- 11: law.go:56 load
  apply told_is
  · intro W f hW hE h0 K hK
    have e6 := h0 6 (by kernel_rfl)
    conv at e6 => rhs; whnf
    have e27 : f 27 = _ := hE 5 27 _ rfl (by kernel_rfl)
    clear hE h0
    refine yes_of (want_yes rfl rfl e27) ?_
    obtain ⟨z0, z1, _⟩ := HSc.out W hW
    go_simp; exact hK _ _ (gb_refl _ _) rfl
  -- 12: law.go:56 call
  apply told_at stateV_stays
  · intro W f hW hE h0 K hK
    have e32 : f 32 = _ := hE 1 32 _ rfl (by kernel_rfl)
    have e33 : f 33 = _ := hE 0 33 _ rfl (by kernel_rfl)
    have e27 : f 27 = _ := hE 6 27 _ rfl (by kernel_rfl)
    clear hE h0
    refine yes_of (want_yes rfl rfl e27) ?_
    go_simp
    refine (pJoin_any Xb Yb Xc Yc xb yb ub vb xc yc uc vc b c W (HSb.out W hW).2.2 (HSc.out W hW).2.2 Hvb.out.1 Hvc.out.1 (by have := HBb.out; have := HBc.out; omega) (by have := HBb.out; have := HBc.out; omega) (by have := HBb.out; have := HBc.out; omega) (by have := HBb.out; have := HBc.out; omega) (by have := HBb.out; have := HBc.out; omega) (by have := HBb.out; have := HBc.out; omega) (by have := HBb.out; have := HBc.out; omega)).mono ?_
    rw [Hbc.out]
    rintro e w1' ⟨A2', n2', c2', B2', m2', d2', rfl, l1, l2, l3, g'⟩
    exact ⟨_, rfl, hK _ _ g' ⟨A2', n2', c2', B2', m2', d2', rfl, l1, l2, l3⟩⟩
  -- 13: law.go:56 call
  apply told_at stateV_stays
  · intro W f hW hE h0 K hK
    have e31 : f 31 = _ := hE 3 31 _ rfl (by kernel_rfl)
    have e34 := hE 0 34 _ rfl (by kernel_rfl)
    have e27 : f 27 = _ := hE 7 27 _ rfl (by kernel_rfl)
    clear hE h0
    refine yes_of (want_yes rfl rfl e27) ?_
    obtain ⟨X34, x34, y34, Y34, u34, v34, e34, k1_34, k2_34, k3_34⟩ := e34
    go_simp
    refine (pJoin_any Xa Ya X34 Y34 xa ya ua va x34 y34 u34 v34 a bc W (HSa.out W hW).2.2 k1_34 Hva.out.1 Hvbc.out.1 (by have := HBa.out; have := k1_34.1.1; have := k1_34.2.1; have := Hvbc.out; omega) (by have := HBa.out; have := k1_34.1.1; have := k1_34.2.1; have := Hvbc.out; omega) (by have := HBa.out; have := k1_34.1.1; have := k1_34.2.1; have := Hvbc.out; omega) (by have := HBa.out; have := k1_34.1.1; have := k1_34.2.1; have := Hvbc.out; omega) (by have := HBa.out; have := k1_34.1.1; have := k1_34.2.1; have := Hvbc.out; omega) (by have := HBa.out; have := k1_34.1.1; have := k1_34.2.1; have := Hvbc.out; omega) (by have := HBa.out; have := k1_34.1.1; have := k1_34.2.1; have := Hvbc.out; omega)).mono ?_
    rw [Ha_bc.out]
    rintro e w1' ⟨A2', n2', c2', B2', m2', d2', rfl, l1, l2, l3, g'⟩
    exact ⟨_, rfl, hK _ _ g' ⟨A2', n2', c2', B2', m2', d2', rfl, l1, l2, l3⟩⟩
  -- 14: law.go:56 call
  apply told_is
  · intro W f hW hE h0 K hK
    have e30 := hE 5 30 _ rfl (by kernel_rfl)
    have e35 := hE 0 35 _ rfl (by kernel_rfl)
    have e27 : f 27 = _ := hE 8 27 _ rfl (by kernel_rfl)
    clear hE h0
    refine yes_of (want_yes rfl rfl e27) ?_
    obtain ⟨X30, x30, y30, Y30, u30, v30, e30, k1_30, k2_30, k3_30⟩ := e30
    obtain ⟨X35, x35, y35, Y35, u35, v35, e35, k1_35, k2_35, k3_35⟩ := e35
    go_simp
    refine (refSameSt_any X30 Y30 X35 Y35 x30 y30 u30 v30 x35 y35 u35 v35 abc abc W k1_30 k1_35 (by have := k1_30.1.1; have := k1_30.2.1; have := Hvabc.out; have := k1_35.1.1; have := k1_35.2.1; have := Hvabc.out; omega) (by have := k1_30.1.1; have := k1_30.2.1; have := Hvabc.out; have := k1_35.1.1; have := k1_35.2.1; have := Hvabc.out; omega) (by have := k1_30.1.1; have := k1_30.2.1; have := Hvabc.out; have := k1_35.1.1; have := k1_35.2.1; have := Hvabc.out; omega) (by have := k1_30.1.1; have := k1_30.2.1; have := Hvabc.out; have := k1_35.1.1; have := k1_35.2.1; have := Hvabc.out; omega)).mono ?_
    intro e w1' hh; obtain ⟨he, g'⟩ := hh.yes rfl; subst he
    exact ⟨_, rfl, hK _ _ g' rfl⟩
  -- 15: law.go:56 pick
  apply told_is
  · intro W f hW hE h0 K hK
    have e27 : f 27 = _ := hE 9 27 _ rfl (by kernel_rfl)
    have e36 : f 36 = _ := hE 0 36 _ rfl (by kernel_rfl)
    clear hE h0
    refine yes_of (want_free rfl) ?_
    go_simp; exact hK _ _ (gb_refl _ _) rfl
  -- 16: law.go:56 move
  apply told_is
  · intro W f hW hE h0 K hK
    have e37 : f 37 = _ := hE 0 37 _ rfl (by kernel_rfl)
    clear hE h0
    refine yes_of (want_free rfl) ?_
    go_simp; exact hK _ _ (gb_refl _ _) rfl
  -- 17: law.go:56 load
  apply told_is
  · intro W f hW hE h0 K hK
    have e7 := h0 7 (by kernel_rfl)
    conv at e7 => rhs; whnf
    have e38 : f 38 = _ := hE 0 38 _ rfl (by kernel_rfl)
    clear hE h0
    refine yes_of (want_yes rfl rfl e38) ?_
    obtain ⟨z0, z1, _⟩ := HSab.out W hW
    go_simp; exact hK _ _ (gb_refl _ _) rfl
  -- 18: law.go:56 load
  apply told_is
  · intro W f hW hE h0 K hK
    have e4 := h0 4 (by kernel_rfl)
    conv at e4 => rhs; whnf
    have e38 : f 38 = _ := hE 1 38 _ rfl (by kernel_rfl)
    clear hE h0
    refine yes_of (want_yes rfl rfl e38) ?_
    obtain ⟨z0, z1, _⟩ := HSa.out W hW
    go_simp; exact hK _ _ (gb_refl _ _) rfl
  -- 19: law.go:56 call
  apply told_at stateV_stays
  · intro W f hW hE h0 K hK
    have e39 : f 39 = _ := hE 1 39 _ rfl (by kernel_rfl)
    have e40 : f 40 = _ := hE 0 40 _ rfl (by kernel_rfl)
    have e38 : f 38 = _ := hE 2 38 _ rfl (by kernel_rfl)
    clear hE h0
    refine yes_of (want_yes rfl rfl e38) ?_
    go_simp
    refine (pJoin_any Xab Yab Xa Ya xab yab uab vab xa ya ua va ab a W (HSab.out W hW).2.2 (HSa.out W hW).2.2 Hvab.out.1 Hva.out.1 (by have := HBab.out; have := HBa.out; omega) (by have := HBab.out; have := HBa.out; omega) (by have := HBab.out; have := HBa.out; omega) (by have := HBab.out; have := HBa.out; omega) (by have := HBab.out; have := HBa.out; omega) (by have := HBab.out; have := HBa.out; omega) (by have := HBab.out; have := HBa.out; omega)).mono ?_
    rw [Haba.out]
    rintro e w1' ⟨A2', n2', c2', B2', m2', d2', rfl, l1, l2, l3, g'⟩
    exact ⟨_, rfl, hK _ _ g' ⟨A2', n2', c2', B2', m2', d2', rfl, l1, l2, l3⟩⟩
  -- 20: law.go:56 load
  apply told_is
  · intro W f hW hE h0 K hK
    have e7 := h0 7 (by kernel_rfl)
    conv at e7 => rhs; whnf
    have e38 : f 38 = _ := hE 3 38 _ rfl (by kernel_rfl)
    clear hE h0
    refine yes_of (want_yes rfl rfl e38) ?_
    obtain ⟨z0, z1, _⟩ := HSab.out W hW
    go_simp; exact hK _ _ (gb_refl _ _) rfl
  -- 21: law.go:56 call
  apply told_is
  · intro W f hW hE h0 K hK
    have e41 := hE 1 41 _ rfl (by kernel_rfl)
    have e42 : f 42 = _ := hE 0 42 _ rfl (by kernel_rfl)
    have e38 : f 38 = _ := hE 4 38 _ rfl (by kernel_rfl)
    clear hE h0
    refine yes_of (want_yes rfl rfl e38) ?_
    obtain ⟨X41, x41, y41, Y41, u41, v41, e41, k1_41, k2_41, k3_41⟩ := e41
    go_simp
    refine (refSameSt_any X41 Y41 Xab Yab x41 y41 u41 v41 xab yab uab vab ab ab W k1_41 (HSab.out W hW).2.2 (by have := k1_41.1.1; have := k1_41.2.1; have := Hvab.out; have := HBab.out; omega) (by have := k1_41.1.1; have := k1_41.2.1; have := Hvab.out; have := HBab.out; omega) (by have := k1_41.1.1; have := k1_41.2.1; have := Hvab.out; have := HBab.out; omega) (by have := k1_41.1.1; have := k1_41.2.1; have := Hvab.out; have := HBab.out; omega)).mono ?_
    intro e w1' hh; obtain ⟨he, g'⟩ := hh.yes rfl; subst he
    exact ⟨_, rfl, hK _ _ g' rfl⟩
  -- 22: law.go:56 pick
  apply told_is
  · intro W f hW hE h0 K hK
    have e38 : f 38 = _ := hE 5 38 _ rfl (by kernel_rfl)
    have e43 : f 43 = _ := hE 0 43 _ rfl (by kernel_rfl)
    clear hE h0
    refine yes_of (want_free rfl) ?_
    go_simp; exact hK _ _ (gb_refl _ _) rfl
  -- 23: law.go:56 move
  apply told_is
  · intro W f hW hE h0 K hK
    have e44 : f 44 = _ := hE 0 44 _ rfl (by kernel_rfl)
    clear hE h0
    refine yes_of (want_free rfl) ?_
    go_simp; exact hK _ _ (gb_refl _ _) rfl
  -- 24: law.go:56 load
  apply told_is
  · intro W f hW hE h0 K hK
    have e4 := h0 4 (by kernel_rfl)
    conv at e4 => rhs; whnf
    have e45 : f 45 = _ := hE 0 45 _ rfl (by kernel_rfl)
    clear hE h0
    refine yes_of (want_yes rfl rfl e45) ?_
    obtain ⟨z0, z1, _⟩ := HSa.out W hW
    go_simp; exact hK _ _ (gb_refl _ _) rfl
  -- 25: law.go:56 load
  apply told_is
  · intro W f hW hE h0 K hK
    have e4 := h0 4 (by kernel_rfl)
    conv at e4 => rhs; whnf
    have e45 : f 45 = _ := hE 1 45 _ rfl (by kernel_rfl)
    clear hE h0
    refine yes_of (want_yes rfl rfl e45) ?_
    obtain ⟨z0, z1, _⟩ := HSa.out W hW
    go_simp; exact hK _ _ (gb_refl _ _) rfl
  -- 26: law.go:56 call
  apply told_at stateV_stays
  · intro W f hW hE h0 K hK
    have e46 : f 46 = _ := hE 1 46 _ rfl (by kernel_rfl)
    have e47 : f 47 = _ := hE 0 47 _ rfl (by kernel_rfl)
    have e45 : f 45 = _ := hE 2 45 _ rfl (by kernel_rfl)
    clear hE h0
    refine yes_of (want_yes rfl rfl e45) ?_
    go_simp
    refine (pJoin_any Xa Ya Xa Ya xa ya ua va xa ya ua va a a W (HSa.out W hW).2.2 (HSa.out W hW).2.2 Hva.out.1 Hva.out.1 (by have := HBa.out; have := HBa.out; omega) (by have := HBa.out; have := HBa.out; omega) (by have := HBa.out; have := HBa.out; omega) (by have := HBa.out; have := HBa.out; omega) (by have := HBa.out; have := HBa.out; omega) (by have := HBa.out; have := HBa.out; omega) (by have := HBa.out; have := HBa.out; omega)).mono ?_
    rw [Haa.out]
    rintro e w1' ⟨A2', n2', c2', B2', m2', d2', rfl, l1, l2, l3, g'⟩
    exact ⟨_, rfl, hK _ _ g' ⟨A2', n2', c2', B2', m2', d2', rfl, l1, l2, l3⟩⟩
  -- 27: law.go:56 load
  apply told_is
  · intro W f hW hE h0 K hK
    have e4 := h0 4 (by kernel_rfl)
    conv at e4 => rhs; whnf
    have e45 : f 45 = _ := hE 3 45 _ rfl (by kernel_rfl)
    clear hE h0
    refine yes_of (want_yes rfl rfl e45) ?_
    obtain ⟨z0, z1, _⟩ := HSa.out W hW
    go_simp; exact hK _ _ (gb_refl _ _) rfl
  -- 28: law.go:56 call
  apply told_is
  · intro W f hW hE h0 K hK
    have e48 := hE 1 48 _ rfl (by kernel_rfl)
    have e49 : f 49 = _ := hE 0 49 _ rfl (by kernel_rfl)
    have e45 : f 45 = _ := hE 4 45 _ rfl (by kernel_rfl)
    clear hE h0
    refine yes_of (want_yes rfl rfl e45) ?_
    obtain ⟨X48, x48, y48, Y48, u48, v48, e48, k1_48, k2_48, k3_48⟩ := e48
    go_simp
    refine (refSameSt_any X48 Y48 Xa Ya x48 y48 u48 v48 xa ya ua va a a W k1_48 (HSa.out W hW).2.2 (by have := k1_48.1.1; have := k1_48.2.1; have := Hva.out; have := HBa.out; omega) (by have := k1_48.1.1; have := k1_48.2.1; have := Hva.out; have := HBa.out; omega) (by have := k1_48.1.1; have := k1_48.2.1; have := Hva.out; have := HBa.out; omega) (by have := k1_48.1.1; have := k1_48.2.1; have := Hva.out; have := HBa.out; omega)).mono ?_
    intro e w1' hh; obtain ⟨he, g'⟩ := hh.yes rfl; subst he
    exact ⟨_, rfl, hK _ _ g' rfl⟩
  -- 29: law.go:56 pick
  apply told_is
  · intro W f hW hE h0 K hK
    have e45 : f 45 = _ := hE 5 45 _ rfl (by kernel_rfl)
    have e50 : f 50 = _ := hE 0 50 _ rfl (by kernel_rfl)
    clear hE h0
    refine yes_of (want_free rfl) ?_
    go_simp; exact hK _ _ (gb_refl _ _) rfl
  -- 30: law.go:56 move
  apply told_is
  · intro W f hW hE h0 K hK
    have e51 : f 51 = _ := hE 0 51 _ rfl (by kernel_rfl)
    clear hE h0
    refine yes_of (want_free rfl) ?_
    go_simp; exact hK _ _ (gb_refl _ _) rfl
  -- 31: law.go:56 call
  apply told_is
  · intro W f hW hE h0 K hK
    have e52 : f 52 = _ := hE 0 52 _ rfl (by kernel_rfl)
    clear hE h0
    refine yes_of (want_yes rfl rfl e52) ?_
    go_simp
    refine (awake9_any _).mono ?_
    rintro e w1' ⟨rfl, g'⟩
    exact ⟨_, rfl, hK _ _ g' rfl⟩
  -- 32: law.go:56 pick
  apply told_is
  · intro W f hW hE h0 K hK
    have e52 : f 52 = _ := hE 1 52 _ rfl (by kernel_rfl)
    have e53 : f 53 = _ := hE 0 53 _ rfl (by kernel_rfl)
    clear hE h0
    refine yes_of (want_free rfl) ?_
    go_simp; exact hK _ _ (gb_refl _ _) rfl
  -- 33: law.go:56 assign
  apply told_is
  · intro W f hW hE h0 K hK
    have e54 : f 54 = _ := hE 0 54 _ rfl (by kernel_rfl)
    clear hE h0
    refine yes_of (want_free rfl) ?_
    go_simp; exact hK _ _ (gb_refl _ _) rfl
  intro W f hW hA
  simp only [lexIn, Act.put, List.setIfInBounds_toArray, List.set_cons_zero, List.set_cons_succ]
  have e2 : f 2 = _ := hA 0 (some 2) _ rfl
  rw [e2]
  clear hA
  go_wp2_with fail
  go_ret
  exact ⟨rfl, gb_below (gb_none HG2.out hW) (Nat.le_refl _)⟩

set_option maxRecDepth 100000 in
theorem lifted (os : Os) (started : os.Started) (H : Type) (enc : TypeId × Value → H) :
    ReturnsInHanded {} Try.checked os 8 .any (Rows.joinLawsSpec.pre6 enc Try.prog Try.f8 Rows.joinLawsRow.domain false) (Rows.joinLawsSpec.post enc Try.prog Try.f8 false true false false) := by
  refine returnsInHanded_of_change (C := Try.checked) own started (by kernel_rfl) Try.func8
    (ChangeSpec.witness6 (enc := enc) (C := Try.checked) false ⟨#[], #[.slice none 0 0], []⟩ 8 (by kernel_rfl) (by kernel_rfl) (by kernel_rfl) (by kernel_rfl)) ?_
  intro W base args ds gs before hval0 hW hcnd _
  have hval : ∀ (j : Nat) t v, Try.f8.params[j]? = some t → args[j]? = some v → Value.okWide Try.prog W .any base t v := hval0
  have hW' := hW
  obtain ⟨p, q, hA0, hV, rfl, hfz, hnd⟩ := hW
  have hA : DataW.TrodAll enc Try.prog W 0 (fun _ => true) true Try.f8.params.toList args.toList ds p := hA0
  rw [Try.params8] at hA hval
  obtain ⟨v0, vs0, d0, ds0, p0, q0, hargs, rfl, rfl, h0, r0⟩ := trodAll_cons hA
  obtain ⟨rfl, rfl, rfl⟩ := trodAll_nil r0
  obtain rfl : args = #[v0] := by cases args; simp_all
  obtain ⟨rfl, rfl⟩ := trodVars_none hV
  have k0 := h0
  have lt0 : ∀ x ∈ p0, x.block < W.heap.size := by obtain ⟨m, hm⟩ := k0; exact DataW.trod_lt m _ _ _ hm
  obtain ⟨a0, len0, cap0, rfl⟩ := okWide_slice Try.underlying22 (hval 0 22 v0 rfl rfl)
  obtain ⟨z0, w0⟩ : ∃ zs, IsRow .u8 W a0 len0 cap0 zs := by
    obtain ⟨fuel, hf⟩ := h0
    rcases open_ints Try.underlying22 Try.underlying5 (by kernel_rfl) hf with ⟨hcs, _⟩ | ⟨x, l, c, zs, hcs, _, hl, hm, hz, _, hcell, hwz⟩
    · simp [Value.cells] at hcs
      obtain ⟨rfl, rfl, rfl⟩ := hcs
      exact ⟨[], .inl ⟨rfl, rfl, rfl, rfl⟩⟩
    · simp [Value.cells] at hcs
      obtain ⟨rfl, rfl, rfl⟩ := hcs
      exact ⟨zs, .inr ⟨_, rfl, hl, hm, by simpa using hz, hcell, hwz⟩⟩
  clear hA0 hval0
  refine (walk a0 len0 cap0 z0 W w0).mono fun e W' ⟨he, bel⟩ => ?_
  subst he
  exact ⟨_, rfl, _, _, _, [], _, [], hW', trodAll_mk1 (shut_bool Try.underlying4 _), (trodAll_cons_mk (Below.trod laidOut (by kernel_rfl) (of_decide_eq_true (by kernel_rfl)) k0 bel lt0) trodAll_mk0), rfl, bel.frame _, fun h => by cases h⟩

theorem over : Rows.joinLawsRow.holds Try.pinned (OpenSpec.ofChange Rows.joinLawsSpec) :=
  OpenClaim.holds_of_wide 8 Try.f8 rfl rfl rfl rfl rfl rfl rfl ⟨rfl, rfl, rfl, rfl, rfl⟩ rfl rfl rfl rfl rfl (by kernel_rfl) Try.func8 (by kernel_rfl)
    (of_decide_eq_true (by kernel_rfl)) (by unfold Func.isWrapper; first | (rw [if_pos (by decide +kernel)]; kernel_rfl) | (rw [if_neg (by decide +kernel)]; exact ⟨rfl, rfl⟩))
    (fun os started H enc _ => lifted os started H enc)

theorem proved : Rows.JoinLawsSaid := over
#print axioms proved
end Go.Proofs.Ytkjjgbcbgjgjeaa.joinLaws
