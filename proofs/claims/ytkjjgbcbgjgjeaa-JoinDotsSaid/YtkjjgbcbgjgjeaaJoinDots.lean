/-
  Proved: whatever values of its parameters' types it is called with, deaddroplaw9.JoinDots returns true, and each argument reads behind the call as it read before.
  Conditions: none but those of the row itself.
-/
import Derived.Test.YtkjjgbcbgjgjeaaRows
import Derived.WalkKit
import Derived.ProofKit
import Derived.OpenShut
import Derived.ShutString
import Derived.Test.YtkjjgbcbgjgjeaaJnB
import Derived.Test.YtkjjgbcbgjgjeaaTold
import Derived.Deep.DeepCutAuto
import Derived.Deep.RegionHeld3
import Derived.Deep.DrawnRows
import Derived.ChangeOld
import Derived.Below
namespace Go.Proofs.Ytkjjgbcbgjgjeaa.joinDots
open Go.ChangeShapes Go.WideShapes Go.ChangeAt Go.RowKit
open Go.ChangeMaps (open_string shut_string)
open Go.Proofs.Ytkjjgbcbgjgjeaa.Mm Go.Proofs.Ytkjjgbcbgjgjeaa.Dt Go.Proofs.Ytkjjgbcbgjgjeaa.Td
set_option linter.unusedVariables false

theorem own : ownKnob Try.prog.godebug = none := by kernel_rfl
theorem laidOut : laidOutB Try.prog = true := by kernel_rfl
/-- What the walk is told of a slice of integers that came in. -/
def IsRow (k : IntKind) (w : World) (a : Option Addr) (len cap : Nat) (zs : List Int) : Prop :=
  (a = none ∧ len = 0 ∧ cap = 0 ∧ zs = []) ∨
  ∃ x, a = some x ∧ len ≤ cap ∧ cap ≤ maxLen ∧ zs.length = cap ∧ (∀ i, i < zs.length → w.cell? (x.add i) = some (.int k (zs.getD i 0))) ∧ ∀ n ∈ zs, (Lit.int k n).wf = true

attribute [local go_sem] Td.upon_value Td.upon_skip Td.upon_enter Td.upon_row Td.look_tmp Td.look_const Td.look_func Td.look_global
theorem rows2 (w1 : World) (X Y : Array Value) (t : TypeId) : Row (((w1.alloc (.cells X t)).alloc (.cells Y t)).drew) w1.heap.size t X ∧ Row (((w1.alloc (.cells X t)).alloc (.cells Y t)).drew) (w1.heap.size + 1) t Y := by
  have h1 := Row.new (w1.alloc (.cells X t)) t Y
  rw [World.size_alloc] at h1
  exact ⟨((Row.new w1 t X).alloc _).drew, h1.drew⟩
theorem rows3 (w1 : World) (X Y Z : Array Value) (t : TypeId) : Row ((((w1.alloc (.cells X t)).alloc (.cells Y t)).alloc (.cells Z t)).drew) w1.heap.size t X ∧ Row ((((w1.alloc (.cells X t)).alloc (.cells Y t)).alloc (.cells Z t)).drew) (w1.heap.size + 1) t Y ∧ Row ((((w1.alloc (.cells X t)).alloc (.cells Y t)).alloc (.cells Z t)).drew) (w1.heap.size + 1 + 1) t Z := by
  have h1 := Row.new (w1.alloc (.cells X t)) t Y
  have h2 := Row.new ((w1.alloc (.cells X t)).alloc (.cells Y t)) t Z
  rw [World.size_alloc] at h1
  rw [World.size_alloc, World.size_alloc] at h2
  exact ⟨((((Row.new w1 t X).alloc _).alloc _).drew), ((h1.alloc _).drew), h2.drew⟩

set_option maxHeartbeats 40000000 in
set_option maxRecDepth 100000 in
theorem walk (a0 : Option Addr) (len0 cap0 : Nat) (z0 : List Int) (w : World) (w0 : IsRow .u8 w a0 len0 cap0 z0) :
    Calls Try.prog 9 #[.slice a0 len0 cap0] w fun e w' => e = .returned (.bool true) ∧ Below w.heap.size w w' := by
  obtain ⟨hnl0, _, _⟩ := nl_of_row w0
  obtain ⟨g, hg0⟩ : ∃ g, apartK (z0.take len0) (min (len0 / 3) 40) = g := ⟨_, rfl⟩
  have hfine : Fine g 40 := by rw [← hg0]; exact (apartK_fine _ _ (Nat.min_le_right _ _)).more (Nat.min_le_right _ _)
  have HFine := Lib.hid hfine
  have HAp : Hid (∀ W, w.grownBy W none → Calls Try.prog 33 #[.slice a0 len0 cap0] W (Grps g W)) := fun W hW => by rw [← hg0]; exact apart9_any a0 len0 cap0 _ W (hnl0.keep hW)
  clear hnl0 hg0
  obtain ⟨a, ha⟩ : ∃ a, g.at_ 0 = a := ⟨_, rfl⟩
  have gen_a : Gen g a := by rw [← ha]; exact .one 0 (by unfold In4; omega)
  have Hva : Hid (SS a ∧ a.seen.length ≤ 320 ∧ a.facts.length ≤ 320) := by
    have h := (gen_a.low hfine).short (gen_a.may hfine (by omega))
    exact ⟨gen_a.ss hfine, by omega, by omega⟩
  obtain ⟨b, hb⟩ : ∃ b, g.at_ 1 = b := ⟨_, rfl⟩
  have gen_b : Gen g b := by rw [← hb]; exact .one 1 (by unfold In4; omega)
  have Hvb : Hid (SS b ∧ b.seen.length ≤ 320 ∧ b.facts.length ≤ 320) := by
    have h := (gen_b.low hfine).short (gen_b.may hfine (by omega))
    exact ⟨gen_b.ss hfine, by omega, by omega⟩
  obtain ⟨j, hj⟩ : ∃ j, joinS a b = j := ⟨_, rfl⟩
  have gen_j : Gen g j := by rw [← hj]; exact .two _ _ gen_a gen_b
  have Hvj : Hid (SS j ∧ j.seen.length ≤ 320 ∧ j.facts.length ≤ 320) := by
    have h := (gen_j.low hfine).short (gen_j.may hfine (by omega))
    exact ⟨gen_j.ss hfine, by omega, by omega⟩
  have Hj := Lib.hid hj
  have Hj0 := Lib.hid hj
  clear hj gen_a gen_b gen_j hfine
  go_enter Try.func9, Try.ntmps9
  go_upto_region 2 with (go_at_call 33; refine (HAp.out w (gb_refl _ _)).mono ?_; rintro e w1 ⟨gl, rfl, hgr, hgl, g1⟩)
  have HG1 := Lib.hid g1
  clear hgl g1
  obtain ⟨Xa, xa, ya, Ya, ua, va, hca, hda, hna, hma, hgeta⟩ := hgr.get (i := 0) (by omega)
  rw [show g.at_ ((0 : Nat) : Int) = a from ha] at hna hma hgeta
  have HQa := Lib.hid hgeta
  have HBa : Hid (xa ≤ 320 ∧ ua ≤ 320 ∧ xa ≤ ya ∧ ua ≤ va) := by have := Hva.out; exact ⟨by omega, by omega, hca, hda⟩
  obtain ⟨pa0, pa1, _⟩ := hgeta w1 (gb_refl _ _)
  obtain ⟨Xb, xb, yb, Yb, ub, vb, hcb, hdb, hnb, hmb, hgetb⟩ := hgr.get (i := 1) (by omega)
  rw [show g.at_ ((1 : Nat) : Int) = b from hb] at hnb hmb hgetb
  have HQb := Lib.hid hgetb
  have HBb : Hid (xb ≤ 320 ∧ ub ≤ 320 ∧ xb ≤ yb ∧ ub ≤ vb) := by have := Hvb.out; exact ⟨by omega, by omega, hcb, hdb⟩
  obtain ⟨pb0, pb1, _⟩ := hgetb w1 (gb_refl _ _)
  have HSX : Hid (∀ w' : World, w1.grownBy w' none → w'.cell? ⟨gl, 0, none⟩ = some (.slice Xa xa ya) ∧ w'.cell? ⟨gl, 1, none⟩ = some (.slice Ya ua va) ∧ w'.cell? ⟨gl, 2, none⟩ = some (.slice Xb xb yb) ∧ w'.cell? ⟨gl, 3, none⟩ = some (.slice Yb ub vb)) := fun W hW => ⟨(HQa.out W hW).1, (HQa.out W hW).2.1, (HQb.out W hW).1, (HQb.out W hW).2.1⟩
  clear hca hda hna hma hgeta hcb hdb hnb hmb hgetb
  go_upto_region 2 with fail
  go_cut [4, 5] (fun q0 q1 wx => ∃ b0 b1 : Nat, q0 = .pointer (some ⟨b0, 0, none⟩) ∧ q1 = .pointer (some ⟨b1, 0, none⟩) ∧ Row wx b0 26 #[.slice Xa xa ya, .slice Ya ua va] ∧ Row wx b1 26 #[.slice Xb xb yb, .slice Yb ub vb] ∧ w1.grownBy wx none)
  case first =>
    go_region_held3 (fun w' => w'.cell? ⟨gl, 0, none⟩ = some (.slice Xa xa ya) ∧ w'.cell? ⟨gl, 1, none⟩ = some (.slice Ya ua va) ∧ w'.cell? ⟨gl, 2, none⟩ = some (.slice Xb xb yb) ∧ w'.cell? ⟨gl, 3, none⟩ = some (.slice Yb ub vb)) (first | (with_reducible exact HSX.out _ (gb_drew (gb_refl _ _))) | (with_reducible exact HSX.out _ (gb_drew (gb_alloc (gb_refl _ _) _))) | (with_reducible exact HSX.out _ (gb_drew (gb_alloc (gb_alloc (gb_refl _ _) _) _))) | go_keep) (fail)
    all_goals (try go_wp2_with fail)
    all_goals go_meet
    all_goals first
      | exact ⟨_, _, rfl, rfl, (rows2 _ _ _ _).1, (rows2 _ _ _ _).2, gb_drew (gb_alloc (gb_alloc (gb_refl _ _) _) _)⟩
      | exact ⟨_, _, rfl, rfl, (rows2 _ _ _ _).2, (rows2 _ _ _ _).1, gb_drew (gb_alloc (gb_alloc (gb_refl _ _) _) _)⟩
  case rest =>
  obtain ⟨b0, b1, rfl, rfl, hra, hrb, hg2⟩ := hcut
  clear pa0 pa1 pb0 pb1 HSX
  have HG2 : Hid (w.grownBy wc none) := gb_none HG1.out hg2
  have HSa : Hid (∀ W, wc.grownBy W none → W.cell? ⟨b0, 0, none⟩ = some (.slice Xa xa ya) ∧ W.cell? ⟨b0, 1, none⟩ = some (.slice Ya ua va) ∧ SL W Xa xa Ya ua a) := fun W hW => ⟨(hra.kept hW (by simp)).at_ (i := 0) rfl, (hra.kept hW (by simp)).at_ (i := 1) rfl, (HQa.out W (gb_none hg2 hW)).2.2⟩
  have HSb : Hid (∀ W, wc.grownBy W none → W.cell? ⟨b1, 0, none⟩ = some (.slice Xb xb yb) ∧ W.cell? ⟨b1, 1, none⟩ = some (.slice Yb ub vb) ∧ SL W Xb xb Yb ub b) := fun W hW => ⟨(hrb.kept hW (by simp)).at_ (i := 0) rfl, (hrb.kept hW (by simp)).at_ (i := 1) rfl, (HQb.out W (gb_none hg2 hW)).2.2⟩
  clear hra hrb hg2
  obtain ⟨ia0, ia1, _⟩ := HSa.out wc (gb_refl _ _)
  obtain ⟨ib0, ib1, _⟩ := HSb.out wc (gb_refl _ _)
  have HJn : Hid (Calls Try.prog 28 #[.agg #[.slice Xa xa ya, .slice Ya ua va], .agg #[.slice Xb xb yb, .slice Yb ub vb]] wc (States j wc)) := by
    have h := pJoin_any Xa Ya Xb Yb xa ya ua va xb yb ub vb a b wc (HSa.out wc (gb_refl _ _)).2.2 (HSb.out wc (gb_refl _ _)).2.2 Hva.out.1 Hvb.out.1 (by have := HBa.out; have := HBb.out; omega) (by have := HBa.out; have := HBb.out; omega) (by have := HBa.out; have := HBb.out; omega) (by have := HBa.out; have := HBb.out; omega) (by have := HBa.out; have := HBb.out; omega) (by have := HBa.out; have := HBb.out; omega) (by have := HBa.out; have := HBb.out; omega)
    rw [Hj0.out] at h
    exact h
  go_upto_region 4 with (go_at_call 28; refine HJn.out.mono ?_; rintro e w3 ⟨Xj, xj, yj, Yj, uj, vj, rfl, hs, hc, hd, g3⟩)
  obtain ⟨bj, hbj⟩ : ∃ bj, w3.heap.size = bj := ⟨_, rfl⟩
  rw [hbj]
  refine Td.named (fun W => wc.grownBy W none ∧ Row W bj 26 #[.slice Xj xj yj, .slice Yj uj vj] ∧ SL W Xj xj Yj uj j) ⟨gb_alloc g3 _, by rw [← hbj]; exact Row.new _ _ _, hs.keep (gb_alloc (gb_refl _ _) _)⟩ ?_
  rintro W3 ⟨hg3, hrow3, hs3⟩
  have HBj : Hid (xj ≤ 320 ∧ uj ≤ 320 ∧ xj ≤ yj ∧ uj ≤ vj) := by have h1 := hs3.1.1; have h2 := hs3.2.1; have := Hvj.out; exact ⟨by omega, by omega, hc, hd⟩
  have HSj : Hid (∀ W, W3.grownBy W none → W.cell? ⟨bj, 0, none⟩ = some (.slice Xj xj yj) ∧ W.cell? ⟨bj, 1, none⟩ = some (.slice Yj uj vj) ∧ SL W Xj xj Yj uj j) := fun W hW => ⟨(hrow3.kept hW (by simp)).at_ (i := 0) rfl, (hrow3.kept hW (by simp)).at_ (i := 1) rfl, hs3.keep hW⟩
  have HGx : Hid (wc.grownBy W3 none) := hg3
  replace HSa : Hid (∀ W, W3.grownBy W none → _) := fun W hW => HSa.out W (gb_none HGx.out hW)
  replace HSb : Hid (∀ W, W3.grownBy W none → _) := fun W hW => HSb.out W (gb_none HGx.out hW)
  replace HG2 : Hid (w.grownBy W3 none) := gb_none HG2.out HGx.out
  clear hbj hs hc hd g3 hg3 hrow3 hs3 HJn HGx ia0 ia1 ib0 ib1
  go_wp2_with fail
  go_loopw [7] (fun dv wr => ∃ dd : Nat, dd ≤ 4 ∧ dv = .int .i64 dd ∧ W3.grownBy wr none) (fun dv _ => 4 - (intOf dv).toNat)
  case atStart => exact ⟨0, by omega, rfl, gb_refl _ _⟩
  case round =>
    obtain ⟨dd, hd4, rfl, hg⟩ := hrel
    by_cases hlt : dd < 4
    · have d1 : decide (dd < 4) = true := decide_eq_true hlt
      have d2 : decide ((dd : Int) < 4) = true := decide_eq_true (by omega)
      have Hdd : Hid (dd < 4) := hlt
      have Hg4 := Lib.hid hg
      clear hd4 hlt hg
      go_wp2_with fail
      clear d1 d2
      go_loopw [8] (fun nv wr => ∃ nn : Nat, 1 ≤ nn ∧ nn ≤ 50 ∧ nv = .int .i64 nn ∧ W3.grownBy wr none) (fun nv _ => 50 - (intOf nv).toNat)
      case atStart => exact ⟨1, by omega, by omega, rfl, Hg4.out⟩
      case round =>
        obtain ⟨nn, hn1, hn50, rfl, hg⟩ := hrel
        by_cases hlt : nn < 50
        · have d3 : decide (nn < 50) = true := decide_eq_true hlt
          have d4 : decide ((nn : Int) < 50) = true := decide_eq_true (by omega)
          obtain ⟨pa, hpa⟩ : ∃ pa, atB a.facts (dd : Int) (nn : Int) = pa := ⟨_, rfl⟩
          obtain ⟨qb, hqb⟩ : ∃ qb, atB b.facts (dd : Int) (nn : Int) = qb := ⟨_, rfl⟩
          obtain ⟨ha, hha⟩ : ∃ ha, hasB a.seen (dd : Int) (nn : Int) = ha := ⟨_, rfl⟩
          obtain ⟨hb, hhb⟩ : ∃ hb, hasB b.seen (dd : Int) (nn : Int) = hb := ⟨_, rfl⟩
          obtain ⟨sb, hsb⟩ : ∃ sb, (pa && qb || pa && !hb || qb && !ha) = sb := ⟨_, rfl⟩
          have Hj : Hid (atB j.facts (dd : Int) (nn : Int) = sb) := by show _ = _; rw [← Hj0.out, join_at Hva.out.1 Hvb.out.1, hpa, hqb, hha, hhb]; exact hsb
          have Hjh0 : Hid (hasB j.seen (dd : Int) (nn : Int) = (ha || hb)) := by show _ = _; rw [← Hj0.out, hasB_join Hva.out.1 Hvb.out.1, hha, hhb]
          have Hp := Lib.hid hpa
          have Hq := Lib.hid hqb
          have Hha := Lib.hid hha
          have Hhb := Lib.hid hhb
          have Hsb := Lib.hid hsb
          have Hnn : Hid (1 ≤ nn ∧ nn < 50) := ⟨hn1, hlt⟩
          have HRx : Hid (Row (wr.alloc (.cells #[.int .i64 (dd : Int), .int .i64 (nn : Int)] 35)) wr.heap.size 35 #[.int .i64 (dd : Int), .int .i64 (nn : Int)]) := Row.new _ _ _
          have Hg5 : Hid (W3.grownBy (wr.alloc (.cells #[.int .i64 (dd : Int), .int .i64 (nn : Int)] 35)) none) := gb_alloc hg _
          clear hpa hqb hha hhb hsb hn1 hn50 hlt hg
          go_upto_region 11 with fail
          clear d3 d4
          generalize wr.heap.size = bx at *
          generalize wr.alloc (.cells #[.int .i64 (dd : Int), .int .i64 (nn : Int)] 35) = W5 at *
          apply wp_region_told (le := fun a b => a.grownBy b none) [isV _, isV _, isV _, isV _, isV _, isV _, isV _, isV _]
          case hn => rfl
          case hm => kernel_rfl
          case hB => kernel_rfl
          case ht => exact fun _ _ _ h k => gb_none h k
          case hw => exact gb_drew (gb_refl _ _)
          -- 0: law.go:67 load
          apply told_is
          · intro W f hW hE h0 K hK
            have e4 := h0 4 (by kernel_rfl)
            conv at e4 => rhs; whnf
            clear hE h0
            refine yes_of (want_free rfl) ?_
            obtain ⟨z0, z1, _⟩ := HSa.out W (gb_none Hg5.out hW)
            go_simp; exact hK _ _ (gb_refl _ _) rfl
          -- 1: law.go:67 load
          apply told_is
          · intro W f hW hE h0 K hK
            have e9 := h0 9 (by kernel_rfl)
            conv at e9 => rhs; whnf
            clear hE h0
            refine yes_of (want_free rfl) ?_
            have x0 := (HRx.out.kept hW (by simp)).at_ (i := 0) rfl
            have x1 := (HRx.out.kept hW (by simp)).at_ (i := 1) rfl
            go_simp; exact hK _ _ (gb_refl _ _) rfl
          -- 2: law.go:67 call
          apply told_is
          · intro W f hW hE h0 K hK
            have e35 : f 35 = _ := hE 1 35 _ rfl (by kernel_rfl)
            have e36 : f 36 = _ := hE 0 36 _ rfl (by kernel_rfl)
            clear hE h0
            refine yes_of (want_free rfl) ?_
            go_simp
            refine (has9_any Xa Ya xa ya ua va a (dd : Int) (nn : Int) W (HSa.out W (gb_none Hg5.out hW)).2.2 (by have := HBa.out; omega)).mono ?_
            rintro e w1' ⟨he, g'⟩; rw [Hp.out] at he; subst he
            exact ⟨_, rfl, hK _ _ g' rfl⟩
          -- 3: law.go:67 load
          apply told_is
          · intro W f hW hE h0 K hK
            have e5 := h0 5 (by kernel_rfl)
            conv at e5 => rhs; whnf
            clear hE h0
            refine yes_of (want_free rfl) ?_
            obtain ⟨z0, z1, _⟩ := HSb.out W (gb_none Hg5.out hW)
            go_simp; exact hK _ _ (gb_refl _ _) rfl
          -- 4: law.go:67 load
          apply told_is
          · intro W f hW hE h0 K hK
            have e9 := h0 9 (by kernel_rfl)
            conv at e9 => rhs; whnf
            clear hE h0
            refine yes_of (want_free rfl) ?_
            have x0 := (HRx.out.kept hW (by simp)).at_ (i := 0) rfl
            have x1 := (HRx.out.kept hW (by simp)).at_ (i := 1) rfl
            go_simp; exact hK _ _ (gb_refl _ _) rfl
          -- 5: law.go:67 call
          apply told_is
          · intro W f hW hE h0 K hK
            have e38 : f 38 = _ := hE 1 38 _ rfl (by kernel_rfl)
            have e39 : f 39 = _ := hE 0 39 _ rfl (by kernel_rfl)
            clear hE h0
            refine yes_of (want_free rfl) ?_
            go_simp
            refine (has9_any Xb Yb xb yb ub vb b (dd : Int) (nn : Int) W (HSb.out W (gb_none Hg5.out hW)).2.2 (by have := HBb.out; omega)).mono ?_
            rintro e w1' ⟨he, g'⟩; rw [Hq.out] at he; subst he
            exact ⟨_, rfl, hK _ _ g' rfl⟩
          -- 6: law.go:67 assign
          apply told_is
          · intro W f hW hE h0 K hK
            have e37 : f 37 = _ := hE 3 37 _ rfl (by kernel_rfl)
            clear hE h0
            refine yes_of (want_free rfl) ?_
            go_simp; exact hK _ _ (gb_refl _ _) rfl
          -- 7: law.go:67 assign
          apply told_is
          · intro W f hW hE h0 K hK
            have e40 : f 40 = _ := hE 1 40 _ rfl (by kernel_rfl)
            clear hE h0
            refine yes_of (want_free rfl) ?_
            go_simp; exact hK _ _ (gb_refl _ _) rfl
          intro W f hW hA
          simp only [lexIn, Act.put, List.setIfInBounds_toArray, List.set_cons_zero, List.set_cons_succ]
          have e10 : f 10 = _ := hA 1 (some 10) _ rfl
          rw [e10]
          have e11 : f 11 = _ := hA 0 (some 11) _ rfl
          rw [e11]
          clear hA
          have Hg6w : Hid (W3.grownBy W none) := gb_none Hg5.out hW
          have HRx6w : Hid (Row W bx 35 #[.int .i64 (dd : Int), .int .i64 (nn : Int)]) := HRx.out.kept hW (by simp)
          clear hW HRx Hg5 e10 e11
          generalize W = W6 at *
          obtain ⟨j0, j1, _⟩ := HSa.out W6 Hg6w.out
          obtain ⟨k0, k1, _⟩ := HSb.out W6 Hg6w.out
          have x0 := HRx6w.out.at_ (i := 0) rfl
          have x1 := HRx6w.out.at_ (i := 1) rfl
          go_upto_region 12 with fail
          go_cut [12] (fun v wx => v = .bool sb ∧ W6.grownBy wx none)
          case first =>
            cases pa with
            | true =>
              cases qb with
              | true =>
                obtain rfl : sb = true := by rw [← Hsb.out]; rfl
                go_wp2_with fail
                go_meet
                exact ⟨rfl, gb_refl _ _⟩
              | false =>
                obtain rfl : sb = !hb := by rw [← Hsb.out]; cases hb <;> rfl
                cases hb with
                | true =>
                  go_wp2_with (go_at_call 35; refine (refHas_any Xb xb yb b.seen (dd : Int) (nn : Int) W6 (HSb.out W6 Hg6w.out).2.2.1 (by have := HBb.out; omega)).mono ?_; rintro e w7 ⟨he, g7⟩; rw [Hhb.out] at he; subst he)
                  go_meet
                  exact ⟨rfl, g7⟩
                | false =>
                  go_wp2_with (go_at_call 35; refine (refHas_any Xb xb yb b.seen (dd : Int) (nn : Int) W6 (HSb.out W6 Hg6w.out).2.2.1 (by have := HBb.out; omega)).mono ?_; rintro e w7 ⟨he, g7⟩; rw [Hhb.out] at he; subst he)
                  go_meet
                  exact ⟨rfl, g7⟩
            | false =>
              cases qb with
              | true =>
                obtain rfl : sb = !ha := by rw [← Hsb.out]; cases ha <;> rfl
                cases ha with
                | true =>
                  go_wp2_with (go_at_call 35; refine (refHas_any Xa xa ya a.seen (dd : Int) (nn : Int) W6 (HSa.out W6 Hg6w.out).2.2.1 (by have := HBa.out; omega)).mono ?_; rintro e w7 ⟨he, g7⟩; rw [Hha.out] at he; subst he)
                  go_meet
                  exact ⟨rfl, g7⟩
                | false =>
                  go_wp2_with (go_at_call 35; refine (refHas_any Xa xa ya a.seen (dd : Int) (nn : Int) W6 (HSa.out W6 Hg6w.out).2.2.1 (by have := HBa.out; omega)).mono ?_; rintro e w7 ⟨he, g7⟩; rw [Hha.out] at he; subst he)
                  go_meet
                  exact ⟨rfl, g7⟩
              | false =>
                obtain rfl : sb = false := by rw [← Hsb.out]; rfl
                go_wp2_with fail
                go_meet
                exact ⟨rfl, gb_refl _ _⟩
          case rest =>
            obtain ⟨rfl, hg7⟩ := hcut
            have Hg6 : Hid (W3.grownBy wc none) := gb_none Hg6w.out hg7
            have HRx6 : Hid (Row wc bx 35 #[.int .i64 (dd : Int), .int .i64 (nn : Int)]) := HRx6w.out.kept hg7 (by simp)
            have Hnq : Hid (∀ W, (binOp .neq 4 (.bool sb) (.bool sb)).run Try.prog W = .ok (.bool false) W) := fun W => by cases sb <;> rfl
            clear hg7 j0 j1 k0 k1 x0 x1 HRx6w Hg6w
            have t8 : IntKind.i64.wrap ((nn : Int) + 1) = ((nn + 1 : Nat) : Int) := by rw [IntKind.wrap_i64]; have := Hnn.out; omega
            cases ha with
            | true =>
              have Hjh : Hid (hasB j.seen (dd : Int) (nn : Int) = true) := Hjh0.out
              have Hnr : Hid (∀ W, (binOp .neq 4 (.bool true) (.bool true)).run Try.prog W = .ok (.bool false) W) := fun W => rfl
              clear Hjh0 Hsb
              go_upto_region 13 with fail
              apply wp_region_told (le := fun a b => a.grownBy b none) [isV _, isV _, isV _, isV _, isV _, isV _, isV _, isV _, isV _, isV _, isV _, isV _, isV _, isV _, isV _, isV _, isV _, isV _, isV _, isV _, isV _, isV _]
              case hn => rfl
              case hm => kernel_rfl
              case hB => kernel_rfl
              case ht => exact fun _ _ _ h k => gb_none h k
              case hw => exact gb_drew (gb_refl _ _)
              -- 0: law.go:69 load
              apply told_is
              · intro W f hW hE h0 K hK
                have e6 := h0 6 (by kernel_rfl)
                conv at e6 => rhs; whnf
                clear hE h0
                refine yes_of (want_free rfl) ?_
                obtain ⟨z0, z1, _⟩ := HSj.out W (gb_none Hg6.out hW)
                go_simp; exact hK _ _ (gb_refl _ _) rfl
              -- 1: law.go:69 load
              apply told_is
              · intro W f hW hE h0 K hK
                have e9 := h0 9 (by kernel_rfl)
                conv at e9 => rhs; whnf
                clear hE h0
                refine yes_of (want_free rfl) ?_
                have x0 := (HRx6.out.kept hW (by simp)).at_ (i := 0) rfl
                have x1 := (HRx6.out.kept hW (by simp)).at_ (i := 1) rfl
                go_simp; exact hK _ _ (gb_refl _ _) rfl
              -- 2: law.go:69 call
              apply told_is
              · intro W f hW hE h0 K hK
                have e65 : f 65 = _ := hE 1 65 _ rfl (by kernel_rfl)
                have e66 : f 66 = _ := hE 0 66 _ rfl (by kernel_rfl)
                clear hE h0
                refine yes_of (want_free rfl) ?_
                go_simp
                refine (has9_any Xj Yj xj yj uj vj j (dd : Int) (nn : Int) W (HSj.out W (gb_none Hg6.out hW)).2.2 (by have := HBj.out; omega)).mono ?_
                rintro e w1' ⟨he, g'⟩; rw [Hj.out] at he; subst he
                exact ⟨_, rfl, hK _ _ g' rfl⟩
              -- 3: law.go:69 move
              apply told_is
              · intro W f hW hE h0 K hK
                have e12 := h0 12 (by kernel_rfl)
                conv at e12 => rhs; whnf
                clear hE h0
                refine yes_of (want_free rfl) ?_
                go_simp; exact hK _ _ (gb_refl _ _) rfl
              -- 4: law.go:69 binOp
              apply told_is
              · intro W f hW hE h0 K hK
                have e67 : f 67 = _ := hE 1 67 _ rfl (by kernel_rfl)
                have e68 : f 68 = _ := hE 0 68 _ rfl (by kernel_rfl)
                clear hE h0
                refine yes_of (want_free rfl) ?_
                have hq := Hnq.out W
                go_simp; exact hK _ _ (gb_refl _ _) rfl
              -- 5: law.go:69 move
              apply told_is
              · intro W f hW hE h0 K hK
                have e69 : f 69 = _ := hE 0 69 _ rfl (by kernel_rfl)
                clear hE h0
                refine yes_of (want_free rfl) ?_
                go_simp; exact hK _ _ (gb_refl _ _) rfl
              -- 6: law.go:69 fieldAddr
              apply told_is
              · intro W f hW hE h0 K hK
                have e6 := h0 6 (by kernel_rfl)
                conv at e6 => rhs; whnf
                have e70 : f 70 = _ := hE 0 70 _ rfl (by kernel_rfl)
                clear hE h0
                refine yes_of (want_yes rfl rfl e70) ?_
                go_simp; exact hK _ _ (gb_refl _ _) rfl
              -- 7: law.go:69 load
              apply told_is
              · intro W f hW hE h0 K hK
                have e71 : f 71 = _ := hE 0 71 _ rfl (by kernel_rfl)
                have e70 : f 70 = _ := hE 1 70 _ rfl (by kernel_rfl)
                clear hE h0
                refine yes_of (want_yes rfl rfl e70) ?_
                obtain ⟨z0, z1, _⟩ := HSj.out W (gb_none Hg6.out hW)
                go_simp; exact hK _ _ (gb_refl _ _) rfl
              -- 8: law.go:69 load
              apply told_is
              · intro W f hW hE h0 K hK
                have e9 := h0 9 (by kernel_rfl)
                conv at e9 => rhs; whnf
                have e70 : f 70 = _ := hE 2 70 _ rfl (by kernel_rfl)
                clear hE h0
                refine yes_of (want_yes rfl rfl e70) ?_
                have x0 := (HRx6.out.kept hW (by simp)).at_ (i := 0) rfl
                have x1 := (HRx6.out.kept hW (by simp)).at_ (i := 1) rfl
                go_simp; exact hK _ _ (gb_refl _ _) rfl
              -- 9: law.go:69 call
              apply told_is
              · intro W f hW hE h0 K hK
                have e72 : f 72 = _ := hE 1 72 _ rfl (by kernel_rfl)
                have e73 : f 73 = _ := hE 0 73 _ rfl (by kernel_rfl)
                have e70 : f 70 = _ := hE 3 70 _ rfl (by kernel_rfl)
                clear hE h0
                refine yes_of (want_yes rfl rfl e70) ?_
                go_simp
                refine (refHas_any Xj xj yj j.seen (dd : Int) (nn : Int) W (HSj.out W (gb_none Hg6.out hW)).2.2.1 (by have := HBj.out; omega)).mono ?_
                rintro e w1' ⟨he, g'⟩; rw [Hjh.out] at he; subst he
                exact ⟨_, rfl, hK _ _ g' rfl⟩
              -- 10: law.go:69 fieldAddr
              apply told_is
              · intro W f hW hE h0 K hK
                have e4 := h0 4 (by kernel_rfl)
                conv at e4 => rhs; whnf
                have e70 : f 70 = _ := hE 4 70 _ rfl (by kernel_rfl)
                clear hE h0
                refine yes_of (want_yes rfl rfl e70) ?_
                go_simp; exact hK _ _ (gb_refl _ _) rfl
              -- 11: law.go:69 load
              apply told_is
              · intro W f hW hE h0 K hK
                have e75 : f 75 = _ := hE 0 75 _ rfl (by kernel_rfl)
                have e70 : f 70 = _ := hE 5 70 _ rfl (by kernel_rfl)
                clear hE h0
                refine yes_of (want_yes rfl rfl e70) ?_
                obtain ⟨z0, z1, _⟩ := HSa.out W (gb_none Hg6.out hW)
                go_simp; exact hK _ _ (gb_refl _ _) rfl
              -- 12: law.go:69 load
              apply told_is
              · intro W f hW hE h0 K hK
                have e9 := h0 9 (by kernel_rfl)
                conv at e9 => rhs; whnf
                have e70 : f 70 = _ := hE 6 70 _ rfl (by kernel_rfl)
                clear hE h0
                refine yes_of (want_yes rfl rfl e70) ?_
                have x0 := (HRx6.out.kept hW (by simp)).at_ (i := 0) rfl
                have x1 := (HRx6.out.kept hW (by simp)).at_ (i := 1) rfl
                go_simp; exact hK _ _ (gb_refl _ _) rfl
              -- 13: law.go:69 call
              apply told_is
              · intro W f hW hE h0 K hK
                have e76 : f 76 = _ := hE 1 76 _ rfl (by kernel_rfl)
                have e77 : f 77 = _ := hE 0 77 _ rfl (by kernel_rfl)
                have e70 : f 70 = _ := hE 7 70 _ rfl (by kernel_rfl)
                clear hE h0
                refine yes_of (want_yes rfl rfl e70) ?_
                go_simp
                refine (refHas_any Xa xa ya a.seen (dd : Int) (nn : Int) W (HSa.out W (gb_none Hg6.out hW)).2.2.1 (by have := HBa.out; omega)).mono ?_
                rintro e w1' ⟨he, g'⟩; rw [Hha.out] at he; subst he
                exact ⟨_, rfl, hK _ _ g' rfl⟩
              -- 14: law.go:69 move
              apply told_is
              · intro W f hW hE h0 K hK
                have e78 : f 78 = _ := hE 0 78 _ rfl (by kernel_rfl)
                have e70 : f 70 = _ := hE 8 70 _ rfl (by kernel_rfl)
                clear hE h0
                refine yes_of (want_yes rfl rfl e70) ?_
                go_simp; exact hK _ _ (gb_refl _ _) rfl
              -- 15: law.go:69 fieldAddr
              apply told_is
              · intro W f hW hE h0 K hK
                have e79 : f 79 = _ := hE 0 79 _ rfl (by kernel_rfl)
                clear hE h0
                refine no_of (want_no rfl rfl e79 rfl) ?_
                exact hK _ _ (gb_refl _ _) rfl
              -- 16: law.go:69 load
              apply told_is
              · intro W f hW hE h0 K hK
                have e79 : f 79 = _ := hE 1 79 _ rfl (by kernel_rfl)
                clear hE h0
                refine no_of (want_no rfl rfl e79 rfl) ?_
                exact hK _ _ (gb_refl _ _) rfl
              -- 17: law.go:69 load
              apply told_is
              · intro W f hW hE h0 K hK
                have e79 : f 79 = _ := hE 2 79 _ rfl (by kernel_rfl)
                clear hE h0
                refine no_of (want_no rfl rfl e79 rfl) ?_
                exact hK _ _ (gb_refl _ _) rfl
              -- 18: law.go:69 call
              apply told_is
              · intro W f hW hE h0 K hK
                have e79 : f 79 = _ := hE 3 79 _ rfl (by kernel_rfl)
                clear hE h0
                refine no_of (want_no rfl rfl e79 rfl) ?_
                exact hK _ _ (gb_refl _ _) rfl
              -- 19: law.go:69 pick
              apply told_is
              · intro W f hW hE h0 K hK
                have e79 : f 79 = _ := hE 4 79 _ rfl (by kernel_rfl)
                have e83 : f 83 = _ := hE 0 83 _ rfl (by kernel_rfl)
                have e70 : f 70 = _ := hE 13 70 _ rfl (by kernel_rfl)
                clear hE h0
                refine yes_of (want_yes rfl rfl e70) ?_
                go_simp; exact hK _ _ (gb_refl _ _) rfl
              -- 20: law.go:69 binOp
              apply told_is
              · intro W f hW hE h0 K hK
                have e74 : f 74 = _ := hE 10 74 _ rfl (by kernel_rfl)
                have e84 : f 84 = _ := hE 0 84 _ rfl (by kernel_rfl)
                have e70 : f 70 = _ := hE 14 70 _ rfl (by kernel_rfl)
                clear hE h0
                refine yes_of (want_yes rfl rfl e70) ?_
                have hq := Hnr.out W
                go_simp; exact hK _ _ (gb_refl _ _) rfl
              -- 21: law.go:69 pick
              apply told_is
              · intro W f hW hE h0 K hK
                have e70 : f 70 = _ := hE 15 70 _ rfl (by kernel_rfl)
                have e85 : f 85 = _ := hE 0 85 _ rfl (by kernel_rfl)
                clear hE h0
                refine yes_of (want_free rfl) ?_
                go_simp; exact hK _ _ (gb_refl _ _) rfl
              intro W f hW hA
              simp only [lexIn, Act.put, List.setIfInBounds_toArray, List.set_cons_zero, List.set_cons_succ]
              have e86 : f 86 = _ := hA 0 (some 86) _ rfl
              rw [e86]
              clear hA
              go_wp2_with fail
              go_roundw
              case rel => exact ⟨nn + 1, by omega, by have := Hnn.out; omega, rfl, gb_none Hg6.out hW⟩
              case measure => simp [intOf]; have := Hnn.out; omega
            | false =>
              have Hjh : Hid (hasB j.seen (dd : Int) (nn : Int) = hb) := by have h := Hjh0.out; rwa [Bool.false_or] at h
              have Hnr : Hid (∀ W, (binOp .neq 4 (.bool hb) (.bool hb)).run Try.prog W = .ok (.bool false) W) := fun W => by cases hb <;> rfl
              clear Hjh0 Hsb
              go_upto_region 13 with fail
              apply wp_region_told (le := fun a b => a.grownBy b none) [isV _, isV _, isV _, isV _, isV _, isV _, isV _, isV _, isV _, isV _, isV _, isV _, isV _, isV _, isV _, isV _, isV _, isV _, isV _, isV _, isV _, isV _]
              case hn => rfl
              case hm => kernel_rfl
              case hB => kernel_rfl
              case ht => exact fun _ _ _ h k => gb_none h k
              case hw => exact gb_drew (gb_refl _ _)
              -- 0: law.go:69 load
              apply told_is
              · intro W f hW hE h0 K hK
                have e6 := h0 6 (by kernel_rfl)
                conv at e6 => rhs; whnf
                clear hE h0
                refine yes_of (want_free rfl) ?_
                obtain ⟨z0, z1, _⟩ := HSj.out W (gb_none Hg6.out hW)
                go_simp; exact hK _ _ (gb_refl _ _) rfl
              -- 1: law.go:69 load
              apply told_is
              · intro W f hW hE h0 K hK
                have e9 := h0 9 (by kernel_rfl)
                conv at e9 => rhs; whnf
                clear hE h0
                refine yes_of (want_free rfl) ?_
                have x0 := (HRx6.out.kept hW (by simp)).at_ (i := 0) rfl
                have x1 := (HRx6.out.kept hW (by simp)).at_ (i := 1) rfl
                go_simp; exact hK _ _ (gb_refl _ _) rfl
              -- 2: law.go:69 call
              apply told_is
              · intro W f hW hE h0 K hK
                have e65 : f 65 = _ := hE 1 65 _ rfl (by kernel_rfl)
                have e66 : f 66 = _ := hE 0 66 _ rfl (by kernel_rfl)
                clear hE h0
                refine yes_of (want_free rfl) ?_
                go_simp
                refine (has9_any Xj Yj xj yj uj vj j (dd : Int) (nn : Int) W (HSj.out W (gb_none Hg6.out hW)).2.2 (by have := HBj.out; omega)).mono ?_
                rintro e w1' ⟨he, g'⟩; rw [Hj.out] at he; subst he
                exact ⟨_, rfl, hK _ _ g' rfl⟩
              -- 3: law.go:69 move
              apply told_is
              · intro W f hW hE h0 K hK
                have e12 := h0 12 (by kernel_rfl)
                conv at e12 => rhs; whnf
                clear hE h0
                refine yes_of (want_free rfl) ?_
                go_simp; exact hK _ _ (gb_refl _ _) rfl
              -- 4: law.go:69 binOp
              apply told_is
              · intro W f hW hE h0 K hK
                have e67 : f 67 = _ := hE 1 67 _ rfl (by kernel_rfl)
                have e68 : f 68 = _ := hE 0 68 _ rfl (by kernel_rfl)
                clear hE h0
                refine yes_of (want_free rfl) ?_
                have hq := Hnq.out W
                go_simp; exact hK _ _ (gb_refl _ _) rfl
              -- 5: law.go:69 move
              apply told_is
              · intro W f hW hE h0 K hK
                have e69 : f 69 = _ := hE 0 69 _ rfl (by kernel_rfl)
                clear hE h0
                refine yes_of (want_free rfl) ?_
                go_simp; exact hK _ _ (gb_refl _ _) rfl
              -- 6: law.go:69 fieldAddr
              apply told_is
              · intro W f hW hE h0 K hK
                have e6 := h0 6 (by kernel_rfl)
                conv at e6 => rhs; whnf
                have e70 : f 70 = _ := hE 0 70 _ rfl (by kernel_rfl)
                clear hE h0
                refine yes_of (want_yes rfl rfl e70) ?_
                go_simp; exact hK _ _ (gb_refl _ _) rfl
              -- 7: law.go:69 load
              apply told_is
              · intro W f hW hE h0 K hK
                have e71 : f 71 = _ := hE 0 71 _ rfl (by kernel_rfl)
                have e70 : f 70 = _ := hE 1 70 _ rfl (by kernel_rfl)
                clear hE h0
                refine yes_of (want_yes rfl rfl e70) ?_
                obtain ⟨z0, z1, _⟩ := HSj.out W (gb_none Hg6.out hW)
                go_simp; exact hK _ _ (gb_refl _ _) rfl
              -- 8: law.go:69 load
              apply told_is
              · intro W f hW hE h0 K hK
                have e9 := h0 9 (by kernel_rfl)
                conv at e9 => rhs; whnf
                have e70 : f 70 = _ := hE 2 70 _ rfl (by kernel_rfl)
                clear hE h0
                refine yes_of (want_yes rfl rfl e70) ?_
                have x0 := (HRx6.out.kept hW (by simp)).at_ (i := 0) rfl
                have x1 := (HRx6.out.kept hW (by simp)).at_ (i := 1) rfl
                go_simp; exact hK _ _ (gb_refl _ _) rfl
              -- 9: law.go:69 call
              apply told_is
              · intro W f hW hE h0 K hK
                have e72 : f 72 = _ := hE 1 72 _ rfl (by kernel_rfl)
                have e73 : f 73 = _ := hE 0 73 _ rfl (by kernel_rfl)
                have e70 : f 70 = _ := hE 3 70 _ rfl (by kernel_rfl)
                clear hE h0
                refine yes_of (want_yes rfl rfl e70) ?_
                go_simp
                refine (refHas_any Xj xj yj j.seen (dd : Int) (nn : Int) W (HSj.out W (gb_none Hg6.out hW)).2.2.1 (by have := HBj.out; omega)).mono ?_
                rintro e w1' ⟨he, g'⟩; rw [Hjh.out] at he; subst he
                exact ⟨_, rfl, hK _ _ g' rfl⟩
              -- 10: law.go:69 fieldAddr
              apply told_is
              · intro W f hW hE h0 K hK
                have e4 := h0 4 (by kernel_rfl)
                conv at e4 => rhs; whnf
                have e70 : f 70 = _ := hE 4 70 _ rfl (by kernel_rfl)
                clear hE h0
                refine yes_of (want_yes rfl rfl e70) ?_
                go_simp; exact hK _ _ (gb_refl _ _) rfl
              -- 11: law.go:69 load
              apply told_is
              · intro W f hW hE h0 K hK
                have e75 : f 75 = _ := hE 0 75 _ rfl (by kernel_rfl)
                have e70 : f 70 = _ := hE 5 70 _ rfl (by kernel_rfl)
                clear hE h0
                refine yes_of (want_yes rfl rfl e70) ?_
                obtain ⟨z0, z1, _⟩ := HSa.out W (gb_none Hg6.out hW)
                go_simp; exact hK _ _ (gb_refl _ _) rfl
              -- 12: law.go:69 load
              apply told_is
              · intro W f hW hE h0 K hK
                have e9 := h0 9 (by kernel_rfl)
                conv at e9 => rhs; whnf
                have e70 : f 70 = _ := hE 6 70 _ rfl (by kernel_rfl)
                clear hE h0
                refine yes_of (want_yes rfl rfl e70) ?_
                have x0 := (HRx6.out.kept hW (by simp)).at_ (i := 0) rfl
                have x1 := (HRx6.out.kept hW (by simp)).at_ (i := 1) rfl
                go_simp; exact hK _ _ (gb_refl _ _) rfl
              -- 13: law.go:69 call
              apply told_is
              · intro W f hW hE h0 K hK
                have e76 : f 76 = _ := hE 1 76 _ rfl (by kernel_rfl)
                have e77 : f 77 = _ := hE 0 77 _ rfl (by kernel_rfl)
                have e70 : f 70 = _ := hE 7 70 _ rfl (by kernel_rfl)
                clear hE h0
                refine yes_of (want_yes rfl rfl e70) ?_
                go_simp
                refine (refHas_any Xa xa ya a.seen (dd : Int) (nn : Int) W (HSa.out W (gb_none Hg6.out hW)).2.2.1 (by have := HBa.out; omega)).mono ?_
                rintro e w1' ⟨he, g'⟩; rw [Hha.out] at he; subst he
                exact ⟨_, rfl, hK _ _ g' rfl⟩
              -- 14: law.go:69 move
              apply told_is
              · intro W f hW hE h0 K hK
                have e78 : f 78 = _ := hE 0 78 _ rfl (by kernel_rfl)
                have e70 : f 70 = _ := hE 8 70 _ rfl (by kernel_rfl)
                clear hE h0
                refine yes_of (want_yes rfl rfl e70) ?_
                go_simp; exact hK _ _ (gb_refl _ _) rfl
              -- 15: law.go:69 fieldAddr
              apply told_is
              · intro W f hW hE h0 K hK
                have e5 := h0 5 (by kernel_rfl)
                conv at e5 => rhs; whnf
                have e79 : f 79 = _ := hE 0 79 _ rfl (by kernel_rfl)
                clear hE h0
                refine yes_of (want_yes rfl rfl e79) ?_
                go_simp; exact hK _ _ (gb_refl _ _) rfl
              -- 16: law.go:69 load
              apply told_is
              · intro W f hW hE h0 K hK
                have e80 : f 80 = _ := hE 0 80 _ rfl (by kernel_rfl)
                have e79 : f 79 = _ := hE 1 79 _ rfl (by kernel_rfl)
                clear hE h0
                refine yes_of (want_yes rfl rfl e79) ?_
                obtain ⟨z0, z1, _⟩ := HSb.out W (gb_none Hg6.out hW)
                go_simp; exact hK _ _ (gb_refl _ _) rfl
              -- 17: law.go:69 load
              apply told_is
              · intro W f hW hE h0 K hK
                have e9 := h0 9 (by kernel_rfl)
                conv at e9 => rhs; whnf
                have e79 : f 79 = _ := hE 2 79 _ rfl (by kernel_rfl)
                clear hE h0
                refine yes_of (want_yes rfl rfl e79) ?_
                have x0 := (HRx6.out.kept hW (by simp)).at_ (i := 0) rfl
                have x1 := (HRx6.out.kept hW (by simp)).at_ (i := 1) rfl
                go_simp; exact hK _ _ (gb_refl _ _) rfl
              -- 18: law.go:69 call
              apply told_is
              · intro W f hW hE h0 K hK
                have e81 : f 81 = _ := hE 1 81 _ rfl (by kernel_rfl)
                have e82 : f 82 = _ := hE 0 82 _ rfl (by kernel_rfl)
                have e79 : f 79 = _ := hE 3 79 _ rfl (by kernel_rfl)
                clear hE h0
                refine yes_of (want_yes rfl rfl e79) ?_
                go_simp
                refine (refHas_any Xb xb yb b.seen (dd : Int) (nn : Int) W (HSb.out W (gb_none Hg6.out hW)).2.2.1 (by have := HBb.out; omega)).mono ?_
                rintro e w1' ⟨he, g'⟩; rw [Hhb.out] at he; subst he
                exact ⟨_, rfl, hK _ _ g' rfl⟩
              -- 19: law.go:69 pick
              apply told_is
              · intro W f hW hE h0 K hK
                have e79 : f 79 = _ := hE 4 79 _ rfl (by kernel_rfl)
                have e83 : f 83 = _ := hE 0 83 _ rfl (by kernel_rfl)
                have e70 : f 70 = _ := hE 13 70 _ rfl (by kernel_rfl)
                clear hE h0
                refine yes_of (want_yes rfl rfl e70) ?_
                go_simp; exact hK _ _ (gb_refl _ _) rfl
              -- 20: law.go:69 binOp
              apply told_is
              · intro W f hW hE h0 K hK
                have e74 : f 74 = _ := hE 10 74 _ rfl (by kernel_rfl)
                have e84 : f 84 = _ := hE 0 84 _ rfl (by kernel_rfl)
                have e70 : f 70 = _ := hE 14 70 _ rfl (by kernel_rfl)
                clear hE h0
                refine yes_of (want_yes rfl rfl e70) ?_
                have hq := Hnr.out W
                go_simp; exact hK _ _ (gb_refl _ _) rfl
              -- 21: law.go:69 pick
              apply told_is
              · intro W f hW hE h0 K hK
                have e70 : f 70 = _ := hE 15 70 _ rfl (by kernel_rfl)
                have e85 : f 85 = _ := hE 0 85 _ rfl (by kernel_rfl)
                clear hE h0
                refine yes_of (want_free rfl) ?_
                go_simp; exact hK _ _ (gb_refl _ _) rfl
              intro W f hW hA
              simp only [lexIn, Act.put, List.setIfInBounds_toArray, List.set_cons_zero, List.set_cons_succ]
              have e86 : f 86 = _ := hA 0 (some 86) _ rfl
              rw [e86]
              clear hA
              go_wp2_with fail
              go_roundw
              case rel => exact ⟨nn + 1, by omega, by have := Hnn.out; omega, rfl, gb_none Hg6.out hW⟩
              case measure => simp [intOf]; have := Hnn.out; omega
        · have hnn : nn = 50 := by omega
          subst hnn
          have t9 : IntKind.i64.wrap ((dd : Int) + 1) = ((dd + 1 : Nat) : Int) := by rw [IntKind.wrap_i64]; have := Hdd.out; omega
          have Hgx := Lib.hid hg
          clear hlt hn1 hn50 hg
          go_wp2_with fail
          go_roundw
          case rel => exact ⟨dd + 1, by have := Hdd.out; omega, rfl, Hgx.out⟩
          case measure => simp [intOf]; have := Hdd.out; omega
    · have hd : dd = 4 := by omega
      subst hd
      have Hg4 := Lib.hid hg
      clear hd4 hlt hg
      go_wp2_with (go_at_call 26; refine (awake9_any _).mono ?_; rintro e w7 ⟨rfl, g7⟩)
      go_ret
      exact ⟨rfl, gb_below (gb_none HG2.out (gb_none Hg4.out g7)) (Nat.le_refl _)⟩

set_option maxRecDepth 100000 in
theorem lifted (os : Os) (started : os.Started) (H : Type) (enc : TypeId × Value → H) :
    ReturnsInHanded {} Try.checked os 9 .any (Rows.joinDotsSpec.pre6 enc Try.prog Try.f9 Rows.joinDotsRow.domain false) (Rows.joinDotsSpec.post enc Try.prog Try.f9 false true false false) := by
  refine returnsInHanded_of_change (C := Try.checked) own started (by kernel_rfl) Try.func9
    (ChangeSpec.witness6 (enc := enc) (C := Try.checked) false ⟨#[], #[.slice none 0 0], []⟩ 8 (by kernel_rfl) (by kernel_rfl) (by kernel_rfl) (by kernel_rfl)) ?_
  intro W base args ds gs before hval0 hW hcnd _
  have hval : ∀ (j : Nat) t v, Try.f9.params[j]? = some t → args[j]? = some v → Value.okWide Try.prog W .any base t v := hval0
  have hW' := hW
  obtain ⟨p, q, hA0, hV, rfl, hfz, hnd⟩ := hW
  have hA : DataW.TrodAll enc Try.prog W 0 (fun _ => true) true Try.f9.params.toList args.toList ds p := hA0
  rw [Try.params9] at hA hval
  obtain ⟨v0, vs0, d0, ds0, p0, q0, hargs, rfl, rfl, h0, r0⟩ := trodAll_cons hA
  obtain ⟨rfl, rfl, rfl⟩ := trodAll_nil r0
  obtain rfl : args = #[v0] := by cases args; simp_all
  obtain ⟨rfl, rfl⟩ := trodVars_none hV
  have k0 := h0
  have lt0 : ∀ x ∈ p0, x.block < W.heap.size := by obtain ⟨m, hm⟩ := k0; exact DataW.trod_lt m _ _ _ hm
  obtain ⟨a0, len0, cap0, rfl⟩ := okWide_slice Try.underlying22 (hval 0 22 v0 rfl rfl)
  obtain ⟨z0, w0⟩ : ∃ zs, IsRow .u8 W a0 len0 cap0 zs := by
    obtain ⟨fuel, hf⟩ := h0
    rcases open_ints Try.underlying22 Try.underlying5 (by kernel_rfl) hf with ⟨hcs, _⟩ | ⟨x, l, c, zs, hcs, _, hl, hm, hz, _, hcell, hwz⟩
    · simp [Value.cells] at hcs
      obtain ⟨rfl, rfl, rfl⟩ := hcs
      exact ⟨[], .inl ⟨rfl, rfl, rfl, rfl⟩⟩
    · simp [Value.cells] at hcs
      obtain ⟨rfl, rfl, rfl⟩ := hcs
      exact ⟨zs, .inr ⟨_, rfl, hl, hm, by simpa using hz, hcell, hwz⟩⟩
  clear hA0 hval0
  refine (walk a0 len0 cap0 z0 W w0).mono fun e W' ⟨he, bel⟩ => ?_
  subst he
  exact ⟨_, rfl, _, _, _, [], _, [], hW', trodAll_mk1 (shut_bool Try.underlying4 _), (trodAll_cons_mk (Below.trod laidOut (by kernel_rfl) (of_decide_eq_true (by kernel_rfl)) k0 bel lt0) trodAll_mk0), rfl, bel.frame _, fun h => by cases h⟩

theorem over : Rows.joinDotsRow.holds Try.pinned (OpenSpec.ofChange Rows.joinDotsSpec) :=
  OpenClaim.holds_of_wide 9 Try.f9 rfl rfl rfl rfl rfl rfl rfl ⟨rfl, rfl, rfl, rfl, rfl⟩ rfl rfl rfl rfl rfl (by kernel_rfl) Try.func9 (by kernel_rfl)
    (of_decide_eq_true (by kernel_rfl)) (by unfold Func.isWrapper; first | (rw [if_pos (by decide +kernel)]; kernel_rfl) | (rw [if_neg (by decide +kernel)]; exact ⟨rfl, rfl⟩))
    (fun os started H enc _ => lifted os started H enc)

theorem proved : Rows.JoinDotsSaid := over
#print axioms proved
end Go.Proofs.Ytkjjgbcbgjgjeaa.joinDots
