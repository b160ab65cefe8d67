/-
  Proved: whatever values of its parameters' types it is called with, deaddroplaw9.JoinAll returns true, and each argument reads behind the call as it read before.
  Conditions: none but those of the row itself.
-/
import Derived.Test.YtkjjgbcbgjgjeaaRows
import Derived.WalkKit
import Derived.ProofKit
import Derived.OpenShut
import Derived.ShutString
import Derived.Test.YtkjjgbcbgjgjeaaJnB
import Derived.Test.YtkjjgbcbgjgjeaaFtGreat
import Derived.Test.YtkjjgbcbgjgjeaaFtMay
import Derived.Test.YtkjjgbcbgjgjeaaPsAll
import Derived.Test.YtkjjgbcbgjgjeaaTold
import Derived.Deep.DeepCutAuto
import Derived.ChangeOld
import Derived.Below
namespace Go.Proofs.Ytkjjgbcbgjgjeaa.joinAll
open Go.ChangeShapes Go.WideShapes Go.ChangeAt Go.RowKit
open Go.ChangeMaps (open_string shut_string)
open Go.Proofs.Ytkjjgbcbgjgjeaa.Mm Go.Proofs.Ytkjjgbcbgjgjeaa.Dt Go.Proofs.Ytkjjgbcbgjgjeaa.Td
set_option linter.unusedVariables false

theorem own : ownKnob Try.prog.godebug = none := by kernel_rfl
theorem laidOut : laidOutB Try.prog = true := by kernel_rfl

attribute [local go_sem] Td.upon_value Td.upon_skip Td.upon_enter Td.upon_row Td.look_tmp Td.look_const Td.look_func Td.look_global
theorem up_len (a b : List Rn) (al : Bool) : ∀ k, (upR a b al k).length ≤ k * (2 * (a.length + b.length))
  | 0 => by simp [upR]
  | k + 1 => by
    have h := up_len a b al k
    have h2 := mix_len_le (k : Int) a b al
    rw [upR, List.length_append, Nat.succ_mul]; omega
theorem union_len (a b : List Rn) : (unionR a b).length ≤ 16 * (a.length + b.length) := by have := up_len a b false 8; unfold unionR; omega
theorem join_lens (a b : St) : (joinS a b).seen.length ≤ 16 * (a.seen.length + b.seen.length) ∧ (joinS a b).facts.length ≤ a.facts.length + b.facts.length := ⟨union_len _ _, joinF_len _ _⟩
/-- A state that is not great. -/
def Little (s : St) : Prop := SS s ∧ s.seen.length ≤ 60 ∧ s.facts.length ≤ 80
theorem all_short : ∀ {l : List St}, (∀ s ∈ l, Little s) → l.length ≤ 2 → Lens (allS l)
  | [], _, _ => ⟨Nat.zero_le _, Nat.zero_le _⟩
  | [x], h, _ => by
    have hx := h x (by simp)
    show Lens (joinS none_ x)
    rw [(join_none hx.1).2]
    exact ⟨by have := hx.2.1; omega, by have := hx.2.2; omega⟩
  | [x, y], h, _ => by
    have hx := h x (by simp)
    have hy := h y (by simp)
    show Lens (joinS (joinS none_ x) y)
    rw [(join_none hx.1).2]
    have hl := join_lens x y
    exact ⟨by have := hx.2.1; have := hy.2.1; omega, by have := hx.2.2; have := hy.2.2; omega⟩
  | _ :: _ :: _ :: _, _, h => by simp at h
theorem parts_three {l : List St} (h : ∀ s ∈ l, Little s) (h3 : l.length = 3) : Parts l ∧ ∀ k, k < 3 → Lens (allS (l.take k)) := by
  refine ⟨⟨fun s hs => ⟨(h s hs).1, by have := (h s hs).2.1; omega, by have := (h s hs).2.2; omega⟩, fun i j hj => all_short (fun s hs => h s (List.mem_of_mem_drop (List.mem_of_mem_take hs))) ?_⟩, fun k hk => all_short (fun s hs => h s (List.mem_of_mem_take hs)) ?_⟩
  · rw [List.length_take]; omega
  · rw [List.length_take]; omega
theorem all_three {a b c : St} (ha : Little a) (hb : Little b) (hc : Little c) : (allS [a, b, c]).seen.length ≤ 100000 ∧ (allS [a, b, c]).facts.length ≤ 100000 := by
  show (joinS (joinS (joinS none_ a) b) c).seen.length ≤ 100000 ∧ (joinS (joinS (joinS none_ a) b) c).facts.length ≤ 100000
  rw [(join_none ha.1).2]
  have h1 := join_lens a b
  have h2 := join_lens (joinS a b) c
  have := ha.2; have := hb.2; have := hc.2
  exact ⟨by omega, by omega⟩
theorem join_two {a b : St} (ha : Little a) (hb : Little b) : (joinS a b).seen.length ≤ 100000 ∧ (joinS a b).facts.length ≤ 100000 := by
  have h1 := join_lens a b
  have := ha.2; have := hb.2
  exact ⟨by omega, by omega⟩
theorem rowsX (w : World) (X1 X2 X3 : Array Value) (t : TypeId) : ∃ W, (((w.alloc (.cells X1 t)).alloc (.cells X2 t)).alloc (.cells X3 t)) = W ∧ w.grownBy W none ∧ Row W w.heap.size t X1 ∧ Row W (w.heap.size + 1) t X2 ∧ Row W (w.heap.size + 1 + 1) t X3 := by
  have h1 := Row.new (w.alloc (.cells X1 t)) t X2
  have h2 := Row.new ((w.alloc (.cells X1 t)).alloc (.cells X2 t)) t X3
  rw [World.size_alloc] at h1
  rw [World.size_alloc, World.size_alloc] at h2
  exact ⟨_, rfl, gb_alloc (gb_alloc (gb_alloc (gb_refl _ _) _) _) _, ((Row.new w t X1).alloc _).alloc _, h1.alloc _, h2⟩
/-- Three states in a row. -/
def alV (ls : List St) : Td.Spec := fun W v => ∃ g, v = .slice (some ⟨g, 0, none⟩) 3 3 ∧ AL W (some ⟨g, 0, none⟩) 3 ls
theorem alV_stays {ls : List St} : Stays (fun a b => a.grownBy b none) (alV ls) := fun _ _ _ h ⟨g, e, hr⟩ => ⟨g, e, hr.keep h⟩
theorem al_new (w : World) {A0 B0 A1 B1 A2 B2 : Option Addr} {n0 c0 m0 d0 n1 c1 m1 d1 n2 c2 m2 d2 : Nat} {a b c : St} (h0 : SL w A0 n0 B0 m0 a ∧ n0 ≤ c0 ∧ m0 ≤ d0) (h1 : SL w A1 n1 B1 m1 b ∧ n1 ≤ c1 ∧ m1 ≤ d1) (h2 : SL w A2 n2 B2 m2 c ∧ n2 ≤ c2 ∧ m2 ≤ d2) :
    AL (w.alloc (.cells #[.slice A0 n0 c0, .slice B0 m0 d0, .slice A1 n1 c1, .slice B1 m1 d1, .slice A2 n2 c2, .slice B2 m2 d2] 26)) (some ⟨w.heap.size, 0, none⟩) 3 [a, b, c] := by
  have hr := Row.new w 26 #[.slice A0 n0 c0, .slice B0 m0 d0, .slice A1 n1 c1, .slice B1 m1 d1, .slice A2 n2 c2, .slice B2 m2 d2]
  have hg := gb_alloc (gb_refl w none) (.cells #[.slice A0 n0 c0, .slice B0 m0 d0, .slice A1 n1 c1, .slice B1 m1 d1, .slice A2 n2 c2, .slice B2 m2 d2] 26)
  refine ⟨rfl, fun _ => ⟨w.heap.size, 0, rfl, hr.lt, fun i s hi => ?_⟩⟩
  match i, hi with
  | 0, hi => obtain rfl : a = s := by simpa using hi
             exact ⟨A0, n0, c0, B0, m0, d0, hr.at_ (i := 0) rfl, hr.at_ (i := 1) rfl, h0.1.keep hg, h0.2.1, h0.2.2⟩
  | 1, hi => obtain rfl : b = s := by simpa using hi
             exact ⟨A1, n1, c1, B1, m1, d1, hr.at_ (i := 2) rfl, hr.at_ (i := 3) rfl, h1.1.keep hg, h1.2.1, h1.2.2⟩
  | 2, hi => obtain rfl : c = s := by simpa using hi
             exact ⟨A2, n2, c2, B2, m2, d2, hr.at_ (i := 4) rfl, hr.at_ (i := 5) rfl, h2.1.keep hg, h2.2.1, h2.2.2⟩
  | i + 3, hi => simp at hi
theorem little {w : World} {A B : Option Addr} {n m : Nat} {s : St} (hs : SL w A n B m s) (hg : ¬ GreatP s) : n ≤ 60 ∧ m ≤ 80 := by
  have h1 := hs.1.1; have h2 := hs.2.1
  exact ⟨Nat.le_of_not_lt fun h => hg (.inr (.inl (by rw [h1]; exact h))), Nat.le_of_not_lt fun h => hg (.inr (.inr (by rw [h2]; exact h)))⟩

set_option maxHeartbeats 40000000 in
set_option maxRecDepth 100000 in
theorem walk (SA0 SB0 : Option Addr) (sn0 sc0 sm0 sd0 : Nat) (st0 : St) (SA1 SB1 : Option Addr) (sn1 sc1 sm1 sd1 : Nat) (st1 : St) (SA2 SB2 : Option Addr) (sn2 sc2 sm2 sd2 : Nat) (st2 : St) (w : World) (w0 : SL w SA0 sn0 SB0 sm0 st0) (ca0 : sn0 ≤ sc0) (cb0 : sm0 ≤ sd0) (w1 : SL w SA1 sn1 SB1 sm1 st1) (ca1 : sn1 ≤ sc1) (cb1 : sm1 ≤ sd1) (w2 : SL w SA2 sn2 SB2 sm2 st2) (ca2 : sn2 ≤ sc2) (cb2 : sm2 ≤ sd2) :
    Calls Try.prog 6 #[.agg #[.slice SA0 sn0 sc0, .slice SB0 sm0 sd0], .agg #[.slice SA1 sn1 sc1, .slice SB1 sm1 sd1], .agg #[.slice SA2 sn2 sc2, .slice SB2 sm2 sd2]] w fun e w' => e = .returned (.bool true) ∧ Below w.heap.size w w' := by
  have HS : Hid (SL w SA0 sn0 SB0 sm0 st0 ∧ SL w SA1 sn1 SB1 sm1 st1 ∧ SL w SA2 sn2 SB2 sm2 st2) := ⟨w0, w1, w2⟩
  have HCp : Hid ((sn0 ≤ sc0 ∧ sm0 ≤ sd0) ∧ (sn1 ≤ sc1 ∧ sm1 ≤ sd1) ∧ (sn2 ≤ sc2 ∧ sm2 ≤ sd2)) := ⟨⟨ca0, cb0⟩, ⟨ca1, cb1⟩, ⟨ca2, cb2⟩⟩
  obtain ⟨W0, hW0, G0, r1, r2, r3⟩ := rowsX w #[.slice SA0 sn0 sc0, .slice SB0 sm0 sd0] #[.slice SA1 sn1 sc1, .slice SB1 sm1 sd1] #[.slice SA2 sn2 sc2, .slice SB2 sm2 sd2] 26
  have HK : Hid (∀ W, W0.grownBy W none → (W.cell? ⟨w.heap.size, 0, none⟩ = some (.slice SA0 sn0 sc0) ∧ W.cell? ⟨w.heap.size, 1, none⟩ = some (.slice SB0 sm0 sd0)) ∧ (W.cell? ⟨w.heap.size + 1, 0, none⟩ = some (.slice SA1 sn1 sc1) ∧ W.cell? ⟨w.heap.size + 1, 1, none⟩ = some (.slice SB1 sm1 sd1)) ∧ (W.cell? ⟨w.heap.size + 1 + 1, 0, none⟩ = some (.slice SA2 sn2 sc2) ∧ W.cell? ⟨w.heap.size + 1 + 1, 1, none⟩ = some (.slice SB2 sm2 sd2))) := fun W hW => by
    have k1 := r1.kept hW (by simp)
    have k2 := r2.kept hW (by simp)
    have k3 := r3.kept hW (by simp)
    exact ⟨⟨k1.at_ (i := 0) rfl, k1.at_ (i := 1) rfl⟩, ⟨k2.at_ (i := 0) rfl, k2.at_ (i := 1) rfl⟩, ⟨k3.at_ (i := 0) rfl, k3.at_ (i := 1) rfl⟩⟩
  have HG := Lib.hid G0
  obtain ⟨⟨ia0, ia1⟩, ⟨ib0, ib1⟩, ⟨ic0, ic1⟩⟩ := HK.out W0 (gb_refl _ _)
  clear r1 r2 r3 G0 w0 w1 w2 ca0 cb0 ca1 cb1 ca2 cb2
  go_enter Try.func6, Try.ntmps6
  go_upto_region 1 with fail
  clear hW0
  go_cut [32] (fun v wx => ∃ q : Bool, v = .bool q ∧ (q = false → ((sn0 ≤ 60 ∧ sm0 ≤ 80) ∧ (sn1 ≤ 60 ∧ sm1 ≤ 80) ∧ (sn2 ≤ 60 ∧ sm2 ≤ 80)) ∧ MayS st0 ∧ MayS st1 ∧ MayS st2) ∧ W0.grownBy wx none)
  case first =>
    have G_0 : Hid (W0.grownBy W0 none) := gb_refl _ _
    by_cases hg0 : GreatP st0
    · go_wp2_with (go_at_call 25; (with_reducible refine (great_any SA0 SB0 sn0 sc0 sm0 sd0 st0 W0 ((HS.out.1).keep (gb_none HG.out G_0.out))).mono ?_); intro e w_1 hh; obtain ⟨he, gg⟩ := hh.yes hg0; clear hh; subst he; have G_1 : Hid (W0.grownBy w_1 none) := gb_none G_0.out gg; clear gg; obtain ⟨⟨j0a0, j0a1⟩, ⟨j0b0, j0b1⟩, ⟨j0c0, j0c1⟩⟩ := HK.out w_1 G_1.out)
      go_meet
      exact ⟨true, rfl, (fun h => by cases h), G_1.out⟩
    · by_cases hg1 : GreatP st1
      · go_wp2_with (go_at_call 25; (with_reducible refine (great_any SA0 SB0 sn0 sc0 sm0 sd0 st0 W0 ((HS.out.1).keep (gb_none HG.out G_0.out))).mono ?_); intro e w_1 hh; obtain ⟨he, gg⟩ := hh.no hg0; clear hh; subst he; have G_1 : Hid (W0.grownBy w_1 none) := gb_none G_0.out gg; clear gg; obtain ⟨⟨j0a0, j0a1⟩, ⟨j0b0, j0b1⟩, ⟨j0c0, j0c1⟩⟩ := HK.out w_1 G_1.out)
        go_wp2_with (go_at_call 25; (with_reducible refine (great_any SA1 SB1 sn1 sc1 sm1 sd1 st1 w_1 ((HS.out.2.1).keep (gb_none HG.out G_1.out))).mono ?_); intro e w_2 hh; obtain ⟨he, gg⟩ := hh.yes hg1; clear hh; subst he; have G_2 : Hid (W0.grownBy w_2 none) := gb_none G_1.out gg; clear gg; obtain ⟨⟨j1a0, j1a1⟩, ⟨j1b0, j1b1⟩, ⟨j1c0, j1c1⟩⟩ := HK.out w_2 G_2.out)
        go_meet
        exact ⟨true, rfl, (fun h => by cases h), G_2.out⟩
      · by_cases hg2 : GreatP st2
        · go_wp2_with (go_at_call 25; (with_reducible refine (great_any SA0 SB0 sn0 sc0 sm0 sd0 st0 W0 ((HS.out.1).keep (gb_none HG.out G_0.out))).mono ?_); intro e w_1 hh; obtain ⟨he, gg⟩ := hh.no hg0; clear hh; subst he; have G_1 : Hid (W0.grownBy w_1 none) := gb_none G_0.out gg; clear gg; obtain ⟨⟨j0a0, j0a1⟩, ⟨j0b0, j0b1⟩, ⟨j0c0, j0c1⟩⟩ := HK.out w_1 G_1.out)
          go_wp2_with (go_at_call 25; (with_reducible refine (great_any SA1 SB1 sn1 sc1 sm1 sd1 st1 w_1 ((HS.out.2.1).keep (gb_none HG.out G_1.out))).mono ?_); intro e w_2 hh; obtain ⟨he, gg⟩ := hh.no hg1; clear hh; subst he; have G_2 : Hid (W0.grownBy w_2 none) := gb_none G_1.out gg; clear gg; obtain ⟨⟨j1a0, j1a1⟩, ⟨j1b0, j1b1⟩, ⟨j1c0, j1c1⟩⟩ := HK.out w_2 G_2.out)
          go_wp2_with (go_at_call 25; (with_reducible refine (great_any SA2 SB2 sn2 sc2 sm2 sd2 st2 w_2 ((HS.out.2.2).keep (gb_none HG.out G_2.out))).mono ?_); intro e w_3 hh; obtain ⟨he, gg⟩ := hh.yes hg2; clear hh; subst he; have G_3 : Hid (W0.grownBy w_3 none) := gb_none G_2.out gg; clear gg; obtain ⟨⟨j2a0, j2a1⟩, ⟨j2b0, j2b1⟩, ⟨j2c0, j2c1⟩⟩ := HK.out w_3 G_3.out)
          go_meet
          exact ⟨true, rfl, (fun h => by cases h), G_3.out⟩
        · have HLt : Hid ((sn0 ≤ 60 ∧ sm0 ≤ 80) ∧ (sn1 ≤ 60 ∧ sm1 ≤ 80) ∧ (sn2 ≤ 60 ∧ sm2 ≤ 80)) := ⟨little HS.out.1 hg0, little HS.out.2.1 hg1, little HS.out.2.2 hg2⟩
          by_cases hm0 : MayS st0
          · by_cases hm1 : MayS st1
            · by_cases hm2 : MayS st2
              · go_wp2_with (go_at_call 25; (with_reducible refine (great_any SA0 SB0 sn0 sc0 sm0 sd0 st0 W0 ((HS.out.1).keep (gb_none HG.out G_0.out))).mono ?_); intro e w_1 hh; obtain ⟨he, gg⟩ := hh.no hg0; clear hh; subst he; have G_1 : Hid (W0.grownBy w_1 none) := gb_none G_0.out gg; clear gg; obtain ⟨⟨j0a0, j0a1⟩, ⟨j0b0, j0b1⟩, ⟨j0c0, j0c1⟩⟩ := HK.out w_1 G_1.out)
                go_wp2_with (go_at_call 25; (with_reducible refine (great_any SA1 SB1 sn1 sc1 sm1 sd1 st1 w_1 ((HS.out.2.1).keep (gb_none HG.out G_1.out))).mono ?_); intro e w_2 hh; obtain ⟨he, gg⟩ := hh.no hg1; clear hh; subst he; have G_2 : Hid (W0.grownBy w_2 none) := gb_none G_1.out gg; clear gg; obtain ⟨⟨j1a0, j1a1⟩, ⟨j1b0, j1b1⟩, ⟨j1c0, j1c1⟩⟩ := HK.out w_2 G_2.out)
                go_wp2_with (go_at_call 25; (with_reducible refine (great_any SA2 SB2 sn2 sc2 sm2 sd2 st2 w_2 ((HS.out.2.2).keep (gb_none HG.out G_2.out))).mono ?_); intro e w_3 hh; obtain ⟨he, gg⟩ := hh.no hg2; clear hh; subst he; have G_3 : Hid (W0.grownBy w_3 none) := gb_none G_2.out gg; clear gg; obtain ⟨⟨j2a0, j2a1⟩, ⟨j2b0, j2b1⟩, ⟨j2c0, j2c1⟩⟩ := HK.out w_3 G_3.out)
                go_wp2_with (go_at_call 20; (with_reducible refine (refMayS_any SA0 SB0 sn0 sc0 sm0 sd0 st0 w_3 ((HS.out.1).keep (gb_none HG.out G_3.out)) (by have := HLt.out; omega) (by have := HLt.out; omega)).mono ?_); intro e w_4 hh; obtain ⟨he, gg⟩ := hh.yes hm0; clear hh; subst he; have G_4 : Hid (W0.grownBy w_4 none) := gb_none G_3.out gg; clear gg; obtain ⟨⟨j3a0, j3a1⟩, ⟨j3b0, j3b1⟩, ⟨j3c0, j3c1⟩⟩ := HK.out w_4 G_4.out)
                go_wp2_with (go_at_call 20; (with_reducible refine (refMayS_any SA1 SB1 sn1 sc1 sm1 sd1 st1 w_4 ((HS.out.2.1).keep (gb_none HG.out G_4.out)) (by have := HLt.out; omega) (by have := HLt.out; omega)).mono ?_); intro e w_5 hh; obtain ⟨he, gg⟩ := hh.yes hm1; clear hh; subst he; have G_5 : Hid (W0.grownBy w_5 none) := gb_none G_4.out gg; clear gg; obtain ⟨⟨j4a0, j4a1⟩, ⟨j4b0, j4b1⟩, ⟨j4c0, j4c1⟩⟩ := HK.out w_5 G_5.out)
                go_wp2_with (go_at_call 20; (with_reducible refine (refMayS_any SA2 SB2 sn2 sc2 sm2 sd2 st2 w_5 ((HS.out.2.2).keep (gb_none HG.out G_5.out)) (by have := HLt.out; omega) (by have := HLt.out; omega)).mono ?_); intro e w_6 hh; obtain ⟨he, gg⟩ := hh.yes hm2; clear hh; subst he; have G_6 : Hid (W0.grownBy w_6 none) := gb_none G_5.out gg; clear gg; obtain ⟨⟨j5a0, j5a1⟩, ⟨j5b0, j5b1⟩, ⟨j5c0, j5c1⟩⟩ := HK.out w_6 G_6.out)
                go_meet
                exact ⟨false, rfl, fun _ => ⟨HLt.out, hm0, hm1, hm2⟩, G_6.out⟩
              · go_wp2_with (go_at_call 25; (with_reducible refine (great_any SA0 SB0 sn0 sc0 sm0 sd0 st0 W0 ((HS.out.1).keep (gb_none HG.out G_0.out))).mono ?_); intro e w_1 hh; obtain ⟨he, gg⟩ := hh.no hg0; clear hh; subst he; have G_1 : Hid (W0.grownBy w_1 none) := gb_none G_0.out gg; clear gg; obtain ⟨⟨j0a0, j0a1⟩, ⟨j0b0, j0b1⟩, ⟨j0c0, j0c1⟩⟩ := HK.out w_1 G_1.out)
                go_wp2_with (go_at_call 25; (with_reducible refine (great_any SA1 SB1 sn1 sc1 sm1 sd1 st1 w_1 ((HS.out.2.1).keep (gb_none HG.out G_1.out))).mono ?_); intro e w_2 hh; obtain ⟨he, gg⟩ := hh.no hg1; clear hh; subst he; have G_2 : Hid (W0.grownBy w_2 none) := gb_none G_1.out gg; clear gg; obtain ⟨⟨j1a0, j1a1⟩, ⟨j1b0, j1b1⟩, ⟨j1c0, j1c1⟩⟩ := HK.out w_2 G_2.out)
                go_wp2_with (go_at_call 25; (with_reducible refine (great_any SA2 SB2 sn2 sc2 sm2 sd2 st2 w_2 ((HS.out.2.2).keep (gb_none HG.out G_2.out))).mono ?_); intro e w_3 hh; obtain ⟨he, gg⟩ := hh.no hg2; clear hh; subst he; have G_3 : Hid (W0.grownBy w_3 none) := gb_none G_2.out gg; clear gg; obtain ⟨⟨j2a0, j2a1⟩, ⟨j2b0, j2b1⟩, ⟨j2c0, j2c1⟩⟩ := HK.out w_3 G_3.out)
                go_wp2_with (go_at_call 20; (with_reducible refine (refMayS_any SA0 SB0 sn0 sc0 sm0 sd0 st0 w_3 ((HS.out.1).keep (gb_none HG.out G_3.out)) (by have := HLt.out; omega) (by have := HLt.out; omega)).mono ?_); intro e w_4 hh; obtain ⟨he, gg⟩ := hh.yes hm0; clear hh; subst he; have G_4 : Hid (W0.grownBy w_4 none) := gb_none G_3.out gg; clear gg; obtain ⟨⟨j3a0, j3a1⟩, ⟨j3b0, j3b1⟩, ⟨j3c0, j3c1⟩⟩ := HK.out w_4 G_4.out)
                go_wp2_with (go_at_call 20; (with_reducible refine (refMayS_any SA1 SB1 sn1 sc1 sm1 sd1 st1 w_4 ((HS.out.2.1).keep (gb_none HG.out G_4.out)) (by have := HLt.out; omega) (by have := HLt.out; omega)).mono ?_); intro e w_5 hh; obtain ⟨he, gg⟩ := hh.yes hm1; clear hh; subst he; have G_5 : Hid (W0.grownBy w_5 none) := gb_none G_4.out gg; clear gg; obtain ⟨⟨j4a0, j4a1⟩, ⟨j4b0, j4b1⟩, ⟨j4c0, j4c1⟩⟩ := HK.out w_5 G_5.out)
                go_wp2_with (go_at_call 20; (with_reducible refine (refMayS_any SA2 SB2 sn2 sc2 sm2 sd2 st2 w_5 ((HS.out.2.2).keep (gb_none HG.out G_5.out)) (by have := HLt.out; omega) (by have := HLt.out; omega)).mono ?_); intro e w_6 hh; obtain ⟨he, gg⟩ := hh.no hm2; clear hh; subst he; have G_6 : Hid (W0.grownBy w_6 none) := gb_none G_5.out gg; clear gg; obtain ⟨⟨j5a0, j5a1⟩, ⟨j5b0, j5b1⟩, ⟨j5c0, j5c1⟩⟩ := HK.out w_6 G_6.out)
                go_meet
                exact ⟨true, rfl, (fun h => by cases h), G_6.out⟩
            · go_wp2_with (go_at_call 25; (with_reducible refine (great_any SA0 SB0 sn0 sc0 sm0 sd0 st0 W0 ((HS.out.1).keep (gb_none HG.out G_0.out))).mono ?_); intro e w_1 hh; obtain ⟨he, gg⟩ := hh.no hg0; clear hh; subst he; have G_1 : Hid (W0.grownBy w_1 none) := gb_none G_0.out gg; clear gg; obtain ⟨⟨j0a0, j0a1⟩, ⟨j0b0, j0b1⟩, ⟨j0c0, j0c1⟩⟩ := HK.out w_1 G_1.out)
              go_wp2_with (go_at_call 25; (with_reducible refine (great_any SA1 SB1 sn1 sc1 sm1 sd1 st1 w_1 ((HS.out.2.1).keep (gb_none HG.out G_1.out))).mono ?_); intro e w_2 hh; obtain ⟨he, gg⟩ := hh.no hg1; clear hh; subst he; have G_2 : Hid (W0.grownBy w_2 none) := gb_none G_1.out gg; clear gg; obtain ⟨⟨j1a0, j1a1⟩, ⟨j1b0, j1b1⟩, ⟨j1c0, j1c1⟩⟩ := HK.out w_2 G_2.out)
              go_wp2_with (go_at_call 25; (with_reducible refine (great_any SA2 SB2 sn2 sc2 sm2 sd2 st2 w_2 ((HS.out.2.2).keep (gb_none HG.out G_2.out))).mono ?_); intro e w_3 hh; obtain ⟨he, gg⟩ := hh.no hg2; clear hh; subst he; have G_3 : Hid (W0.grownBy w_3 none) := gb_none G_2.out gg; clear gg; obtain ⟨⟨j2a0, j2a1⟩, ⟨j2b0, j2b1⟩, ⟨j2c0, j2c1⟩⟩ := HK.out w_3 G_3.out)
              go_wp2_with (go_at_call 20; (with_reducible refine (refMayS_any SA0 SB0 sn0 sc0 sm0 sd0 st0 w_3 ((HS.out.1).keep (gb_none HG.out G_3.out)) (by have := HLt.out; omega) (by have := HLt.out; omega)).mono ?_); intro e w_4 hh; obtain ⟨he, gg⟩ := hh.yes hm0; clear hh; subst he; have G_4 : Hid (W0.grownBy w_4 none) := gb_none G_3.out gg; clear gg; obtain ⟨⟨j3a0, j3a1⟩, ⟨j3b0, j3b1⟩, ⟨j3c0, j3c1⟩⟩ := HK.out w_4 G_4.out)
              go_wp2_with (go_at_call 20; (with_reducible refine (refMayS_any SA1 SB1 sn1 sc1 sm1 sd1 st1 w_4 ((HS.out.2.1).keep (gb_none HG.out G_4.out)) (by have := HLt.out; omega) (by have := HLt.out; omega)).mono ?_); intro e w_5 hh; obtain ⟨he, gg⟩ := hh.no hm1; clear hh; subst he; have G_5 : Hid (W0.grownBy w_5 none) := gb_none G_4.out gg; clear gg; obtain ⟨⟨j4a0, j4a1⟩, ⟨j4b0, j4b1⟩, ⟨j4c0, j4c1⟩⟩ := HK.out w_5 G_5.out)
              go_meet
              exact ⟨true, rfl, (fun h => by cases h), G_5.out⟩
          · go_wp2_with (go_at_call 25; (with_reducible refine (great_any SA0 SB0 sn0 sc0 sm0 sd0 st0 W0 ((HS.out.1).keep (gb_none HG.out G_0.out))).mono ?_); intro e w_1 hh; obtain ⟨he, gg⟩ := hh.no hg0; clear hh; subst he; have G_1 : Hid (W0.grownBy w_1 none) := gb_none G_0.out gg; clear gg; obtain ⟨⟨j0a0, j0a1⟩, ⟨j0b0, j0b1⟩, ⟨j0c0, j0c1⟩⟩ := HK.out w_1 G_1.out)
            go_wp2_with (go_at_call 25; (with_reducible refine (great_any SA1 SB1 sn1 sc1 sm1 sd1 st1 w_1 ((HS.out.2.1).keep (gb_none HG.out G_1.out))).mono ?_); intro e w_2 hh; obtain ⟨he, gg⟩ := hh.no hg1; clear hh; subst he; have G_2 : Hid (W0.grownBy w_2 none) := gb_none G_1.out gg; clear gg; obtain ⟨⟨j1a0, j1a1⟩, ⟨j1b0, j1b1⟩, ⟨j1c0, j1c1⟩⟩ := HK.out w_2 G_2.out)
            go_wp2_with (go_at_call 25; (with_reducible refine (great_any SA2 SB2 sn2 sc2 sm2 sd2 st2 w_2 ((HS.out.2.2).keep (gb_none HG.out G_2.out))).mono ?_); intro e w_3 hh; obtain ⟨he, gg⟩ := hh.no hg2; clear hh; subst he; have G_3 : Hid (W0.grownBy w_3 none) := gb_none G_2.out gg; clear gg; obtain ⟨⟨j2a0, j2a1⟩, ⟨j2b0, j2b1⟩, ⟨j2c0, j2c1⟩⟩ := HK.out w_3 G_3.out)
            go_wp2_with (go_at_call 20; (with_reducible refine (refMayS_any SA0 SB0 sn0 sc0 sm0 sd0 st0 w_3 ((HS.out.1).keep (gb_none HG.out G_3.out)) (by have := HLt.out; omega) (by have := HLt.out; omega)).mono ?_); intro e w_4 hh; obtain ⟨he, gg⟩ := hh.no hm0; clear hh; subst he; have G_4 : Hid (W0.grownBy w_4 none) := gb_none G_3.out gg; clear gg; obtain ⟨⟨j3a0, j3a1⟩, ⟨j3b0, j3b1⟩, ⟨j3c0, j3c1⟩⟩ := HK.out w_4 G_4.out)
            go_meet
            exact ⟨true, rfl, (fun h => by cases h), G_4.out⟩
  case rest =>
    obtain ⟨q, rfl, hq, hg⟩ := hcut
    have HE : Hid (w.grownBy wc none) := gb_none HG.out hg
    cases q with
    | true =>
      clear hq hg
      go_wp2_with (go_at_call 26; refine (awake9_any _).mono ?_; rintro e w5 ⟨rfl, g5⟩)
      go_ret
      exact ⟨rfl, gb_below (gb_none HE.out g5) (Nat.le_refl _)⟩
    | false =>
      obtain ⟨hlt, hm0, hm1, hm2⟩ := hq rfl
      have HMy : Hid (MayS st0 ∧ MayS st1 ∧ MayS st2) := ⟨hm0, hm1, hm2⟩
      have HSl : Hid (SL wc SA0 sn0 SB0 sm0 st0 ∧ SL wc SA1 sn1 SB1 sm1 st1 ∧ SL wc SA2 sn2 SB2 sm2 st2) := ⟨HS.out.1.keep HE.out, HS.out.2.1.keep HE.out, HS.out.2.2.keep HE.out⟩
      have hL0 : Little st0 := ⟨hm0.ss, by rw [HSl.out.1.1.1]; exact hlt.1.1, by rw [HSl.out.1.2.1]; exact hlt.1.2⟩
      have hL1 : Little st1 := ⟨hm1.ss, by rw [HSl.out.2.1.1.1]; exact hlt.2.1.1, by rw [HSl.out.2.1.2.1]; exact hlt.2.1.2⟩
      have hL2 : Little st2 := ⟨hm2.ss, by rw [HSl.out.2.2.1.1]; exact hlt.2.2.1, by rw [HSl.out.2.2.2.1]; exact hlt.2.2.2⟩
      have HBst0 : Hid (sn0 ≤ 320 ∧ sm0 ≤ 320 ∧ sn0 ≤ sc0 ∧ sm0 ≤ sd0) := by have h1 := hlt.1; have h2 := HCp.out.1; exact ⟨by omega, by omega, h2.1, h2.2⟩
      have Hvst0 : Hid (SS st0 ∧ st0.seen.length ≤ 320 ∧ st0.facts.length ≤ 320) := ⟨hL0.1, by have := hL0.2.1; omega, by have := hL0.2.2; omega⟩
      have HSst0 : Hid (∀ W, wc.grownBy W none → W.cell? ⟨w.heap.size, 0, none⟩ = some (.slice SA0 sn0 sc0) ∧ W.cell? ⟨w.heap.size, 1, none⟩ = some (.slice SB0 sm0 sd0) ∧ SL W SA0 sn0 SB0 sm0 st0) := fun W hW => by
        have h := HK.out W (gb_none hg hW)
        exact ⟨h.1.1, h.1.2, HSl.out.1.keep hW⟩
      have HBst1 : Hid (sn1 ≤ 320 ∧ sm1 ≤ 320 ∧ sn1 ≤ sc1 ∧ sm1 ≤ sd1) := by have h1 := hlt.2.1; have h2 := HCp.out.2.1; exact ⟨by omega, by omega, h2.1, h2.2⟩
      have Hvst1 : Hid (SS st1 ∧ st1.seen.length ≤ 320 ∧ st1.facts.length ≤ 320) := ⟨hL1.1, by have := hL1.2.1; omega, by have := hL1.2.2; omega⟩
      have HSst1 : Hid (∀ W, wc.grownBy W none → W.cell? ⟨w.heap.size + 1, 0, none⟩ = some (.slice SA1 sn1 sc1) ∧ W.cell? ⟨w.heap.size + 1, 1, none⟩ = some (.slice SB1 sm1 sd1) ∧ SL W SA1 sn1 SB1 sm1 st1) := fun W hW => by
        have h := HK.out W (gb_none hg hW)
        exact ⟨h.2.1.1, h.2.1.2, HSl.out.2.1.keep hW⟩
      have HBst2 : Hid (sn2 ≤ 320 ∧ sm2 ≤ 320 ∧ sn2 ≤ sc2 ∧ sm2 ≤ sd2) := by have h1 := hlt.2.2; have h2 := HCp.out.2.2; exact ⟨by omega, by omega, h2.1, h2.2⟩
      have Hvst2 : Hid (SS st2 ∧ st2.seen.length ≤ 320 ∧ st2.facts.length ≤ 320) := ⟨hL2.1, by have := hL2.2.1; omega, by have := hL2.2.2; omega⟩
      have HSst2 : Hid (∀ W, wc.grownBy W none → W.cell? ⟨w.heap.size + 1 + 1, 0, none⟩ = some (.slice SA2 sn2 sc2) ∧ W.cell? ⟨w.heap.size + 1 + 1, 1, none⟩ = some (.slice SB2 sm2 sd2) ∧ SL W SA2 sn2 SB2 sm2 st2) := fun W hW => by
        have h := HK.out W (gb_none hg hW)
        exact ⟨h.2.2.1, h.2.2.2, HSl.out.2.2.keep hW⟩
      obtain ⟨j, hj⟩ : ∃ j, joinS st0 st1 = j := ⟨_, rfl⟩
      obtain ⟨k, hk⟩ : ∃ k, joinS st1 st0 = k := ⟨_, rfl⟩
      obtain ⟨tp, htp⟩ : ∃ tp, allS [st0, st1, st2] = tp := ⟨_, rfl⟩
      obtain ⟨bs, hbs⟩ : ∃ bs, (stW st0).bytes = bs := ⟨_, rfl⟩
      obtain ⟨bl, hbl⟩ := asB (k = st1)
      have Hvj : Hid (True ∧ j.seen.length ≤ 100000 ∧ j.facts.length ≤ 100000) := by rw [← hj]; exact ⟨trivial, join_two hL0 hL1⟩
      have Hvk : Hid (True ∧ k.seen.length ≤ 100000 ∧ k.facts.length ≤ 100000) := by rw [← hk]; exact ⟨trivial, join_two hL1 hL0⟩
      have Hvtp : Hid (True ∧ tp.seen.length ≤ 100000 ∧ tp.facts.length ≤ 100000) := by rw [← htp]; exact ⟨trivial, all_three hL0 hL1 hL2⟩
      have HLest0st1 : Hid ((joinS st1 st0).seen.length ≤ 100000 ∧ (joinS st1 st0).facts.length ≤ 100000) := join_two hL1 hL0
      have HPl : Hid (Parts [st0, st1, st2] ∧ ∀ k, k < 3 → Lens (allS ([st0, st1, st2].take k))) := parts_three (fun s hs => by
        simp only [List.mem_cons, List.not_mem_nil, or_false] at hs
        rcases hs with rfl | rfl | rfl
        · exact hL0
        · exact hL1
        · exact hL2) rfl
      have Hj := Lib.hid hj
      have Hk := Lib.hid hk
      have Htp := Lib.hid htp
      have Hbs := Lib.hid hbs
      have Hbl := Lib.hid hbl
      obtain ⟨x0, x1, _⟩ := HSst0.out wc (gb_refl _ _)
      clear hq hg hj hk htp hbs hbl hL0 hL1 hL2 hm0 hm1 hm2 hlt HSl ia0 ia1 ib0 ib1 ic0 ic1
      go_wp2_with (go_at_call 27; refine (putState_any SA0 SB0 sn0 sc0 sm0 sd0 st0 wc (HSst0.out wc (gb_refl _ _)).2.2 HMy.out.1 (by have := HBst0.out; omega)).mono ?_; rw [Hbs.out]; rintro e w3 ⟨rfl, g3⟩; have HG3 := Lib.hid g3; clear g3)
      replace HSst0 : Hid (∀ W, w3.grownBy W none → _) := fun W hW => HSst0.out W (gb_none HG3.out hW)
      replace HSst1 : Hid (∀ W, w3.grownBy W none → _) := fun W hW => HSst1.out W (gb_none HG3.out hW)
      replace HSst2 : Hid (∀ W, w3.grownBy W none → _) := fun W hW => HSst2.out W (gb_none HG3.out hW)
      have HG4 : Hid (w.grownBy w3 none) := gb_none HE.out HG3.out
      clear x0 x1
      go_upto_region 4 with fail
      apply wp_region_told (le := fun a b => a.grownBy b none) [isV _, isV _, stateV j, isV _, isV _, stateV j, isV _, isV _, isV _, isV _, isV _, isV _, isV _, stateV k, isV _, isV _, isV _, isV _, isV _, isV _, isV _, isV _, alV [st0, st1, st2], stateV tp, isV _, isV _, isV _, alV [st0, st1, st2], stateV tp, isV _, isV _, isV _, isV _, isV _, isV _, isV _, isV _, isV _, isV _, isV _, isV _]
      case hn => rfl
      case hm => kernel_rfl
      case hB => kernel_rfl
      case ht => exact fun _ _ _ h k => gb_none h k
      case hw => exact gb_drew (gb_refl _ _)
      -- 0: law.go:23 load
      apply told_is
      · intro W f hW hE h0 K hK
        have e3 := h0 3 (by kernel_rfl)
        conv at e3 => rhs; whnf
        clear hE h0
        refine yes_of (want_free rfl) ?_
        obtain ⟨z0, z1, _⟩ := HSst0.out W hW
        go_simp; exact hK _ _ (gb_refl _ _) rfl
      -- 1: law.go:23 load
      apply told_is
      · intro W f hW hE h0 K hK
        have e4 := h0 4 (by kernel_rfl)
        conv at e4 => rhs; whnf
        clear hE h0
        refine yes_of (want_free rfl) ?_
        obtain ⟨z0, z1, _⟩ := HSst1.out W hW
        go_simp; exact hK _ _ (gb_refl _ _) rfl
      -- 2: law.go:23 call
      apply told_at stateV_stays
      · intro W f hW hE h0 K hK
        have e36 : f 36 = _ := hE 1 36 _ rfl (by kernel_rfl)
        have e37 : f 37 = _ := hE 0 37 _ rfl (by kernel_rfl)
        clear hE h0
        refine yes_of (want_free rfl) ?_
        go_simp
        refine (pJoin_any SA0 SB0 SA1 SB1 sn0 sc0 sm0 sd0 sn1 sc1 sm1 sd1 st0 st1 W (HSst0.out W hW).2.2 (HSst1.out W hW).2.2 Hvst0.out.1 Hvst1.out.1 (by have := HBst0.out; have := HBst1.out; omega) (by have := HBst0.out; have := HBst1.out; omega) (by have := HBst0.out; have := HBst1.out; omega) (by have := HBst0.out; have := HBst1.out; omega) (by have := HBst0.out; have := HBst1.out; omega) (by have := HBst0.out; have := HBst1.out; omega) (by have := HBst0.out; have := HBst1.out; omega)).mono ?_
        rw [Hj.out]
        rintro e w1' ⟨A2', n2', c2', B2', m2', d2', rfl, l1, l2, l3, g'⟩
        exact ⟨_, rfl, hK _ _ g' ⟨A2', n2', c2', B2', m2', d2', rfl, l1, l2, l3⟩⟩
      -- 3: law.go:23 load
      apply told_is
      · intro W f hW hE h0 K hK
        have e3 := h0 3 (by kernel_rfl)
        conv at e3 => rhs; whnf
        clear hE h0
        refine yes_of (want_free rfl) ?_
        obtain ⟨z0, z1, _⟩ := HSst0.out W hW
        go_simp; exact hK _ _ (gb_refl _ _) rfl
      -- 4: law.go:23 load
      apply told_is
      · intro W f hW hE h0 K hK
        have e4 := h0 4 (by kernel_rfl)
        conv at e4 => rhs; whnf
        clear hE h0
        refine yes_of (want_free rfl) ?_
        obtain ⟨z0, z1, _⟩ := HSst1.out W hW
        go_simp; exact hK _ _ (gb_refl _ _) rfl
      -- 5: law.go:23 call
      apply told_at stateV_stays
      · intro W f hW hE h0 K hK
        have e39 : f 39 = _ := hE 1 39 _ rfl (by kernel_rfl)
        have e40 : f 40 = _ := hE 0 40 _ rfl (by kernel_rfl)
        clear hE h0
        refine yes_of (want_free rfl) ?_
        go_simp
        refine (refJoin_any SA0 SB0 SA1 SB1 sn0 sc0 sm0 sd0 sn1 sc1 sm1 sd1 st0 st1 W (HSst0.out W hW).2.2 (HSst1.out W hW).2.2 Hvst0.out.1 Hvst1.out.1 (by have := HBst0.out; have := HBst1.out; omega) (by have := HBst0.out; have := HBst1.out; omega) (by have := HBst0.out; have := HBst1.out; omega) (by have := HBst0.out; have := HBst1.out; omega)).mono ?_
        rw [Hj.out]
        rintro e w1' ⟨A2', n2', c2', B2', m2', d2', rfl, l1, l2, l3, g'⟩
        exact ⟨_, rfl, hK _ _ g' ⟨A2', n2', c2', B2', m2', d2', rfl, l1, l2, l3⟩⟩
      -- 6: law.go:23 call
      apply told_is
      · intro W f hW hE h0 K hK
        have e38 := hE 3 38 _ rfl (by kernel_rfl)
        have e41 := hE 0 41 _ rfl (by kernel_rfl)
        clear hE h0
        refine yes_of (want_free rfl) ?_
        obtain ⟨X38, x38, y38, Y38, u38, v38, e38, k1_38, k2_38, k3_38⟩ := e38
        obtain ⟨X41, x41, y41, Y41, u41, v41, e41, k1_41, k2_41, k3_41⟩ := e41
        go_simp
        refine (refSameSt_any X38 Y38 X41 Y41 x38 y38 u38 v38 x41 y41 u41 v41 j j W k1_38 k1_41 (by have := k1_38.1.1; have := k1_38.2.1; have := Hvj.out; have := k1_41.1.1; have := k1_41.2.1; have := Hvj.out; omega) (by have := k1_38.1.1; have := k1_38.2.1; have := Hvj.out; have := k1_41.1.1; have := k1_41.2.1; have := Hvj.out; omega) (by have := k1_38.1.1; have := k1_38.2.1; have := Hvj.out; have := k1_41.1.1; have := k1_41.2.1; have := Hvj.out; omega) (by have := k1_38.1.1; have := k1_38.2.1; have := Hvj.out; have := k1_41.1.1; have := k1_41.2.1; have := Hvj.out; omega)).mono ?_
        intro e w1' hh; obtain ⟨he, g'⟩ := hh.yes rfl; subst he
        exact ⟨_, rfl, hK _ _ g' rfl⟩
      -- 7: law.go:23 move
      apply told_is
      · intro W f hW hE h0 K hK
        have e42 : f 42 = _ := hE 0 42 _ rfl (by kernel_rfl)
        clear hE h0
        refine yes_of (want_free rfl) ?_
        go_simp; exact hK _ _ (gb_refl _ _) rfl
      -- 8: law.go:23 load
      apply told_is
      · intro W f hW hE h0 K hK
        have e3 := h0 3 (by kernel_rfl)
        conv at e3 => rhs; whnf
        have e43 : f 43 = _ := hE 0 43 _ rfl (by kernel_rfl)
        clear hE h0
        refine yes_of (want_yes rfl rfl e43) ?_
        obtain ⟨z0, z1, _⟩ := HSst0.out W hW
        go_simp; exact hK _ _ (gb_refl _ _) rfl
      -- 9: law.go:23 load
      apply told_is
      · intro W f hW hE h0 K hK
        have e4 := h0 4 (by kernel_rfl)
        conv at e4 => rhs; whnf
        have e43 : f 43 = _ := hE 1 43 _ rfl (by kernel_rfl)
        clear hE h0
        refine yes_of (want_yes rfl rfl e43) ?_
        obtain ⟨z0, z1, _⟩ := HSst1.out W hW
        go_simp; exact hK _ _ (gb_refl _ _) rfl
      -- 10: law.go:23 call
      apply told_is
      · intro W f hW hE h0 K hK
        have e44 : f 44 = _ := hE 1 44 _ rfl (by kernel_rfl)
        have e45 : f 45 = _ := hE 0 45 _ rfl (by kernel_rfl)
        have e43 : f 43 = _ := hE 2 43 _ rfl (by kernel_rfl)
        clear hE h0
        refine yes_of (want_yes rfl rfl e43) ?_
        go_simp
        refine (pLe_any SA0 SB0 SA1 SB1 sn0 sc0 sm0 sd0 sn1 sc1 sm1 sd1 st0 st1 W (HSst0.out W hW).2.2 (HSst1.out W hW).2.2 Hvst0.out.1 Hvst1.out.1 (by have := HBst0.out; have := HBst1.out; omega) (by have := HBst0.out; have := HBst1.out; omega) (by have := HBst0.out; have := HBst1.out; omega) (by have := HBst0.out; have := HBst1.out; omega) (by have := HBst0.out; have := HBst1.out; omega) (by have := HBst0.out; have := HBst1.out; omega) (by have := HBst0.out; have := HBst1.out; omega) HLest0st1.out).mono ?_
        rw [Hk.out]
        intro e w1' hh; obtain ⟨he, g'⟩ := hh.is Hbl.out; subst he
        exact ⟨_, rfl, hK _ _ g' rfl⟩
      -- 11: law.go:23 load
      apply told_is
      · intro W f hW hE h0 K hK
        have e4 := h0 4 (by kernel_rfl)
        conv at e4 => rhs; whnf
        have e43 : f 43 = _ := hE 3 43 _ rfl (by kernel_rfl)
        clear hE h0
        refine yes_of (want_yes rfl rfl e43) ?_
        obtain ⟨z0, z1, _⟩ := HSst1.out W hW
        go_simp; exact hK _ _ (gb_refl _ _) rfl
      -- 12: law.go:23 load
      apply told_is
      · intro W f hW hE h0 K hK
        have e3 := h0 3 (by kernel_rfl)
        conv at e3 => rhs; whnf
        have e43 : f 43 = _ := hE 4 43 _ rfl (by kernel_rfl)
        clear hE h0
        refine yes_of (want_yes rfl rfl e43) ?_
        obtain ⟨z0, z1, _⟩ := HSst0.out W hW
        go_simp; exact hK _ _ (gb_refl _ _) rfl
      -- 13: law.go:23 call
      apply told_at stateV_stays
      · intro W f hW hE h0 K hK
        have e47 : f 47 = _ := hE 1 47 _ rfl (by kernel_rfl)
        have e48 : f 48 = _ := hE 0 48 _ rfl (by kernel_rfl)
        have e43 : f 43 = _ := hE 5 43 _ rfl (by kernel_rfl)
        clear hE h0
        refine yes_of (want_yes rfl rfl e43) ?_
        go_simp
        refine (refJoin_any SA1 SB1 SA0 SB0 sn1 sc1 sm1 sd1 sn0 sc0 sm0 sd0 st1 st0 W (HSst1.out W hW).2.2 (HSst0.out W hW).2.2 Hvst1.out.1 Hvst0.out.1 (by have := HBst1.out; have := HBst0.out; omega) (by have := HBst1.out; have := HBst0.out; omega) (by have := HBst1.out; have := HBst0.out; omega) (by have := HBst1.out; have := HBst0.out; omega)).mono ?_
        rw [Hk.out]
        rintro e w1' ⟨A2', n2', c2', B2', m2', d2', rfl, l1, l2, l3, g'⟩
        exact ⟨_, rfl, hK _ _ g' ⟨A2', n2', c2', B2', m2', d2', rfl, l1, l2, l3⟩⟩
      -- 14: law.go:23 load
      apply told_is
      · intro W f hW hE h0 K hK
        have e4 := h0 4 (by kernel_rfl)
        conv at e4 => rhs; whnf
        have e43 : f 43 = _ := hE 6 43 _ rfl (by kernel_rfl)
        clear hE h0
        refine yes_of (want_yes rfl rfl e43) ?_
        obtain ⟨z0, z1, _⟩ := HSst1.out W hW
        go_simp; exact hK _ _ (gb_refl _ _) rfl
      -- 15: law.go:23 call
      apply told_is
      · intro W f hW hE h0 K hK
        have e49 := hE 1 49 _ rfl (by kernel_rfl)
        have e50 : f 50 = _ := hE 0 50 _ rfl (by kernel_rfl)
        have e43 : f 43 = _ := hE 7 43 _ rfl (by kernel_rfl)
        clear hE h0
        refine yes_of (want_yes rfl rfl e43) ?_
        obtain ⟨X49, x49, y49, Y49, u49, v49, e49, k1_49, k2_49, k3_49⟩ := e49
        go_simp
        refine (refSameSt_any X49 Y49 SA1 SB1 x49 y49 u49 v49 sn1 sc1 sm1 sd1 k st1 W k1_49 (HSst1.out W hW).2.2 (by have := k1_49.1.1; have := k1_49.2.1; have := Hvk.out; have := HBst1.out; omega) (by have := k1_49.1.1; have := k1_49.2.1; have := Hvk.out; have := HBst1.out; omega) (by have := k1_49.1.1; have := k1_49.2.1; have := Hvk.out; have := HBst1.out; omega) (by have := k1_49.1.1; have := k1_49.2.1; have := Hvk.out; have := HBst1.out; omega)).mono ?_
        intro e w1' hh; obtain ⟨he, g'⟩ := hh.is Hbl.out; subst he
        exact ⟨_, rfl, hK _ _ g' rfl⟩
      -- 16: law.go:23 binOp
      apply told_is
      · intro W f hW hE h0 K hK
        have e46 : f 46 = _ := hE 5 46 _ rfl (by kernel_rfl)
        have e51 : f 51 = _ := hE 0 51 _ rfl (by kernel_rfl)
        have e43 : f 43 = _ := hE 8 43 _ rfl (by kernel_rfl)
        clear hE h0
        refine yes_of (want_yes rfl rfl e43) ?_
        cases bl
        all_goals (go_simp; exact hK _ _ (gb_refl _ _) rfl)
      -- 17: law.go:23 pick
      apply told_is
      · intro W f hW hE h0 K hK
        have e43 : f 43 = _ := hE 9 43 _ rfl (by kernel_rfl)
        have e52 : f 52 = _ := hE 0 52 _ rfl (by kernel_rfl)
        clear hE h0
        refine yes_of (want_free rfl) ?_
        go_simp; exact hK _ _ (gb_refl _ _) rfl
      -- 18: law.go:23 move
      apply told_is
      · intro W f hW hE h0 K hK
        have e53 : f 53 = _ := hE 0 53 _ rfl (by kernel_rfl)
        clear hE h0
        refine yes_of (want_free rfl) ?_
        go_simp; exact hK _ _ (gb_refl _ _) rfl
      -- 19: law.go:23 load
      apply told_is
      · intro W f hW hE h0 K hK
        have e3 := h0 3 (by kernel_rfl)
        conv at e3 => rhs; whnf
        have e54 : f 54 = _ := hE 0 54 _ rfl (by kernel_rfl)
        clear hE h0
        refine yes_of (want_yes rfl rfl e54) ?_
        obtain ⟨z0, z1, _⟩ := HSst0.out W hW
        go_simp; exact hK _ _ (gb_refl _ _) rfl
      -- 20: law.go:23 load
      apply told_is
      · intro W f hW hE h0 K hK
        have e4 := h0 4 (by kernel_rfl)
        conv at e4 => rhs; whnf
        have e54 : f 54 = _ := hE 1 54 _ rfl (by kernel_rfl)
        clear hE h0
        refine yes_of (want_yes rfl rfl e54) ?_
        obtain ⟨z0, z1, _⟩ := HSst1.out W hW
        go_simp; exact hK _ _ (gb_refl _ _) rfl
      -- 21: law.go:23 load
      apply told_is
      · intro W f hW hE h0 K hK
        have e5 := h0 5 (by kernel_rfl)
        conv at e5 => rhs; whnf
        have e54 : f 54 = _ := hE 2 54 _ rfl (by kernel_rfl)
        clear hE h0
        refine yes_of (want_yes rfl rfl e54) ?_
        obtain ⟨z0, z1, _⟩ := HSst2.out W hW
        go_simp; exact hK _ _ (gb_refl _ _) rfl
      -- 22: law.go:23 buildSlice
      apply told_at alV_stays
      · intro W f hW hE h0 K hK
        have e55 : f 55 = _ := hE 2 55 _ rfl (by kernel_rfl)
        have e56 : f 56 = _ := hE 1 56 _ rfl (by kernel_rfl)
        have e57 : f 57 = _ := hE 0 57 _ rfl (by kernel_rfl)
        have e54 : f 54 = _ := hE 3 54 _ rfl (by kernel_rfl)
        clear hE h0
        refine yes_of (want_yes rfl rfl e54) ?_
        go_simp
        exact hK _ _ (gb_alloc (gb_refl _ _) _) ⟨_, rfl, al_new W ⟨(HSst0.out W hW).2.2, HBst0.out.2.2⟩ ⟨(HSst1.out W hW).2.2, HBst1.out.2.2⟩ ⟨(HSst2.out W hW).2.2, HBst2.out.2.2⟩⟩
      -- 23: law.go:23 call
      apply told_at stateV_stays
      · intro W f hW hE h0 K hK
        have e58 := hE 0 58 _ rfl (by kernel_rfl)
        have e54 : f 54 = _ := hE 4 54 _ rfl (by kernel_rfl)
        clear hE h0
        refine yes_of (want_yes rfl rfl e54) ?_
        obtain ⟨g3, e58, h1⟩ := e58
        go_simp
        refine (pAll_any 3 (some ⟨g3, 0, none⟩) 3 [st0, st1, st2] W h1 HPl.out.1 (by omega) (by omega)).mono ?_
        rw [Htp.out]
        rintro e w1' ⟨A2', n2', c2', B2', m2', d2', rfl, l1, l2, l3, g'⟩
        exact ⟨_, rfl, hK _ _ g' ⟨A2', n2', c2', B2', m2', d2', rfl, l1, l2, l3⟩⟩
      -- 24: law.go:23 load
      apply told_is
      · intro W f hW hE h0 K hK
        have e3 := h0 3 (by kernel_rfl)
        conv at e3 => rhs; whnf
        have e54 : f 54 = _ := hE 5 54 _ rfl (by kernel_rfl)
        clear hE h0
        refine yes_of (want_yes rfl rfl e54) ?_
        obtain ⟨z0, z1, _⟩ := HSst0.out W hW
        go_simp; exact hK _ _ (gb_refl _ _) rfl
      -- 25: law.go:23 load
      apply told_is
      · intro W f hW hE h0 K hK
        have e4 := h0 4 (by kernel_rfl)
        conv at e4 => rhs; whnf
        have e54 : f 54 = _ := hE 6 54 _ rfl (by kernel_rfl)
        clear hE h0
        refine yes_of (want_yes rfl rfl e54) ?_
        obtain ⟨z0, z1, _⟩ := HSst1.out W hW
        go_simp; exact hK _ _ (gb_refl _ _) rfl
      -- 26: law.go:23 load
      apply told_is
      · intro W f hW hE h0 K hK
        have e5 := h0 5 (by kernel_rfl)
        conv at e5 => rhs; whnf
        have e54 : f 54 = _ := hE 7 54 _ rfl (by kernel_rfl)
        clear hE h0
        refine yes_of (want_yes rfl rfl e54) ?_
        obtain ⟨z0, z1, _⟩ := HSst2.out W hW
        go_simp; exact hK _ _ (gb_refl _ _) rfl
      -- 27: law.go:23 buildSlice
      apply told_at alV_stays
      · intro W f hW hE h0 K hK
        have e60 : f 60 = _ := hE 2 60 _ rfl (by kernel_rfl)
        have e61 : f 61 = _ := hE 1 61 _ rfl (by kernel_rfl)
        have e62 : f 62 = _ := hE 0 62 _ rfl (by kernel_rfl)
        have e54 : f 54 = _ := hE 8 54 _ rfl (by kernel_rfl)
        clear hE h0
        refine yes_of (want_yes rfl rfl e54) ?_
        go_simp
        exact hK _ _ (gb_alloc (gb_refl _ _) _) ⟨_, rfl, al_new W ⟨(HSst0.out W hW).2.2, HBst0.out.2.2⟩ ⟨(HSst1.out W hW).2.2, HBst1.out.2.2⟩ ⟨(HSst2.out W hW).2.2, HBst2.out.2.2⟩⟩
      -- 28: law.go:23 call
      apply told_at stateV_stays
      · intro W f hW hE h0 K hK
        have e63 := hE 0 63 _ rfl (by kernel_rfl)
        have e54 : f 54 = _ := hE 9 54 _ rfl (by kernel_rfl)
        clear hE h0
        refine yes_of (want_yes rfl rfl e54) ?_
        obtain ⟨g3, e63, h1⟩ := e63
        go_simp
        refine (refAll_any (some ⟨g3, 0, none⟩) 3 3 [st0, st1, st2] W h1 HPl.out.1.1 HPl.out.2 (by omega)).mono ?_
        rw [Htp.out]
        rintro e w1' ⟨A2', n2', c2', B2', m2', d2', rfl, l1, l2, l3, g'⟩
        exact ⟨_, rfl, hK _ _ g' ⟨A2', n2', c2', B2', m2', d2', rfl, l1, l2, l3⟩⟩
      -- 29: law.go:23 call
      apply told_is
      · intro W f hW hE h0 K hK
        have e59 := hE 5 59 _ rfl (by kernel_rfl)
        have e64 := hE 0 64 _ rfl (by kernel_rfl)
        have e54 : f 54 = _ := hE 10 54 _ rfl (by kernel_rfl)
        clear hE h0
        refine yes_of (want_yes rfl rfl e54) ?_
        obtain ⟨X59, x59, y59, Y59, u59, v59, e59, k1_59, k2_59, k3_59⟩ := e59
        obtain ⟨X64, x64, y64, Y64, u64, v64, e64, k1_64, k2_64, k3_64⟩ := e64
        go_simp
        refine (refSameSt_any X59 Y59 X64 Y64 x59 y59 u59 v59 x64 y64 u64 v64 tp tp W k1_59 k1_64 (by have := k1_59.1.1; have := k1_59.2.1; have := Hvtp.out; have := k1_64.1.1; have := k1_64.2.1; have := Hvtp.out; omega) (by have := k1_59.1.1; have := k1_59.2.1; have := Hvtp.out; have := k1_64.1.1; have := k1_64.2.1; have := Hvtp.out; omega) (by have := k1_59.1.1; have := k1_59.2.1; have := Hvtp.out; have := k1_64.1.1; have := k1_64.2.1; have := Hvtp.out; omega) (by have := k1_59.1.1; have := k1_59.2.1; have := Hvtp.out; have := k1_64.1.1; have := k1_64.2.1; have := Hvtp.out; omega)).mono ?_
        intro e w1' hh; obtain ⟨he, g'⟩ := hh.yes rfl; subst he
        exact ⟨_, rfl, hK _ _ g' rfl⟩
      -- 30: law.go:23 pick
      apply told_is
      · intro W f hW hE h0 K hK
        have e54 : f 54 = _ := hE 11 54 _ rfl (by kernel_rfl)
        have e65 : f 65 = _ := hE 0 65 _ rfl (by kernel_rfl)
        clear hE h0
        refine yes_of (want_free rfl) ?_
        go_simp; exact hK _ _ (gb_refl _ _) rfl
      -- 31: law.go:23 move
      apply told_is
      · intro W f hW hE h0 K hK
        have e66 : f 66 = _ := hE 0 66 _ rfl (by kernel_rfl)
        clear hE h0
        refine yes_of (want_free rfl) ?_
        go_simp; exact hK _ _ (gb_refl _ _) rfl
      -- 32: law.go:23 load
      apply told_is
      · intro W f hW hE h0 K hK
        have e3 := h0 3 (by kernel_rfl)
        conv at e3 => rhs; whnf
        have e67 : f 67 = _ := hE 0 67 _ rfl (by kernel_rfl)
        clear hE h0
        refine yes_of (want_yes rfl rfl e67) ?_
        obtain ⟨z0, z1, _⟩ := HSst0.out W hW
        go_simp; exact hK _ _ (gb_refl _ _) rfl
      -- 33: law.go:23 call
      apply told_is
      · intro W f hW hE h0 K hK
        have e68 : f 68 = _ := hE 0 68 _ rfl (by kernel_rfl)
        have e67 : f 67 = _ := hE 1 67 _ rfl (by kernel_rfl)
        clear hE h0
        refine yes_of (want_yes rfl rfl e67) ?_
        go_simp
        refine (putState_any SA0 SB0 sn0 sc0 sm0 sd0 st0 W (HSst0.out W hW).2.2 HMy.out.1 (by have := HBst0.out; omega)).mono ?_
        rw [Hbs.out]
        rintro e w1' ⟨rfl, g'⟩
        exact ⟨_, rfl, hK _ _ g' rfl⟩
      -- 34: law.go:23 move
      apply told_is
      · intro W f hW hE h0 K hK
        have e7 := h0 7 (by kernel_rfl)
        conv at e7 => rhs; whnf
        have e67 : f 67 = _ := hE 2 67 _ rfl (by kernel_rfl)
        clear hE h0
        refine yes_of (want_yes rfl rfl e67) ?_
        go_simp; exact hK _ _ (gb_refl _ _) rfl
      -- 35: law.go:23 binOp
      apply told_is
      · intro W f hW hE h0 K hK
        have e69 : f 69 = _ := hE 1 69 _ rfl (by kernel_rfl)
        have e70 : f 70 = _ := hE 0 70 _ rfl (by kernel_rfl)
        have e67 : f 67 = _ := hE 3 67 _ rfl (by kernel_rfl)
        clear hE h0
        refine yes_of (want_yes rfl rfl e67) ?_
        go_simp; exact hK _ _ (gb_refl _ _) rfl
      -- 36: law.go:23 pick
      apply told_is
      · intro W f hW hE h0 K hK
        have e67 : f 67 = _ := hE 4 67 _ rfl (by kernel_rfl)
        have e71 : f 71 = _ := hE 0 71 _ rfl (by kernel_rfl)
        clear hE h0
        refine yes_of (want_free rfl) ?_
        go_simp; exact hK _ _ (gb_refl _ _) rfl
      -- 37: law.go:23 move
      apply told_is
      · intro W f hW hE h0 K hK
        have e72 : f 72 = _ := hE 0 72 _ rfl (by kernel_rfl)
        clear hE h0
        refine yes_of (want_free rfl) ?_
        go_simp; exact hK _ _ (gb_refl _ _) rfl
      -- 38: law.go:23 call
      apply told_is
      · intro W f hW hE h0 K hK
        have e73 : f 73 = _ := hE 0 73 _ rfl (by kernel_rfl)
        clear hE h0
        refine yes_of (want_yes rfl rfl e73) ?_
        go_simp
        refine (awake9_any _).mono ?_
        rintro e w1' ⟨rfl, g'⟩
        exact ⟨_, rfl, hK _ _ g' rfl⟩
      -- 39: law.go:23 pick
      apply told_is
      · intro W f hW hE h0 K hK
        have e73 : f 73 = _ := hE 1 73 _ rfl (by kernel_rfl)
        have e74 : f 74 = _ := hE 0 74 _ rfl (by kernel_rfl)
        clear hE h0
        refine yes_of (want_free rfl) ?_
        go_simp; exact hK _ _ (gb_refl _ _) rfl
      -- 40: law.go:23 assign
      apply told_is
      · intro W f hW hE h0 K hK
        have e75 : f 75 = _ := hE 0 75 _ rfl (by kernel_rfl)
        clear hE h0
        refine yes_of (want_free rfl) ?_
        go_simp; exact hK _ _ (gb_refl _ _) rfl
      intro W f hW hA
      simp only [lexIn, Act.put, List.setIfInBounds_toArray, List.set_cons_zero, List.set_cons_succ]
      have e6 : f 6 = _ := hA 0 (some 6) _ rfl
      rw [e6]
      clear hA
      go_wp2_with fail
      go_ret
      exact ⟨rfl, gb_below (gb_none HG4.out hW) (Nat.le_refl _)⟩

set_option maxRecDepth 100000 in
theorem lifted (os : Os) (started : os.Started) (H : Type) (enc : TypeId × Value → H) :
    ReturnsInHanded {} Try.checked os 6 .any (Rows.joinAllSpec.pre6 enc Try.prog Try.f6 Rows.joinAllRow.domain false) (Rows.joinAllSpec.post enc Try.prog Try.f6 false true false false) := by
  refine returnsInHanded_of_change (C := Try.checked) own started (by kernel_rfl) Try.func6
    (ChangeSpec.witness6 (enc := enc) (C := Try.checked) false ⟨#[], #[.agg #[.slice none 0 0, .slice none 0 0], .agg #[.slice none 0 0, .slice none 0 0], .agg #[.slice none 0 0, .slice none 0 0]], []⟩ 8 (by kernel_rfl) (by kernel_rfl) (by kernel_rfl) (by kernel_rfl)) ?_
  intro W base args ds gs before hval0 hW hcnd _
  have hval : ∀ (j : Nat) t v, Try.f6.params[j]? = some t → args[j]? = some v → Value.okWide Try.prog W .any base t v := hval0
  have hW' := hW
  obtain ⟨p, q, hA0, hV, rfl, hfz, hnd⟩ := hW
  have hA : DataW.TrodAll enc Try.prog W 0 (fun _ => true) true Try.f6.params.toList args.toList ds p := hA0
  rw [Try.params6] at hA hval
  obtain ⟨v0, vs0, d0, ds0, p0, q0, hargs, rfl, rfl, h0, r0⟩ := trodAll_cons hA
  obtain ⟨v1, vs1, d1, ds1, p1, q1, rfl, rfl, rfl, h1, r1⟩ := trodAll_cons r0
  obtain ⟨v2, vs2, d2, ds2, p2, q2, rfl, rfl, rfl, h2, r2⟩ := trodAll_cons r1
  obtain ⟨rfl, rfl, rfl⟩ := trodAll_nil r2
  obtain rfl : args = #[v0, v1, v2] := by cases args; simp_all
  obtain ⟨rfl, rfl⟩ := trodVars_none hV
  have k0 := h0
  have lt0 : ∀ x ∈ p0, x.block < W.heap.size := by obtain ⟨m, hm⟩ := k0; exact DataW.trod_lt m _ _ _ hm
  obtain ⟨SA0, sn0, sc0, SB0, sm0, sd0, st0, rfl, w0, ca0, cb0⟩ := open_state (hval 0 26 v0 rfl rfl) h0
  have k1 := h1
  have lt1 : ∀ x ∈ p1, x.block < W.heap.size := by obtain ⟨m, hm⟩ := k1; exact DataW.trod_lt m _ _ _ hm
  obtain ⟨SA1, sn1, sc1, SB1, sm1, sd1, st1, rfl, w1, ca1, cb1⟩ := open_state (hval 1 26 v1 rfl rfl) h1
  have k2 := h2
  have lt2 : ∀ x ∈ p2, x.block < W.heap.size := by obtain ⟨m, hm⟩ := k2; exact DataW.trod_lt m _ _ _ hm
  obtain ⟨SA2, sn2, sc2, SB2, sm2, sd2, st2, rfl, w2, ca2, cb2⟩ := open_state (hval 2 26 v2 rfl rfl) h2
  clear hA0 hval0
  refine (walk SA0 SB0 sn0 sc0 sm0 sd0 st0 SA1 SB1 sn1 sc1 sm1 sd1 st1 SA2 SB2 sn2 sc2 sm2 sd2 st2 W w0 ca0 cb0 w1 ca1 cb1 w2 ca2 cb2).mono fun e W' ⟨he, bel⟩ => ?_
  subst he
  exact ⟨_, rfl, _, _, _, [], _, [], hW', trodAll_mk1 (shut_bool Try.underlying4 _), (trodAll_cons_mk (Below.trod laidOut (by kernel_rfl) (of_decide_eq_true (by kernel_rfl)) k0 bel lt0) (trodAll_cons_mk (Below.trod laidOut (by kernel_rfl) (of_decide_eq_true (by kernel_rfl)) k1 bel lt1) (trodAll_cons_mk (Below.trod laidOut (by kernel_rfl) (of_decide_eq_true (by kernel_rfl)) k2 bel lt2) trodAll_mk0))), rfl, bel.frame _, fun h => by cases h⟩

theorem over : Rows.joinAllRow.holds Try.pinned (OpenSpec.ofChange Rows.joinAllSpec) :=
  OpenClaim.holds_of_wide 6 Try.f6 rfl rfl rfl rfl rfl rfl rfl ⟨rfl, rfl, rfl, rfl, rfl⟩ rfl rfl rfl rfl rfl (by kernel_rfl) Try.func6 (by kernel_rfl)
    (of_decide_eq_true (by kernel_rfl)) (by unfold Func.isWrapper; first | (rw [if_pos (by decide +kernel)]; kernel_rfl) | (rw [if_neg (by decide +kernel)]; exact ⟨rfl, rfl⟩))
    (fun os started H enc _ => lifted os started H enc)

theorem proved : Rows.JoinAllSaid := over
#print axioms proved
end Go.Proofs.Ytkjjgbcbgjgjeaa.joinAll
