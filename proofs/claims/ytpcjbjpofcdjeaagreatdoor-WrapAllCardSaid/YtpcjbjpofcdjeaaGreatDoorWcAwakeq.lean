/- awake of stage 17. Written by gen_wc6.py. -/
import Derived.Test.YtpcjbjpofcdjeaaGreatDoorWcPq
import Derived.Test.YtpcjbjpofcdjeaaGreatDoorTwq
import Derived.Test.YtpcjbjpofcdjeaaGreatDoorWcMakeq
import Derived.Test.YtpcjbjpofcdjeaaGreatDoorWcOpenq
set_option linter.unusedVariables false
set_option maxHeartbeats 8000000
set_option maxRecDepth 100000
namespace Go.Proofs.YtpcjbjpofcdjeaaGreatDoor.Wc
open Go Vw Mb Ro
noncomputable def firstK (s m : ByteArray) : Rc := nextR s m [] 1 0
theorem first_deed : deedE [] 1 0 = 0 := by
 refine deed_ok (fun h => ?_) (fun h => ?_) (fun h => absurd h.1 (by decide)) (by decide)
 ·rcases h with h | h | h | h | h
  ·exact h (.inl rfl)
  ·exact h (by decide)
  ·exact h ⟨by decide, good_nil⟩
  ·exact h.2 ⟨rfl, rfl⟩
  ·exact absurd h.1 (by decide)
 ·have := h.2; rw [in_nil] at this; cases this
end Go.Proofs.YtpcjbjpofcdjeaaGreatDoor.Wc
namespace Go.Proofs.YtpcjbjpofcdjeaaGreatDoor.Wc
open Go Go.RowKit Mm Td Vw Dt
open Mb Ro Hh We
attribute [local go_sem] Td.upon_value Td.upon_skip Td.upon_enter Td.upon_row Td.look_tmp Td.look_const Td.look_func Td.look_global
theorem lnum_any (k : Int) (w : World) : Calls Tryz.prog 19 #[.int .i64 k] w fun e w' => e = .returned (.int .i64 k) ∧ w = w' := by
 go_enter Tryz.func19, Tryz.ntmps19
 go_wp2_with fail
 go_ret
 exact ⟨rfl, rfl⟩
theorem may_small2 {r : Rc} (h : MayR r) : r.wraps.length ≤ 8 ∧ ∀ x ∈ r.wraps, x.box.size ≤ 200 := ⟨rise_len h.2.2 h.2.1, fun x hx => (h.2.1 x hx).2.2⟩
theorem first_opens (s m : ByteArray) : unwrapR (Ky.ownB m 0) (firstK s m) 0 = some (Ky.epochB s 1) := by
 have h := next_opens (l := []) s m first_deed 0
 have e : inB ([] ++ [nextR s m [] 1 0]) (((([] : List Rc).length : Nat) : Int) + 1) 0 = true := by
  rw [next_in]
  simp [inB, inL, goesIn, hung, bare]
 rw [if_pos e] at h
 exact h
theorem deed_awake : deedE [] 2 1 = 1 := deed_arg (.inr (.inr (.inr (.inl ⟨rfl, by decide⟩))))
theorem awake17_any (w : World) (hR : AllR w) : Calls Tryz.prog 11 #[] w fun e w' => e = .returned (.bool true) ∧ Gn w w' := by
 have HA : Hid (Calls Tryz.prog 12 #[.string ⟨#[115]⟩, .string ⟨#[109]⟩, .slice none 0 0, .int .i64 2, .int .i64 1] w (MadeIs zeroR 1 w)) := by
  have h := pMake_any ⟨#[115]⟩ ⟨#[109]⟩ none 0 0 [] 2 1 w (LogL.none _ _) (by decide) (by decide) (fun r hr => by cases hr) (by decide) (by decide) hR
  have e : madeR ⟨#[115]⟩ ⟨#[109]⟩ [] 2 1 = zeroR := if_neg (by rw [deed_awake]; decide)
  rw [deed_awake, e] at h
  exact h
 obtain ⟨R1, hR1⟩ := nmd (firstK ⟨#[115]⟩ ⟨#[109]⟩)
 have hmay : MayR R1 := by rw [← hR1]; exact next_may (l := []) _ _ first_deed
 have HB : Hid (∀ W, Gn w W → Calls Tryz.prog 12 #[.string ⟨#[115]⟩, .string ⟨#[109]⟩, .slice none 0 0, .int .i64 1, .int .i64 0] W (MadeIs R1 0 W)) := fun W hW => by
  have h := pMake_any ⟨#[115]⟩ ⟨#[109]⟩ none 0 0 [] 1 0 W (LogL.none _ _) (by decide) (by decide) (fun r hr => by cases hr) (by decide) (by decide) (hR.keep hW)
  have e : madeR ⟨#[115]⟩ ⟨#[109]⟩ [] 1 0 = R1 := by rw [← hR1]; exact if_pos first_deed
  rw [first_deed, e] at h
  exact h
 obtain ⟨E9, hE9⟩ := nmd (Ky.epochB ⟨#[115]⟩ 1)
 obtain ⟨O9, hO9⟩ := nmd (Ky.ownB ⟨#[109]⟩ 0)
 have hos : O9.size = 32 := by rw [← hO9]; exact Ky.own_size _ _
 have HOwA : Hid (∀ W, Calls Tryz.prog 26 #[.string ⟨#[109]⟩, .int .i64 0] W fun e w' => e = .returned (.string O9) ∧ Gn W w') := fun W => by rw [← hO9]; exact Ky.refOwn_any _ 0 W (by decide) (by decide) (by decide)
 have HOpA : Hid (∀ A c W, WL W A R1.wraps.length R1.wraps → Gn w W → Calls Tryz.prog 14 #[.string O9, .agg (recCs R1 A c), .int .i64 0] W fun e w' => e = .returned (.tuple #[.string E9, .bool true]) ∧ Gn W w') := fun A c W hw hW => by
  have h := pOpen_any O9 R1 A c 0 W hw (by have := (may_small2 hmay).1; omega) (fun x hx => by have := (may_small2 hmay).2 x hx; omega) (by omega) (hR.keep hW)
  have e : unwrapR O9 R1 0 = some E9 := by rw [← hO9, ← hR1, ← hE9]; exact first_opens _ _
  rw [e] at h
  exact h
 have HEpA : Hid (∀ W, Calls Tryz.prog 30 #[.string ⟨#[115]⟩, .int .i64 1] W fun e w' => e = .returned (.string E9) ∧ Gn W w') := fun W => by rw [← hE9]; exact Ky.refEpoch_any _ 1 W (by decide) (by decide) (by decide)
 have e9 : (E9.toList == E9.toList) = true := beq_self_eq_true _
 clear hR hR1 hmay hE9 hO9 hos
 go_enter Tryz.func11, Tryz.ntmps11
 go_wp2_with fail
 refine HA.out.mono ?_
 rintro e w1 ⟨A1, c1, rfl, hw1, hc1, g1⟩
 have HG1 : Hid (w.grownBy (w1.alloc (.cells (recCs zeroR A1 c1) 25)) none) := gb_alloc g1 _
 clear hw1 hc1 g1 HA
 go_wp2_with fail
 refine (HB.out _ HG1.out).mono ?_
 rintro e w2 ⟨A2, c2, rfl, hw2, hc2, g2⟩
 obtain ⟨b3, hb3⟩ := nmd (w2.heap.size)
 obtain ⟨W3, hW3⟩ := nmd (w2.alloc (.cells (recCs R1 A2 c2) 25))
 have hG3 : Gn w W3 := by rw [← hW3]; exact gb_alloc (gb_none HG1.out g2) _
 obtain ⟨_, HX⟩ := rec_box hb3 hW3 hw2
 have HG3 := qj hG3
 have HY : Hid (∀ W, Gn W3 W → RecC0 W b3 R1 A2 c2) := fun W hW => (HX.out W hW).1
 have HOw := qj fun W (_ : Gn W3 W) => HOwA.out W
 have HOp := qj fun W (hW : Gn W3 W) => HOpA.out A2 c2 W (HX.out W hW).2 (gb_none HG3.out hW)
 have HW3 := qj hW3
 clear hw2 hc2 g2 hW3 hG3 HX HG1 HOwA HOpA HB
 go_upto_region 3 with fail
 rw [HW3.out]
 clear hb3 HW3
 refine tw_go ?_
 apply tw_is
 ·intro W f hW hE h0 K hK; clear hE h0; refine yes_f ?_; go_simp; exact ck (HOw.out W hW) hK
 apply tw_xh 3
 ·intro W f hW e3 K hK; obtain ⟨y0, y1, y2, y3, y4, y5⟩ := HY.out W hW; go_simp; exact kK hK
 apply tw_xee 1 16 0 17
 ·intro W f hW ⟨e16, e17⟩ K hK; go_simp; exact ck (HOp.out W hW) hK
 refine tw_e 0 18 ?_
 refine tw_e 0 15 ?_
 refine tw_e 1 15 ?_
 refine tw_e 1 19 ?_
 refine tw_e 1 20 ?_
 refine tw_nil fun W f hW hA => ?_
 have e5 : f 5 = _ := hA 1 (some 5) _ rfl
 rw [e5]
 have e6 : f 6 = _ := hA 0 (some 6) _ rfl
 rw [e6]
 clear hA
 have HG4 := qj (gb_none HG3.out hW)
 clear hW HY HOw HOp
 go_wp2_with fail
 refine (lnum_any _ _).mono ?_
 rintro e _ ⟨rfl, rfl⟩
 go_wp2_with fail
 refine (lnum_any _ _).mono ?_
 rintro e _ ⟨rfl, rfl⟩
 go_wp2_with fail
 refine (HEpA.out _).mono ?_
 rintro e w5 ⟨rfl, g5⟩
 have HG5 := qj (gb_none HG4.out g5)
 clear g5
 go_wp2_with fail
 go_ret
 exact ⟨rfl, HG5.out⟩
end Go.Proofs.YtpcjbjpofcdjeaaGreatDoor.Wc
