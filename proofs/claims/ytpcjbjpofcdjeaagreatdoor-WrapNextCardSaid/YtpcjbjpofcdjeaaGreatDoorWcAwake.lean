/- awake of stage 17. Written by gen_wc6.py. -/
import Derived.Test.YtpcjbjpofcdjeaaGreatDoorWcMake
import Derived.Test.YtpcjbjpofcdjeaaGreatDoorWcOpen
import Derived.Test.YtpcjbjpofcdjeaaGreatDoorWcLogP
set_option linter.unusedVariables false
set_option maxHeartbeats 8000000
set_option maxRecDepth 100000
namespace Go.Proofs.YtpcjbjpofcdjeaaGreatDoor.Wc
open Go Go.RowKit Mm Td Vw Dt
open Mb Ro Hh We
attribute [local go_sem] Td.upon_value Td.upon_skip Td.upon_enter Td.upon_row Td.look_tmp Td.look_const Td.look_func Td.look_global
theorem lnum_any (k : Int) (w : World) : Calls Tryz.prog 19 #[.int .i64 k] w fun e w' => e = .returned (.int .i64 k) ∧ w = w' := by
 go_enter Tryz.func19, Tryz.ntmps19
 go_wp2_with fail
 go_ret
 exact ⟨rfl, rfl⟩
theorem may_small2 {r : Rc} (h : MayR r) : r.wraps.length ≤ 8 ∧ ∀ x ∈ r.wraps, x.box.size ≤ 200 := ⟨rise_len h.2.2 h.2.1, fun x hx => (h.2.1 x hx).2.2⟩
theorem first_opens (s m : ByteArray) : unwrapR (Ky.ownB m 0) (firstK s m) 0 = some (Ky.epochB s 1) := by
 have h := next_opens (l := []) s m first_deed 0
 have e : inB ([] ++ [nextR s m [] 1 0]) (((([] : List Rc).length : Nat) : Int) + 1) 0 = true := by
  rw [next_in]
  simp [inB, inL, goesIn, hung, bare]
 rw [if_pos e] at h
 exact h
theorem deed_awake : deedE [] 2 1 = 1 := deed_arg (.inr (.inr (.inr (.inl ⟨rfl, by decide⟩))))
theorem awake17_any (w : World) (hR : AllR w) : Calls Tryz.prog 11 #[] w fun e w' => e = .returned (.bool true) ∧ w.grownBy w' none := by
 have HA : Hid (Calls Tryz.prog 12 #[.string ⟨#[115]⟩, .string ⟨#[109]⟩, .slice none 0 0, .int .i64 2, .int .i64 1] w (MadeIs zeroR 1 w)) := by
  have h := pMake_any ⟨#[115]⟩ ⟨#[109]⟩ none 0 0 [] 2 1 w (LogL.none _ _) (by decide) (by decide) (fun r hr => by cases hr) (by decide) (by decide) hR
  have e : madeR ⟨#[115]⟩ ⟨#[109]⟩ [] 2 1 = zeroR := if_neg (by rw [deed_awake]; decide)
  rw [deed_awake, e] at h
  exact h
 obtain ⟨R1, hR1⟩ := nmd (firstK ⟨#[115]⟩ ⟨#[109]⟩)
 have hmay : MayR R1 := by rw [← hR1]; exact next_may (l := []) _ _ first_deed
 have HB : Hid (∀ W, w.grownBy W none → Calls Tryz.prog 12 #[.string ⟨#[115]⟩, .string ⟨#[109]⟩, .slice none 0 0, .int .i64 1, .int .i64 0] W (MadeIs R1 0 W)) := fun W hW => by
  have h := pMake_any ⟨#[115]⟩ ⟨#[109]⟩ none 0 0 [] 1 0 W (LogL.none _ _) (by decide) (by decide) (fun r hr => by cases hr) (by decide) (by decide) (hR.keep hW)
  have e : madeR ⟨#[115]⟩ ⟨#[109]⟩ [] 1 0 = R1 := by rw [← hR1]; exact if_pos first_deed
  rw [first_deed, e] at h
  exact h
 obtain ⟨E9, hE9⟩ := nmd (Ky.epochB ⟨#[115]⟩ 1)
 obtain ⟨O9, hO9⟩ := nmd (Ky.ownB ⟨#[109]⟩ 0)
 have hos : O9.size = 32 := by rw [← hO9]; exact Ky.own_size _ _
 have HOwA : Hid (∀ W, Calls Tryz.prog 26 #[.string ⟨#[109]⟩, .int .i64 0] W fun e w' => e = .returned (.string O9) ∧ W.grownBy w' none) := fun W => by rw [← hO9]; exact Ky.refOwn_any _ 0 W (by decide) (by decide) (by decide)
 have HOpA : Hid (∀ A c W, WL W A R1.wraps.length R1.wraps → w.grownBy W none → Calls Tryz.prog 14 #[.string O9, .agg #[.int .i64 R1.seq, .string R1.prev, .int .i64 R1.kind, .int .i64 R1.dev, .slice A R1.wraps.length c, .string R1.tag], .int .i64 0] W fun e w' => e = .returned (.tuple #[.string E9, .bool true]) ∧ W.grownBy w' none) := fun A c W hw hW => by
  have h := pOpen_any O9 R1 A c 0 W hw (by have := (may_small2 hmay).1; omega) (fun x hx => by have := (may_small2 hmay).2 x hx; omega) (by omega) (hR.keep hW)
  have e : unwrapR O9 R1 0 = some E9 := by rw [← hO9, ← hR1, ← hE9]; exact first_opens _ _
  rw [e] at h
  exact h
 have HEpA : Hid (∀ W, Calls Tryz.prog 30 #[.string ⟨#[115]⟩, .int .i64 1] W fun e w' => e = .returned (.string E9) ∧ W.grownBy w' none) := fun W => by rw [← hE9]; exact Ky.refEpoch_any _ 1 W (by decide) (by decide) (by decide)
 have e9 : (E9.toList == E9.toList) = true := beq_self_eq_true _
 clear hR hR1 hmay hE9 hO9 hos
 go_enter Tryz.func11, Tryz.ntmps11
 go_wp2_with fail
 refine HA.out.mono ?_
 rintro e w1 ⟨A1, c1, rfl, hw1, hc1, g1⟩
 have HG1 : Hid (w.grownBy (w1.alloc (.cells #[.int .i64 zeroR.seq, .string zeroR.prev, .int .i64 zeroR.kind, .int .i64 zeroR.dev, .slice A1 zeroR.wraps.length c1, .string zeroR.tag] 25)) none) := gb_alloc g1 _
 clear hw1 hc1 g1 HA
 go_wp2_with fail
 refine (HB.out _ HG1.out).mono ?_
 rintro e w2 ⟨A2, c2, rfl, hw2, hc2, g2⟩
 obtain ⟨b3, hb3⟩ := nmd (w2.heap.size)
 obtain ⟨W3, hW3⟩ := nmd (w2.alloc (.cells #[.int .i64 R1.seq, .string R1.prev, .int .i64 R1.kind, .int .i64 R1.dev, .slice A2 R1.wraps.length c2, .string R1.tag] 25))
 have hG3 : w.grownBy W3 none := by rw [← hW3]; exact gb_alloc (gb_none HG1.out g2) _
 obtain ⟨_, HX⟩ := rec_box hb3 hW3 hw2
 have HG3 := Lib.hid hG3
 have HY : Hid (∀ W, W3.grownBy W none → RecC0 W b3 R1 A2 c2) := fun W hW => (HX.out W hW).1
 have HOw := Lib.hid fun W (_ : W3.grownBy W none) => HOwA.out W
 have HOp := Lib.hid fun W (hW : W3.grownBy W none) => HOpA.out A2 c2 W (HX.out W hW).2 (gb_none HG3.out hW)
 have HW3 := Lib.hid hW3
 clear hw2 hc2 g2 hW3 hG3 HX HG1 HOwA HOpA HB
 go_upto_region 3 with fail
 rw [HW3.out]
 clear hb3 HW3
 apply wp_region_told (le := fun a b => a.grownBy b none) [isV _, isV _, isV _, isV _, isV _, isV _, isV _, isV _]
 case hn => rfl
 case hm => kernel_rfl
 case hB => kernel_rfl
 case ht => exact fun _ _ _ h k => gb_none h k
 case hw => exact gb_drew (gb_refl _ _)
 apply told_is
 ·intro W f hW hE h0 K hK; clear hE h0; refine yes_f ?_; go_simp; refine (HOw.out W hW).mono ?_; rintro e w1' ⟨rfl, g'⟩; exact ⟨_, rfl, hK _ _ g' rfl⟩
 apply told_is
 ·intro W f hW hE h0 K hK; have e3 := h0.of 3; clear hE h0; refine yes_f ?_; obtain ⟨y0, y1, y2, y3, y4, y5⟩ := HY.out W hW; go_simp; exact kK hK
 apply told_is
 ·intro W f hW hE h0 K hK; have e16 := hE.of 1 16; have e17 := hE.of 0 17; clear hE h0; refine yes_f ?_; go_simp; refine (HOp.out W hW).mono ?_; rintro e w1' ⟨rfl, g'⟩; exact ⟨_, rfl, hK _ _ g' rfl⟩
 apply told_is
 ·intro W f hW hE h0 K hK; have e18 := hE.of 0 18; clear hE h0; refine yes_f ?_; go_simp; exact kK hK
 apply told_is
 ·intro W f hW hE h0 K hK; have e15 := hE.of 0 15; clear hE h0; refine yes_f ?_; go_simp; exact kK hK
 apply told_is
 ·intro W f hW hE h0 K hK; have e15 := hE.of 1 15; clear hE h0; refine yes_f ?_; go_simp; exact kK hK
 apply told_is
 ·intro W f hW hE h0 K hK; have e19 := hE.of 1 19; clear hE h0; refine yes_f ?_; go_simp; exact kK hK
 apply told_is
 ·intro W f hW hE h0 K hK; have e20 := hE.of 1 20; clear hE h0; refine yes_f ?_; go_simp; exact kK hK
 intro W f hW hA
 simp only [lexIn, Act.put, List.setIfInBounds_toArray, List.set_cons_zero, List.set_cons_succ]
 have e5 : f 5 = _ := hA 1 (some 5) _ rfl
 rw [e5]
 have e6 : f 6 = _ := hA 0 (some 6) _ rfl
 rw [e6]
 clear hA
 have HG4 := Lib.hid (gb_none HG3.out hW)
 clear hW HY HOw HOp
 go_wp2_with fail
 refine (lnum_any _ _).mono ?_
 rintro e _ ⟨rfl, rfl⟩
 go_wp2_with fail
 refine (lnum_any _ _).mono ?_
 rintro e _ ⟨rfl, rfl⟩
 go_wp2_with fail
 refine (HEpA.out _).mono ?_
 rintro e w5 ⟨rfl, g5⟩
 have HG5 := Lib.hid (gb_none HG4.out g5)
 clear g5
 go_wp2_with fail
 go_ret
 exact ⟨rfl, HG5.out⟩
end Go.Proofs.YtpcjbjpofcdjeaaGreatDoor.Wc
