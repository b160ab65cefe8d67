/-
  Proved: whatever values of its parameters' types it is called with, deaddroplaw7.DotsEdges returns true, and each argument reads behind the call as it read before.
  Conditions: none but those of the row itself.
  (The frame round the walk was written by the kit's proof-skeleton.mjs.)
-/
import Derived.Test.YtkibojoochlggaaRows
import Derived.WalkKit
import Derived.ProofKit
import Derived.OpenShut
import Derived.ShutString
import Derived.Test.YtkibojoochlggaaDtEdge
import Derived.Below
namespace Go.Proofs.Ytkibojoochlggaa.dotsEdges
open Go.ChangeShapes Go.WideShapes Go.ChangeAt Go.RowKit
open Go.ChangeMaps (open_string shut_string)
open Go.Proofs.Ytkibojoochlggaa.Mm Go.Proofs.Ytkibojoochlggaa.Dt
set_option linter.unusedVariables false      -- a walk need not use every 'w<i>' (that an integer argument fits its kind)

theorem own : ownKnob Try.prog.godebug = none := by kernel_rfl

set_option maxHeartbeats 40000000 in
set_option maxRecDepth 100000 in
theorem walk (a0 : Int) (a1 : Int) (a2 : Int) (w0 : (Lit.int .u8 a0).wf = true) (w1 : (Lit.int .u8 a1).wf = true) (w2 : (Lit.int .u8 a2).wf = true) (w : World) :
    Calls Try.prog 6 #[.int .u8 a0, .int .u8 a1, .int .u8 a2] w fun e w' => e = .returned (.bool true) ∧ Below w.heap.size w w' := by
  obtain ⟨q00, q01⟩ : 0 ≤ a0 ∧ a0 ≤ 255 := by
    have h1 : IntKind.u8.min = 0 := by decide
    have h2 : IntKind.u8.max = 255 := by decide
    simp only [Lit.wf, h1, h2, Bool.and_eq_true, decide_eq_true_eq] at w0
    exact w0
  obtain ⟨q10, q11⟩ : 0 ≤ a1 ∧ a1 ≤ 255 := by
    have h1 : IntKind.u8.min = 0 := by decide
    have h2 : IntKind.u8.max = 255 := by decide
    simp only [Lit.wf, h1, h2, Bool.and_eq_true, decide_eq_true_eq] at w1
    exact w1
  obtain ⟨q20, q21⟩ : 0 ≤ a2 ∧ a2 ≤ 255 := by
    have h1 : IntKind.u8.min = 0 := by decide
    have h2 : IntKind.u8.max = 255 := by decide
    simp only [Lit.wf, h1, h2, Bool.and_eq_true, decide_eq_true_eq] at w2
    exact w2
  clear w0 w1 w2
  obtain ⟨D, e1⟩ : ∃ D, (wrap64 a2).tmod 8 = D := ⟨_, rfl⟩
  obtain ⟨S, e2⟩ : ∃ S, wrap64 (1 + wrap64 a0) = S := ⟨_, rfl⟩
  obtain ⟨B, e3⟩ : ∃ B, wrap64 (wrap64 (S + 2) + (wrap64 a1).tmod 3) = B := ⟨_, rfl⟩
  obtain ⟨C, e4⟩ : ∃ C, wrap64 (S + 1) = C := ⟨_, rfl⟩
  obtain ⟨X, e5⟩ : ∃ X, (wrap64 (D + 1)).tmod 8 = X := ⟨_, rfl⟩
  obtain ⟨g, e6⟩ : ∃ g, a1.tmod 3 = g := ⟨_, rfl⟩
  have v0 : wrap64 a0 = a0 := by unfold wrap64; omega
  have v1 : wrap64 a1 = a1 := by unfold wrap64; omega
  have v2 : wrap64 a2 = a2 := by unfold wrap64; omega
  have hD : 0 ≤ D ∧ D < 8 := by rw [← e1, v2, Int.tmod_eq_emod_of_nonneg q20]; omega
  have hA : S = 1 + a0 := by rw [← e2, v0]; unfold wrap64; omega
  have hg : g = a1 % 3 := by rw [← e6, Int.tmod_eq_emod_of_nonneg q10]
  have hB : B = S + 2 + g := by
    rw [← e3, v1, e6]
    have : wrap64 (S + 2) = S + 2 := by unfold wrap64; omega
    rw [this]; unfold wrap64; omega
  have hC : C = S + 1 := by rw [← e4]; unfold wrap64; omega
  have hX : X ≠ D := by
    rw [← e5]
    have : wrap64 (D + 1) = D + 1 := by unfold wrap64; omega
    rw [this, Int.tmod_eq_emod_of_nonneg (by omega)]; omega
  have hA1 : 1 ≤ S ∧ S ≤ 256 := by omega
  have hg3 : 0 ≤ g ∧ g < 3 := by omega
  have HD := Lib.hid hD
  have HA := Lib.hid hA1
  have HB := Lib.hid hB
  have HC := Lib.hid hC
  have HX := Lib.hid hX
  have HG := Lib.hid hg3
  clear v0 v1 v2 hA hg hX q00 q01 q10 q11 q20 q21
  obtain ⟨l, Hl⟩ : ∃ l, Hid (ofR [] [(D, S), (D, B)] = l) := ⟨_, rfl⟩
  have El : Hid (l = [⟨D, S, S⟩, ⟨D, B, B⟩]) := by show l = _; rw [← Hl.out]; exact edge_l hD.1 hD.2 (by omega) (by omega) (by omega)
  obtain ⟨o, Ho⟩ : ∃ o, Hid (ofR [] [(D, C)] = o) := ⟨_, rfl⟩
  have Eo : Hid (o = [⟨D, S + 1, S + 1⟩]) := by
    show o = _
    rw [← Ho.out, hC]
    exact edge_one ⟨hD.1, hD.2, by show 1 ≤ S + 1; omega, Int.le_refl _, by show S + 1 ≤ _; omega⟩
  obtain ⟨f, Hf⟩ : ∃ f, Hid (ofR [] [(D, 4503599627370496), (D, 4503599627370497), (D, 0), (8, 1), (-1, 1)] = f) := ⟨_, rfl⟩
  have Ef : Hid (f = [⟨D, 4503599627370496, 4503599627370496⟩]) := by show f = _; rw [← Hf.out]; exact edge_far hD.1 hD.2
  have Ml : Hid (May l) := by show May l; rw [← Hl.out]; exact of_may _
  have Mo : Hid (May o) := by show May o; rw [← Ho.out]; exact of_may _
  have Mf : Hid (May f) := by show May f; rw [← Hf.out]; exact of_may _
  have HLl : Hid (l.length = 2) := by show _ = _; rw [El.out]; rfl
  have HLo : Hid (o.length = 1) := by show _ = _; rw [Eo.out]; rfl
  have HLf : Hid (f.length = 1) := by show _ = _; rw [Ef.out]; rfl
  obtain ⟨m, Hm⟩ : ∃ m, Hid (unionR l o = m) := ⟨_, rfl⟩
  have Mm : Hid (May m) := by show May m; rw [← Hm.out]; exact union_may Ml.out Mo.out
  have F1 : Hid (lastR D f 0 = 4503599627370496) := by show _ = _; rw [Ef.out]; exact last_one (by decide)
  have F2 : Hid (lastR X f 0 = 0) := by show _ = _; rw [Ef.out]; exact last_no HX.out.symm
  by_cases h : g = 0
  · have Em : Hid (m = [⟨D, S, S + 2⟩]) := by
      show m = _
      have hB2 : B = S + 2 := by have := HB.out; omega
      rw [← Hm.out, El.out, Eo.out, hB2]
      exact edge_m0 HD.out.1 HD.out.2 HA.out.1 (by have := HA.out.2; omega)
    have HLm : Hid (m.length = 1) := by show _ = _; rw [Em.out]; rfl
    have F3 : Hid (lastR D m 0 = B) := by
      show _ = _
      rw [Em.out, last_one (by have := HA.out.1; omega)]
      have := HB.out; omega
    subst h
    clear hD hB hC hg3 hA1 HX HG
    have G := gb_refl w none
    go_enter Try.func6, Try.ntmps6
    go_upto_region 4 with (go_at_call 13; (with_reducible refine (pOf_any _ 2 2 [(D, S), (D, B)] _ (by exact dl_two _ _ _ _ _ _) (by decide)).mono ?_); rintro e y hR; rw [Hl.out] at hR; obtain ⟨A_l, c_l, rfl, r_l, h_l, gz⟩ := hR.n HLl.out; have gy := gb_none (gb_alloc (gb_refl _ none) _) gz; clear gz; replace G := gb_none G gy; clear gy)
    go_upto_region 5 with (first
      | (go_at_call 13; (with_reducible refine (pOf_any _ 1 1 [(D, C)] _ (by exact dl_one _ _ _ _) (by decide)).mono ?_); rintro e y hR; rw [Ho.out] at hR; obtain ⟨A_o, c_o, rfl, r_o, h_o, gz⟩ := hR.n HLo.out; have gy := gb_none (gb_alloc (gb_refl _ none) _) gz; clear gz; replace r_l := r_l.keep gy; replace G := gb_none G gy; clear gy)
      | (go_at_call 17; (with_reducible refine (pUnion_any A_l A_o 2 c_l 1 c_o l o _ r_l r_o Ml.out Mo.out (by omega) (by omega) h_o).mono ?_); rintro e y hR; rw [Hm.out] at hR; obtain ⟨A_m, c_m, rfl, r_m, h_m, gy⟩ := hR.n HLm.out; replace r_l := r_l.keep gy; replace r_o := r_o.keep gy; replace G := gb_none G gy; clear gy)
      )
    go_upto_region 9 with (go_at_call 13; (with_reducible refine (pOf_any _ 5 5 [(D, 4503599627370496), (D, 4503599627370497), (D, 0), (8, 1), (-1, 1)] _ (by exact dl_five _ _ _ _ _ _ _ _ _ _ _ _) (by decide)).mono ?_); rintro e y hR; rw [Hf.out] at hR; obtain ⟨A_f, c_f, rfl, r_f, h_f, gz⟩ := hR.n HLf.out; have gy := gb_none (gb_alloc (gb_refl _ none) _) gz; clear gz; replace r_l := r_l.keep gy; replace r_o := r_o.keep gy; replace r_m := r_m.keep gy; replace G := gb_none G gy; clear gy)
    obtain ⟨gm, om, rfl, hgm, _⟩ := r_m.2 (by decide)
    obtain ⟨xm, Exm, hxm⟩ : ∃ xm : Rn, m[0]? = some xm ∧ xm.f = S := by rw [Em.out]; exact ⟨_, rfl, rfl⟩
    obtain ⟨p0, p1, p2⟩ := rl_at3 r_m Exm
    rw [hxm] at p1
    have Pm := Lib.hid p1
    simp only [Nat.zero_mul, Nat.add_zero] at p0 p1 p2
    clear Exm hxm p0 p2
    go_wp2_with (first
      | (go_at_call 21; (with_reducible refine (pLast_any (some ⟨gm, om, none⟩) 1 c_m m D _ r_m Mm.out (by omega)).mono ?_); rintro e y ⟨he, gy⟩; rw [F3.out] at he; subst he; replace r_l := r_l.keep gy; replace r_o := r_o.keep gy; replace r_m := r_m.keep gy; replace r_f := r_f.keep gy; replace G := gb_none G gy; clear gy)
      | (go_at_call 21; (with_reducible refine (pLast_any A_f 1 c_f f D _ r_f Mf.out (by omega)).mono ?_); rintro e y ⟨he, gy⟩; rw [F1.out] at he; subst he; replace r_l := r_l.keep gy; replace r_o := r_o.keep gy; replace r_m := r_m.keep gy; replace r_f := r_f.keep gy; replace G := gb_none G gy; clear gy)
      | (go_at_call 21; (with_reducible refine (pLast_any A_f 1 c_f f X _ r_f Mf.out (by omega)).mono ?_); rintro e y ⟨he, gy⟩; rw [F2.out] at he; subst he; replace r_l := r_l.keep gy; replace r_o := r_o.keep gy; replace r_m := r_m.keep gy; replace r_f := r_f.keep gy; replace G := gb_none G gy; clear gy)
      | (go_at_call 9; (with_reducible refine (awake_any _).mono ?_); rintro e y ⟨rfl, gy⟩; replace G := gb_none G gy)
      )
    go_ret
    exact ⟨rfl, gb_below G (Nat.le_refl _)⟩
  · have Em : Hid (m = [⟨D, S, S + 1⟩, ⟨D, B, B⟩]) := by
      show m = _
      rw [← Hm.out, El.out, Eo.out]
      exact edge_m1 HD.out.1 HD.out.2 HA.out.1 (by have := HB.out; have := HG.out.1; omega) (by have := HB.out; have := HG.out.2; have := HA.out.2; omega)
    have HLm : Hid (m.length = 2) := by show _ = _; rw [Em.out]; rfl
    have F3 : Hid (lastR D m 0 = B) := by
      show _ = _
      rw [Em.out]
      exact last_two (by have := HB.out; have := HG.out.1; omega) (by have := HA.out.1; omega)
    have hgn : (g == 0) = false := by rw [beq_eq_false_iff_ne]; exact h
    clear h hD hB hC hg3 hA1 HX HG
    have G := gb_refl w none
    go_enter Try.func6, Try.ntmps6
    go_upto_region 4 with (go_at_call 13; (with_reducible refine (pOf_any _ 2 2 [(D, S), (D, B)] _ (by exact dl_two _ _ _ _ _ _) (by decide)).mono ?_); rintro e y hR; rw [Hl.out] at hR; obtain ⟨A_l, c_l, rfl, r_l, h_l, gz⟩ := hR.n HLl.out; have gy := gb_none (gb_alloc (gb_refl _ none) _) gz; clear gz; replace G := gb_none G gy; clear gy)
    go_upto_region 5 with (first
      | (go_at_call 13; (with_reducible refine (pOf_any _ 1 1 [(D, C)] _ (by exact dl_one _ _ _ _) (by decide)).mono ?_); rintro e y hR; rw [Ho.out] at hR; obtain ⟨A_o, c_o, rfl, r_o, h_o, gz⟩ := hR.n HLo.out; have gy := gb_none (gb_alloc (gb_refl _ none) _) gz; clear gz; replace r_l := r_l.keep gy; replace G := gb_none G gy; clear gy)
      | (go_at_call 17; (with_reducible refine (pUnion_any A_l A_o 2 c_l 1 c_o l o _ r_l r_o Ml.out Mo.out (by omega) (by omega) h_o).mono ?_); rintro e y hR; rw [Hm.out] at hR; obtain ⟨A_m, c_m, rfl, r_m, h_m, gy⟩ := hR.n HLm.out; replace r_l := r_l.keep gy; replace r_o := r_o.keep gy; replace G := gb_none G gy; clear gy)
      )
    go_upto_region 9 with (go_at_call 13; (with_reducible refine (pOf_any _ 5 5 [(D, 4503599627370496), (D, 4503599627370497), (D, 0), (8, 1), (-1, 1)] _ (by exact dl_five _ _ _ _ _ _ _ _ _ _ _ _) (by decide)).mono ?_); rintro e y hR; rw [Hf.out] at hR; obtain ⟨A_f, c_f, rfl, r_f, h_f, gz⟩ := hR.n HLf.out; have gy := gb_none (gb_alloc (gb_refl _ none) _) gz; clear gz; replace r_l := r_l.keep gy; replace r_o := r_o.keep gy; replace r_m := r_m.keep gy; replace G := gb_none G gy; clear gy)
    obtain ⟨gm, om, rfl, hgm, _⟩ := r_m.2 (by decide)
    obtain ⟨xm, Exm, hxm⟩ : ∃ xm : Rn, m[0]? = some xm ∧ xm.f = S := by rw [Em.out]; exact ⟨_, rfl, rfl⟩
    obtain ⟨p0, p1, p2⟩ := rl_at3 r_m Exm
    rw [hxm] at p1
    have Pm := Lib.hid p1
    simp only [Nat.zero_mul, Nat.add_zero] at p0 p1 p2
    clear Exm hxm p0 p2
    go_wp2_with (first
      | (go_at_call 21; (with_reducible refine (pLast_any (some ⟨gm, om, none⟩) 2 c_m m D _ r_m Mm.out (by omega)).mono ?_); rintro e y ⟨he, gy⟩; rw [F3.out] at he; subst he; replace r_l := r_l.keep gy; replace r_o := r_o.keep gy; replace r_m := r_m.keep gy; replace r_f := r_f.keep gy; replace G := gb_none G gy; clear gy)
      | (go_at_call 21; (with_reducible refine (pLast_any A_f 1 c_f f D _ r_f Mf.out (by omega)).mono ?_); rintro e y ⟨he, gy⟩; rw [F1.out] at he; subst he; replace r_l := r_l.keep gy; replace r_o := r_o.keep gy; replace r_m := r_m.keep gy; replace r_f := r_f.keep gy; replace G := gb_none G gy; clear gy)
      | (go_at_call 21; (with_reducible refine (pLast_any A_f 1 c_f f X _ r_f Mf.out (by omega)).mono ?_); rintro e y ⟨he, gy⟩; rw [F2.out] at he; subst he; replace r_l := r_l.keep gy; replace r_o := r_o.keep gy; replace r_m := r_m.keep gy; replace r_f := r_f.keep gy; replace G := gb_none G gy; clear gy)
      | (go_at_call 9; (with_reducible refine (awake_any _).mono ?_); rintro e y ⟨rfl, gy⟩; replace G := gb_none G gy)
      )
    go_ret
    exact ⟨rfl, gb_below G (Nat.le_refl _)⟩

set_option maxRecDepth 100000 in
theorem lifted (os : Os) (started : os.Started) (H : Type) (enc : TypeId × Value → H) :
    ReturnsInHanded {} Try.checked os 6 .any (Rows.dotsEdgesSpec.pre6 enc Try.prog Try.f6 Rows.dotsEdgesRow.domain false) (Rows.dotsEdgesSpec.post enc Try.prog Try.f6 false true false false) := by
  refine returnsInHanded_of_change (C := Try.checked) own started (by kernel_rfl) Try.func6
    (ChangeSpec.witness6 (enc := enc) (C := Try.checked) false ⟨#[], #[.int .u8 0, .int .u8 0, .int .u8 0], []⟩ 8 (by kernel_rfl) (by kernel_rfl) (by kernel_rfl) (by kernel_rfl)) ?_
  intro W base args ds gs before hval0 hW hcnd _
  have hval : ∀ (j : Nat) t v, Try.f6.params[j]? = some t → args[j]? = some v → Value.okWide Try.prog W .any base t v := hval0
  have hW' := hW
  obtain ⟨p, q, hA0, hV, rfl, hfz, hnd⟩ := hW
  have hA : DataW.TrodAll enc Try.prog W 0 (fun _ => true) true Try.f6.params.toList args.toList ds p := hA0
  rw [Try.params6] at hA hval
  obtain ⟨v0, vs0, d0, ds0, p0, q0, hargs, rfl, rfl, h0, r0⟩ := trodAll_cons hA
  obtain ⟨v1, vs1, d1, ds1, p1, q1, rfl, rfl, rfl, h1, r1⟩ := trodAll_cons r0
  obtain ⟨v2, vs2, d2, ds2, p2, q2, rfl, rfl, rfl, h2, r2⟩ := trodAll_cons r1
  obtain ⟨rfl, rfl, rfl⟩ := trodAll_nil r2
  obtain rfl : args = #[v0, v1, v2] := by cases args; simp_all
  obtain ⟨rfl, rfl⟩ := trodVars_none hV
  obtain ⟨a0, rfl, rfl, rfl, w0⟩ := open_int Try.underlying5 (hval 0 5 v0 rfl rfl) h0
  obtain ⟨a1, rfl, rfl, rfl, w1⟩ := open_int Try.underlying5 (hval 1 5 v1 rfl rfl) h1
  obtain ⟨a2, rfl, rfl, rfl, w2⟩ := open_int Try.underlying5 (hval 2 5 v2 rfl rfl) h2
  clear hA0 hval0
  simp only [List.append_nil] at hW'
  refine (walk a0 a1 a2 w0 w1 w2 W).mono fun e W' ⟨he, hg⟩ => ?_
  subst he
  exact ⟨_, rfl, _, _, _, [], [], [], hW', (trodAll_cons_mk (shut_bool Try.underlying4 _) trodAll_mk0), (trodAll_cons_mk (shut_int Try.underlying5 w0) (trodAll_cons_mk (shut_int Try.underlying5 w1) (trodAll_cons_mk (shut_int Try.underlying5 w2) trodAll_mk0))), rfl, hg.frame _, fun h => by cases h⟩

theorem over : Rows.dotsEdgesRow.holds Try.pinned (OpenSpec.ofChange Rows.dotsEdgesSpec) :=
  OpenClaim.holds_of_wide 6 Try.f6 rfl rfl rfl rfl rfl rfl rfl ⟨rfl, rfl, rfl, rfl, rfl⟩ rfl rfl rfl rfl rfl (by kernel_rfl) Try.func6 (by kernel_rfl)
    (of_decide_eq_true (by kernel_rfl)) (by unfold Func.isWrapper; first | (rw [if_pos (by decide +kernel)]; kernel_rfl) | (rw [if_neg (by decide +kernel)]; exact ⟨rfl, rfl⟩))
    (fun os started H enc _ => lifted os started H enc)

theorem proved : Rows.DotsEdgesSaid :=
  over
#print axioms proved
end Go.Proofs.Ytkibojoochlggaa.dotsEdges
