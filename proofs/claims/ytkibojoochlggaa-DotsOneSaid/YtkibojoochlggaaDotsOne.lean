/-
  Proved: whatever values of its parameters' types it is called with, deaddroplaw7.DotsOne returns true, and each argument reads behind the call as it read before.
  Conditions: none but those of the row itself.
  (The frame round the walk was written by the kit's proof-skeleton.mjs.)
-/
import Derived.Test.YtkibojoochlggaaRows
import Derived.WalkKit
import Derived.ProofKit
import Derived.OpenShut
import Derived.ShutString
import Derived.Test.YtkibojoochlggaaDtLaw2
import Derived.ChangeOld
import Derived.Below
namespace Go.Proofs.Ytkibojoochlggaa.dotsOne
open Go.ChangeShapes Go.WideShapes Go.ChangeAt Go.RowKit
open Go.ChangeMaps (open_string shut_string)
open Go.Proofs.Ytkibojoochlggaa.Mm Go.Proofs.Ytkibojoochlggaa.Dt
set_option linter.unusedVariables false

theorem own : ownKnob Try.prog.godebug = none := by kernel_rfl
theorem laidOut : laidOutB Try.prog = true := by kernel_rfl

/-- WHAT THE WALK IS TOLD OF A SLICE OF INTEGERS THAT CAME IN: it is nil; or it leads to a row of 'cap' cells, the numbers 'zs' (the first 'len' are its elements, the rest its spare room), each fitting its kind. -/
def IsRow (k : IntKind) (w : World) (a : Option Addr) (len cap : Nat) (zs : List Int) : Prop :=
  (a = none ∧ len = 0 ∧ cap = 0 ∧ zs = []) ∨
  ∃ x, a = some x ∧ len ≤ cap ∧ cap ≤ maxLen ∧ zs.length = cap ∧ (∀ i, i < zs.length → w.cell? (x.add i) = some (.int k (zs.getD i 0))) ∧ ∀ n ∈ zs, (Lit.int k n).wf = true

set_option maxHeartbeats 40000000 in
set_option maxRecDepth 100000 in
theorem walk (a0 : Option Addr) (len0 cap0 : Nat) (z0 : List Int) (a1 : Int) (w : World) (w0 : IsRow .u8 w a0 len0 cap0 z0) (w1 : (Lit.int .u8 a1).wf = true) :
    Calls Try.prog 8 #[.slice a0 len0 cap0, .int .u8 a1] w fun e w' => e = .returned (.bool true) ∧ Below w.heap.size w w' := by
  obtain ⟨n0, hl0, _⟩ := nl_of_row w0
  obtain ⟨hx0, hx1⟩ : 0 ≤ a1 ∧ a1 ≤ 255 := by
    have h1 : IntKind.u8.min = 0 := by decide
    have h2 : IntKind.u8.max = 255 := by decide
    simp only [Lit.wf, h1, h2, Bool.and_eq_true, decide_eq_true_eq] at w1
    exact w1
  clear w0 w1
  generalize z0.take len0 = b0 at *
  by_cases hh0 : 60 < len0
  · have t0 : decide ((60 : Int) < (len0 : Int)) = true := decide_eq_true (by omega)
    have s0 : decide (60 < len0) = true := decide_eq_true hh0
    go_enter Try.func8, Try.ntmps8
    go_wp2_with (go_at_call 9; refine (awake_any _).mono ?_; rintro e y ⟨rfl, gy⟩)
    go_ret
    exact ⟨rfl, gb_below gy (Nat.le_refl _)⟩
  · have t0 : decide ((60 : Int) < (len0 : Int)) = false := decide_eq_false (by omega)
    have s0 : decide (60 < len0) = false := decide_eq_false hh0
    obtain ⟨dd, nn, Hd⟩ : ∃ dd nn, Hid (dotN a1 = (dd, nn)) := ⟨_, _, rfl⟩
    have Hok : Hid (Ok ⟨dd, nn, nn⟩) := by
      show Ok ⟨dd, nn, nn⟩
      have h := dotN_ok a1
      rw [Hd.out] at h; exact h
    obtain ⟨a, Ha⟩ : ∃ a, Hid (ofR [] (dotsN b0) = a) := ⟨_, rfl⟩
    obtain ⟨La, HLa⟩ : ∃ L, Hid (a.length = L) := ⟨_, rfl⟩
    have Ma : Hid (May a) := by show May a; rw [← Ha.out]; exact of_may _
    have ba : La ≤ len0 := by have h := set_len b0; rw [Ha.out, n0.1, HLa.out] at h; exact h
    obtain ⟨o, Ho⟩ : ∃ o, Hid (ofR [] [(dd, nn)] = o) := ⟨_, rfl⟩
    obtain ⟨Lo, HLo⟩ : ∃ L, Hid (o.length = L) := ⟨_, rfl⟩
    have Mo : Hid (May o) := by show May o; rw [← Ho.out]; exact of_may _
    have bo : Lo ≤ 1 := by have h := of_len [(dd, nn)]; rw [Ho.out, HLo.out] at h; exact h
    obtain ⟨u, Hu⟩ : ∃ u, Hid (unionR a o = u) := ⟨_, rfl⟩
    obtain ⟨Lu, HLu⟩ : ∃ L, Hid (u.length = L) := ⟨_, rfl⟩
    have Mu : Hid (May u) := by show May u; rw [← Hu.out]; exact union_may Ma.out Mo.out
    have bu : Lu ≤ 16 * (La + Lo) := by have h := union_len a o; rw [Hu.out, HLa.out, HLo.out, HLu.out] at h; omega
    obtain ⟨m, Hm⟩ : ∃ m, Hid (minusR u o = m) := ⟨_, rfl⟩
    obtain ⟨Lm, HLm⟩ : ∃ L, Hid (m.length = L) := ⟨_, rfl⟩
    have Mm : Hid (May m) := by show May m; rw [← Hm.out]; exact minus_may Mu.out Mo.out
    have bm : Lm ≤ 16 * (Lu + Lo) := by have h := minus_len u o; rw [Hm.out, HLu.out, HLo.out, HLm.out] at h; omega
    have E1 : Hid (hasB u dd nn = true) := by show _ = _; rw [← Hu.out, ← Ho.out]; exact one_more Ma.out Hok.out
    have E2 : Hid (hasB m dd nn = false) := by show _ = _; rw [← Hm.out, ← Hu.out, ← Ho.out]; exact one_less Ma.out Hok.out
    have E3 : Hid (leB a u = true) := by show _ = _; rw [← Hu.out]; exact law_more Ma.out Mo.out
    have E4 : Hid (leB m a = true) := by show _ = _; rw [← Hm.out, ← Hu.out, ← Ho.out]; exact one_le Ma.out
    have E5 : Hid (hasB a dd nn = false → m = a) := fun h => by rw [← Hm.out, ← Hu.out, ← Ho.out]; exact one_was Ma.out Hok.out h
    have E6 : Hid (hasB a dd nn = true → u = a) := fun h => by rw [← Hu.out, ← Ho.out]; exact one_is Ma.out Hok.out h
    obtain ⟨ba, Hba⟩ : ∃ ba : Bool, Hid (hasB a dd nn = ba) := ⟨_, rfl⟩
    have G := gb_refl w none
    go_enter Try.func8, Try.ntmps8
    go_upto_region 5 with (first
      | (go_at_call 24; (with_reducible refine (make_any a0 len0 cap0 b0 _ n0 (by omega)).mono ?_); rintro e y hR; rw [Ha.out] at hR; obtain ⟨A_a, c_a, rfl, r_a, h_a, gy⟩ := hR.n HLa.out; replace n0 := n0.keep gy; replace G := gb_none G gy; clear gy)
      | (go_at_call 25; (with_reducible refine (list_any _ 1 1 [a1] _ (by exact nl_one _ _ _ hx0 hx1) (by decide)).mono ?_); rintro e y ⟨A_d, c_d, he, hd, gz⟩; change e = .returned (.slice A_d 1 c_d) at he; subst he; have gy := gb_none (gb_alloc (gb_refl _ none) _) gz; clear gz; replace n0 := n0.keep gy; replace r_a := r_a.keep gy; replace G := gb_none G gy; clear gy; change DL _ A_d 1 [dotN a1] at hd; rw [Hd.out] at hd; obtain ⟨gd, od, rfl, cd0, cd1⟩ := dl_cells hd))
    have bx := Row.new y 25 #[.int .i64 dd, .int .i64 nn]
    have GG := gb_alloc (gb_refl y none) (.cells #[.int .i64 dd, .int .i64 nn] 25)
    replace n0 := n0.keep GG
    replace r_a := r_a.keep GG
    replace G := gb_none G GG
    clear GG hd cd0 cd1
    obtain ⟨W5, hW5⟩ : ∃ W5, y.alloc (.cells #[.int .i64 dd, .int .i64 nn] 25) = W5 := ⟨_, rfl⟩
    rw [hW5] at n0 r_a bx G ⊢
    clear hW5
    generalize y.heap.size = D5 at *
    have bxq0 := bx.at_ (i := 0) rfl
    have bxq1 := bx.at_ (i := 1) rfl
    go_upto_region 6 with (go_at_call 13; (with_reducible refine (pOf_any _ 1 1 [(dd, nn)] _ (by exact dl_one _ _ _ _) (by decide)).mono ?_); rintro e y hR; rw [Ho.out] at hR; obtain ⟨A_o, c_o, rfl, r_o, h_o, gz⟩ := hR.n HLo.out; have gy := gb_none (gb_alloc (gb_refl _ none) _) gz; clear gz; replace n0 := n0.keep gy; replace r_a := r_a.keep gy; replace bx := bx.kept gy (by simp); replace G := gb_none G gy; clear gy; replace bxq0 := bx.at_ (i := 0) rfl; replace bxq1 := bx.at_ (i := 1) rfl)
    cases ba
    all_goals
      go_wp2_with (first
          | (go_at_call 17; (with_reducible refine (pUnion_any A_a A_o La c_a Lo c_o a o _ r_a r_o Ma.out Mo.out (by omega) (by omega) h_o).mono ?_); rintro e y hR; rw [Hu.out] at hR; obtain ⟨A_u, c_u, rfl, r_u, h_u, gy⟩ := hR.n HLu.out; replace n0 := n0.keep gy; replace r_a := r_a.keep gy; replace bx := bx.kept gy (by simp); replace r_o := r_o.keep gy; replace G := gb_none G gy; clear gy; replace bxq0 := bx.at_ (i := 0) rfl; replace bxq1 := bx.at_ (i := 1) rfl)
          | (go_at_call 19; (with_reducible refine (pMinus_any A_u A_o Lu c_u Lo c_o u o _ r_u r_o Mu.out Mo.out (by omega) (by omega) h_o).mono ?_); rintro e y hR; rw [Hm.out] at hR; obtain ⟨A_m, c_m, rfl, r_m, h_m, gy⟩ := hR.n HLm.out; replace n0 := n0.keep gy; replace r_a := r_a.keep gy; replace bx := bx.kept gy (by simp); replace r_o := r_o.keep gy; replace r_u := r_u.keep gy; replace G := gb_none G gy; clear gy; replace bxq0 := bx.at_ (i := 0) rfl; replace bxq1 := bx.at_ (i := 1) rfl)
          | (go_at_call 15; (with_reducible refine (pHas_any A_u Lu c_u u dd nn _ r_u Mu.out (by omega)).mono ?_); rintro e y ⟨he, gy⟩; rw [E1.out] at he; subst he; replace n0 := n0.keep gy; replace r_a := r_a.keep gy; replace bx := bx.kept gy (by simp); replace r_o := r_o.keep gy; replace r_u := r_u.keep gy; replace r_m := r_m.keep gy; replace G := gb_none G gy; clear gy; replace bxq0 := bx.at_ (i := 0) rfl; replace bxq1 := bx.at_ (i := 1) rfl)
          | (go_at_call 15; (with_reducible refine (pHas_any A_m Lm c_m m dd nn _ r_m Mm.out (by omega)).mono ?_); rintro e y ⟨he, gy⟩; rw [E2.out] at he; subst he; replace n0 := n0.keep gy; replace r_a := r_a.keep gy; replace bx := bx.kept gy (by simp); replace r_o := r_o.keep gy; replace r_u := r_u.keep gy; replace r_m := r_m.keep gy; replace G := gb_none G gy; clear gy; replace bxq0 := bx.at_ (i := 0) rfl; replace bxq1 := bx.at_ (i := 1) rfl)
          | (go_at_call 23; (with_reducible refine (pLe_any A_a A_u La c_a Lu c_u a u _ r_a r_u Ma.out Mu.out (by omega) (by omega)).mono ?_); rintro e y ⟨he, gy⟩; rw [E3.out] at he; subst he; replace n0 := n0.keep gy; replace r_a := r_a.keep gy; replace bx := bx.kept gy (by simp); replace r_o := r_o.keep gy; replace r_u := r_u.keep gy; replace r_m := r_m.keep gy; replace G := gb_none G gy; clear gy; replace bxq0 := bx.at_ (i := 0) rfl; replace bxq1 := bx.at_ (i := 1) rfl)
          | (go_at_call 23; (with_reducible refine (pLe_any A_m A_a Lm c_m La c_a m a _ r_m r_a Mm.out Ma.out (by omega) (by omega)).mono ?_); rintro e y ⟨he, gy⟩; rw [E4.out] at he; subst he; replace n0 := n0.keep gy; replace r_a := r_a.keep gy; replace bx := bx.kept gy (by simp); replace r_o := r_o.keep gy; replace r_u := r_u.keep gy; replace r_m := r_m.keep gy; replace G := gb_none G gy; clear gy; replace bxq0 := bx.at_ (i := 0) rfl; replace bxq1 := bx.at_ (i := 1) rfl)
          | (go_at_call 16; (with_reducible refine (refHas_any A_a La c_a a dd nn _ r_a (by omega)).mono ?_); rintro e y ⟨he, gy⟩; rw [Hba.out] at he; subst he; replace n0 := n0.keep gy; replace r_a := r_a.keep gy; replace bx := bx.kept gy (by simp); replace r_o := r_o.keep gy; replace r_u := r_u.keep gy; replace r_m := r_m.keep gy; replace G := gb_none G gy; clear gy; replace bxq0 := bx.at_ (i := 0) rfl; replace bxq1 := bx.at_ (i := 1) rfl)
          | (go_at_call 12; (with_reducible refine (same_yes A_m A_a Lm c_m La c_a m a _ r_m r_a (E5.out Hba.out) (by omega) (by omega)).mono ?_); rintro e y ⟨rfl, gy⟩; replace n0 := n0.keep gy; replace r_a := r_a.keep gy; replace bx := bx.kept gy (by simp); replace r_o := r_o.keep gy; replace r_u := r_u.keep gy; replace r_m := r_m.keep gy; replace G := gb_none G gy; clear gy; replace bxq0 := bx.at_ (i := 0) rfl; replace bxq1 := bx.at_ (i := 1) rfl)
          | (go_at_call 12; (with_reducible refine (same_yes A_u A_a Lu c_u La c_a u a _ r_u r_a (E6.out Hba.out) (by omega) (by omega)).mono ?_); rintro e y ⟨rfl, gy⟩; replace n0 := n0.keep gy; replace r_a := r_a.keep gy; replace bx := bx.kept gy (by simp); replace r_o := r_o.keep gy; replace r_u := r_u.keep gy; replace r_m := r_m.keep gy; replace G := gb_none G gy; clear gy; replace bxq0 := bx.at_ (i := 0) rfl; replace bxq1 := bx.at_ (i := 1) rfl)
          | (go_at_call 9; (with_reducible refine (awake_any _).mono ?_); rintro e y ⟨rfl, gy⟩; replace G := gb_none G gy)
          )
    all_goals
      go_ret
      exact ⟨rfl, gb_below G (Nat.le_refl _)⟩

set_option maxRecDepth 100000 in
theorem lifted (os : Os) (started : os.Started) (H : Type) (enc : TypeId × Value → H) :
    ReturnsInHanded {} Try.checked os 8 .any (Rows.dotsOneSpec.pre6 enc Try.prog Try.f8 Rows.dotsOneRow.domain false) (Rows.dotsOneSpec.post enc Try.prog Try.f8 false true false false) := by
  refine returnsInHanded_of_change (C := Try.checked) own started (by kernel_rfl) Try.func8
    (ChangeSpec.witness6 (enc := enc) (C := Try.checked) false ⟨#[], #[.slice none 0 0, .int .u8 0], []⟩ 8 (by kernel_rfl) (by kernel_rfl) (by kernel_rfl) (by kernel_rfl)) ?_
  intro W base args ds gs before hval0 hW hcnd _
  have hval : ∀ (j : Nat) t v, Try.f8.params[j]? = some t → args[j]? = some v → Value.okWide Try.prog W .any base t v := hval0
  have hW' := hW
  obtain ⟨p, q, hA0, hV, rfl, hfz, hnd⟩ := hW
  have hA : DataW.TrodAll enc Try.prog W 0 (fun _ => true) true Try.f8.params.toList args.toList ds p := hA0
  rw [Try.params8] at hA hval
  obtain ⟨v0, vs0, d0, ds0, p0, q0, hargs, rfl, rfl, h0, r0⟩ := trodAll_cons hA
  obtain ⟨v1, vs1, d1, ds1, p1, q1, rfl, rfl, rfl, h1, r1⟩ := trodAll_cons r0
  obtain ⟨rfl, rfl, rfl⟩ := trodAll_nil r1
  obtain rfl : args = #[v0, v1] := by cases args; simp_all
  obtain ⟨rfl, rfl⟩ := trodVars_none hV
  obtain ⟨a0, len0, cap0, rfl⟩ := okWide_slice Try.underlying35 (hval 0 35 v0 rfl rfl)
  have k0 := h0
  have lt0 : ∀ x ∈ p0, x.block < W.heap.size := by obtain ⟨m, hm⟩ := k0; exact DataW.trod_lt m _ _ _ hm
  obtain ⟨z0, w0⟩ : ∃ zs, IsRow .u8 W a0 len0 cap0 zs := by
    obtain ⟨fuel, hf⟩ := h0
    rcases open_ints Try.underlying35 Try.underlying5 (by kernel_rfl) hf with ⟨hcs, _⟩ | ⟨x, l, c, zs, hcs, _, hl, hm, hz, _, hcell, hwz⟩
    · simp [Value.cells] at hcs
      obtain ⟨rfl, rfl, rfl⟩ := hcs
      exact ⟨[], .inl ⟨rfl, rfl, rfl, rfl⟩⟩
    · simp [Value.cells] at hcs
      obtain ⟨rfl, rfl, rfl⟩ := hcs
      exact ⟨zs, .inr ⟨_, rfl, hl, hm, by simpa using hz, hcell, hwz⟩⟩
  obtain ⟨a1, rfl, rfl, rfl, w1⟩ := open_int Try.underlying5 (hval 1 5 v1 rfl rfl) h1
  clear hA0 hval0
  refine (walk a0 len0 cap0 z0 a1 W w0 w1).mono fun e W' ⟨he, bel⟩ => ?_
  subst he
  exact ⟨_, rfl, _, _, _, [], _, [], hW', trodAll_mk1 (shut_bool Try.underlying4 _), (trodAll_cons_mk (Below.trod laidOut (by kernel_rfl) (of_decide_eq_true (by kernel_rfl)) k0 bel lt0) (trodAll_cons_mk (shut_int Try.underlying5 w1) trodAll_mk0)), rfl, bel.frame _, fun h => by cases h⟩

theorem over : Rows.dotsOneRow.holds Try.pinned (OpenSpec.ofChange Rows.dotsOneSpec) :=
  OpenClaim.holds_of_wide 8 Try.f8 rfl rfl rfl rfl rfl rfl rfl ⟨rfl, rfl, rfl, rfl, rfl⟩ rfl rfl rfl rfl rfl (by kernel_rfl) Try.func8 (by kernel_rfl)
    (of_decide_eq_true (by kernel_rfl)) (by unfold Func.isWrapper; first | (rw [if_pos (by decide +kernel)]; kernel_rfl) | (rw [if_neg (by decide +kernel)]; exact ⟨rfl, rfl⟩))
    (fun os started H enc _ => lifted os started H enc)

theorem proved : Rows.DotsOneSaid := over
#print axioms proved
end Go.Proofs.Ytkibojoochlggaa.dotsOne
