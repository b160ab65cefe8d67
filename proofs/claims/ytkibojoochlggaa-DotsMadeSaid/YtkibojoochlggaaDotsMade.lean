/-
  Proved: whatever values of its parameters' types it is called with, deaddroplaw7.DotsMade returns true, and each argument reads behind the call as it read before.
  Conditions: none but those of the row itself.
  (The frame round the walk was written by the kit's proof-skeleton.mjs.)
-/
import Derived.Test.YtkibojoochlggaaRows
import Derived.WalkKit
import Derived.ProofKit
import Derived.OpenShut
import Derived.ShutString
import Derived.Test.YtkibojoochlggaaDtLaw2
import Derived.ChangeOld
import Derived.Below
namespace Go.Proofs.Ytkibojoochlggaa.dotsMade
open Go.ChangeShapes Go.WideShapes Go.ChangeAt Go.RowKit
open Go.ChangeMaps (open_string shut_string)
open Go.Proofs.Ytkibojoochlggaa.Mm Go.Proofs.Ytkibojoochlggaa.Dt
set_option linter.unusedVariables false

theorem own : ownKnob Try.prog.godebug = none := by kernel_rfl
theorem laidOut : laidOutB Try.prog = true := by kernel_rfl

/-- WHAT THE WALK IS TOLD OF A SLICE OF INTEGERS THAT CAME IN: it is nil; or it leads to a row of 'cap' cells, the numbers 'zs' (the first 'len' are its elements, the rest its spare room), each fitting its kind. -/
def IsRow (k : IntKind) (w : World) (a : Option Addr) (len cap : Nat) (zs : List Int) : Prop :=
  (a = none ∧ len = 0 ∧ cap = 0 ∧ zs = []) ∨
  ∃ x, a = some x ∧ len ≤ cap ∧ cap ≤ maxLen ∧ zs.length = cap ∧ (∀ i, i < zs.length → w.cell? (x.add i) = some (.int k (zs.getD i 0))) ∧ ∀ n ∈ zs, (Lit.int k n).wf = true

open Go.Proofs.Ytkibojoochlggaa.Td
attribute [local go_sem] upon_value upon_skip upon_enter upon_row look_tmp look_const look_func look_global

set_option maxHeartbeats 40000000 in
set_option maxRecDepth 100000 in
theorem walk (a0 : Option Addr) (len0 cap0 : Nat) (z0 : List Int) (a1 : Option Addr) (len1 cap1 : Nat) (z1 : List Int) (a2 : Int) (w : World) (w0 : IsRow .u8 w a0 len0 cap0 z0) (w1 : IsRow .u8 w a1 len1 cap1 z1) (w2 : (Lit.int .u8 a2).wf = true) :
    Calls Try.prog 4 #[.slice a0 len0 cap0, .slice a1 len1 cap1, .int .u8 a2] w fun e w' => e = .returned (.bool true) ∧ Below w.heap.size w w' := by
  obtain ⟨n0, hl0, _⟩ := nl_of_row w0
  obtain ⟨n1, hl1, _⟩ := nl_of_row w1
  obtain ⟨hx0, hx1⟩ : 0 ≤ a2 ∧ a2 ≤ 255 := by
    have h1 : IntKind.u8.min = 0 := by decide
    have h2 : IntKind.u8.max = 255 := by decide
    simp only [Lit.wf, h1, h2, Bool.and_eq_true, decide_eq_true_eq] at w2
    exact w2
  clear w0 w1 w2
  generalize z0.take len0 = b0 at *
  generalize z1.take len1 = b1 at *
  by_cases hh0 : 60 < len0
  · have t0 : decide ((60 : Int) < (len0 : Int)) = true := decide_eq_true (by omega)
    have s0 : decide (60 < len0) = true := decide_eq_true hh0
    go_enter Try.func4, Try.ntmps4
    go_wp2_with (go_at_call 9; refine (awake_any _).mono ?_; rintro e y ⟨rfl, gy⟩)
    go_ret
    exact ⟨rfl, gb_below gy (Nat.le_refl _)⟩
  · have t0 : decide ((60 : Int) < (len0 : Int)) = false := decide_eq_false (by omega)
    have s0 : decide (60 < len0) = false := decide_eq_false hh0
    by_cases hh1 : 60 < len1
    · have t1 : decide ((60 : Int) < (len1 : Int)) = true := decide_eq_true (by omega)
      have s1 : decide (60 < len1) = true := decide_eq_true hh1
      go_enter Try.func4, Try.ntmps4
      go_wp2_with (go_at_call 9; refine (awake_any _).mono ?_; rintro e y ⟨rfl, gy⟩)
      go_ret
      exact ⟨rfl, gb_below gy (Nat.le_refl _)⟩
    · have t1 : decide ((60 : Int) < (len1 : Int)) = false := decide_eq_false (by omega)
      have s1 : decide (60 < len1) = false := decide_eq_false hh1
      obtain ⟨dd, nn, Hd⟩ : ∃ dd nn, Hid (dotN a2 = (dd, nn)) := ⟨_, _, rfl⟩
      obtain ⟨a, Ha⟩ : ∃ a, Hid (ofR [] (dotsN b0) = a) := ⟨_, rfl⟩
      obtain ⟨La, HLa⟩ : ∃ L, Hid (a.length = L) := ⟨_, rfl⟩
      have Ma : Hid (May a) := by show May a; rw [← Ha.out]; exact of_may _
      have ba : La ≤ len0 := by have h := set_len b0; rw [Ha.out, n0.1, HLa.out] at h; exact h
      obtain ⟨b, Hb⟩ : ∃ b, Hid (ofR [] (dotsN b1) = b) := ⟨_, rfl⟩
      obtain ⟨Lb, HLb⟩ : ∃ L, Hid (b.length = L) := ⟨_, rfl⟩
      have Mb : Hid (May b) := by show May b; rw [← Hb.out]; exact of_may _
      have bb : Lb ≤ len1 := by have h := set_len b1; rw [Hb.out, n1.1, HLb.out] at h; exact h
      obtain ⟨u, Hu⟩ : ∃ u, Hid (unionR a b = u) := ⟨_, rfl⟩
      obtain ⟨Lu, HLu⟩ : ∃ L, Hid (u.length = L) := ⟨_, rfl⟩
      have Mu : Hid (May u) := by show May u; rw [← Hu.out]; exact union_may Ma.out Mb.out
      have bu : Lu ≤ 16 * (La + Lb) := by have h := union_len a b; rw [Hu.out, HLa.out, HLb.out, HLu.out] at h; omega
      obtain ⟨m, Hm⟩ : ∃ m, Hid (minusR a b = m) := ⟨_, rfl⟩
      obtain ⟨Lm, HLm⟩ : ∃ L, Hid (m.length = L) := ⟨_, rfl⟩
      have Mm : Hid (May m) := by show May m; rw [← Hm.out]; exact minus_may Ma.out Mb.out
      have bm : Lm ≤ 16 * (La + Lb) := by have h := minus_len a b; rw [Hm.out, HLa.out, HLb.out, HLm.out] at h; omega
      obtain ⟨ba, bb, Hba, Hbb, Hbu, Hbm⟩ : ∃ ba bb : Bool, Hid (hasB a dd nn = ba) ∧ Hid (hasB b dd nn = bb) ∧ Hid (hasB u dd nn = (ba || bb)) ∧ Hid (hasB m dd nn = (ba && !bb)) :=
        ⟨_, _, rfl, rfl, by show _ = _; rw [← Hu.out]; exact union_hasB Ma.out Mb.out dd nn, by show _ = _; rw [← Hm.out]; exact minus_hasB Ma.out Mb.out dd nn⟩
      have HLd : Hid ((dotsN b0).length = len0) := by show _ = _; unfold dotsN; rw [List.length_map]; exact n0.1
      have G := gb_refl w none
      go_enter Try.func4, Try.ntmps4
      go_upto_region 5 with (first
        | (go_at_call 24; (with_reducible refine (make_any a0 len0 cap0 b0 _ n0 (by omega)).mono ?_); rintro e y hR; rw [Ha.out] at hR; obtain ⟨A_a, c_a, rfl, r_a, h_a, gy⟩ := hR.n HLa.out; replace n0 := n0.keep gy; replace n1 := n1.keep gy; replace G := gb_none G gy; clear gy)
        | (go_at_call 24; (with_reducible refine (make_any a1 len1 cap1 b1 _ n1 (by omega)).mono ?_); rintro e y hR; rw [Hb.out] at hR; obtain ⟨A_b, c_b, rfl, r_b, h_b, gy⟩ := hR.n HLb.out; replace n0 := n0.keep gy; replace n1 := n1.keep gy; replace r_a := r_a.keep gy; replace G := gb_none G gy; clear gy)
        | (go_at_call 25; (with_reducible refine (list_any _ 1 1 [a2] _ (by exact nl_one _ _ _ hx0 hx1) (by decide)).mono ?_); rintro e y ⟨A_d, c_d, he, hd, gz⟩; change e = .returned (.slice A_d 1 c_d) at he; subst he; have gy := gb_none (gb_alloc (gb_refl _ none) _) gz; clear gz; replace n0 := n0.keep gy; replace n1 := n1.keep gy; replace r_a := r_a.keep gy; replace r_b := r_b.keep gy; replace G := gb_none G gy; clear gy; change DL _ A_d 1 [dotN a2] at hd; rw [Hd.out] at hd; obtain ⟨gd, od, rfl, cd0, cd1⟩ := dl_cells hd))
      have bx := Row.new y 25 #[.int .i64 dd, .int .i64 nn]
      have GG := gb_alloc (gb_refl y none) (.cells #[.int .i64 dd, .int .i64 nn] 25)
      replace n0 := n0.keep GG
      replace n1 := n1.keep GG
      replace r_a := r_a.keep GG
      replace r_b := r_b.keep GG
      replace G := gb_none G GG
      clear GG hd cd0 cd1
      obtain ⟨W5, hW5⟩ : ∃ W5, y.alloc (.cells #[.int .i64 dd, .int .i64 nn] 25) = W5 := ⟨_, rfl⟩
      rw [hW5] at n0 n1 r_a r_b bx G ⊢
      clear hW5
      generalize y.heap.size = D5 at *
      have bxq0 := bx.at_ (i := 0) rfl
      have bxq1 := bx.at_ (i := 1) rfl
      go_upto_region 6 with (first
        | (go_at_call 17; (with_reducible refine (pUnion_any A_a A_b La c_a Lb c_b a b _ r_a r_b Ma.out Mb.out (by omega) (by omega) h_b).mono ?_); rintro e y hR; rw [Hu.out] at hR; obtain ⟨A_u, c_u, rfl, r_u, h_u, gy⟩ := hR.n HLu.out; replace n0 := n0.keep gy; replace n1 := n1.keep gy; replace r_a := r_a.keep gy; replace r_b := r_b.keep gy; replace bx := bx.kept gy (by simp); replace G := gb_none G gy; clear gy; replace bxq0 := bx.at_ (i := 0) rfl; replace bxq1 := bx.at_ (i := 1) rfl)
        | (go_at_call 19; (with_reducible refine (pMinus_any A_a A_b La c_a Lb c_b a b _ r_a r_b Ma.out Mb.out (by omega) (by omega) h_b).mono ?_); rintro e y hR; rw [Hm.out] at hR; obtain ⟨A_m, c_m, rfl, r_m, h_m, gy⟩ := hR.n HLm.out; replace n0 := n0.keep gy; replace n1 := n1.keep gy; replace r_a := r_a.keep gy; replace r_b := r_b.keep gy; replace bx := bx.kept gy (by simp); replace r_u := r_u.keep gy; replace G := gb_none G gy; clear gy; replace bxq0 := bx.at_ (i := 0) rfl; replace bxq1 := bx.at_ (i := 1) rfl)
        )
      simp only [List.append_eq, List.cons_append, List.nil_append]
      clear n1 bxq0 bxq1
      apply wp_region_told (le := fun a b => a.grownBy b none) [isV _, dlS len0 (dotsN b0), runsS La a, isV _, isV _, isV _, isV _, isV _, isV _, isV _, isV _, isV _, isV _, runsS Lu u, isV _, isV _, isV _, isV _, isV _, isV _, runsS Lm m, isV _, isV _, isV _, isV _, isV _, isV _, isV _, isV _, isV _, isV _, isV _, isV _, isV _, isV _, isV _, isV _, isV _, isV _, isV (if ba = true then undef else .slice A_b Lb c_b), isV (if ba = true then undef else .agg #[.int .i64 dd, .int .i64 nn]), isV (if ba = true then undef else .bool bb), isV (.bool (ba || bb)), isV (.bool true), isV _, isV _, isV _, isV _, isV _, isV _, isV _, isV _, isV _, isV (if ba = true then .slice A_b Lb c_b else undef), isV (if ba = true then .agg #[.int .i64 dd, .int .i64 nn] else undef), isV (if ba = true then .bool bb else undef), isV (if ba = true then .bool !bb else undef), isV (.bool (ba && !bb)), isV (.bool true), isV _, isV _, isV _, isV _, isV _, isV _, isV _, isV _, isV _, isV _, isV _, isV _, isV _, isV _, isV _, isV _]
      case hn => rfl
      case hm => kernel_rfl
      case hB => kernel_rfl
      case ht => exact fun _ _ _ h k => gb_none h k
      case hw => exact gb_drew (gb_refl _ _)
      -- 0: law.go:50 move
      apply told_is
      · intro W f hW hE h0 K hK
        have e0 := h0 0 (by kernel_rfl)
        conv at e0 => rhs; whnf
        clear hE h0
        refine yes_of (want_free rfl) ?_
        go_simp; exact hK _ _ (gb_refl _ _) rfl
      -- 1: law.go:50 call
      apply told_at dlS_stays
      · intro W f hW hE h0 K hK
        have e36 : f 36 = _ := hE 0 36 _ rfl (by kernel_rfl)
        clear hE h0
        refine yes_of (want_free rfl) ?_
        go_simp
        refine (list_any a0 len0 cap0 b0 _ (n0.keep hW) (by omega)).mono ?_
        rintro e w1 ⟨A1, c1, he, r1, g⟩; rw [HLd.out] at he r1; subst he
        exact ⟨_, rfl, hK _ _ g ⟨A1, c1, rfl, r1⟩⟩
      -- 2: law.go:50 call
      apply told_at runsS_stays
      · intro W f hW hE h0 K hK
        have e37 := hE 0 37 _ rfl (by kernel_rfl)
        clear hE h0
        refine yes_of (want_free rfl) ?_
        obtain ⟨A2, c2, e37, r2⟩ := e37
        go_simp
        refine (pOf_any A2 len0 c2 (dotsN b0) _ r2 (by omega)).mono ?_
        rintro e w1 hR; rw [Ha.out] at hR; obtain ⟨A1, c1, rfl, r1, h1, g⟩ := hR.n HLa.out
        exact ⟨_, rfl, hK _ _ g ⟨A1, c1, rfl, r1, h1⟩⟩
      -- 3: law.go:50 move
      apply told_is
      · intro W f hW hE h0 K hK
        have e7 := h0 7 (by kernel_rfl)
        conv at e7 => rhs; whnf
        clear hE h0
        refine yes_of (want_free rfl) ?_
        go_simp; exact hK _ _ (gb_refl _ _) rfl
      -- 4: law.go:50 call
      apply told_is
      · intro W f hW hE h0 K hK
        have e38 := hE 1 38 _ rfl (by kernel_rfl)
        have e39 : f 39 = _ := hE 0 39 _ rfl (by kernel_rfl)
        clear hE h0
        refine yes_of (want_free rfl) ?_
        obtain ⟨A2, c2, e38, r2, h2⟩ := e38
        go_simp
        refine (same_yes _ _ La _ La _ a a _ r2 (r_a.keep hW) rfl (by omega) (by omega)).mono ?_
        rintro e w1 ⟨rfl, g⟩
        exact ⟨_, rfl, hK _ _ g rfl⟩
      -- 5: law.go:50 move
      apply told_is
      · intro W f hW hE h0 K hK
        have e40 : f 40 = _ := hE 0 40 _ rfl (by kernel_rfl)
        clear hE h0
        refine yes_of (want_free rfl) ?_
        go_simp; exact hK _ _ (gb_refl _ _) rfl
      -- 6: law.go:50 move
      apply told_is
      · intro W f hW hE h0 K hK
        have e7 := h0 7 (by kernel_rfl)
        conv at e7 => rhs; whnf
        have e41 : f 41 = _ := hE 0 41 _ rfl (by kernel_rfl)
        clear hE h0
        refine yes_of (want_yes rfl rfl e41) ?_
        go_simp; exact hK _ _ (gb_refl _ _) rfl
      -- 7: law.go:50 call
      apply told_is
      · intro W f hW hE h0 K hK
        have e42 : f 42 = _ := hE 0 42 _ rfl (by kernel_rfl)
        have e41 : f 41 = _ := hE 1 41 _ rfl (by kernel_rfl)
        clear hE h0
        refine yes_of (want_yes rfl rfl e41) ?_
        go_simp
        refine (pMay_yes A_a La c_a a _ (r_a.keep hW) Ma.out (by omega)).mono ?_
        rintro e w1 ⟨rfl, g⟩
        exact ⟨_, rfl, hK _ _ g rfl⟩
      -- 8: law.go:50 pick
      apply told_is
      · intro W f hW hE h0 K hK
        have e41 : f 41 = _ := hE 2 41 _ rfl (by kernel_rfl)
        have e43 : f 43 = _ := hE 0 43 _ rfl (by kernel_rfl)
        clear hE h0
        refine yes_of (want_free rfl) ?_
        go_simp; exact hK _ _ (gb_refl _ _) rfl
      -- 9: law.go:50 move
      apply told_is
      · intro W f hW hE h0 K hK
        have e44 : f 44 = _ := hE 0 44 _ rfl (by kernel_rfl)
        clear hE h0
        refine yes_of (want_free rfl) ?_
        go_simp; exact hK _ _ (gb_refl _ _) rfl
      -- 10: law.go:50 move
      apply told_is
      · intro W f hW hE h0 K hK
        have e10 := h0 10 (by kernel_rfl)
        conv at e10 => rhs; whnf
        have e45 : f 45 = _ := hE 0 45 _ rfl (by kernel_rfl)
        clear hE h0
        refine yes_of (want_yes rfl rfl e45) ?_
        go_simp; exact hK _ _ (gb_refl _ _) rfl
      -- 11: law.go:50 move
      apply told_is
      · intro W f hW hE h0 K hK
        have e7 := h0 7 (by kernel_rfl)
        conv at e7 => rhs; whnf
        have e45 : f 45 = _ := hE 1 45 _ rfl (by kernel_rfl)
        clear hE h0
        refine yes_of (want_yes rfl rfl e45) ?_
        go_simp; exact hK _ _ (gb_refl _ _) rfl
      -- 12: law.go:50 move
      apply told_is
      · intro W f hW hE h0 K hK
        have e8 := h0 8 (by kernel_rfl)
        conv at e8 => rhs; whnf
        have e45 : f 45 = _ := hE 2 45 _ rfl (by kernel_rfl)
        clear hE h0
        refine yes_of (want_yes rfl rfl e45) ?_
        go_simp; exact hK _ _ (gb_refl _ _) rfl
      -- 13: law.go:50 call
      apply told_at runsS_stays
      · intro W f hW hE h0 K hK
        have e47 : f 47 = _ := hE 1 47 _ rfl (by kernel_rfl)
        have e48 : f 48 = _ := hE 0 48 _ rfl (by kernel_rfl)
        have e45 : f 45 = _ := hE 3 45 _ rfl (by kernel_rfl)
        clear hE h0
        refine yes_of (want_yes rfl rfl e45) ?_
        go_simp
        refine (refUnion_any A_a A_b La c_a Lb c_b a b _ (r_a.keep hW) (r_b.keep hW) Ma.out Mb.out (by omega) (by omega)).mono ?_
        rintro e w1 hR; rw [Hu.out] at hR; obtain ⟨A1, c1, rfl, r1, h1, g⟩ := hR.n HLu.out
        exact ⟨_, rfl, hK _ _ g ⟨A1, c1, rfl, r1, h1⟩⟩
      -- 14: law.go:50 call
      apply told_is
      · intro W f hW hE h0 K hK
        have e46 : f 46 = _ := hE 3 46 _ rfl (by kernel_rfl)
        have e49 := hE 0 49 _ rfl (by kernel_rfl)
        have e45 : f 45 = _ := hE 4 45 _ rfl (by kernel_rfl)
        clear hE h0
        refine yes_of (want_yes rfl rfl e45) ?_
        obtain ⟨A2, c2, e49, r2, h2⟩ := e49
        go_simp
        refine (same_yes _ _ Lu _ Lu _ u u _ (r_u.keep hW) r2 rfl (by omega) (by omega)).mono ?_
        rintro e w1 ⟨rfl, g⟩
        exact ⟨_, rfl, hK _ _ g rfl⟩
      -- 15: law.go:50 pick
      apply told_is
      · intro W f hW hE h0 K hK
        have e45 : f 45 = _ := hE 5 45 _ rfl (by kernel_rfl)
        have e50 : f 50 = _ := hE 0 50 _ rfl (by kernel_rfl)
        clear hE h0
        refine yes_of (want_free rfl) ?_
        go_simp; exact hK _ _ (gb_refl _ _) rfl
      -- 16: law.go:50 move
      apply told_is
      · intro W f hW hE h0 K hK
        have e51 : f 51 = _ := hE 0 51 _ rfl (by kernel_rfl)
        clear hE h0
        refine yes_of (want_free rfl) ?_
        go_simp; exact hK _ _ (gb_refl _ _) rfl
      -- 17: law.go:50 move
      apply told_is
      · intro W f hW hE h0 K hK
        have e11 := h0 11 (by kernel_rfl)
        conv at e11 => rhs; whnf
        have e52 : f 52 = _ := hE 0 52 _ rfl (by kernel_rfl)
        clear hE h0
        refine yes_of (want_yes rfl rfl e52) ?_
        go_simp; exact hK _ _ (gb_refl _ _) rfl
      -- 18: law.go:50 move
      apply told_is
      · intro W f hW hE h0 K hK
        have e7 := h0 7 (by kernel_rfl)
        conv at e7 => rhs; whnf
        have e52 : f 52 = _ := hE 1 52 _ rfl (by kernel_rfl)
        clear hE h0
        refine yes_of (want_yes rfl rfl e52) ?_
        go_simp; exact hK _ _ (gb_refl _ _) rfl
      -- 19: law.go:50 move
      apply told_is
      · intro W f hW hE h0 K hK
        have e8 := h0 8 (by kernel_rfl)
        conv at e8 => rhs; whnf
        have e52 : f 52 = _ := hE 2 52 _ rfl (by kernel_rfl)
        clear hE h0
        refine yes_of (want_yes rfl rfl e52) ?_
        go_simp; exact hK _ _ (gb_refl _ _) rfl
      -- 20: law.go:50 call
      apply told_at runsS_stays
      · intro W f hW hE h0 K hK
        have e54 : f 54 = _ := hE 1 54 _ rfl (by kernel_rfl)
        have e55 : f 55 = _ := hE 0 55 _ rfl (by kernel_rfl)
        have e52 : f 52 = _ := hE 3 52 _ rfl (by kernel_rfl)
        clear hE h0
        refine yes_of (want_yes rfl rfl e52) ?_
        go_simp
        refine (refMinus_any A_a A_b La c_a Lb c_b a b _ (r_a.keep hW) (r_b.keep hW) Ma.out Mb.out (by omega) (by omega)).mono ?_
        rintro e w1 hR; rw [Hm.out] at hR; obtain ⟨A1, c1, rfl, r1, h1, g⟩ := hR.n HLm.out
        exact ⟨_, rfl, hK _ _ g ⟨A1, c1, rfl, r1, h1⟩⟩
      -- 21: law.go:50 call
      apply told_is
      · intro W f hW hE h0 K hK
        have e53 : f 53 = _ := hE 3 53 _ rfl (by kernel_rfl)
        have e56 := hE 0 56 _ rfl (by kernel_rfl)
        have e52 : f 52 = _ := hE 4 52 _ rfl (by kernel_rfl)
        clear hE h0
        refine yes_of (want_yes rfl rfl e52) ?_
        obtain ⟨A2, c2, e56, r2, h2⟩ := e56
        go_simp
        refine (same_yes _ _ Lm _ Lm _ m m _ (r_m.keep hW) r2 rfl (by omega) (by omega)).mono ?_
        rintro e w1 ⟨rfl, g⟩
        exact ⟨_, rfl, hK _ _ g rfl⟩
      -- 22: law.go:50 pick
      apply told_is
      · intro W f hW hE h0 K hK
        have e52 : f 52 = _ := hE 5 52 _ rfl (by kernel_rfl)
        have e57 : f 57 = _ := hE 0 57 _ rfl (by kernel_rfl)
        clear hE h0
        refine yes_of (want_free rfl) ?_
        go_simp; exact hK _ _ (gb_refl _ _) rfl
      -- 23: law.go:50 move
      apply told_is
      · intro W f hW hE h0 K hK
        have e58 : f 58 = _ := hE 0 58 _ rfl (by kernel_rfl)
        clear hE h0
        refine yes_of (want_free rfl) ?_
        go_simp; exact hK _ _ (gb_refl _ _) rfl
      -- 24: law.go:50 move
      apply told_is
      · intro W f hW hE h0 K hK
        have e10 := h0 10 (by kernel_rfl)
        conv at e10 => rhs; whnf
        have e59 : f 59 = _ := hE 0 59 _ rfl (by kernel_rfl)
        clear hE h0
        refine yes_of (want_yes rfl rfl e59) ?_
        go_simp; exact hK _ _ (gb_refl _ _) rfl
      -- 25: law.go:50 call
      apply told_is
      · intro W f hW hE h0 K hK
        have e60 : f 60 = _ := hE 0 60 _ rfl (by kernel_rfl)
        have e59 : f 59 = _ := hE 1 59 _ rfl (by kernel_rfl)
        clear hE h0
        refine yes_of (want_yes rfl rfl e59) ?_
        go_simp
        refine (pMay_yes A_u Lu c_u u _ (r_u.keep hW) Mu.out (by omega)).mono ?_
        rintro e w1 ⟨rfl, g⟩
        exact ⟨_, rfl, hK _ _ g rfl⟩
      -- 26: law.go:50 pick
      apply told_is
      · intro W f hW hE h0 K hK
        have e59 : f 59 = _ := hE 2 59 _ rfl (by kernel_rfl)
        have e61 : f 61 = _ := hE 0 61 _ rfl (by kernel_rfl)
        clear hE h0
        refine yes_of (want_free rfl) ?_
        go_simp; exact hK _ _ (gb_refl _ _) rfl
      -- 27: law.go:50 move
      apply told_is
      · intro W f hW hE h0 K hK
        have e62 : f 62 = _ := hE 0 62 _ rfl (by kernel_rfl)
        clear hE h0
        refine yes_of (want_free rfl) ?_
        go_simp; exact hK _ _ (gb_refl _ _) rfl
      -- 28: law.go:50 move
      apply told_is
      · intro W f hW hE h0 K hK
        have e11 := h0 11 (by kernel_rfl)
        conv at e11 => rhs; whnf
        have e63 : f 63 = _ := hE 0 63 _ rfl (by kernel_rfl)
        clear hE h0
        refine yes_of (want_yes rfl rfl e63) ?_
        go_simp; exact hK _ _ (gb_refl _ _) rfl
      -- 29: law.go:50 call
      apply told_is
      · intro W f hW hE h0 K hK
        have e64 : f 64 = _ := hE 0 64 _ rfl (by kernel_rfl)
        have e63 : f 63 = _ := hE 1 63 _ rfl (by kernel_rfl)
        clear hE h0
        refine yes_of (want_yes rfl rfl e63) ?_
        go_simp
        refine (pMay_yes A_m Lm c_m m _ (r_m.keep hW) Mm.out (by omega)).mono ?_
        rintro e w1 ⟨rfl, g⟩
        exact ⟨_, rfl, hK _ _ g rfl⟩
      -- 30: law.go:50 pick
      apply told_is
      · intro W f hW hE h0 K hK
        have e63 : f 63 = _ := hE 2 63 _ rfl (by kernel_rfl)
        have e65 : f 65 = _ := hE 0 65 _ rfl (by kernel_rfl)
        clear hE h0
        refine yes_of (want_free rfl) ?_
        go_simp; exact hK _ _ (gb_refl _ _) rfl
      -- 31: law.go:50 move
      apply told_is
      · intro W f hW hE h0 K hK
        have e66 : f 66 = _ := hE 0 66 _ rfl (by kernel_rfl)
        clear hE h0
        refine yes_of (want_free rfl) ?_
        go_simp; exact hK _ _ (gb_refl _ _) rfl
      -- 32: law.go:50 move
      apply told_is
      · intro W f hW hE h0 K hK
        have e10 := h0 10 (by kernel_rfl)
        conv at e10 => rhs; whnf
        have e67 : f 67 = _ := hE 0 67 _ rfl (by kernel_rfl)
        clear hE h0
        refine yes_of (want_yes rfl rfl e67) ?_
        go_simp; exact hK _ _ (gb_refl _ _) rfl
      -- 33: law.go:50 load
      apply told_is
      · intro W f hW hE h0 K hK
        have e9 := h0 9 (by kernel_rfl)
        conv at e9 => rhs; whnf
        have e67 : f 67 = _ := hE 1 67 _ rfl (by kernel_rfl)
        clear hE h0
        refine yes_of (want_yes rfl rfl e67) ?_
        have hq := bx.kept hW (by simp)
        have q0 := hq.at_ (i := 0) rfl
        have q1 := hq.at_ (i := 1) rfl
        go_simp; exact hK _ _ (gb_refl _ _) rfl
      -- 34: law.go:50 call
      apply told_is
      · intro W f hW hE h0 K hK
        have e68 : f 68 = _ := hE 1 68 _ rfl (by kernel_rfl)
        have e69 : f 69 = _ := hE 0 69 _ rfl (by kernel_rfl)
        have e67 : f 67 = _ := hE 2 67 _ rfl (by kernel_rfl)
        clear hE h0
        refine yes_of (want_yes rfl rfl e67) ?_
        go_simp
        refine (pHas_any A_u Lu c_u u dd nn _ (r_u.keep hW) Mu.out (by omega)).mono ?_
        rintro e w1 ⟨he, g⟩; rw [Hbu.out] at he; subst he
        exact ⟨_, rfl, hK _ _ g rfl⟩
      -- 35: law.go:50 move
      apply told_is
      · intro W f hW hE h0 K hK
        have e7 := h0 7 (by kernel_rfl)
        conv at e7 => rhs; whnf
        have e67 : f 67 = _ := hE 3 67 _ rfl (by kernel_rfl)
        clear hE h0
        refine yes_of (want_yes rfl rfl e67) ?_
        go_simp; exact hK _ _ (gb_refl _ _) rfl
      -- 36: law.go:50 load
      apply told_is
      · intro W f hW hE h0 K hK
        have e9 := h0 9 (by kernel_rfl)
        conv at e9 => rhs; whnf
        have e67 : f 67 = _ := hE 4 67 _ rfl (by kernel_rfl)
        clear hE h0
        refine yes_of (want_yes rfl rfl e67) ?_
        have hq := bx.kept hW (by simp)
        have q0 := hq.at_ (i := 0) rfl
        have q1 := hq.at_ (i := 1) rfl
        go_simp; exact hK _ _ (gb_refl _ _) rfl
      -- 37: law.go:50 call
      apply told_is
      · intro W f hW hE h0 K hK
        have e71 : f 71 = _ := hE 1 71 _ rfl (by kernel_rfl)
        have e72 : f 72 = _ := hE 0 72 _ rfl (by kernel_rfl)
        have e67 : f 67 = _ := hE 5 67 _ rfl (by kernel_rfl)
        clear hE h0
        refine yes_of (want_yes rfl rfl e67) ?_
        go_simp
        refine (refHas_any A_a La c_a a dd nn _ (r_a.keep hW) (by omega)).mono ?_
        rintro e w1 ⟨he, g⟩; rw [Hba.out] at he; subst he
        exact ⟨_, rfl, hK _ _ g rfl⟩
      -- 38: law.go:50 move
      apply told_is
      · intro W f hW hE h0 K hK
        have e73 : f 73 = _ := hE 0 73 _ rfl (by kernel_rfl)
        have e67 : f 67 = _ := hE 6 67 _ rfl (by kernel_rfl)
        clear hE h0
        refine yes_of (want_yes rfl rfl e67) ?_
        go_simp; exact hK _ _ (gb_refl _ _) rfl
      -- 39: law.go:50 move
      apply told_is
      · intro W f hW hE h0 K hK
        have e8 := h0 8 (by kernel_rfl)
        conv at e8 => rhs; whnf
        have e74 : f 74 = _ := hE 0 74 _ rfl (by kernel_rfl)
        clear hE h0
        cases ba
        · refine yes_of (want_yes rfl rfl e74) ?_
          go_simp; exact hK _ _ (gb_refl _ _) rfl
        · refine no_of (want_no rfl rfl e74 rfl) ?_
          exact hK _ _ (gb_refl _ _) rfl
      -- 40: law.go:50 load
      apply told_is
      · intro W f hW hE h0 K hK
        have e9 := h0 9 (by kernel_rfl)
        conv at e9 => rhs; whnf
        have e74 : f 74 = _ := hE 1 74 _ rfl (by kernel_rfl)
        clear hE h0
        cases ba
        · refine yes_of (want_yes rfl rfl e74) ?_
          have hq := bx.kept hW (by simp)
          have q0 := hq.at_ (i := 0) rfl
          have q1 := hq.at_ (i := 1) rfl
          go_simp; exact hK _ _ (gb_refl _ _) rfl
        · refine no_of (want_no rfl rfl e74 rfl) ?_
          exact hK _ _ (gb_refl _ _) rfl
      -- 41: law.go:50 call
      apply told_is
      · intro W f hW hE h0 K hK
        have e75 : f 75 = _ := hE 1 75 _ rfl (by kernel_rfl)
        have e76 : f 76 = _ := hE 0 76 _ rfl (by kernel_rfl)
        have e74 : f 74 = _ := hE 2 74 _ rfl (by kernel_rfl)
        clear hE h0
        cases ba
        · refine yes_of (want_yes rfl rfl e74) ?_
          replace e75 : f 75 = .slice A_b Lb c_b := e75
          replace e76 : f 76 = .agg #[.int .i64 dd, .int .i64 nn] := e76
          go_simp
          refine (refHas_any A_b Lb c_b b dd nn _ (r_b.keep hW) (by omega)).mono ?_
          rintro e w1 ⟨he, g⟩; rw [Hbb.out] at he; subst he
          exact ⟨_, rfl, hK _ _ g rfl⟩
        · refine no_of (want_no rfl rfl e74 rfl) ?_
          exact hK _ _ (gb_refl _ _) rfl
      -- 42: law.go:50 pick
      apply told_is
      · intro W f hW hE h0 K hK
        have e74 : f 74 = _ := hE 3 74 _ rfl (by kernel_rfl)
        have e77 : f 77 = _ := hE 0 77 _ rfl (by kernel_rfl)
        have e67 : f 67 = _ := hE 10 67 _ rfl (by kernel_rfl)
        clear hE h0
        refine yes_of (want_yes rfl rfl e67) ?_
        cases ba
        · replace e77 : f 77 = .bool bb := e77
          go_simp; exact hK _ _ (gb_refl _ _) rfl
        · go_simp; exact hK _ _ (gb_refl _ _) rfl
      -- 43: law.go:50 binOp
      apply told_is
      · intro W f hW hE h0 K hK
        have e70 : f 70 = _ := hE 8 70 _ rfl (by kernel_rfl)
        have e78 : f 78 = _ := hE 0 78 _ rfl (by kernel_rfl)
        have e67 : f 67 = _ := hE 11 67 _ rfl (by kernel_rfl)
        clear hE h0
        refine yes_of (want_yes rfl rfl e67) ?_
        cases ba <;> cases bb
        all_goals (go_simp; exact hK _ _ (gb_refl _ _) rfl)
      -- 44: law.go:50 pick
      apply told_is
      · intro W f hW hE h0 K hK
        have e67 : f 67 = _ := hE 12 67 _ rfl (by kernel_rfl)
        have e79 : f 79 = _ := hE 0 79 _ rfl (by kernel_rfl)
        clear hE h0
        refine yes_of (want_free rfl) ?_
        go_simp; exact hK _ _ (gb_refl _ _) rfl
      -- 45: law.go:50 move
      apply told_is
      · intro W f hW hE h0 K hK
        have e80 : f 80 = _ := hE 0 80 _ rfl (by kernel_rfl)
        clear hE h0
        refine yes_of (want_free rfl) ?_
        go_simp; exact hK _ _ (gb_refl _ _) rfl
      -- 46: law.go:50 move
      apply told_is
      · intro W f hW hE h0 K hK
        have e11 := h0 11 (by kernel_rfl)
        conv at e11 => rhs; whnf
        have e81 : f 81 = _ := hE 0 81 _ rfl (by kernel_rfl)
        clear hE h0
        refine yes_of (want_yes rfl rfl e81) ?_
        go_simp; exact hK _ _ (gb_refl _ _) rfl
      -- 47: law.go:50 load
      apply told_is
      · intro W f hW hE h0 K hK
        have e9 := h0 9 (by kernel_rfl)
        conv at e9 => rhs; whnf
        have e81 : f 81 = _ := hE 1 81 _ rfl (by kernel_rfl)
        clear hE h0
        refine yes_of (want_yes rfl rfl e81) ?_
        have hq := bx.kept hW (by simp)
        have q0 := hq.at_ (i := 0) rfl
        have q1 := hq.at_ (i := 1) rfl
        go_simp; exact hK _ _ (gb_refl _ _) rfl
      -- 48: law.go:50 call
      apply told_is
      · intro W f hW hE h0 K hK
        have e82 : f 82 = _ := hE 1 82 _ rfl (by kernel_rfl)
        have e83 : f 83 = _ := hE 0 83 _ rfl (by kernel_rfl)
        have e81 : f 81 = _ := hE 2 81 _ rfl (by kernel_rfl)
        clear hE h0
        refine yes_of (want_yes rfl rfl e81) ?_
        go_simp
        refine (pHas_any A_m Lm c_m m dd nn _ (r_m.keep hW) Mm.out (by omega)).mono ?_
        rintro e w1 ⟨he, g⟩; rw [Hbm.out] at he; subst he
        exact ⟨_, rfl, hK _ _ g rfl⟩
      -- 49: law.go:50 move
      apply told_is
      · intro W f hW hE h0 K hK
        have e7 := h0 7 (by kernel_rfl)
        conv at e7 => rhs; whnf
        have e81 : f 81 = _ := hE 3 81 _ rfl (by kernel_rfl)
        clear hE h0
        refine yes_of (want_yes rfl rfl e81) ?_
        go_simp; exact hK _ _ (gb_refl _ _) rfl
      -- 50: law.go:50 load
      apply told_is
      · intro W f hW hE h0 K hK
        have e9 := h0 9 (by kernel_rfl)
        conv at e9 => rhs; whnf
        have e81 : f 81 = _ := hE 4 81 _ rfl (by kernel_rfl)
        clear hE h0
        refine yes_of (want_yes rfl rfl e81) ?_
        have hq := bx.kept hW (by simp)
        have q0 := hq.at_ (i := 0) rfl
        have q1 := hq.at_ (i := 1) rfl
        go_simp; exact hK _ _ (gb_refl _ _) rfl
      -- 51: law.go:50 call
      apply told_is
      · intro W f hW hE h0 K hK
        have e85 : f 85 = _ := hE 1 85 _ rfl (by kernel_rfl)
        have e86 : f 86 = _ := hE 0 86 _ rfl (by kernel_rfl)
        have e81 : f 81 = _ := hE 5 81 _ rfl (by kernel_rfl)
        clear hE h0
        refine yes_of (want_yes rfl rfl e81) ?_
        go_simp
        refine (refHas_any A_a La c_a a dd nn _ (r_a.keep hW) (by omega)).mono ?_
        rintro e w1 ⟨he, g⟩; rw [Hba.out] at he; subst he
        exact ⟨_, rfl, hK _ _ g rfl⟩
      -- 52: law.go:50 move
      apply told_is
      · intro W f hW hE h0 K hK
        have e87 : f 87 = _ := hE 0 87 _ rfl (by kernel_rfl)
        have e81 : f 81 = _ := hE 6 81 _ rfl (by kernel_rfl)
        clear hE h0
        refine yes_of (want_yes rfl rfl e81) ?_
        go_simp; exact hK _ _ (gb_refl _ _) rfl
      -- 53: law.go:50 move
      apply told_is
      · intro W f hW hE h0 K hK
        have e8 := h0 8 (by kernel_rfl)
        conv at e8 => rhs; whnf
        have e88 : f 88 = _ := hE 0 88 _ rfl (by kernel_rfl)
        clear hE h0
        cases ba
        · refine no_of (want_no rfl rfl e88 rfl) ?_
          exact hK _ _ (gb_refl _ _) rfl
        · refine yes_of (want_yes rfl rfl e88) ?_
          go_simp; exact hK _ _ (gb_refl _ _) rfl
      -- 54: law.go:50 load
      apply told_is
      · intro W f hW hE h0 K hK
        have e9 := h0 9 (by kernel_rfl)
        conv at e9 => rhs; whnf
        have e88 : f 88 = _ := hE 1 88 _ rfl (by kernel_rfl)
        clear hE h0
        cases ba
        · refine no_of (want_no rfl rfl e88 rfl) ?_
          exact hK _ _ (gb_refl _ _) rfl
        · refine yes_of (want_yes rfl rfl e88) ?_
          have hq := bx.kept hW (by simp)
          have q0 := hq.at_ (i := 0) rfl
          have q1 := hq.at_ (i := 1) rfl
          go_simp; exact hK _ _ (gb_refl _ _) rfl
      -- 55: law.go:50 call
      apply told_is
      · intro W f hW hE h0 K hK
        have e89 : f 89 = _ := hE 1 89 _ rfl (by kernel_rfl)
        have e90 : f 90 = _ := hE 0 90 _ rfl (by kernel_rfl)
        have e88 : f 88 = _ := hE 2 88 _ rfl (by kernel_rfl)
        clear hE h0
        cases ba
        · refine no_of (want_no rfl rfl e88 rfl) ?_
          exact hK _ _ (gb_refl _ _) rfl
        · refine yes_of (want_yes rfl rfl e88) ?_
          replace e89 : f 89 = .slice A_b Lb c_b := e89
          replace e90 : f 90 = .agg #[.int .i64 dd, .int .i64 nn] := e90
          go_simp
          refine (refHas_any A_b Lb c_b b dd nn _ (r_b.keep hW) (by omega)).mono ?_
          rintro e w1 ⟨he, g⟩; rw [Hbb.out] at he; subst he
          exact ⟨_, rfl, hK _ _ g rfl⟩
      -- 56: law.go:50 unOp
      apply told_is
      · intro W f hW hE h0 K hK
        have e91 : f 91 = _ := hE 0 91 _ rfl (by kernel_rfl)
        have e88 : f 88 = _ := hE 3 88 _ rfl (by kernel_rfl)
        clear hE h0
        cases ba
        · refine no_of (want_no rfl rfl e88 rfl) ?_
          exact hK _ _ (gb_refl _ _) rfl
        · refine yes_of (want_yes rfl rfl e88) ?_
          replace e91 : f 91 = .bool bb := e91
          go_simp; exact hK _ _ (gb_refl _ _) rfl
      -- 57: law.go:50 pick
      apply told_is
      · intro W f hW hE h0 K hK
        have e88 : f 88 = _ := hE 4 88 _ rfl (by kernel_rfl)
        have e92 : f 92 = _ := hE 0 92 _ rfl (by kernel_rfl)
        have e81 : f 81 = _ := hE 11 81 _ rfl (by kernel_rfl)
        clear hE h0
        refine yes_of (want_yes rfl rfl e81) ?_
        cases ba
        · go_simp; exact hK _ _ (gb_refl _ _) rfl
        · replace e92 : f 92 = .bool !bb := e92
          go_simp; exact hK _ _ (gb_refl _ _) rfl
      -- 58: law.go:50 binOp
      apply told_is
      · intro W f hW hE h0 K hK
        have e84 : f 84 = _ := hE 9 84 _ rfl (by kernel_rfl)
        have e93 : f 93 = _ := hE 0 93 _ rfl (by kernel_rfl)
        have e81 : f 81 = _ := hE 12 81 _ rfl (by kernel_rfl)
        clear hE h0
        refine yes_of (want_yes rfl rfl e81) ?_
        cases ba <;> cases bb
        all_goals (go_simp; exact hK _ _ (gb_refl _ _) rfl)
      -- 59: law.go:50 pick
      apply told_is
      · intro W f hW hE h0 K hK
        have e81 : f 81 = _ := hE 13 81 _ rfl (by kernel_rfl)
        have e94 : f 94 = _ := hE 0 94 _ rfl (by kernel_rfl)
        clear hE h0
        refine yes_of (want_free rfl) ?_
        go_simp; exact hK _ _ (gb_refl _ _) rfl
      -- 60: law.go:50 move
      apply told_is
      · intro W f hW hE h0 K hK
        have e95 : f 95 = _ := hE 0 95 _ rfl (by kernel_rfl)
        clear hE h0
        refine yes_of (want_free rfl) ?_
        go_simp; exact hK _ _ (gb_refl _ _) rfl
      -- 61: law.go:50 move
      apply told_is
      · intro W f hW hE h0 K hK
        have e7 := h0 7 (by kernel_rfl)
        conv at e7 => rhs; whnf
        have e96 : f 96 = _ := hE 0 96 _ rfl (by kernel_rfl)
        clear hE h0
        refine yes_of (want_yes rfl rfl e96) ?_
        go_simp; exact hK _ _ (gb_refl _ _) rfl
      -- 62: law.go:50 fieldAddr
      apply told_is
      · intro W f hW hE h0 K hK
        have e9 := h0 9 (by kernel_rfl)
        conv at e9 => rhs; whnf
        have e96 : f 96 = _ := hE 1 96 _ rfl (by kernel_rfl)
        clear hE h0
        refine yes_of (want_yes rfl rfl e96) ?_
        go_simp; exact hK _ _ (gb_refl _ _) rfl
      -- 63: law.go:50 load
      apply told_is
      · intro W f hW hE h0 K hK
        have e98 : f 98 = _ := hE 0 98 _ rfl (by kernel_rfl)
        have e96 : f 96 = _ := hE 2 96 _ rfl (by kernel_rfl)
        clear hE h0
        refine yes_of (want_yes rfl rfl e96) ?_
        have hq := bx.kept hW (by simp)
        have q0 := hq.at_ (i := 0) rfl
        have q1 := hq.at_ (i := 1) rfl
        go_simp; exact hK _ _ (gb_refl _ _) rfl
      -- 64: law.go:50 call
      apply told_is
      · intro W f hW hE h0 K hK
        have e97 : f 97 = _ := hE 2 97 _ rfl (by kernel_rfl)
        have e99 : f 99 = _ := hE 0 99 _ rfl (by kernel_rfl)
        have e96 : f 96 = _ := hE 3 96 _ rfl (by kernel_rfl)
        clear hE h0
        refine yes_of (want_yes rfl rfl e96) ?_
        go_simp
        refine (pLast_any A_a La c_a a dd _ (r_a.keep hW) Ma.out (by omega)).mono ?_
        rintro e w1 ⟨rfl, g⟩
        exact ⟨_, rfl, hK _ _ g rfl⟩
      -- 65: law.go:50 move
      apply told_is
      · intro W f hW hE h0 K hK
        have e7 := h0 7 (by kernel_rfl)
        conv at e7 => rhs; whnf
        have e96 : f 96 = _ := hE 4 96 _ rfl (by kernel_rfl)
        clear hE h0
        refine yes_of (want_yes rfl rfl e96) ?_
        go_simp; exact hK _ _ (gb_refl _ _) rfl
      -- 66: law.go:50 fieldAddr
      apply told_is
      · intro W f hW hE h0 K hK
        have e9 := h0 9 (by kernel_rfl)
        conv at e9 => rhs; whnf
        have e96 : f 96 = _ := hE 5 96 _ rfl (by kernel_rfl)
        clear hE h0
        refine yes_of (want_yes rfl rfl e96) ?_
        go_simp; exact hK _ _ (gb_refl _ _) rfl
      -- 67: law.go:50 load
      apply told_is
      · intro W f hW hE h0 K hK
        have e102 : f 102 = _ := hE 0 102 _ rfl (by kernel_rfl)
        have e96 : f 96 = _ := hE 6 96 _ rfl (by kernel_rfl)
        clear hE h0
        refine yes_of (want_yes rfl rfl e96) ?_
        have hq := bx.kept hW (by simp)
        have q0 := hq.at_ (i := 0) rfl
        have q1 := hq.at_ (i := 1) rfl
        go_simp; exact hK _ _ (gb_refl _ _) rfl
      -- 68: law.go:50 call
      apply told_is
      · intro W f hW hE h0 K hK
        have e101 : f 101 = _ := hE 2 101 _ rfl (by kernel_rfl)
        have e103 : f 103 = _ := hE 0 103 _ rfl (by kernel_rfl)
        have e96 : f 96 = _ := hE 7 96 _ rfl (by kernel_rfl)
        clear hE h0
        refine yes_of (want_yes rfl rfl e96) ?_
        go_simp
        refine (refLast_any A_a La c_a a dd _ (r_a.keep hW) (by omega)).mono ?_
        rintro e w1 ⟨rfl, g⟩
        exact ⟨_, rfl, hK _ _ g rfl⟩
      -- 69: law.go:50 binOp
      apply told_is
      · intro W f hW hE h0 K hK
        have e100 : f 100 = _ := hE 4 100 _ rfl (by kernel_rfl)
        have e104 : f 104 = _ := hE 0 104 _ rfl (by kernel_rfl)
        have e96 : f 96 = _ := hE 8 96 _ rfl (by kernel_rfl)
        clear hE h0
        refine yes_of (want_yes rfl rfl e96) ?_
        go_simp; exact hK _ _ (gb_refl _ _) rfl
      -- 70: law.go:50 pick
      apply told_is
      · intro W f hW hE h0 K hK
        have e96 : f 96 = _ := hE 9 96 _ rfl (by kernel_rfl)
        have e105 : f 105 = _ := hE 0 105 _ rfl (by kernel_rfl)
        clear hE h0
        refine yes_of (want_free rfl) ?_
        go_simp; exact hK _ _ (gb_refl _ _) rfl
      -- 71: law.go:50 move
      apply told_is
      · intro W f hW hE h0 K hK
        have e106 : f 106 = _ := hE 0 106 _ rfl (by kernel_rfl)
        clear hE h0
        refine yes_of (want_free rfl) ?_
        go_simp; exact hK _ _ (gb_refl _ _) rfl
      -- 72: law.go:50 call
      apply told_is
      · intro W f hW hE h0 K hK
        have e107 : f 107 = _ := hE 0 107 _ rfl (by kernel_rfl)
        clear hE h0
        refine yes_of (want_yes rfl rfl e107) ?_
        go_simp
        refine (awake_any _).mono ?_
        rintro e w1 ⟨rfl, g⟩
        exact ⟨_, rfl, hK _ _ g rfl⟩
      -- 73: law.go:50 pick
      apply told_is
      · intro W f hW hE h0 K hK
        have e107 : f 107 = _ := hE 1 107 _ rfl (by kernel_rfl)
        have e108 : f 108 = _ := hE 0 108 _ rfl (by kernel_rfl)
        clear hE h0
        refine yes_of (want_free rfl) ?_
        go_simp; exact hK _ _ (gb_refl _ _) rfl
      -- 74: law.go:50 assign
      apply told_is
      · intro W f hW hE h0 K hK
        have e109 : f 109 = _ := hE 0 109 _ rfl (by kernel_rfl)
        clear hE h0
        refine yes_of (want_free rfl) ?_
        go_simp; exact hK _ _ (gb_refl _ _) rfl
      intro W f hW hA
      simp only [lexIn, Act.put, List.setIfInBounds_toArray, List.set_cons_zero, List.set_cons_succ]
      have e6 : f 6 = _ := hA 0 (some 6) _ rfl
      rw [e6]
      clear hA
      go_wp2_with fail
      go_ret
      exact ⟨rfl, gb_below (gb_none G hW) (Nat.le_refl _)⟩

set_option maxRecDepth 100000 in
theorem lifted (os : Os) (started : os.Started) (H : Type) (enc : TypeId × Value → H) :
    ReturnsInHanded {} Try.checked os 4 .any (Rows.dotsMadeSpec.pre6 enc Try.prog Try.f4 Rows.dotsMadeRow.domain false) (Rows.dotsMadeSpec.post enc Try.prog Try.f4 false true false false) := by
  refine returnsInHanded_of_change (C := Try.checked) own started (by kernel_rfl) Try.func4
    (ChangeSpec.witness6 (enc := enc) (C := Try.checked) false ⟨#[], #[.slice none 0 0, .slice none 0 0, .int .u8 0], []⟩ 8 (by kernel_rfl) (by kernel_rfl) (by kernel_rfl) (by kernel_rfl)) ?_
  intro W base args ds gs before hval0 hW hcnd _
  have hval : ∀ (j : Nat) t v, Try.f4.params[j]? = some t → args[j]? = some v → Value.okWide Try.prog W .any base t v := hval0
  have hW' := hW
  obtain ⟨p, q, hA0, hV, rfl, hfz, hnd⟩ := hW
  have hA : DataW.TrodAll enc Try.prog W 0 (fun _ => true) true Try.f4.params.toList args.toList ds p := hA0
  rw [Try.params4] at hA hval
  obtain ⟨v0, vs0, d0, ds0, p0, q0, hargs, rfl, rfl, h0, r0⟩ := trodAll_cons hA
  obtain ⟨v1, vs1, d1, ds1, p1, q1, rfl, rfl, rfl, h1, r1⟩ := trodAll_cons r0
  obtain ⟨v2, vs2, d2, ds2, p2, q2, rfl, rfl, rfl, h2, r2⟩ := trodAll_cons r1
  obtain ⟨rfl, rfl, rfl⟩ := trodAll_nil r2
  obtain rfl : args = #[v0, v1, v2] := by cases args; simp_all
  obtain ⟨rfl, rfl⟩ := trodVars_none hV
  obtain ⟨a0, len0, cap0, rfl⟩ := okWide_slice Try.underlying35 (hval 0 35 v0 rfl rfl)
  have k0 := h0
  have lt0 : ∀ x ∈ p0, x.block < W.heap.size := by obtain ⟨m, hm⟩ := k0; exact DataW.trod_lt m _ _ _ hm
  obtain ⟨z0, w0⟩ : ∃ zs, IsRow .u8 W a0 len0 cap0 zs := by
    obtain ⟨fuel, hf⟩ := h0
    rcases open_ints Try.underlying35 Try.underlying5 (by kernel_rfl) hf with ⟨hcs, _⟩ | ⟨x, l, c, zs, hcs, _, hl, hm, hz, _, hcell, hwz⟩
    · simp [Value.cells] at hcs
      obtain ⟨rfl, rfl, rfl⟩ := hcs
      exact ⟨[], .inl ⟨rfl, rfl, rfl, rfl⟩⟩
    · simp [Value.cells] at hcs
      obtain ⟨rfl, rfl, rfl⟩ := hcs
      exact ⟨zs, .inr ⟨_, rfl, hl, hm, by simpa using hz, hcell, hwz⟩⟩
  obtain ⟨a1, len1, cap1, rfl⟩ := okWide_slice Try.underlying35 (hval 1 35 v1 rfl rfl)
  have k1 := h1
  have lt1 : ∀ x ∈ p1, x.block < W.heap.size := by obtain ⟨m, hm⟩ := k1; exact DataW.trod_lt m _ _ _ hm
  obtain ⟨z1, w1⟩ : ∃ zs, IsRow .u8 W a1 len1 cap1 zs := by
    obtain ⟨fuel, hf⟩ := h1
    rcases open_ints Try.underlying35 Try.underlying5 (by kernel_rfl) hf with ⟨hcs, _⟩ | ⟨x, l, c, zs, hcs, _, hl, hm, hz, _, hcell, hwz⟩
    · simp [Value.cells] at hcs
      obtain ⟨rfl, rfl, rfl⟩ := hcs
      exact ⟨[], .inl ⟨rfl, rfl, rfl, rfl⟩⟩
    · simp [Value.cells] at hcs
      obtain ⟨rfl, rfl, rfl⟩ := hcs
      exact ⟨zs, .inr ⟨_, rfl, hl, hm, by simpa using hz, hcell, hwz⟩⟩
  obtain ⟨a2, rfl, rfl, rfl, w2⟩ := open_int Try.underlying5 (hval 2 5 v2 rfl rfl) h2
  clear hA0 hval0
  refine (walk a0 len0 cap0 z0 a1 len1 cap1 z1 a2 W w0 w1 w2).mono fun e W' ⟨he, bel⟩ => ?_
  subst he
  exact ⟨_, rfl, _, _, _, [], _, [], hW', trodAll_mk1 (shut_bool Try.underlying4 _), (trodAll_cons_mk (Below.trod laidOut (by kernel_rfl) (of_decide_eq_true (by kernel_rfl)) k0 bel lt0) (trodAll_cons_mk (Below.trod laidOut (by kernel_rfl) (of_decide_eq_true (by kernel_rfl)) k1 bel lt1) (trodAll_cons_mk (shut_int Try.underlying5 w2) trodAll_mk0))), rfl, bel.frame _, fun h => by cases h⟩

theorem over : Rows.dotsMadeRow.holds Try.pinned (OpenSpec.ofChange Rows.dotsMadeSpec) :=
  OpenClaim.holds_of_wide 4 Try.f4 rfl rfl rfl rfl rfl rfl rfl ⟨rfl, rfl, rfl, rfl, rfl⟩ rfl rfl rfl rfl rfl (by kernel_rfl) Try.func4 (by kernel_rfl)
    (of_decide_eq_true (by kernel_rfl)) (by unfold Func.isWrapper; first | (rw [if_pos (by decide +kernel)]; kernel_rfl) | (rw [if_neg (by decide +kernel)]; exact ⟨rfl, rfl⟩))
    (fun os started H enc _ => lifted os started H enc)

theorem proved : Rows.DotsMadeSaid := over
#print axioms proved
end Go.Proofs.Ytkibojoochlggaa.dotsMade
